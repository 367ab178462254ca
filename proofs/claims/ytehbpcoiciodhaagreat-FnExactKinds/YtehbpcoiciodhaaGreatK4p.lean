/-
  Kinds compared, by three of four numbers: walked.
-/
import Derived.Test.YtehbpcoiciodhaaGreatND
import Derived.Test.YtehbpcoiciodhaaGreatMpKn
import Derived.Test.YtehbpcoiciodhaaGreatMH
import Derived.Test.YtehbpcoiciodhaaGreatMK
namespace Go.Proofs.YtehbpcoiciodhaaGreat
open Go.RowKit Go.Shelf Go.Sort Go.Lib

/-- The first three of four. -/
def pr3 (x : Q4Kn) : T3 := (x.1, x.2.1, x.2.2.1)
def e4 (x : Q4Kn) : List Value := [.int .i64 x.1, .int .i64 x.2.1, .int .i64 x.2.2.1, .int .i64 x.2.2.2]
def t4f (x : Q4Kn) : Nat → Int := fun i => if i = 0 then x.1 else if i = 1 then x.2.1 else if i = 2 then x.2.2.1 else x.2.2.2
def c4 (x y : Q4Kn) : Int := c3 (pr3 x) (pr3 y)
theorem e4_one (x : Q4Kn) : ∀ u ∈ e4 x, u.oneCell' = true := by
  intro u hu
  simp only [e4, List.mem_cons, List.not_mem_nil, or_false] at hu
  rcases hu with rfl | rfl | rfl | rfl <;> rfl
theorem c4_swo : SWO (ltOf c4) where
  irrefl x := c3_swo.irrefl (pr3 x)
  trans x y z h1 h2 := c3_swo.trans (pr3 x) (pr3 y) (pr3 z) h1 h2
  ntrans x y z h1 h2 := c3_swo.ntrans (pr3 x) (pr3 y) (pr3 z) h1 h2
theorem e4_get (x : Q4Kn) (j : Nat) (hj : j < 4) : (e4 x)[j]! = .int .i64 (t4f x j) := by
  rcases (by omega : j = 0 ∨ j = 1 ∨ j = 2 ∨ j = 3) with rfl | rfl | rfl | rfl <;> rfl
theorem At.openQ4 {t : TypeId} {w : World} {q : Nat} {v0 v1 v2 v3 : Value} (h : At t w q #[v0, v1, v2, v3]) : w.cell? ⟨q, 0, none⟩ = some v0 ∧ w.cell? ⟨q, 1, none⟩ = some v1 ∧ w.cell? ⟨q, 2, none⟩ = some v2 ∧ w.cell? ⟨q, 3, none⟩ = some v3 ∧ w.frozen? ⟨q, 0, none⟩ = false ∧ w.frozen? ⟨q, 1, none⟩ = false ∧ w.frozen? ⟨q, 2, none⟩ = false ∧ w.frozen? ⟨q, 3, none⟩ = false :=
  ⟨h.cell 0 rfl, h.cell 1 rfl, h.cell 2 rfl, h.cell 3 rfl, h.frozen 0, h.frozen 1, h.frozen 2, h.frozen 3⟩
/-- Such a struct as a value. -/
abbrev tV4 (x : Q4Kn) : Value := .agg #[.int .i64 x.1, .int .i64 x.2.1, .int .i64 x.2.2.1, .int .i64 x.2.2.2]
set_option maxRecDepth 100000 in
set_option maxHeartbeats 1000000 in
theorem cmpK_any (x y : Q4Kn) (w : World) : Calls Tryz.prog 58 #[tV4 x, tV4 y] w fun e w' => e = .returned (.int .i64 (c4 x y)) ∧ Grew w w' := by
  obtain ⟨x0, x1, x2, x3⟩ := x
  obtain ⟨y0, y1, y2, y3⟩ := y
  obtain ⟨z, z0, z1, z2⟩ : ∃ z : Nat → Int, cmp3 x0 y0 = z 0 ∧ cmp3 x1 y1 = z 1 ∧ cmp3 x2 y2 = z 2 := ⟨fun i => if i = 0 then cmp3 x0 y0 else if i = 1 then cmp3 x1 y1 else cmp3 x2 y2, rfl, rfl, rfl⟩
  have HR := or_c3 (x0, x1, x2) (y0, y1, y2) z z0 z1 z2
  obtain ⟨R, hR⟩ : ∃ R, c4 (x0, x1, x2, x3) (y0, y1, y2, y3) = R := ⟨_, rfl⟩
  have hR2 : c3 (x0, x1, x2) (y0, y1, y2) = R := hR
  rw [hR2] at HR
  rw [hR]
  clear hR hR2
  obtain ⟨W, hW, b0, b1, bW, -⟩ := bx2 w 87 87 #[.int .i64 x0, .int .i64 x1, .int .i64 x2, .int .i64 x3] #[.int .i64 y0, .int .i64 y1, .int .i64 y2, .int .i64 y3]
  have G : Grew w W := by rw [← hW]; exact ((Grew.refl w).alloc _).alloc _
  go_enter Tryz.func58, Tryz.ntmps58
  go_wp2_with fail
  clear hW
  obtain ⟨q1, e1⟩ : ∃ z, w.heap.size = z := ⟨_, rfl⟩
  obtain ⟨q2, e2⟩ : ∃ z, q1 + 1 = z := ⟨_, rfl⟩
  rw [e1] at b0 b1 ⊢
  rw [e2] at b1 ⊢
  clear e1 e2 bW
  obtain ⟨u0, hu0, bb⟩ : ∃ uu, W.drew = uu ∧ Below W.heap.size W uu := ⟨_, rfl, (Below.refl _ _).drew⟩
  replace b0 := b0.below bb
  replace b1 := b1.below bb
  replace G := G.drew
  rw [hu0] at G
  have bu : Grew u0 u0 := Grew.refl _
  clear bb
  refine wp_region_held_drew (S := Grew u0) (by kernel_rfl) (by rw [hu0]; exact Grew.refl _) (fun hHeld => ?_)
  rw [hu0] at hHeld ⊢
  clear hu0
  change wpAnyH _ _ _ _ _ 18 #[false, false, false, false, false, false, false, false, false, false, false, false, false, false, false, false, false, false] _ _
  refine wpAnyH_take (i := 0) (v := .pointer (some ⟨q1, 0, none⟩)) rfl (by kernel_rfl) (by kernel_rfl) (by kernel_rfl) (fun _ _ _ h => h) (Or.inl ⟨by kernel_rfl, ?_⟩) hHeld ?_
  · intro w' hSw; go_simp
  try simp only [Act.put, List.setIfInBounds_toArray, List.set_cons_zero, List.set_cons_succ, List.getElem_toArray, List.getElem_cons_zero]
  refine wpAnyH_take (i := 1) (v := .int .i64 (x0)) rfl (by kernel_rfl) (by kernel_rfl) (by kernel_rfl) (fun _ _ _ h => h) (Or.inl ⟨by kernel_rfl, ?_⟩) hHeld ?_
  · intro w' hSw; have hw := hSw.below; obtain ⟨c0, c1, c2, c3, -⟩ := (b0.below hw).openQ4; go_simp
  try simp only [Act.put, List.setIfInBounds_toArray, List.set_cons_zero, List.set_cons_succ, List.getElem_toArray, List.getElem_cons_succ, List.getElem_cons_zero]
  refine wpAnyH_take (i := 2) (v := .pointer (some ⟨q2, 0, none⟩)) rfl (by kernel_rfl) (by kernel_rfl) (by kernel_rfl) (fun _ _ _ h => h) (Or.inl ⟨by kernel_rfl, ?_⟩) hHeld ?_
  · intro w' hSw; go_simp
  try simp only [Act.put, List.setIfInBounds_toArray, List.set_cons_zero, List.set_cons_succ, List.getElem_toArray, List.getElem_cons_succ, List.getElem_cons_zero]
  refine wpAnyH_take (i := 3) (v := .int .i64 (y0)) rfl (by kernel_rfl) (by kernel_rfl) (by kernel_rfl) (fun _ _ _ h => h) (Or.inl ⟨by kernel_rfl, ?_⟩) hHeld ?_
  · intro w' hSw; have hw := hSw.below; obtain ⟨c0, c1, c2, c3, -⟩ := (b1.below hw).openQ4; go_simp
  try simp only [Act.put, List.setIfInBounds_toArray, List.set_cons_zero, List.set_cons_succ, List.getElem_toArray, List.getElem_cons_succ, List.getElem_cons_zero]
  refine wpAnyH_take (i := 5) (v := .pointer (some ⟨q1, 1, none⟩)) rfl (by kernel_rfl) (by kernel_rfl) (by kernel_rfl) (fun _ _ _ h => h) (Or.inl ⟨by kernel_rfl, ?_⟩) hHeld ?_
  · intro w' hSw; go_simp
  try simp only [Act.put, List.setIfInBounds_toArray, List.set_cons_zero, List.set_cons_succ, List.getElem_toArray, List.getElem_cons_succ, List.getElem_cons_zero]
  refine wpAnyH_take (i := 6) (v := .int .i64 (x1)) rfl (by kernel_rfl) (by kernel_rfl) (by kernel_rfl) (fun _ _ _ h => h) (Or.inl ⟨by kernel_rfl, ?_⟩) hHeld ?_
  · intro w' hSw; have hw := hSw.below; obtain ⟨c0, c1, c2, c3, -⟩ := (b0.below hw).openQ4; go_simp
  try simp only [Act.put, List.setIfInBounds_toArray, List.set_cons_zero, List.set_cons_succ, List.getElem_toArray, List.getElem_cons_succ, List.getElem_cons_zero]
  refine wpAnyH_take (i := 7) (v := .pointer (some ⟨q2, 1, none⟩)) rfl (by kernel_rfl) (by kernel_rfl) (by kernel_rfl) (fun _ _ _ h => h) (Or.inl ⟨by kernel_rfl, ?_⟩) hHeld ?_
  · intro w' hSw; go_simp
  try simp only [Act.put, List.setIfInBounds_toArray, List.set_cons_zero, List.set_cons_succ, List.getElem_toArray, List.getElem_cons_succ, List.getElem_cons_zero]
  refine wpAnyH_take (i := 8) (v := .int .i64 (y1)) rfl (by kernel_rfl) (by kernel_rfl) (by kernel_rfl) (fun _ _ _ h => h) (Or.inl ⟨by kernel_rfl, ?_⟩) hHeld ?_
  · intro w' hSw; have hw := hSw.below; obtain ⟨c0, c1, c2, c3, -⟩ := (b1.below hw).openQ4; go_simp
  try simp only [Act.put, List.setIfInBounds_toArray, List.set_cons_zero, List.set_cons_succ, List.getElem_toArray, List.getElem_cons_succ, List.getElem_cons_zero]
  refine wpAnyH_take (i := 10) (v := .pointer (some ⟨q1, 2, none⟩)) rfl (by kernel_rfl) (by kernel_rfl) (by kernel_rfl) (fun _ _ _ h => h) (Or.inl ⟨by kernel_rfl, ?_⟩) hHeld ?_
  · intro w' hSw; go_simp
  try simp only [Act.put, List.setIfInBounds_toArray, List.set_cons_zero, List.set_cons_succ, List.getElem_toArray, List.getElem_cons_succ, List.getElem_cons_zero]
  refine wpAnyH_take (i := 11) (v := .int .i64 (x2)) rfl (by kernel_rfl) (by kernel_rfl) (by kernel_rfl) (fun _ _ _ h => h) (Or.inl ⟨by kernel_rfl, ?_⟩) hHeld ?_
  · intro w' hSw; have hw := hSw.below; obtain ⟨c0, c1, c2, c3, -⟩ := (b0.below hw).openQ4; go_simp
  try simp only [Act.put, List.setIfInBounds_toArray, List.set_cons_zero, List.set_cons_succ, List.getElem_toArray, List.getElem_cons_succ, List.getElem_cons_zero]
  refine wpAnyH_take (i := 12) (v := .pointer (some ⟨q2, 2, none⟩)) rfl (by kernel_rfl) (by kernel_rfl) (by kernel_rfl) (fun _ _ _ h => h) (Or.inl ⟨by kernel_rfl, ?_⟩) hHeld ?_
  · intro w' hSw; go_simp
  try simp only [Act.put, List.setIfInBounds_toArray, List.set_cons_zero, List.set_cons_succ, List.getElem_toArray, List.getElem_cons_succ, List.getElem_cons_zero]
  refine wpAnyH_take (i := 13) (v := .int .i64 (y2)) rfl (by kernel_rfl) (by kernel_rfl) (by kernel_rfl) (fun _ _ _ h => h) (Or.inl ⟨by kernel_rfl, ?_⟩) hHeld ?_
  · intro w' hSw; have hw := hSw.below; obtain ⟨c0, c1, c2, c3, -⟩ := (b1.below hw).openQ4; go_simp
  try simp only [Act.put, List.setIfInBounds_toArray, List.set_cons_zero, List.set_cons_succ, List.getElem_toArray, List.getElem_cons_succ, List.getElem_cons_zero]
  refine wpAnyH_ready (rs := [4]) (by kernel_rfl) (by simp) ?_
  refine AllReadyH.cons rfl (fun KK hK' => ?_) AllReadyH.nil
  go_simp
  refine (cmp_any x0 y0 _).mono ?_
  rintro e u1 ⟨rfl, hh⟩
  rw [z0]
  replace bu : Grew u0 u1 := by rw [← hh]; exact bu
  clear hh
  try go_wp2_with fail
  clear hHeld
  refine hK'.out _ _ (bu) (fun hHeld => ?_)
  clear hK' KK
  try simp only [List.setIfInBounds_toArray, List.set_cons_zero, List.set_cons_succ]
  refine wpAnyH_ready (rs := [9]) (by kernel_rfl) (by simp) ?_
  refine AllReadyH.cons rfl (fun KK hK' => ?_) AllReadyH.nil
  go_simp
  refine (cmp_any x1 y1 _).mono ?_
  rintro e u2 ⟨rfl, hh⟩
  rw [z1]
  replace bu : Grew u0 u2 := by rw [← hh]; exact bu
  clear hh
  try go_wp2_with fail
  clear hHeld
  refine hK'.out _ _ (bu) (fun hHeld => ?_)
  clear hK' KK
  try simp only [List.setIfInBounds_toArray, List.set_cons_zero, List.set_cons_succ]
  refine wpAnyH_ready (rs := [14]) (by kernel_rfl) (by simp) ?_
  refine AllReadyH.cons rfl (fun KK hK' => ?_) AllReadyH.nil
  go_simp
  refine (cmp_any x2 y2 _).mono ?_
  rintro e u3 ⟨rfl, hh⟩
  rw [z2]
  replace bu : Grew u0 u3 := by rw [← hh]; exact bu
  clear hh
  try go_wp2_with fail
  clear hHeld
  refine hK'.out _ _ (bu) (fun hHeld => ?_)
  clear hK' KK
  try simp only [List.setIfInBounds_toArray, List.set_cons_zero, List.set_cons_succ]
  refine wpAnyH_ready (rs := [15]) (by kernel_rfl) (by simp) ?_
  refine AllReadyH.cons rfl (fun KK hK' => ?_) AllReadyH.nil
  go_simp
  obtain ⟨UU, hUU, aU, -, -⟩ := boxed u3 3 #[.int .i64 (z 0), .int .i64 (z 1), .int .i64 (z 2)]
  rw [hUU]
  have bs : u3.heap.size < UU.heap.size := aU.lt
  replace bu : Grew u0 UU := by rw [← hUU]; exact bu.alloc _
  clear hUU
  clear hHeld
  refine hK'.out _ _ (bu) (fun hHeld => ?_)
  clear hK' KK
  try simp only [List.setIfInBounds_toArray, List.set_cons_zero, List.set_cons_succ]
  refine wpAnyH_ready (rs := [16]) (by kernel_rfl) (by simp) ?_
  refine AllReadyH.cons rfl (fun KK hK' => ?_) AllReadyH.nil
  go_simp
  refine (or_any z (fun i hi => by rcases (by omega : i = 0 ∨ i = 1 ∨ i = 2) with rfl | rfl | rfl; exact aU.cell 0 rfl; exact aU.cell 1 rfl; exact aU.cell 2 rfl) bs (by omega)).mono ?_
  rintro e u5 ⟨rfl, hh⟩
  rw [HR]
  replace bu : Grew u0 u5 := by rw [← hh]; exact bu
  clear hh aU bs
  try go_wp2_with fail
  clear hHeld
  refine hK'.out _ _ (bu) (fun hHeld => ?_)
  clear hK' KK
  try simp only [List.setIfInBounds_toArray, List.set_cons_zero, List.set_cons_succ]
  refine wpAnyH_ready (rs := [17]) (by kernel_rfl) (by simp) ?_
  refine AllReadyH.cons rfl (fun KK hK' => ?_) AllReadyH.nil
  go_simp
  clear hHeld
  refine hK'.out _ _ (bu) (fun hHeld => ?_)
  clear hK' KK
  try simp only [List.setIfInBounds_toArray, List.set_cons_zero, List.set_cons_succ]
  refine wpAnyH_done (by kernel_rfl) ?_ _
  clear hHeld
  go_wp2_with fail
  go_ret
  exact ⟨rfl, G.trans bu⟩
end Go.Proofs.YtehbpcoiciodhaaGreat
