/-
  Structs of three numbers compared: walked.
-/
import Derived.Test.YtehbpcoiciodhaaGreatK3cP
import Derived.Test.YtehbpcoiciodhaaGreatMH
import Derived.Test.YtehbpcoiciodhaaGreatMK
namespace Go.Proofs.YtehbpcoiciodhaaGreat
open Go.RowKit Go.Shelf Go.Sort Go.Lib

/-- The cells of three numbers. -/
def e3 (x : T3) : List Value := [.int .i64 x.1, .int .i64 x.2.1, .int .i64 x.2.2]
def t3f (x : T3) : Nat → Int := fun i => if i = 0 then x.1 else if i = 1 then x.2.1 else x.2.2
def c3 (x y : T3) : Int := lexC 3 (t3f x) (t3f y)
theorem e3_one (x : T3) : ∀ u ∈ e3 x, u.oneCell' = true := by
  intro u hu
  simp only [e3, List.mem_cons, List.not_mem_nil, or_false] at hu
  rcases hu with rfl | rfl | rfl <;> rfl
theorem c3_swo : SWO (ltOf c3) where
  irrefl x := by
    unfold ltOf c3
    rw [decide_eq_false (lexC_irrefl 3 _)]
  trans x y z h1 h2 := by
    unfold ltOf c3 at *
    rw [decide_eq_true_eq] at *
    exact lexC_trans h1 h2
  ntrans x y z h1 h2 := by
    unfold ltOf c3 at *
    rw [decide_eq_false_iff_not] at *
    intro h3
    rcases lexC_cases 3 (t3f y) (t3f z) with ⟨_, e⟩ | ⟨p, hp, c, ⟨d, _⟩ | ⟨d, _⟩⟩
    · exact h1 ((lexC_congr (fun _ _ => rfl) (fun j hj => (e j hj).symm)).1 h3)
    · exact h2 (lexC_neg.2 ⟨p, hp, c, d⟩)
    · exact h1 (lexC_trans h3 (lexC_neg.2 ⟨p, hp, fun j hj => (c j hj).symm, d⟩))
theorem e3_get (x : T3) (j : Nat) (hj : j < 3) : (e3 x)[j]! = .int .i64 (t3f x j) := by
  rcases (by omega : j = 0 ∨ j = 1 ∨ j = 2) with rfl | rfl | rfl <;> rfl
/-- The first that is not 0. -/
def orF (z : Nat → Int) : Nat → Int
  | 0 => 0
  | m + 1 => if orF z m = 0 then z m else orF z m
theorem orF_zero {z : Nat → Int} {m : Nat} (h : orF z m = 0) : orF z (m + 1) = z m := by rw [orF, if_pos h]
theorem orF_stay {z : Nat → Int} {k m : Nat} (h : orF z k ≠ 0) (hm : k ≤ m) : orF z m = orF z k := by
  induction m with
  | zero => obtain rfl : k = 0 := by omega
            rfl
  | succ m ih =>
    by_cases e : k = m + 1
    · rw [e]
    · have := ih (by omega)
      rw [orF, if_neg (by rw [this]; exact h), this]
set_option maxHeartbeats 1000000 in
theorem or_any {w : World} {g m cap : Nat} (z : Nat → Int) (h : Ints w g 0 m z) (_ : g < w.heap.size) (hm : m ≤ 1000) :
    Calls Tryz.prog 91 #[.slice (some ⟨g, 0, none⟩) m cap] w fun e w' => e = .returned (.int .i64 (orF z m)) ∧ w = w' := by
  obtain ⟨R, hR⟩ : ∃ R, orF z m = R := ⟨_, rfl⟩
  rw [hR]
  have hm' : (m : Int) ≤ 1000 := by omega
  go_enter Tryz.func91, Tryz.ntmps91
  go_wp2
  go_loopw [8] (fun s wr => ∃ k : Nat, k ≤ m ∧ s = .int .i64 k ∧ w = wr ∧ orF z k = 0) (fun s _ => m - (intOf s).toNat)
  case atStart => exact ⟨0, Nat.zero_le _, rfl, rfl, rfl⟩
  case round =>
    obtain ⟨k, hk, rfl, rfl, h0⟩ := hrel
    by_cases hlt : k < m
    · have hlt' : (k : Int) < (m : Int) := by omega
      have c0 := h k hlt
      rw [Nat.zero_add] at c0
      have h1 := orF_zero h0
      have h2 := fun hh => orF_stay (z := z) (k := k + 1) (m := m) hh (by omega)
      rw [hR] at h2
      obtain ⟨X, hX⟩ : ∃ X, z k = X := ⟨_, rfl⟩
      rw [hX] at c0 h1
      rw [h1] at h2
      by_cases hz : X = 0
      · have hz' : (X != 0) = false := by simp [hz]
        have HZ : Hid (orF z (k + 1) = 0) := h1.trans hz
        clear hz h1 h2 h0 hX hR
        go_wp2
        exact ⟨⟨k + 1, by omega, by go_num, by trivial, HZ.out⟩, by simp [intOf]; omega⟩
      · have hz' : (X != 0) = true := by simp [hz]
        obtain rfl := h2 hz
        clear h1 h2 h0 hX hR
        go_wp2
        go_ret
        exact ⟨rfl, rfl⟩
    · have hlt' : ¬ (k : Int) < (m : Int) := by omega
      obtain rfl : k = m := by omega
      obtain rfl : R = 0 := hR.symm.trans h0
      clear h0 hR
      go_wp2
      go_ret
      exact ⟨rfl, rfl⟩
theorem Grew.trans {w w' w'' : World} (h : Grew w w') (h' : Grew w' w'') : Grew w w'' := by
  obtain ⟨q, os, rfl⟩ := h
  obtain ⟨q', os', rfl⟩ := h'
  refine ⟨q + q', os ++ os', ?_⟩
  simp [Go.Sort.grow, World.drewN, Nat.add_assoc]
theorem or_c3 (x y : T3) (z : Nat → Int) (h0 : cmp3 x.1 y.1 = z 0) (h1 : cmp3 x.2.1 y.2.1 = z 1) (h2 : cmp3 x.2.2 y.2.2 = z 2) : orF z 3 = c3 x y := by
  obtain ⟨a, b, c⟩ := x
  obtain ⟨a', b', c'⟩ := y
  simp only at h0 h1 h2
  have hz : orF z 3 = if (if z 0 = 0 then z 1 else z 0) = 0 then z 2 else (if z 0 = 0 then z 1 else z 0) := by
    simp only [orF, if_true]
  rw [hz, ← h0, ← h1, ← h2]
  clear hz h0 h1 h2
  unfold c3 cmp3
  rcases lexC_cases 3 (t3f (a, b, c)) (t3f (a', b', c')) with ⟨e, h⟩ | ⟨p, hp, h, ⟨d, e⟩ | ⟨d, e⟩⟩
  · have k0 : a = a' := h 0 (by omega)
    have k1 : b = b' := h 1 (by omega)
    have k2 : c = c' := h 2 (by omega)
    subst k0 k1 k2
    rw [e]
    simp
  · rw [e]
    rcases (by omega : p = 0 ∨ p = 1 ∨ p = 2) with rfl | rfl | rfl
    · have k0 : a < a' := d
      simp [k0]
    · have k0 : a = a' := h 0 (by omega)
      have k1 : b < b' := d
      subst k0
      simp [k1]
    · have k0 : a = a' := h 0 (by omega)
      have k1 : b = b' := h 1 (by omega)
      have k2 : c < c' := d
      subst k0 k1
      simp [k2]
  · rw [e]
    rcases (by omega : p = 0 ∨ p = 1 ∨ p = 2) with rfl | rfl | rfl
    · have k0 : a' < a := d
      have k0' : ¬ a < a' := by omega
      simp [k0, k0']
    · have k0 : a = a' := h 0 (by omega)
      have k1 : b' < b := d
      have k1' : ¬ b < b' := by omega
      subst k0
      simp [k1, k1']
    · have k0 : a = a' := h 0 (by omega)
      have k1 : b = b' := h 1 (by omega)
      have k2 : c' < c := d
      have k2' : ¬ c < c' := by omega
      subst k0 k1
      simp [k2, k2']
/-- Such a struct as a value. -/
abbrev tV (x : T3) : Value := .agg #[.int .i64 x.1, .int .i64 x.2.1, .int .i64 x.2.2]
set_option maxRecDepth 100000 in
set_option maxHeartbeats 1000000 in
theorem cmpP_any (x y : T3) (w : World) : Calls Tryz.prog 73 #[tV x, tV y] w fun e w' => e = .returned (.int .i64 (c3 x y)) ∧ Grew w w' := by
  obtain ⟨x0, x1, x2⟩ := x
  obtain ⟨y0, y1, y2⟩ := y
  obtain ⟨z, z0, z1, z2⟩ : ∃ z : Nat → Int, cmp3 x0 y0 = z 0 ∧ cmp3 x1 y1 = z 1 ∧ cmp3 x2 y2 = z 2 := ⟨fun i => if i = 0 then cmp3 x0 y0 else if i = 1 then cmp3 x1 y1 else cmp3 x2 y2, rfl, rfl, rfl⟩
  have HR := or_c3 (x0, x1, x2) (y0, y1, y2) z z0 z1 z2
  obtain ⟨R, hR⟩ : ∃ R, c3 (x0, x1, x2) (y0, y1, y2) = R := ⟨_, rfl⟩
  rw [hR] at HR ⊢
  clear hR
  obtain ⟨W, hW, b0, b1, bW, -⟩ := bx2 w 30 30 #[.int .i64 x0, .int .i64 x1, .int .i64 x2] #[.int .i64 y0, .int .i64 y1, .int .i64 y2]
  have G : Grew w W := by rw [← hW]; exact ((Grew.refl w).alloc _).alloc _
  go_enter Tryz.func73, Tryz.ntmps73
  go_wp2_with fail
  clear hW
  obtain ⟨q1, e1⟩ : ∃ z, w.heap.size = z := ⟨_, rfl⟩
  obtain ⟨q2, e2⟩ : ∃ z, q1 + 1 = z := ⟨_, rfl⟩
  rw [e1] at b0 b1 ⊢
  rw [e2] at b1 ⊢
  clear e1 e2 bW
  obtain ⟨u0, hu0, bb⟩ : ∃ uu, W.drew = uu ∧ Below W.heap.size W uu := ⟨_, rfl, (Below.refl _ _).drew⟩
  replace b0 := b0.below bb
  replace b1 := b1.below bb
  replace G := G.drew
  rw [hu0] at G
  have bu : Grew u0 u0 := Grew.refl _
  clear bb
  refine wp_region_held_drew (S := Grew u0) (by kernel_rfl) (by rw [hu0]; exact Grew.refl _) (fun hHeld => ?_)
  rw [hu0] at hHeld ⊢
  clear hu0
  change wpAnyH _ _ _ _ _ 18 #[false, false, false, false, false, false, false, false, false, false, false, false, false, false, false, false, false, false] _ _
  refine wpAnyH_take (i := 0) (v := .pointer (some ⟨q1, 0, none⟩)) rfl (by kernel_rfl) (by kernel_rfl) (by kernel_rfl) (fun _ _ _ h => h) (Or.inl ⟨by kernel_rfl, ?_⟩) hHeld ?_
  · intro w' hSw; go_simp
  try simp only [Act.put, List.setIfInBounds_toArray, List.set_cons_zero, List.set_cons_succ, List.getElem_toArray, List.getElem_cons_zero]
  refine wpAnyH_take (i := 1) (v := .int .i64 (x0)) rfl (by kernel_rfl) (by kernel_rfl) (by kernel_rfl) (fun _ _ _ h => h) (Or.inl ⟨by kernel_rfl, ?_⟩) hHeld ?_
  · intro w' hSw; have hw := hSw.below; obtain ⟨c0, c1, c2, -⟩ := (b0.below hw).open3; go_simp
  try simp only [Act.put, List.setIfInBounds_toArray, List.set_cons_zero, List.set_cons_succ, List.getElem_toArray, List.getElem_cons_succ, List.getElem_cons_zero]
  refine wpAnyH_take (i := 2) (v := .pointer (some ⟨q2, 0, none⟩)) rfl (by kernel_rfl) (by kernel_rfl) (by kernel_rfl) (fun _ _ _ h => h) (Or.inl ⟨by kernel_rfl, ?_⟩) hHeld ?_
  · intro w' hSw; go_simp
  try simp only [Act.put, List.setIfInBounds_toArray, List.set_cons_zero, List.set_cons_succ, List.getElem_toArray, List.getElem_cons_succ, List.getElem_cons_zero]
  refine wpAnyH_take (i := 3) (v := .int .i64 (y0)) rfl (by kernel_rfl) (by kernel_rfl) (by kernel_rfl) (fun _ _ _ h => h) (Or.inl ⟨by kernel_rfl, ?_⟩) hHeld ?_
  · intro w' hSw; have hw := hSw.below; obtain ⟨c0, c1, c2, -⟩ := (b1.below hw).open3; go_simp
  try simp only [Act.put, List.setIfInBounds_toArray, List.set_cons_zero, List.set_cons_succ, List.getElem_toArray, List.getElem_cons_succ, List.getElem_cons_zero]
  refine wpAnyH_take (i := 5) (v := .pointer (some ⟨q1, 1, none⟩)) rfl (by kernel_rfl) (by kernel_rfl) (by kernel_rfl) (fun _ _ _ h => h) (Or.inl ⟨by kernel_rfl, ?_⟩) hHeld ?_
  · intro w' hSw; go_simp
  try simp only [Act.put, List.setIfInBounds_toArray, List.set_cons_zero, List.set_cons_succ, List.getElem_toArray, List.getElem_cons_succ, List.getElem_cons_zero]
  refine wpAnyH_take (i := 6) (v := .int .i64 (x1)) rfl (by kernel_rfl) (by kernel_rfl) (by kernel_rfl) (fun _ _ _ h => h) (Or.inl ⟨by kernel_rfl, ?_⟩) hHeld ?_
  · intro w' hSw; have hw := hSw.below; obtain ⟨c0, c1, c2, -⟩ := (b0.below hw).open3; go_simp
  try simp only [Act.put, List.setIfInBounds_toArray, List.set_cons_zero, List.set_cons_succ, List.getElem_toArray, List.getElem_cons_succ, List.getElem_cons_zero]
  refine wpAnyH_take (i := 7) (v := .pointer (some ⟨q2, 1, none⟩)) rfl (by kernel_rfl) (by kernel_rfl) (by kernel_rfl) (fun _ _ _ h => h) (Or.inl ⟨by kernel_rfl, ?_⟩) hHeld ?_
  · intro w' hSw; go_simp
  try simp only [Act.put, List.setIfInBounds_toArray, List.set_cons_zero, List.set_cons_succ, List.getElem_toArray, List.getElem_cons_succ, List.getElem_cons_zero]
  refine wpAnyH_take (i := 8) (v := .int .i64 (y1)) rfl (by kernel_rfl) (by kernel_rfl) (by kernel_rfl) (fun _ _ _ h => h) (Or.inl ⟨by kernel_rfl, ?_⟩) hHeld ?_
  · intro w' hSw; have hw := hSw.below; obtain ⟨c0, c1, c2, -⟩ := (b1.below hw).open3; go_simp
  try simp only [Act.put, List.setIfInBounds_toArray, List.set_cons_zero, List.set_cons_succ, List.getElem_toArray, List.getElem_cons_succ, List.getElem_cons_zero]
  refine wpAnyH_take (i := 10) (v := .pointer (some ⟨q1, 2, none⟩)) rfl (by kernel_rfl) (by kernel_rfl) (by kernel_rfl) (fun _ _ _ h => h) (Or.inl ⟨by kernel_rfl, ?_⟩) hHeld ?_
  · intro w' hSw; go_simp
  try simp only [Act.put, List.setIfInBounds_toArray, List.set_cons_zero, List.set_cons_succ, List.getElem_toArray, List.getElem_cons_succ, List.getElem_cons_zero]
  refine wpAnyH_take (i := 11) (v := .int .i64 (x2)) rfl (by kernel_rfl) (by kernel_rfl) (by kernel_rfl) (fun _ _ _ h => h) (Or.inl ⟨by kernel_rfl, ?_⟩) hHeld ?_
  · intro w' hSw; have hw := hSw.below; obtain ⟨c0, c1, c2, -⟩ := (b0.below hw).open3; go_simp
  try simp only [Act.put, List.setIfInBounds_toArray, List.set_cons_zero, List.set_cons_succ, List.getElem_toArray, List.getElem_cons_succ, List.getElem_cons_zero]
  refine wpAnyH_take (i := 12) (v := .pointer (some ⟨q2, 2, none⟩)) rfl (by kernel_rfl) (by kernel_rfl) (by kernel_rfl) (fun _ _ _ h => h) (Or.inl ⟨by kernel_rfl, ?_⟩) hHeld ?_
  · intro w' hSw; go_simp
  try simp only [Act.put, List.setIfInBounds_toArray, List.set_cons_zero, List.set_cons_succ, List.getElem_toArray, List.getElem_cons_succ, List.getElem_cons_zero]
  refine wpAnyH_take (i := 13) (v := .int .i64 (y2)) rfl (by kernel_rfl) (by kernel_rfl) (by kernel_rfl) (fun _ _ _ h => h) (Or.inl ⟨by kernel_rfl, ?_⟩) hHeld ?_
  · intro w' hSw; have hw := hSw.below; obtain ⟨c0, c1, c2, -⟩ := (b1.below hw).open3; go_simp
  try simp only [Act.put, List.setIfInBounds_toArray, List.set_cons_zero, List.set_cons_succ, List.getElem_toArray, List.getElem_cons_succ, List.getElem_cons_zero]
  refine wpAnyH_ready (rs := [4]) (by kernel_rfl) (by simp) ?_
  refine AllReadyH.cons rfl (fun KK hK' => ?_) AllReadyH.nil
  go_simp
  refine (cmp_any x0 y0 _).mono ?_
  rintro e u1 ⟨rfl, hh⟩
  rw [z0]
  replace bu : Grew u0 u1 := by rw [← hh]; exact bu
  clear hh
  try go_wp2_with fail
  clear hHeld
  refine hK'.out _ _ (bu) (fun hHeld => ?_)
  clear hK' KK
  try simp only [List.setIfInBounds_toArray, List.set_cons_zero, List.set_cons_succ]
  refine wpAnyH_ready (rs := [9]) (by kernel_rfl) (by simp) ?_
  refine AllReadyH.cons rfl (fun KK hK' => ?_) AllReadyH.nil
  go_simp
  refine (cmp_any x1 y1 _).mono ?_
  rintro e u2 ⟨rfl, hh⟩
  rw [z1]
  replace bu : Grew u0 u2 := by rw [← hh]; exact bu
  clear hh
  try go_wp2_with fail
  clear hHeld
  refine hK'.out _ _ (bu) (fun hHeld => ?_)
  clear hK' KK
  try simp only [List.setIfInBounds_toArray, List.set_cons_zero, List.set_cons_succ]
  refine wpAnyH_ready (rs := [14]) (by kernel_rfl) (by simp) ?_
  refine AllReadyH.cons rfl (fun KK hK' => ?_) AllReadyH.nil
  go_simp
  refine (cmp_any x2 y2 _).mono ?_
  rintro e u3 ⟨rfl, hh⟩
  rw [z2]
  replace bu : Grew u0 u3 := by rw [← hh]; exact bu
  clear hh
  try go_wp2_with fail
  clear hHeld
  refine hK'.out _ _ (bu) (fun hHeld => ?_)
  clear hK' KK
  try simp only [List.setIfInBounds_toArray, List.set_cons_zero, List.set_cons_succ]
  refine wpAnyH_ready (rs := [15]) (by kernel_rfl) (by simp) ?_
  refine AllReadyH.cons rfl (fun KK hK' => ?_) AllReadyH.nil
  go_simp
  obtain ⟨UU, hUU, aU, -, -⟩ := boxed u3 3 #[.int .i64 (z 0), .int .i64 (z 1), .int .i64 (z 2)]
  rw [hUU]
  have bs : u3.heap.size < UU.heap.size := aU.lt
  replace bu : Grew u0 UU := by rw [← hUU]; exact bu.alloc _
  clear hUU
  clear hHeld
  refine hK'.out _ _ (bu) (fun hHeld => ?_)
  clear hK' KK
  try simp only [List.setIfInBounds_toArray, List.set_cons_zero, List.set_cons_succ]
  refine wpAnyH_ready (rs := [16]) (by kernel_rfl) (by simp) ?_
  refine AllReadyH.cons rfl (fun KK hK' => ?_) AllReadyH.nil
  go_simp
  refine (or_any z (fun i hi => by rcases (by omega : i = 0 ∨ i = 1 ∨ i = 2) with rfl | rfl | rfl; exact aU.cell 0 rfl; exact aU.cell 1 rfl; exact aU.cell 2 rfl) bs (by omega)).mono ?_
  rintro e u5 ⟨rfl, hh⟩
  rw [HR]
  replace bu : Grew u0 u5 := by rw [← hh]; exact bu
  clear hh aU bs
  try go_wp2_with fail
  clear hHeld
  refine hK'.out _ _ (bu) (fun hHeld => ?_)
  clear hK' KK
  try simp only [List.setIfInBounds_toArray, List.set_cons_zero, List.set_cons_succ]
  refine wpAnyH_ready (rs := [17]) (by kernel_rfl) (by simp) ?_
  refine AllReadyH.cons rfl (fun KK hK' => ?_) AllReadyH.nil
  go_simp
  clear hHeld
  refine hK'.out _ _ (bu) (fun hHeld => ?_)
  clear hK' KK
  try simp only [List.setIfInBounds_toArray, List.set_cons_zero, List.set_cons_succ]
  refine wpAnyH_done (by kernel_rfl) ?_ _
  clear hHeld
  go_wp2_with fail
  go_ret
  exact ⟨rfl, G.trans bu⟩
end Go.Proofs.YtehbpcoiciodhaaGreat
