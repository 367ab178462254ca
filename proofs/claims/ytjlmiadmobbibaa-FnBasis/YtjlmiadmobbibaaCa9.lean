/-
  Candidates compared, walked.
-/
import Derived.Test.YtjlmiadmobbibaaBi
namespace Go.Proofs.Ytjlmiadmobbibaa
open Go.RowKit

theorem At.open5 {t : TypeId} {w : World} {q : Nat} {v0 v1 v2 v3 v4 : Value} (h : At t w q #[v0, v1, v2, v3, v4]) : w.cell? ⟨q, 0, none⟩ = some v0 ∧ w.cell? ⟨q, 1, none⟩ = some v1 ∧ w.cell? ⟨q, 2, none⟩ = some v2 ∧ w.cell? ⟨q, 3, none⟩ = some v3 ∧ w.cell? ⟨q, 4, none⟩ = some v4 ∧ w.frozen? ⟨q, 0, none⟩ = false ∧ w.frozen? ⟨q, 1, none⟩ = false ∧ w.frozen? ⟨q, 2, none⟩ = false ∧ w.frozen? ⟨q, 3, none⟩ = false ∧ w.frozen? ⟨q, 4, none⟩ = false :=
  ⟨h.cell 0 rfl, h.cell 1 rfl, h.cell 2 rfl, h.cell 3 rfl, h.cell 4 rfl, h.frozen 0, h.frozen 1, h.frozen 2, h.frozen 3, h.frozen 4⟩
/-- The area as the machine reckons it. -/
def war (a b c d : Int) : Int := wrap64 (wrap64 (a * d) - wrap64 (b * c))
theorem war_in {a b c d : Int} (ha : Wi a) (hb : Wi b) (hc : Wi c) (hd : Wi d) : war a b c d = a * d - b * c := by
  have p1 := mul_m ha hd
  have p2 := mul_m hb hc
  obtain ⟨P, hP⟩ : ∃ P, a * d = P := ⟨_, rfl⟩
  obtain ⟨Q, hQ⟩ : ∃ Q, b * c = Q := ⟨_, rfl⟩
  rw [hP] at p1
  rw [hQ] at p2
  unfold war
  rw [hP, hQ]
  unfold wrap64
  omega
set_option maxHeartbeats 4000000 in
theorem areaW_any (a b c d : Int) (w : World) : Calls Try.prog 54 #[bV a b c d] w fun e w' => e = .returned (.int .i64 (war a b c d)) ∧ Below w.heap.size w w' := by
  obtain ⟨V, hV, b0, bV, -⟩ := boxed w 27 #[.int .i64 a, .int .i64 b, .int .i64 c, .int .i64 d]
  obtain ⟨c0, c1, c2, c3, -⟩ := b0.open4
  unfold war
  clear b0
  go_enter Try.func54, Try.ntmps54
  go_wp2
  go_ret
  exact ⟨rfl, bV⟩
/-- A candidate. -/
structure Cd where
  a : Int
  b : Int
  c : Int
  d : Int
  m : Int
abbrev cV (x : Cd) : Value := .agg #[.int .i64 x.a, .int .i64 x.b, .int .i64 x.c, .int .i64 x.d, .int .i64 x.m]
def cwar (x : Cd) : Int := war x.a x.b x.c x.d
/-- Which of two candidates comes first. -/
def clt (x y : Cd) : Prop := y.m < x.m ∨ (x.m = y.m ∧ (cwar y < cwar x ∨ (cwar x = cwar y ∧ (x.a < y.a ∨ (x.a = y.a ∧ (x.b < y.b ∨ (x.b = y.b ∧ (x.c < y.c ∨ (x.c = y.c ∧ x.d < y.d)))))))))
theorem clt_swo : Swo clt := by
  refine ⟨fun x => ?_, fun x y z => ?_, fun x y z => ?_⟩ <;> unfold clt <;> omega
theorem clt_or (x y : Cd) (z : Nat → Int) (h0 : cmp3 y.m x.m = z 0) (h1 : cmp3 (cwar y) (cwar x) = z 1) (h2 : cmp3 x.a y.a = z 2) (h3 : cmp3 x.b y.b = z 3) (h4 : cmp3 x.c y.c = z 4) (h5 : cmp3 x.d y.d = z 5) : orF z 6 < 0 ↔ clt x y := by
  have a1 : orF z 6 < 0 ↔ _ := orF_neg z 5
  have a2 : orF z 5 < 0 ↔ _ := orF_neg z 4
  have a3 : orF z 4 < 0 ↔ _ := orF_neg z 3
  have a4 : orF z 3 < 0 ↔ _ := orF_neg z 2
  have a5 : orF z 2 < 0 ↔ _ := orF_neg z 1
  have a6 : orF z 1 < 0 ↔ _ := orF_neg z 0
  have b2 : orF z 5 = 0 ↔ _ := orF_nul z 4
  have b3 : orF z 4 = 0 ↔ _ := orF_nul z 3
  have b4 : orF z 3 = 0 ↔ _ := orF_nul z 2
  have b5 : orF z 2 = 0 ↔ _ := orF_nul z 1
  have b6 : orF z 1 = 0 ↔ _ := orF_nul z 0
  have o : orF z 0 = 0 := rfl
  have c0 := cmp3_neg y.m x.m
  have c1 := cmp3_neg (cwar y) (cwar x)
  have c2 := cmp3_neg x.a y.a
  have c3 := cmp3_neg x.b y.b
  have c4 := cmp3_neg x.c y.c
  have c5 := cmp3_neg x.d y.d
  have d0 := cmp3_nul y.m x.m
  have d1 := cmp3_nul (cwar y) (cwar x)
  have d2 := cmp3_nul x.a y.a
  have d3 := cmp3_nul x.b y.b
  have d4 := cmp3_nul x.c y.c
  rw [h0] at c0 d0
  rw [h1] at c1 d1
  rw [h2] at c2 d2
  rw [h3] at c3 d3
  rw [h4] at c4 d4
  rw [h5] at c5
  unfold clt
  rw [a1, a2, a3, a4, a5, a6, b2, b3, b4, b5, b6, o, c0, c1, c2, c3, c4, c5, d0, d1, d2, d3, d4]
  omega
set_option maxRecDepth 100000 in
set_option maxHeartbeats 4000000 in
theorem cBefore_any (x y : Cd) (w : World) : Calls Try.prog 30 #[cV x, cV y] w fun e w' => e = .returned (.bool (pd (clt x y))) ∧ Below w.heap.size w w' := by
  obtain ⟨z, z0, z1, z2, z3, z4, z5⟩ : ∃ z : Nat → Int, cmp3 y.m x.m = z 0 ∧ cmp3 (cwar y) (cwar x) = z 1 ∧ cmp3 x.a y.a = z 2 ∧ cmp3 x.b y.b = z 3 ∧ cmp3 x.c y.c = z 4 ∧ cmp3 x.d y.d = z 5 := ⟨fun i => match i with | 0 => cmp3 y.m x.m | 1 => cmp3 (cwar y) (cwar x) | 2 => cmp3 x.a y.a | 3 => cmp3 x.b y.b | 4 => cmp3 x.c y.c | _ => cmp3 x.d y.d, rfl, rfl, rfl, rfl, rfl, rfl⟩
  have HR := clt_or x y z z0 z1 z2 z3 z4 z5
  obtain ⟨D, hD⟩ : ∃ D, pd (clt x y) = D := ⟨_, rfl⟩
  rw [hD]
  obtain ⟨R, hRR⟩ : ∃ R, orF z 6 = R := ⟨_, rfl⟩
  have hE : decide (R < 0) = D := by
    rw [← hD, ← hRR]
    by_cases h : clt x y
    · rw [pd_yes h, decide_eq_true (HR.2 h)]
    · rw [pd_no h, decide_eq_false (fun hh => h (HR.1 hh))]
  clear hD HR
  obtain ⟨xa, xb, xc, xd, xm⟩ := x
  obtain ⟨ya, yb, yc, yd, ym⟩ := y
  simp only [cwar] at z0 z1 z2 z3 z4 z5
  obtain ⟨W, hW, b0, b1, bW, -⟩ := boxed2 w 58 58 #[.int .i64 xa, .int .i64 xb, .int .i64 xc, .int .i64 xd, .int .i64 xm] #[.int .i64 ya, .int .i64 yb, .int .i64 yc, .int .i64 yd, .int .i64 ym]
  go_enter Try.func30, Try.ntmps30
  go_wp2_with fail
  clear hW
  obtain ⟨q1, e1⟩ : ∃ z, w.heap.size = z := ⟨_, rfl⟩
  obtain ⟨q2, e2⟩ : ∃ z, q1 + 1 = z := ⟨_, rfl⟩
  have BW : Hid (Below w.heap.size w W) := bW
  rw [e1] at b0 b1 ⊢
  rw [e2] at b1 ⊢
  clear e1 e2
  obtain ⟨u0, hu0, bb⟩ : ∃ uu, W.drew = uu ∧ Below W.heap.size W uu := ⟨_, rfl, (Below.refl _ _).drew⟩
  replace b0 := b0.below bb
  replace b1 := b1.below bb
  replace bW := bW.trans (bb.mono bW.size)
  clear bb
  refine wp_region_held_drew (S := Kb u0) (by kernel_rfl) (by rw [hu0]; exact Below.refl _ _) (fun hHeld => ?_)
  rw [hu0] at hHeld ⊢
  clear hu0
  have bu : Kb u0 u0 := Below.refl _ _
  change wpAnyH _ _ _ _ _ 8 #[false, false, false, false, false, false, false, false] _ _
  refine wpAnyH_take (i := 0) (v := .pointer (some ⟨q1, 0, none⟩)) rfl (by kernel_rfl) (by kernel_rfl) (by kernel_rfl) (fun _ _ _ h => h) (Or.inl ⟨by kernel_rfl, ?_⟩) hHeld ?_
  · intro w' hSw; go_simp
  try simp only [Act.put, List.setIfInBounds_toArray, List.set_cons_zero, List.set_cons_succ, List.getElem_toArray, List.getElem_cons_zero]
  refine wpAnyH_take (i := 1) (v := .agg #[.int .i64 (xa), .int .i64 (xb), .int .i64 (xc), .int .i64 (xd)]) rfl (by kernel_rfl) (by kernel_rfl) (by kernel_rfl) (fun _ _ _ h => h) (Or.inl ⟨by kernel_rfl, ?_⟩) hHeld ?_
  · intro w' hSw; obtain ⟨z0, z1, z2, z3, z4, -⟩ := (b0.below hSw).open5; go_simp
  try simp only [Act.put, List.setIfInBounds_toArray, List.set_cons_zero, List.set_cons_succ, List.getElem_toArray, List.getElem_cons_succ, List.getElem_cons_zero]
  refine wpAnyH_take (i := 2) (v := .pointer (some ⟨q2, 0, none⟩)) rfl (by kernel_rfl) (by kernel_rfl) (by kernel_rfl) (fun _ _ _ h => h) (Or.inl ⟨by kernel_rfl, ?_⟩) hHeld ?_
  · intro w' hSw; go_simp
  try simp only [Act.put, List.setIfInBounds_toArray, List.set_cons_zero, List.set_cons_succ, List.getElem_toArray, List.getElem_cons_succ, List.getElem_cons_zero]
  refine wpAnyH_take (i := 3) (v := .agg #[.int .i64 (ya), .int .i64 (yb), .int .i64 (yc), .int .i64 (yd)]) rfl (by kernel_rfl) (by kernel_rfl) (by kernel_rfl) (fun _ _ _ h => h) (Or.inl ⟨by kernel_rfl, ?_⟩) hHeld ?_
  · intro w' hSw; obtain ⟨z0, z1, z2, z3, z4, -⟩ := (b1.below hSw).open5; go_simp
  try simp only [Act.put, List.setIfInBounds_toArray, List.set_cons_zero, List.set_cons_succ, List.getElem_toArray, List.getElem_cons_succ, List.getElem_cons_zero]
  refine wpAnyH_ready (rs := [4, 5]) (by kernel_rfl) (by simp) ?_
  refine AllReadyH.cons rfl (fun KK hK' => ?_) (AllReadyH.cons rfl (fun KK hK' => ?_) AllReadyH.nil)
  · go_simp
    obtain ⟨u1, hU, a5, bb, -⟩ := boxed u0 27 #[.int .i64 0, .int .i64 0, .int .i64 0, .int .i64 0]
    rw [hU]
    clear hU
    replace bu : Kb u0 u1 := bu.trans (bb.mono bu.size)
    have la5 : u0.heap.size < u1.heap.size := a5.lt
    obtain ⟨pa5, hpa5⟩ : ∃ p, u0.heap.size = p := ⟨_, rfl⟩
    rw [hpa5] at a5 la5 ⊢
    clear bb
    clear hHeld
    refine hK'.out _ _ (bu) (fun hHeld => ?_)
    clear hK' KK
    try simp only [List.setIfInBounds_toArray, List.set_cons_zero, List.set_cons_succ]
    refine wpAnyH_ready (rs := [5]) (by kernel_rfl) (by simp) ?_
    refine AllReadyH.cons rfl (fun KK hK' => ?_) AllReadyH.nil
    go_simp
    obtain ⟨u2, hU, a6, bb, -⟩ := boxed u1 27 #[.int .i64 0, .int .i64 0, .int .i64 0, .int .i64 0]
    rw [hU]
    clear hU
    replace bu : Kb u0 u2 := bu.trans (bb.mono bu.size)
    replace a5 := a5.below bb
    have la6 : u1.heap.size < u2.heap.size := a6.lt
    obtain ⟨pa6, hpa6⟩ : ∃ p, u1.heap.size = p := ⟨_, rfl⟩
    rw [hpa6] at a6 la6 ⊢
    clear bb
    clear hHeld
    refine hK'.out _ _ (bu) (fun hHeld => ?_)
    clear hK' KK
    try simp only [List.setIfInBounds_toArray, List.set_cons_zero, List.set_cons_succ]
    refine wpAnyH_ready (rs := [6]) (by kernel_rfl) (by simp) ?_
    refine AllReadyH.cons rfl (fun KK hK' => ?_) AllReadyH.nil
    obtain ⟨y0, y1, y2, y3, k0, k1, k2, k3⟩ := a5.open4
    go_simp
    obtain ⟨u3, hU, a9, b9, o9, s9⟩ : ∃ U, ((((u2).setCell ⟨pa5, 0, none⟩ (.int .i64 xa)).setCell ⟨pa5, 1, none⟩ (.int .i64 xb)).setCell ⟨pa5, 2, none⟩ (.int .i64 xc)).setCell ⟨pa5, 3, none⟩ (.int .i64 xd) = U ∧ At 27 U pa5 #[.int .i64 xa, .int .i64 xb, .int .i64 xc, .int .i64 xd] ∧ Kb u0 U ∧ At 27 U pa6 #[.int .i64 0, .int .i64 0, .int .i64 0, .int .i64 0] ∧ u2.heap.size ≤ U.heap.size := ⟨_, rfl, by simpa using ((((a5).set 0 (.int .i64 xa)).set 1 (.int .i64 xb)).set 2 (.int .i64 xc)).set 3 (.int .i64 xd), ((((bu.setCell (p := ⟨pa5, 0, none⟩) (by show u0.heap.size ≤ pa5; omega) _).setCell (p := ⟨pa5, 1, none⟩) (by show u0.heap.size ≤ pa5; omega) _).setCell (p := ⟨pa5, 2, none⟩) (by show u0.heap.size ≤ pa5; omega) _).setCell (p := ⟨pa5, 3, none⟩) (by show u0.heap.size ≤ pa5; omega) _), ((((a6.setOther (by omega) _).setOther (by omega) _).setOther (by omega) _).setOther (by omega) _), by simp [World.setCell]⟩
    rw [hU]
    clear hU a5 a6 bu y0 y1 y2 y3 k0 k1 k2 k3
    have a5 := a9
    have a6 := o9
    have bu := b9
    clear a9 o9 b9 s9
    clear hHeld
    refine hK'.out _ _ (bu) (fun hHeld => ?_)
    clear hK' KK
    try simp only [List.setIfInBounds_toArray, List.set_cons_zero, List.set_cons_succ]
    refine wpAnyH_ready (rs := [7]) (by kernel_rfl) (by simp) ?_
    refine AllReadyH.cons rfl (fun KK hK' => ?_) AllReadyH.nil
    obtain ⟨y0, y1, y2, y3, k0, k1, k2, k3⟩ := a6.open4
    go_simp
    obtain ⟨u4, hU, a9, b9, o9, s9⟩ : ∃ U, ((((u3).setCell ⟨pa6, 0, none⟩ (.int .i64 ya)).setCell ⟨pa6, 1, none⟩ (.int .i64 yb)).setCell ⟨pa6, 2, none⟩ (.int .i64 yc)).setCell ⟨pa6, 3, none⟩ (.int .i64 yd) = U ∧ At 27 U pa6 #[.int .i64 ya, .int .i64 yb, .int .i64 yc, .int .i64 yd] ∧ Kb u0 U ∧ At 27 U pa5 #[.int .i64 xa, .int .i64 xb, .int .i64 xc, .int .i64 xd] ∧ u3.heap.size ≤ U.heap.size := ⟨_, rfl, by simpa using ((((a6).set 0 (.int .i64 ya)).set 1 (.int .i64 yb)).set 2 (.int .i64 yc)).set 3 (.int .i64 yd), ((((bu.setCell (p := ⟨pa6, 0, none⟩) (by show u0.heap.size ≤ pa6; omega) _).setCell (p := ⟨pa6, 1, none⟩) (by show u0.heap.size ≤ pa6; omega) _).setCell (p := ⟨pa6, 2, none⟩) (by show u0.heap.size ≤ pa6; omega) _).setCell (p := ⟨pa6, 3, none⟩) (by show u0.heap.size ≤ pa6; omega) _), ((((a5.setOther (by omega) _).setOther (by omega) _).setOther (by omega) _).setOther (by omega) _), by simp [World.setCell]⟩
    rw [hU]
    clear hU a6 a5 bu y0 y1 y2 y3 k0 k1 k2 k3
    have a6 := a9
    have a5 := o9
    have bu := b9
    clear a9 o9 b9 s9
    clear hHeld
    refine hK'.out _ _ (bu) (fun hHeld => ?_)
    clear hK' KK
    try simp only [List.setIfInBounds_toArray, List.set_cons_zero, List.set_cons_succ]
    refine wpAnyH_done (by kernel_rfl) ?_ _
    clear hHeld
    replace b0 := b0.below bu
    replace b1 := b1.below bu
    replace bW := bW.trans (bu.mono bW.size)
    clear bu
    go_upto_region 2 with (fail)
    obtain ⟨v0, hu0, bb⟩ : ∃ uu, u4.drew = uu ∧ Below u4.heap.size u4 uu := ⟨_, rfl, (Below.refl _ _).drew⟩
    replace b0 := b0.below bb
    replace b1 := b1.below bb
    replace a5 := a5.below bb
    replace a6 := a6.below bb
    replace bW := bW.trans (bb.mono bW.size)
    clear bb
    refine wp_region_held_drew (S := Kb v0) (by kernel_rfl) (by rw [hu0]; exact Below.refl _ _) (fun hHeld => ?_)
    rw [hu0] at hHeld ⊢
    clear hu0
    have bu : Kb v0 v0 := Below.refl _ _
    change wpAnyH _ _ _ _ _ 34 #[false, false, false, false, false, false, false, false, false, false, false, false, false, false, false, false, false, false, false, false, false, false, false, false, false, false, false, false, false, false, false, false, false, false] _ _
    refine wpAnyH_take (i := 0) (v := .pointer (some ⟨q2, 4, none⟩)) rfl (by kernel_rfl) (by kernel_rfl) (by kernel_rfl) (fun _ _ _ h => h) (Or.inl ⟨by kernel_rfl, ?_⟩) hHeld ?_
    · intro w' hSw; go_simp
    try simp only [Act.put, List.setIfInBounds_toArray, List.set_cons_zero, List.set_cons_succ, List.getElem_toArray, List.getElem_cons_zero]
    refine wpAnyH_take (i := 1) (v := .int .i64 (ym)) rfl (by kernel_rfl) (by kernel_rfl) (by kernel_rfl) (fun _ _ _ h => h) (Or.inl ⟨by kernel_rfl, ?_⟩) hHeld ?_
    · intro w' hSw; obtain ⟨z0, z1, z2, z3, z4, -⟩ := (b1.below hSw).open5; go_simp
    try simp only [Act.put, List.setIfInBounds_toArray, List.set_cons_zero, List.set_cons_succ, List.getElem_toArray, List.getElem_cons_succ, List.getElem_cons_zero]
    refine wpAnyH_take (i := 2) (v := .pointer (some ⟨q1, 4, none⟩)) rfl (by kernel_rfl) (by kernel_rfl) (by kernel_rfl) (fun _ _ _ h => h) (Or.inl ⟨by kernel_rfl, ?_⟩) hHeld ?_
    · intro w' hSw; go_simp
    try simp only [Act.put, List.setIfInBounds_toArray, List.set_cons_zero, List.set_cons_succ, List.getElem_toArray, List.getElem_cons_succ, List.getElem_cons_zero]
    refine wpAnyH_take (i := 3) (v := .int .i64 (xm)) rfl (by kernel_rfl) (by kernel_rfl) (by kernel_rfl) (fun _ _ _ h => h) (Or.inl ⟨by kernel_rfl, ?_⟩) hHeld ?_
    · intro w' hSw; obtain ⟨z0, z1, z2, z3, z4, -⟩ := (b0.below hSw).open5; go_simp
    try simp only [Act.put, List.setIfInBounds_toArray, List.set_cons_zero, List.set_cons_succ, List.getElem_toArray, List.getElem_cons_succ, List.getElem_cons_zero]
    refine wpAnyH_take (i := 5) (v := .agg #[.int .i64 (ya), .int .i64 (yb), .int .i64 (yc), .int .i64 (yd)]) rfl (by kernel_rfl) (by kernel_rfl) (by kernel_rfl) (fun _ _ _ h => h) (Or.inl ⟨by kernel_rfl, ?_⟩) hHeld ?_
    · intro w' hSw; obtain ⟨z0, z1, z2, z3, -⟩ := (a6.below hSw).open4; go_simp
    try simp only [Act.put, List.setIfInBounds_toArray, List.set_cons_zero, List.set_cons_succ, List.getElem_toArray, List.getElem_cons_succ, List.getElem_cons_zero]
    refine wpAnyH_take (i := 7) (v := .agg #[.int .i64 (xa), .int .i64 (xb), .int .i64 (xc), .int .i64 (xd)]) rfl (by kernel_rfl) (by kernel_rfl) (by kernel_rfl) (fun _ _ _ h => h) (Or.inl ⟨by kernel_rfl, ?_⟩) hHeld ?_
    · intro w' hSw; obtain ⟨z0, z1, z2, z3, -⟩ := (a5.below hSw).open4; go_simp
    try simp only [Act.put, List.setIfInBounds_toArray, List.set_cons_zero, List.set_cons_succ, List.getElem_toArray, List.getElem_cons_succ, List.getElem_cons_zero]
    refine wpAnyH_take (i := 10) (v := .pointer (some ⟨pa5, 0, none⟩)) rfl (by kernel_rfl) (by kernel_rfl) (by kernel_rfl) (fun _ _ _ h => h) (Or.inl ⟨by kernel_rfl, ?_⟩) hHeld ?_
    · intro w' hSw; go_simp
    try simp only [Act.put, List.setIfInBounds_toArray, List.set_cons_zero, List.set_cons_succ, List.getElem_toArray, List.getElem_cons_succ, List.getElem_cons_zero]
    refine wpAnyH_take (i := 11) (v := .int .i64 (xa)) rfl (by kernel_rfl) (by kernel_rfl) (by kernel_rfl) (fun _ _ _ h => h) (Or.inl ⟨by kernel_rfl, ?_⟩) hHeld ?_
    · intro w' hSw; obtain ⟨z0, z1, z2, z3, -⟩ := (a5.below hSw).open4; go_simp
    try simp only [Act.put, List.setIfInBounds_toArray, List.set_cons_zero, List.set_cons_succ, List.getElem_toArray, List.getElem_cons_succ, List.getElem_cons_zero]
    refine wpAnyH_take (i := 12) (v := .pointer (some ⟨pa6, 0, none⟩)) rfl (by kernel_rfl) (by kernel_rfl) (by kernel_rfl) (fun _ _ _ h => h) (Or.inl ⟨by kernel_rfl, ?_⟩) hHeld ?_
    · intro w' hSw; go_simp
    try simp only [Act.put, List.setIfInBounds_toArray, List.set_cons_zero, List.set_cons_succ, List.getElem_toArray, List.getElem_cons_succ, List.getElem_cons_zero]
    refine wpAnyH_take (i := 13) (v := .int .i64 (ya)) rfl (by kernel_rfl) (by kernel_rfl) (by kernel_rfl) (fun _ _ _ h => h) (Or.inl ⟨by kernel_rfl, ?_⟩) hHeld ?_
    · intro w' hSw; obtain ⟨z0, z1, z2, z3, -⟩ := (a6.below hSw).open4; go_simp
    try simp only [Act.put, List.setIfInBounds_toArray, List.set_cons_zero, List.set_cons_succ, List.getElem_toArray, List.getElem_cons_succ, List.getElem_cons_zero]
    refine wpAnyH_take (i := 15) (v := .pointer (some ⟨pa5, 1, none⟩)) rfl (by kernel_rfl) (by kernel_rfl) (by kernel_rfl) (fun _ _ _ h => h) (Or.inl ⟨by kernel_rfl, ?_⟩) hHeld ?_
    · intro w' hSw; go_simp
    try simp only [Act.put, List.setIfInBounds_toArray, List.set_cons_zero, List.set_cons_succ, List.getElem_toArray, List.getElem_cons_succ, List.getElem_cons_zero]
    refine wpAnyH_take (i := 16) (v := .int .i64 (xb)) rfl (by kernel_rfl) (by kernel_rfl) (by kernel_rfl) (fun _ _ _ h => h) (Or.inl ⟨by kernel_rfl, ?_⟩) hHeld ?_
    · intro w' hSw; obtain ⟨z0, z1, z2, z3, -⟩ := (a5.below hSw).open4; go_simp
    try simp only [Act.put, List.setIfInBounds_toArray, List.set_cons_zero, List.set_cons_succ, List.getElem_toArray, List.getElem_cons_succ, List.getElem_cons_zero]
    refine wpAnyH_take (i := 17) (v := .pointer (some ⟨pa6, 1, none⟩)) rfl (by kernel_rfl) (by kernel_rfl) (by kernel_rfl) (fun _ _ _ h => h) (Or.inl ⟨by kernel_rfl, ?_⟩) hHeld ?_
    · intro w' hSw; go_simp
    try simp only [Act.put, List.setIfInBounds_toArray, List.set_cons_zero, List.set_cons_succ, List.getElem_toArray, List.getElem_cons_succ, List.getElem_cons_zero]
    refine wpAnyH_take (i := 18) (v := .int .i64 (yb)) rfl (by kernel_rfl) (by kernel_rfl) (by kernel_rfl) (fun _ _ _ h => h) (Or.inl ⟨by kernel_rfl, ?_⟩) hHeld ?_
    · intro w' hSw; obtain ⟨z0, z1, z2, z3, -⟩ := (a6.below hSw).open4; go_simp
    try simp only [Act.put, List.setIfInBounds_toArray, List.set_cons_zero, List.set_cons_succ, List.getElem_toArray, List.getElem_cons_succ, List.getElem_cons_zero]
    refine wpAnyH_take (i := 20) (v := .pointer (some ⟨pa5, 2, none⟩)) rfl (by kernel_rfl) (by kernel_rfl) (by kernel_rfl) (fun _ _ _ h => h) (Or.inl ⟨by kernel_rfl, ?_⟩) hHeld ?_
    · intro w' hSw; go_simp
    try simp only [Act.put, List.setIfInBounds_toArray, List.set_cons_zero, List.set_cons_succ, List.getElem_toArray, List.getElem_cons_succ, List.getElem_cons_zero]
    refine wpAnyH_take (i := 21) (v := .int .i64 (xc)) rfl (by kernel_rfl) (by kernel_rfl) (by kernel_rfl) (fun _ _ _ h => h) (Or.inl ⟨by kernel_rfl, ?_⟩) hHeld ?_
    · intro w' hSw; obtain ⟨z0, z1, z2, z3, -⟩ := (a5.below hSw).open4; go_simp
    try simp only [Act.put, List.setIfInBounds_toArray, List.set_cons_zero, List.set_cons_succ, List.getElem_toArray, List.getElem_cons_succ, List.getElem_cons_zero]
    refine wpAnyH_take (i := 22) (v := .pointer (some ⟨pa6, 2, none⟩)) rfl (by kernel_rfl) (by kernel_rfl) (by kernel_rfl) (fun _ _ _ h => h) (Or.inl ⟨by kernel_rfl, ?_⟩) hHeld ?_
    · intro w' hSw; go_simp
    try simp only [Act.put, List.setIfInBounds_toArray, List.set_cons_zero, List.set_cons_succ, List.getElem_toArray, List.getElem_cons_succ, List.getElem_cons_zero]
    refine wpAnyH_take (i := 23) (v := .int .i64 (yc)) rfl (by kernel_rfl) (by kernel_rfl) (by kernel_rfl) (fun _ _ _ h => h) (Or.inl ⟨by kernel_rfl, ?_⟩) hHeld ?_
    · intro w' hSw; obtain ⟨z0, z1, z2, z3, -⟩ := (a6.below hSw).open4; go_simp
    try simp only [Act.put, List.setIfInBounds_toArray, List.set_cons_zero, List.set_cons_succ, List.getElem_toArray, List.getElem_cons_succ, List.getElem_cons_zero]
    refine wpAnyH_take (i := 25) (v := .pointer (some ⟨pa5, 3, none⟩)) rfl (by kernel_rfl) (by kernel_rfl) (by kernel_rfl) (fun _ _ _ h => h) (Or.inl ⟨by kernel_rfl, ?_⟩) hHeld ?_
    · intro w' hSw; go_simp
    try simp only [Act.put, List.setIfInBounds_toArray, List.set_cons_zero, List.set_cons_succ, List.getElem_toArray, List.getElem_cons_succ, List.getElem_cons_zero]
    refine wpAnyH_take (i := 26) (v := .int .i64 (xd)) rfl (by kernel_rfl) (by kernel_rfl) (by kernel_rfl) (fun _ _ _ h => h) (Or.inl ⟨by kernel_rfl, ?_⟩) hHeld ?_
    · intro w' hSw; obtain ⟨z0, z1, z2, z3, -⟩ := (a5.below hSw).open4; go_simp
    try simp only [Act.put, List.setIfInBounds_toArray, List.set_cons_zero, List.set_cons_succ, List.getElem_toArray, List.getElem_cons_succ, List.getElem_cons_zero]
    refine wpAnyH_take (i := 27) (v := .pointer (some ⟨pa6, 3, none⟩)) rfl (by kernel_rfl) (by kernel_rfl) (by kernel_rfl) (fun _ _ _ h => h) (Or.inl ⟨by kernel_rfl, ?_⟩) hHeld ?_
    · intro w' hSw; go_simp
    try simp only [Act.put, List.setIfInBounds_toArray, List.set_cons_zero, List.set_cons_succ, List.getElem_toArray, List.getElem_cons_succ, List.getElem_cons_zero]
    refine wpAnyH_take (i := 28) (v := .int .i64 (yd)) rfl (by kernel_rfl) (by kernel_rfl) (by kernel_rfl) (fun _ _ _ h => h) (Or.inl ⟨by kernel_rfl, ?_⟩) hHeld ?_
    · intro w' hSw; obtain ⟨z0, z1, z2, z3, -⟩ := (a6.below hSw).open4; go_simp
    try simp only [Act.put, List.setIfInBounds_toArray, List.set_cons_zero, List.set_cons_succ, List.getElem_toArray, List.getElem_cons_succ, List.getElem_cons_zero]
    refine wpAnyH_ready (rs := [4]) (by kernel_rfl) (by simp) ?_
    refine AllReadyH.cons rfl (fun KK hK' => ?_) AllReadyH.nil
    go_simp
    refine (cmp_any ym xm _).mono ?_
    rintro e u1 ⟨rfl, hh⟩
    rw [z0]
    replace bu : Kb v0 u1 := by rw [← hh]; exact bu
    clear hh
    try go_wp2_with fail
    clear hHeld
    refine hK'.out _ _ (bu) (fun hHeld => ?_)
    clear hK' KK
    try simp only [List.setIfInBounds_toArray, List.set_cons_zero, List.set_cons_succ]
    refine wpAnyH_ready (rs := [6]) (by kernel_rfl) (by simp) ?_
    refine AllReadyH.cons rfl (fun KK hK' => ?_) AllReadyH.nil
    go_simp
    refine (areaW_any ya yb yc yd _).mono ?_
    rintro e u2 ⟨rfl, bb⟩
    replace bu : Kb v0 u2 := bu.trans (bb.mono bu.size)
    clear bb
    try go_wp2_with fail
    clear hHeld
    refine hK'.out _ _ (bu) (fun hHeld => ?_)
    clear hK' KK
    try simp only [List.setIfInBounds_toArray, List.set_cons_zero, List.set_cons_succ]
    refine wpAnyH_ready (rs := [8]) (by kernel_rfl) (by simp) ?_
    refine AllReadyH.cons rfl (fun KK hK' => ?_) AllReadyH.nil
    go_simp
    refine (areaW_any xa xb xc xd _).mono ?_
    rintro e u3 ⟨rfl, bb⟩
    replace bu : Kb v0 u3 := bu.trans (bb.mono bu.size)
    clear bb
    try go_wp2_with fail
    clear hHeld
    refine hK'.out _ _ (bu) (fun hHeld => ?_)
    clear hK' KK
    try simp only [List.setIfInBounds_toArray, List.set_cons_zero, List.set_cons_succ]
    refine wpAnyH_ready (rs := [9]) (by kernel_rfl) (by simp) ?_
    refine AllReadyH.cons rfl (fun KK hK' => ?_) AllReadyH.nil
    go_simp
    refine (cmp_any (war ya yb yc yd) (war xa xb xc xd) _).mono ?_
    rintro e u4 ⟨rfl, hh⟩
    rw [z1]
    replace bu : Kb v0 u4 := by rw [← hh]; exact bu
    clear hh
    try go_wp2_with fail
    clear hHeld
    refine hK'.out _ _ (bu) (fun hHeld => ?_)
    clear hK' KK
    try simp only [List.setIfInBounds_toArray, List.set_cons_zero, List.set_cons_succ]
    refine wpAnyH_ready (rs := [14]) (by kernel_rfl) (by simp) ?_
    refine AllReadyH.cons rfl (fun KK hK' => ?_) AllReadyH.nil
    go_simp
    refine (cmp_any xa ya _).mono ?_
    rintro e u5 ⟨rfl, hh⟩
    rw [z2]
    replace bu : Kb v0 u5 := by rw [← hh]; exact bu
    clear hh
    try go_wp2_with fail
    clear hHeld
    refine hK'.out _ _ (bu) (fun hHeld => ?_)
    clear hK' KK
    try simp only [List.setIfInBounds_toArray, List.set_cons_zero, List.set_cons_succ]
    refine wpAnyH_ready (rs := [19]) (by kernel_rfl) (by simp) ?_
    refine AllReadyH.cons rfl (fun KK hK' => ?_) AllReadyH.nil
    go_simp
    refine (cmp_any xb yb _).mono ?_
    rintro e u6 ⟨rfl, hh⟩
    rw [z3]
    replace bu : Kb v0 u6 := by rw [← hh]; exact bu
    clear hh
    try go_wp2_with fail
    clear hHeld
    refine hK'.out _ _ (bu) (fun hHeld => ?_)
    clear hK' KK
    try simp only [List.setIfInBounds_toArray, List.set_cons_zero, List.set_cons_succ]
    refine wpAnyH_ready (rs := [24]) (by kernel_rfl) (by simp) ?_
    refine AllReadyH.cons rfl (fun KK hK' => ?_) AllReadyH.nil
    go_simp
    refine (cmp_any xc yc _).mono ?_
    rintro e u7 ⟨rfl, hh⟩
    rw [z4]
    replace bu : Kb v0 u7 := by rw [← hh]; exact bu
    clear hh
    try go_wp2_with fail
    clear hHeld
    refine hK'.out _ _ (bu) (fun hHeld => ?_)
    clear hK' KK
    try simp only [List.setIfInBounds_toArray, List.set_cons_zero, List.set_cons_succ]
    refine wpAnyH_ready (rs := [29]) (by kernel_rfl) (by simp) ?_
    refine AllReadyH.cons rfl (fun KK hK' => ?_) AllReadyH.nil
    go_simp
    refine (cmp_any xd yd _).mono ?_
    rintro e u8 ⟨rfl, hh⟩
    rw [z5]
    replace bu : Kb v0 u8 := by rw [← hh]; exact bu
    clear hh
    try go_wp2_with fail
    clear hHeld
    refine hK'.out _ _ (bu) (fun hHeld => ?_)
    clear hK' KK
    try simp only [List.setIfInBounds_toArray, List.set_cons_zero, List.set_cons_succ]
    refine wpAnyH_ready (rs := [30]) (by kernel_rfl) (by simp) ?_
    refine AllReadyH.cons rfl (fun KK hK' => ?_) AllReadyH.nil
    go_simp
    obtain ⟨UU, hUU, aU, bb, -⟩ := boxed u8 3 #[.int .i64 (z 0), .int .i64 (z 1), .int .i64 (z 2), .int .i64 (z 3), .int .i64 (z 4), .int .i64 (z 5)]
    rw [hUU]
    have bs : u8.heap.size < UU.heap.size := aU.lt
    replace bu : Kb v0 UU := bu.trans (bb.mono bu.size)
    clear bb hUU
    clear hHeld
    refine hK'.out _ _ (bu) (fun hHeld => ?_)
    clear hK' KK
    try simp only [List.setIfInBounds_toArray, List.set_cons_zero, List.set_cons_succ]
    refine wpAnyH_ready (rs := [31]) (by kernel_rfl) (by simp) ?_
    refine AllReadyH.cons rfl (fun KK hK' => ?_) AllReadyH.nil
    go_simp
    refine (or_any z (fun i hi => by rcases (by omega : i = 0 ∨ i = 1 ∨ i = 2 ∨ i = 3 ∨ i = 4 ∨ i = 5) with rfl | rfl | rfl | rfl | rfl | rfl; exact aU.cell 0 rfl; exact aU.cell 1 rfl; exact aU.cell 2 rfl; exact aU.cell 3 rfl; exact aU.cell 4 rfl; exact aU.cell 5 rfl) bs (by omega)).mono ?_
    rintro e u10 ⟨rfl, hh⟩
    rw [hRR]
    replace bu : Kb v0 u10 := by rw [← hh]; exact bu
    clear hh aU bs
    try go_wp2_with fail
    clear hHeld
    refine hK'.out _ _ (bu) (fun hHeld => ?_)
    clear hK' KK
    try simp only [List.setIfInBounds_toArray, List.set_cons_zero, List.set_cons_succ]
    refine wpAnyH_take (i := 32) (v := .bool D) rfl (by kernel_rfl) (by kernel_rfl) (by kernel_rfl) (fun _ _ _ h => h) (Or.inl ⟨by kernel_rfl, ?_⟩) hHeld ?_
    · intro w' hSw; go_simp
    try simp only [Act.put, List.setIfInBounds_toArray, List.set_cons_zero, List.set_cons_succ, List.getElem_toArray, List.getElem_cons_succ, List.getElem_cons_zero]
    refine wpAnyH_take (i := 33) (v := .bool D) rfl (by kernel_rfl) (by kernel_rfl) (by kernel_rfl) (fun _ _ _ h => h) (Or.inl ⟨by kernel_rfl, ?_⟩) hHeld ?_
    · intro w' hSw; go_simp
    try simp only [Act.put, List.setIfInBounds_toArray, List.set_cons_zero, List.set_cons_succ, List.getElem_toArray, List.getElem_cons_succ, List.getElem_cons_zero]
    refine wpAnyH_done (by kernel_rfl) ?_ _
    clear hHeld
    go_wp2
    go_ret
    exact ⟨by simp, bW.trans (bu.mono bW.size)⟩
  · go_simp
    obtain ⟨u1, hU, a6, bb, -⟩ := boxed u0 27 #[.int .i64 0, .int .i64 0, .int .i64 0, .int .i64 0]
    rw [hU]
    clear hU
    replace bu : Kb u0 u1 := bu.trans (bb.mono bu.size)
    have la6 : u0.heap.size < u1.heap.size := a6.lt
    obtain ⟨pa6, hpa6⟩ : ∃ p, u0.heap.size = p := ⟨_, rfl⟩
    rw [hpa6] at a6 la6 ⊢
    clear bb
    clear hHeld
    refine hK'.out _ _ (bu) (fun hHeld => ?_)
    clear hK' KK
    try simp only [List.setIfInBounds_toArray, List.set_cons_zero, List.set_cons_succ]
    refine wpAnyH_ready (rs := [4]) (by kernel_rfl) (by simp) ?_
    refine AllReadyH.cons rfl (fun KK hK' => ?_) AllReadyH.nil
    go_simp
    obtain ⟨u2, hU, a5, bb, -⟩ := boxed u1 27 #[.int .i64 0, .int .i64 0, .int .i64 0, .int .i64 0]
    rw [hU]
    clear hU
    replace bu : Kb u0 u2 := bu.trans (bb.mono bu.size)
    replace a6 := a6.below bb
    have la5 : u1.heap.size < u2.heap.size := a5.lt
    obtain ⟨pa5, hpa5⟩ : ∃ p, u1.heap.size = p := ⟨_, rfl⟩
    rw [hpa5] at a5 la5 ⊢
    clear bb
    clear hHeld
    refine hK'.out _ _ (bu) (fun hHeld => ?_)
    clear hK' KK
    try simp only [List.setIfInBounds_toArray, List.set_cons_zero, List.set_cons_succ]
    refine wpAnyH_ready (rs := [6]) (by kernel_rfl) (by simp) ?_
    refine AllReadyH.cons rfl (fun KK hK' => ?_) AllReadyH.nil
    obtain ⟨y0, y1, y2, y3, k0, k1, k2, k3⟩ := a5.open4
    go_simp
    obtain ⟨u3, hU, a9, b9, o9, s9⟩ : ∃ U, ((((u2).setCell ⟨pa5, 0, none⟩ (.int .i64 xa)).setCell ⟨pa5, 1, none⟩ (.int .i64 xb)).setCell ⟨pa5, 2, none⟩ (.int .i64 xc)).setCell ⟨pa5, 3, none⟩ (.int .i64 xd) = U ∧ At 27 U pa5 #[.int .i64 xa, .int .i64 xb, .int .i64 xc, .int .i64 xd] ∧ Kb u0 U ∧ At 27 U pa6 #[.int .i64 0, .int .i64 0, .int .i64 0, .int .i64 0] ∧ u2.heap.size ≤ U.heap.size := ⟨_, rfl, by simpa using ((((a5).set 0 (.int .i64 xa)).set 1 (.int .i64 xb)).set 2 (.int .i64 xc)).set 3 (.int .i64 xd), ((((bu.setCell (p := ⟨pa5, 0, none⟩) (by show u0.heap.size ≤ pa5; omega) _).setCell (p := ⟨pa5, 1, none⟩) (by show u0.heap.size ≤ pa5; omega) _).setCell (p := ⟨pa5, 2, none⟩) (by show u0.heap.size ≤ pa5; omega) _).setCell (p := ⟨pa5, 3, none⟩) (by show u0.heap.size ≤ pa5; omega) _), ((((a6.setOther (by omega) _).setOther (by omega) _).setOther (by omega) _).setOther (by omega) _), by simp [World.setCell]⟩
    rw [hU]
    clear hU a5 a6 bu y0 y1 y2 y3 k0 k1 k2 k3
    have a5 := a9
    have a6 := o9
    have bu := b9
    clear a9 o9 b9 s9
    clear hHeld
    refine hK'.out _ _ (bu) (fun hHeld => ?_)
    clear hK' KK
    try simp only [List.setIfInBounds_toArray, List.set_cons_zero, List.set_cons_succ]
    refine wpAnyH_ready (rs := [7]) (by kernel_rfl) (by simp) ?_
    refine AllReadyH.cons rfl (fun KK hK' => ?_) AllReadyH.nil
    obtain ⟨y0, y1, y2, y3, k0, k1, k2, k3⟩ := a6.open4
    go_simp
    obtain ⟨u4, hU, a9, b9, o9, s9⟩ : ∃ U, ((((u3).setCell ⟨pa6, 0, none⟩ (.int .i64 ya)).setCell ⟨pa6, 1, none⟩ (.int .i64 yb)).setCell ⟨pa6, 2, none⟩ (.int .i64 yc)).setCell ⟨pa6, 3, none⟩ (.int .i64 yd) = U ∧ At 27 U pa6 #[.int .i64 ya, .int .i64 yb, .int .i64 yc, .int .i64 yd] ∧ Kb u0 U ∧ At 27 U pa5 #[.int .i64 xa, .int .i64 xb, .int .i64 xc, .int .i64 xd] ∧ u3.heap.size ≤ U.heap.size := ⟨_, rfl, by simpa using ((((a6).set 0 (.int .i64 ya)).set 1 (.int .i64 yb)).set 2 (.int .i64 yc)).set 3 (.int .i64 yd), ((((bu.setCell (p := ⟨pa6, 0, none⟩) (by show u0.heap.size ≤ pa6; omega) _).setCell (p := ⟨pa6, 1, none⟩) (by show u0.heap.size ≤ pa6; omega) _).setCell (p := ⟨pa6, 2, none⟩) (by show u0.heap.size ≤ pa6; omega) _).setCell (p := ⟨pa6, 3, none⟩) (by show u0.heap.size ≤ pa6; omega) _), ((((a5.setOther (by omega) _).setOther (by omega) _).setOther (by omega) _).setOther (by omega) _), by simp [World.setCell]⟩
    rw [hU]
    clear hU a6 a5 bu y0 y1 y2 y3 k0 k1 k2 k3
    have a6 := a9
    have a5 := o9
    have bu := b9
    clear a9 o9 b9 s9
    clear hHeld
    refine hK'.out _ _ (bu) (fun hHeld => ?_)
    clear hK' KK
    try simp only [List.setIfInBounds_toArray, List.set_cons_zero, List.set_cons_succ]
    refine wpAnyH_done (by kernel_rfl) ?_ _
    clear hHeld
    replace b0 := b0.below bu
    replace b1 := b1.below bu
    replace bW := bW.trans (bu.mono bW.size)
    clear bu
    go_upto_region 2 with (fail)
    obtain ⟨v0, hu0, bb⟩ : ∃ uu, u4.drew = uu ∧ Below u4.heap.size u4 uu := ⟨_, rfl, (Below.refl _ _).drew⟩
    replace b0 := b0.below bb
    replace b1 := b1.below bb
    replace a5 := a5.below bb
    replace a6 := a6.below bb
    replace bW := bW.trans (bb.mono bW.size)
    clear bb
    refine wp_region_held_drew (S := Kb v0) (by kernel_rfl) (by rw [hu0]; exact Below.refl _ _) (fun hHeld => ?_)
    rw [hu0] at hHeld ⊢
    clear hu0
    have bu : Kb v0 v0 := Below.refl _ _
    change wpAnyH _ _ _ _ _ 34 #[false, false, false, false, false, false, false, false, false, false, false, false, false, false, false, false, false, false, false, false, false, false, false, false, false, false, false, false, false, false, false, false, false, false] _ _
    refine wpAnyH_take (i := 0) (v := .pointer (some ⟨q2, 4, none⟩)) rfl (by kernel_rfl) (by kernel_rfl) (by kernel_rfl) (fun _ _ _ h => h) (Or.inl ⟨by kernel_rfl, ?_⟩) hHeld ?_
    · intro w' hSw; go_simp
    try simp only [Act.put, List.setIfInBounds_toArray, List.set_cons_zero, List.set_cons_succ, List.getElem_toArray, List.getElem_cons_zero]
    refine wpAnyH_take (i := 1) (v := .int .i64 (ym)) rfl (by kernel_rfl) (by kernel_rfl) (by kernel_rfl) (fun _ _ _ h => h) (Or.inl ⟨by kernel_rfl, ?_⟩) hHeld ?_
    · intro w' hSw; obtain ⟨z0, z1, z2, z3, z4, -⟩ := (b1.below hSw).open5; go_simp
    try simp only [Act.put, List.setIfInBounds_toArray, List.set_cons_zero, List.set_cons_succ, List.getElem_toArray, List.getElem_cons_succ, List.getElem_cons_zero]
    refine wpAnyH_take (i := 2) (v := .pointer (some ⟨q1, 4, none⟩)) rfl (by kernel_rfl) (by kernel_rfl) (by kernel_rfl) (fun _ _ _ h => h) (Or.inl ⟨by kernel_rfl, ?_⟩) hHeld ?_
    · intro w' hSw; go_simp
    try simp only [Act.put, List.setIfInBounds_toArray, List.set_cons_zero, List.set_cons_succ, List.getElem_toArray, List.getElem_cons_succ, List.getElem_cons_zero]
    refine wpAnyH_take (i := 3) (v := .int .i64 (xm)) rfl (by kernel_rfl) (by kernel_rfl) (by kernel_rfl) (fun _ _ _ h => h) (Or.inl ⟨by kernel_rfl, ?_⟩) hHeld ?_
    · intro w' hSw; obtain ⟨z0, z1, z2, z3, z4, -⟩ := (b0.below hSw).open5; go_simp
    try simp only [Act.put, List.setIfInBounds_toArray, List.set_cons_zero, List.set_cons_succ, List.getElem_toArray, List.getElem_cons_succ, List.getElem_cons_zero]
    refine wpAnyH_take (i := 5) (v := .agg #[.int .i64 (ya), .int .i64 (yb), .int .i64 (yc), .int .i64 (yd)]) rfl (by kernel_rfl) (by kernel_rfl) (by kernel_rfl) (fun _ _ _ h => h) (Or.inl ⟨by kernel_rfl, ?_⟩) hHeld ?_
    · intro w' hSw; obtain ⟨z0, z1, z2, z3, -⟩ := (a6.below hSw).open4; go_simp
    try simp only [Act.put, List.setIfInBounds_toArray, List.set_cons_zero, List.set_cons_succ, List.getElem_toArray, List.getElem_cons_succ, List.getElem_cons_zero]
    refine wpAnyH_take (i := 7) (v := .agg #[.int .i64 (xa), .int .i64 (xb), .int .i64 (xc), .int .i64 (xd)]) rfl (by kernel_rfl) (by kernel_rfl) (by kernel_rfl) (fun _ _ _ h => h) (Or.inl ⟨by kernel_rfl, ?_⟩) hHeld ?_
    · intro w' hSw; obtain ⟨z0, z1, z2, z3, -⟩ := (a5.below hSw).open4; go_simp
    try simp only [Act.put, List.setIfInBounds_toArray, List.set_cons_zero, List.set_cons_succ, List.getElem_toArray, List.getElem_cons_succ, List.getElem_cons_zero]
    refine wpAnyH_take (i := 10) (v := .pointer (some ⟨pa5, 0, none⟩)) rfl (by kernel_rfl) (by kernel_rfl) (by kernel_rfl) (fun _ _ _ h => h) (Or.inl ⟨by kernel_rfl, ?_⟩) hHeld ?_
    · intro w' hSw; go_simp
    try simp only [Act.put, List.setIfInBounds_toArray, List.set_cons_zero, List.set_cons_succ, List.getElem_toArray, List.getElem_cons_succ, List.getElem_cons_zero]
    refine wpAnyH_take (i := 11) (v := .int .i64 (xa)) rfl (by kernel_rfl) (by kernel_rfl) (by kernel_rfl) (fun _ _ _ h => h) (Or.inl ⟨by kernel_rfl, ?_⟩) hHeld ?_
    · intro w' hSw; obtain ⟨z0, z1, z2, z3, -⟩ := (a5.below hSw).open4; go_simp
    try simp only [Act.put, List.setIfInBounds_toArray, List.set_cons_zero, List.set_cons_succ, List.getElem_toArray, List.getElem_cons_succ, List.getElem_cons_zero]
    refine wpAnyH_take (i := 12) (v := .pointer (some ⟨pa6, 0, none⟩)) rfl (by kernel_rfl) (by kernel_rfl) (by kernel_rfl) (fun _ _ _ h => h) (Or.inl ⟨by kernel_rfl, ?_⟩) hHeld ?_
    · intro w' hSw; go_simp
    try simp only [Act.put, List.setIfInBounds_toArray, List.set_cons_zero, List.set_cons_succ, List.getElem_toArray, List.getElem_cons_succ, List.getElem_cons_zero]
    refine wpAnyH_take (i := 13) (v := .int .i64 (ya)) rfl (by kernel_rfl) (by kernel_rfl) (by kernel_rfl) (fun _ _ _ h => h) (Or.inl ⟨by kernel_rfl, ?_⟩) hHeld ?_
    · intro w' hSw; obtain ⟨z0, z1, z2, z3, -⟩ := (a6.below hSw).open4; go_simp
    try simp only [Act.put, List.setIfInBounds_toArray, List.set_cons_zero, List.set_cons_succ, List.getElem_toArray, List.getElem_cons_succ, List.getElem_cons_zero]
    refine wpAnyH_take (i := 15) (v := .pointer (some ⟨pa5, 1, none⟩)) rfl (by kernel_rfl) (by kernel_rfl) (by kernel_rfl) (fun _ _ _ h => h) (Or.inl ⟨by kernel_rfl, ?_⟩) hHeld ?_
    · intro w' hSw; go_simp
    try simp only [Act.put, List.setIfInBounds_toArray, List.set_cons_zero, List.set_cons_succ, List.getElem_toArray, List.getElem_cons_succ, List.getElem_cons_zero]
    refine wpAnyH_take (i := 16) (v := .int .i64 (xb)) rfl (by kernel_rfl) (by kernel_rfl) (by kernel_rfl) (fun _ _ _ h => h) (Or.inl ⟨by kernel_rfl, ?_⟩) hHeld ?_
    · intro w' hSw; obtain ⟨z0, z1, z2, z3, -⟩ := (a5.below hSw).open4; go_simp
    try simp only [Act.put, List.setIfInBounds_toArray, List.set_cons_zero, List.set_cons_succ, List.getElem_toArray, List.getElem_cons_succ, List.getElem_cons_zero]
    refine wpAnyH_take (i := 17) (v := .pointer (some ⟨pa6, 1, none⟩)) rfl (by kernel_rfl) (by kernel_rfl) (by kernel_rfl) (fun _ _ _ h => h) (Or.inl ⟨by kernel_rfl, ?_⟩) hHeld ?_
    · intro w' hSw; go_simp
    try simp only [Act.put, List.setIfInBounds_toArray, List.set_cons_zero, List.set_cons_succ, List.getElem_toArray, List.getElem_cons_succ, List.getElem_cons_zero]
    refine wpAnyH_take (i := 18) (v := .int .i64 (yb)) rfl (by kernel_rfl) (by kernel_rfl) (by kernel_rfl) (fun _ _ _ h => h) (Or.inl ⟨by kernel_rfl, ?_⟩) hHeld ?_
    · intro w' hSw; obtain ⟨z0, z1, z2, z3, -⟩ := (a6.below hSw).open4; go_simp
    try simp only [Act.put, List.setIfInBounds_toArray, List.set_cons_zero, List.set_cons_succ, List.getElem_toArray, List.getElem_cons_succ, List.getElem_cons_zero]
    refine wpAnyH_take (i := 20) (v := .pointer (some ⟨pa5, 2, none⟩)) rfl (by kernel_rfl) (by kernel_rfl) (by kernel_rfl) (fun _ _ _ h => h) (Or.inl ⟨by kernel_rfl, ?_⟩) hHeld ?_
    · intro w' hSw; go_simp
    try simp only [Act.put, List.setIfInBounds_toArray, List.set_cons_zero, List.set_cons_succ, List.getElem_toArray, List.getElem_cons_succ, List.getElem_cons_zero]
    refine wpAnyH_take (i := 21) (v := .int .i64 (xc)) rfl (by kernel_rfl) (by kernel_rfl) (by kernel_rfl) (fun _ _ _ h => h) (Or.inl ⟨by kernel_rfl, ?_⟩) hHeld ?_
    · intro w' hSw; obtain ⟨z0, z1, z2, z3, -⟩ := (a5.below hSw).open4; go_simp
    try simp only [Act.put, List.setIfInBounds_toArray, List.set_cons_zero, List.set_cons_succ, List.getElem_toArray, List.getElem_cons_succ, List.getElem_cons_zero]
    refine wpAnyH_take (i := 22) (v := .pointer (some ⟨pa6, 2, none⟩)) rfl (by kernel_rfl) (by kernel_rfl) (by kernel_rfl) (fun _ _ _ h => h) (Or.inl ⟨by kernel_rfl, ?_⟩) hHeld ?_
    · intro w' hSw; go_simp
    try simp only [Act.put, List.setIfInBounds_toArray, List.set_cons_zero, List.set_cons_succ, List.getElem_toArray, List.getElem_cons_succ, List.getElem_cons_zero]
    refine wpAnyH_take (i := 23) (v := .int .i64 (yc)) rfl (by kernel_rfl) (by kernel_rfl) (by kernel_rfl) (fun _ _ _ h => h) (Or.inl ⟨by kernel_rfl, ?_⟩) hHeld ?_
    · intro w' hSw; obtain ⟨z0, z1, z2, z3, -⟩ := (a6.below hSw).open4; go_simp
    try simp only [Act.put, List.setIfInBounds_toArray, List.set_cons_zero, List.set_cons_succ, List.getElem_toArray, List.getElem_cons_succ, List.getElem_cons_zero]
    refine wpAnyH_take (i := 25) (v := .pointer (some ⟨pa5, 3, none⟩)) rfl (by kernel_rfl) (by kernel_rfl) (by kernel_rfl) (fun _ _ _ h => h) (Or.inl ⟨by kernel_rfl, ?_⟩) hHeld ?_
    · intro w' hSw; go_simp
    try simp only [Act.put, List.setIfInBounds_toArray, List.set_cons_zero, List.set_cons_succ, List.getElem_toArray, List.getElem_cons_succ, List.getElem_cons_zero]
    refine wpAnyH_take (i := 26) (v := .int .i64 (xd)) rfl (by kernel_rfl) (by kernel_rfl) (by kernel_rfl) (fun _ _ _ h => h) (Or.inl ⟨by kernel_rfl, ?_⟩) hHeld ?_
    · intro w' hSw; obtain ⟨z0, z1, z2, z3, -⟩ := (a5.below hSw).open4; go_simp
    try simp only [Act.put, List.setIfInBounds_toArray, List.set_cons_zero, List.set_cons_succ, List.getElem_toArray, List.getElem_cons_succ, List.getElem_cons_zero]
    refine wpAnyH_take (i := 27) (v := .pointer (some ⟨pa6, 3, none⟩)) rfl (by kernel_rfl) (by kernel_rfl) (by kernel_rfl) (fun _ _ _ h => h) (Or.inl ⟨by kernel_rfl, ?_⟩) hHeld ?_
    · intro w' hSw; go_simp
    try simp only [Act.put, List.setIfInBounds_toArray, List.set_cons_zero, List.set_cons_succ, List.getElem_toArray, List.getElem_cons_succ, List.getElem_cons_zero]
    refine wpAnyH_take (i := 28) (v := .int .i64 (yd)) rfl (by kernel_rfl) (by kernel_rfl) (by kernel_rfl) (fun _ _ _ h => h) (Or.inl ⟨by kernel_rfl, ?_⟩) hHeld ?_
    · intro w' hSw; obtain ⟨z0, z1, z2, z3, -⟩ := (a6.below hSw).open4; go_simp
    try simp only [Act.put, List.setIfInBounds_toArray, List.set_cons_zero, List.set_cons_succ, List.getElem_toArray, List.getElem_cons_succ, List.getElem_cons_zero]
    refine wpAnyH_ready (rs := [4]) (by kernel_rfl) (by simp) ?_
    refine AllReadyH.cons rfl (fun KK hK' => ?_) AllReadyH.nil
    go_simp
    refine (cmp_any ym xm _).mono ?_
    rintro e u1 ⟨rfl, hh⟩
    rw [z0]
    replace bu : Kb v0 u1 := by rw [← hh]; exact bu
    clear hh
    try go_wp2_with fail
    clear hHeld
    refine hK'.out _ _ (bu) (fun hHeld => ?_)
    clear hK' KK
    try simp only [List.setIfInBounds_toArray, List.set_cons_zero, List.set_cons_succ]
    refine wpAnyH_ready (rs := [6]) (by kernel_rfl) (by simp) ?_
    refine AllReadyH.cons rfl (fun KK hK' => ?_) AllReadyH.nil
    go_simp
    refine (areaW_any ya yb yc yd _).mono ?_
    rintro e u2 ⟨rfl, bb⟩
    replace bu : Kb v0 u2 := bu.trans (bb.mono bu.size)
    clear bb
    try go_wp2_with fail
    clear hHeld
    refine hK'.out _ _ (bu) (fun hHeld => ?_)
    clear hK' KK
    try simp only [List.setIfInBounds_toArray, List.set_cons_zero, List.set_cons_succ]
    refine wpAnyH_ready (rs := [8]) (by kernel_rfl) (by simp) ?_
    refine AllReadyH.cons rfl (fun KK hK' => ?_) AllReadyH.nil
    go_simp
    refine (areaW_any xa xb xc xd _).mono ?_
    rintro e u3 ⟨rfl, bb⟩
    replace bu : Kb v0 u3 := bu.trans (bb.mono bu.size)
    clear bb
    try go_wp2_with fail
    clear hHeld
    refine hK'.out _ _ (bu) (fun hHeld => ?_)
    clear hK' KK
    try simp only [List.setIfInBounds_toArray, List.set_cons_zero, List.set_cons_succ]
    refine wpAnyH_ready (rs := [9]) (by kernel_rfl) (by simp) ?_
    refine AllReadyH.cons rfl (fun KK hK' => ?_) AllReadyH.nil
    go_simp
    refine (cmp_any (war ya yb yc yd) (war xa xb xc xd) _).mono ?_
    rintro e u4 ⟨rfl, hh⟩
    rw [z1]
    replace bu : Kb v0 u4 := by rw [← hh]; exact bu
    clear hh
    try go_wp2_with fail
    clear hHeld
    refine hK'.out _ _ (bu) (fun hHeld => ?_)
    clear hK' KK
    try simp only [List.setIfInBounds_toArray, List.set_cons_zero, List.set_cons_succ]
    refine wpAnyH_ready (rs := [14]) (by kernel_rfl) (by simp) ?_
    refine AllReadyH.cons rfl (fun KK hK' => ?_) AllReadyH.nil
    go_simp
    refine (cmp_any xa ya _).mono ?_
    rintro e u5 ⟨rfl, hh⟩
    rw [z2]
    replace bu : Kb v0 u5 := by rw [← hh]; exact bu
    clear hh
    try go_wp2_with fail
    clear hHeld
    refine hK'.out _ _ (bu) (fun hHeld => ?_)
    clear hK' KK
    try simp only [List.setIfInBounds_toArray, List.set_cons_zero, List.set_cons_succ]
    refine wpAnyH_ready (rs := [19]) (by kernel_rfl) (by simp) ?_
    refine AllReadyH.cons rfl (fun KK hK' => ?_) AllReadyH.nil
    go_simp
    refine (cmp_any xb yb _).mono ?_
    rintro e u6 ⟨rfl, hh⟩
    rw [z3]
    replace bu : Kb v0 u6 := by rw [← hh]; exact bu
    clear hh
    try go_wp2_with fail
    clear hHeld
    refine hK'.out _ _ (bu) (fun hHeld => ?_)
    clear hK' KK
    try simp only [List.setIfInBounds_toArray, List.set_cons_zero, List.set_cons_succ]
    refine wpAnyH_ready (rs := [24]) (by kernel_rfl) (by simp) ?_
    refine AllReadyH.cons rfl (fun KK hK' => ?_) AllReadyH.nil
    go_simp
    refine (cmp_any xc yc _).mono ?_
    rintro e u7 ⟨rfl, hh⟩
    rw [z4]
    replace bu : Kb v0 u7 := by rw [← hh]; exact bu
    clear hh
    try go_wp2_with fail
    clear hHeld
    refine hK'.out _ _ (bu) (fun hHeld => ?_)
    clear hK' KK
    try simp only [List.setIfInBounds_toArray, List.set_cons_zero, List.set_cons_succ]
    refine wpAnyH_ready (rs := [29]) (by kernel_rfl) (by simp) ?_
    refine AllReadyH.cons rfl (fun KK hK' => ?_) AllReadyH.nil
    go_simp
    refine (cmp_any xd yd _).mono ?_
    rintro e u8 ⟨rfl, hh⟩
    rw [z5]
    replace bu : Kb v0 u8 := by rw [← hh]; exact bu
    clear hh
    try go_wp2_with fail
    clear hHeld
    refine hK'.out _ _ (bu) (fun hHeld => ?_)
    clear hK' KK
    try simp only [List.setIfInBounds_toArray, List.set_cons_zero, List.set_cons_succ]
    refine wpAnyH_ready (rs := [30]) (by kernel_rfl) (by simp) ?_
    refine AllReadyH.cons rfl (fun KK hK' => ?_) AllReadyH.nil
    go_simp
    obtain ⟨UU, hUU, aU, bb, -⟩ := boxed u8 3 #[.int .i64 (z 0), .int .i64 (z 1), .int .i64 (z 2), .int .i64 (z 3), .int .i64 (z 4), .int .i64 (z 5)]
    rw [hUU]
    have bs : u8.heap.size < UU.heap.size := aU.lt
    replace bu : Kb v0 UU := bu.trans (bb.mono bu.size)
    clear bb hUU
    clear hHeld
    refine hK'.out _ _ (bu) (fun hHeld => ?_)
    clear hK' KK
    try simp only [List.setIfInBounds_toArray, List.set_cons_zero, List.set_cons_succ]
    refine wpAnyH_ready (rs := [31]) (by kernel_rfl) (by simp) ?_
    refine AllReadyH.cons rfl (fun KK hK' => ?_) AllReadyH.nil
    go_simp
    refine (or_any z (fun i hi => by rcases (by omega : i = 0 ∨ i = 1 ∨ i = 2 ∨ i = 3 ∨ i = 4 ∨ i = 5) with rfl | rfl | rfl | rfl | rfl | rfl; exact aU.cell 0 rfl; exact aU.cell 1 rfl; exact aU.cell 2 rfl; exact aU.cell 3 rfl; exact aU.cell 4 rfl; exact aU.cell 5 rfl) bs (by omega)).mono ?_
    rintro e u10 ⟨rfl, hh⟩
    rw [hRR]
    replace bu : Kb v0 u10 := by rw [← hh]; exact bu
    clear hh aU bs
    try go_wp2_with fail
    clear hHeld
    refine hK'.out _ _ (bu) (fun hHeld => ?_)
    clear hK' KK
    try simp only [List.setIfInBounds_toArray, List.set_cons_zero, List.set_cons_succ]
    refine wpAnyH_take (i := 32) (v := .bool D) rfl (by kernel_rfl) (by kernel_rfl) (by kernel_rfl) (fun _ _ _ h => h) (Or.inl ⟨by kernel_rfl, ?_⟩) hHeld ?_
    · intro w' hSw; go_simp
    try simp only [Act.put, List.setIfInBounds_toArray, List.set_cons_zero, List.set_cons_succ, List.getElem_toArray, List.getElem_cons_succ, List.getElem_cons_zero]
    refine wpAnyH_take (i := 33) (v := .bool D) rfl (by kernel_rfl) (by kernel_rfl) (by kernel_rfl) (fun _ _ _ h => h) (Or.inl ⟨by kernel_rfl, ?_⟩) hHeld ?_
    · intro w' hSw; go_simp
    try simp only [Act.put, List.setIfInBounds_toArray, List.set_cons_zero, List.set_cons_succ, List.getElem_toArray, List.getElem_cons_succ, List.getElem_cons_zero]
    refine wpAnyH_done (by kernel_rfl) ?_ _
    clear hHeld
    go_wp2
    go_ret
    exact ⟨by simp, bW.trans (bu.mono bW.size)⟩
end Go.Proofs.Ytjlmiadmobbibaa
