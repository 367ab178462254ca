/-
  Covered, by the program: walked.
-/
import Derived.Test.YtealbihplfpgeaaFd
namespace Go.Proofs.Ytealbihplfpgeaa
open Go.RowKit

theorem put3_at {t : TypeId} {w : World} {q : Nat} {u0 u1 u2 : Value} (h : At t w q #[u0, u1, u2]) (v0 v1 v2 : Value) : At t (((w.setCell ⟨q, 0, none⟩ v0).setCell ⟨q, 1, none⟩ v1).setCell ⟨q, 2, none⟩ v2) q #[v0, v1, v2] := by
  have := ((h.set 0 v0).set 1 v1).set 2 v2
  simpa using this
theorem At.set3Other {t : TypeId} {w : World} {q p : Nat} {vs : Array Value} (h : At t w q vs) (hq : q ≠ p) (v0 v1 v2 : Value) : At t (((w.setCell ⟨p, 0, none⟩ v0).setCell ⟨p, 1, none⟩ v1).setCell ⟨p, 2, none⟩ v2) q vs := ((h.setOther hq v0).setOther hq v1).setOther hq v2
theorem below_put3 {N q : Nat} {w w2 : World} (h : Below N w w2) (hq : N ≤ q) (v0 v1 v2 : Value) : Below N w (((w2.setCell ⟨q, 0, none⟩ v0).setCell ⟨q, 1, none⟩ v1).setCell ⟨q, 2, none⟩ v2) := ((h.setCell hq v0).setCell hq v1).setCell hq v2
/-- Kept by two, as their turn is above 0. -/
def core (c p q g h f : Int) : Prop := 0 < c ∧ 0 ≤ p ∧ 0 ≤ q ∧ p * g + q * h ≤ c * f
/-- Facet x is kept by y and z. -/
def Cv (x0 x1 x2 y0 y1 y2 z0 z1 z2 : Int) : Prop := (cr y0 y1 z0 z1 < 0 → core (-cr y0 y1 z0 z1) (-cr x0 x1 z0 z1) (-cr y0 y1 x0 x1) y2 z2 x2) ∧ (¬ cr y0 y1 z0 z1 < 0 → core (cr y0 y1 z0 z1) (cr x0 x1 z0 z1) (cr y0 y1 x0 x1) y2 z2 x2)
theorem cr_flip (a b c d : Int) : cr a b c d = -cr c d a b := by unfold cr; rw [Int.mul_comm a d, Int.mul_comm b c]; omega
theorem cr_in {a b c d : Int} (ha : -50 ≤ a ∧ a ≤ 50) (hb : -50 ≤ b ∧ b ≤ 50) (hc : -50 ≤ c ∧ c ≤ 50) (hd : -50 ≤ d ∧ d ≤ 50) : -5000 ≤ cr a b c d ∧ cr a b c d ≤ 5000 := by
  have m1 := mul_bound ha hd
  have m2 := mul_bound hb hc
  unfold cr
  omega
theorem cv_neg {x0 x1 x2 y0 y1 y2 z0 z1 z2 : Int} {b : Bool} (h : Tells b (Cv x0 x1 x2 y0 y1 y2 z0 z1 z2)) (hc : cr y0 y1 z0 z1 < 0) : Tells b (core (cr z0 z1 y0 y1) (cr x0 x1 y0 y1) (cr z0 z1 x0 x1) z2 y2 x2) := by
  have e : Cv x0 x1 x2 y0 y1 y2 z0 z1 z2 ↔ core (cr z0 z1 y0 y1) (cr x0 x1 y0 y1) (cr z0 z1 x0 x1) z2 y2 x2 := by
    rw [cr_flip z0 z1 y0 y1, cr_flip x0 x1 y0 y1, cr_flip z0 z1 x0 x1]
    constructor
    · intro h
      obtain ⟨h1, h2, h3, h4⟩ := h.1 hc
      exact ⟨h1, h3, h2, by rw [Int.add_comm]; exact h4⟩
    · rintro ⟨h1, h2, h3, h4⟩
      exact ⟨fun _ => ⟨h1, h3, h2, by rw [Int.add_comm]; exact h4⟩, fun h => absurd hc h⟩
  exact h.trans e
theorem cv_pos {x0 x1 x2 y0 y1 y2 z0 z1 z2 : Int} {b : Bool} (h : Tells b (Cv x0 x1 x2 y0 y1 y2 z0 z1 z2)) (hc : ¬ cr y0 y1 z0 z1 < 0) : Tells b (core (cr y0 y1 z0 z1) (cr x0 x1 z0 z1) (cr y0 y1 x0 x1) y2 z2 x2) :=
  h.trans ⟨fun h => h.2 hc, fun h => ⟨fun h' => absurd h' hc, fun _ => h⟩⟩
theorem core_yes {c p q g h f : Int} {b : Bool} (t : Tells b (core c p q g h f)) (h1 : 0 < c) (h2 : 0 ≤ p) (h3 : 0 ≤ q) : b = decide (p * g + q * h ≤ c * f) := by
  rw [Bool.eq_iff_iff]
  simp only [decide_eq_true_eq]
  exact t.trans ⟨fun h => h.2.2.2, fun h => ⟨h1, h2, h3, h⟩⟩
theorem core_no {c p q g h f : Int} {b : Bool} (t : Tells b (core c p q g h f)) (h1 : ¬ (0 < c ∧ 0 ≤ p ∧ 0 ≤ q)) : b = false := by
  rw [Bool.eq_false_iff]
  intro e
  have := t.1 e
  exact h1 ⟨this.1, this.2.1, this.2.2.1⟩
set_option maxHeartbeats 4000000 in
theorem kept_any {w : World} (x0 x1 x2 y0 y1 y2 z0 z1 z2 : Int) (b : Bool) (hb : Tells b (Cv x0 x1 x2 y0 y1 y2 z0 z1 z2)) (hx0 : -50 ≤ x0 ∧ x0 ≤ 50) (hx1 : -50 ≤ x1 ∧ x1 ≤ 50) (hy0 : -50 ≤ y0 ∧ y0 ≤ 50) (hy1 : -50 ≤ y1 ∧ y1 ≤ 50) (hz0 : -50 ≤ z0 ∧ z0 ≤ 50) (hz1 : -50 ≤ z1 ∧ z1 ≤ 50) (hx2 : -1000 ≤ x2 ∧ x2 ≤ 1000) (hy2 : -1000 ≤ y2 ∧ y2 ≤ 1000) (hz2 : -1000 ≤ z2 ∧ z2 ≤ 1000) :
    Calls Try.prog 43 #[fV x0 x1 x2, fV y0 y1 y2, fV z0 z1 z2] w fun e w' => e = .returned (.bool b) ∧ Below w.heap.size w w' := by
  obtain ⟨W, hW, a0, a1, a2, bW, -⟩ := boxed3 w 35 35 35 #[.int .i64 x0, .int .i64 x1, .int .i64 x2] #[.int .i64 y0, .int .i64 y1, .int .i64 y2] #[.int .i64 z0, .int .i64 z1, .int .i64 z2]
  obtain ⟨c0, c1, c2, -⟩ := a0.open3
  obtain ⟨d0, d1, d2, -⟩ := a1.open3
  obtain ⟨e0, e1, e2, -⟩ := a2.open3
  go_enter Try.func43, Try.ntmps43
  go_wp2_with fail
  refine (turnTo_any _ _ _ _ _ _ _ hy0 hy1 hz0 hz1).mono ?_
  rintro e w1 ⟨rfl, b1⟩
  have A0 := a0.below b1
  have A1 := a1.below b1
  have A2 := a2.below b1
  have B := bW.trans (b1.mono bW.size)
  clear c0 c1 c2 d0 d1 d2 e0 e1 e2 hW a0 a1 a2 b1 bW
  by_cases hc : cr y0 y1 z0 z1 < 0
  · have hT := cv_neg hb hc
    clear hb
    obtain ⟨c0, c1, c2, c3, c4, c5⟩ := A0.open3
    obtain ⟨d0, d1, d2, d3, d4, d5⟩ := A1.open3
    obtain ⟨e0, e1, e2, e3, e4, e5⟩ := A2.open3
    go_wp2_with fail
    clear c0 c1 c2 c3 c4 c5 d0 d1 d2 d3 d4 d5 e0 e1 e2 e3 e4 e5
    generalize hV : World.setCell _ _ _ = V
    replace B : Below w.heap.size w V := by rw [← hV]; exact below_put3 (below_put3 B (by omega) _ _ _) (by omega) _ _ _
    replace A0 : At 35 V w.heap.size #[.int .i64 x0, .int .i64 x1, .int .i64 x2] := by rw [← hV]; exact (A0.set3Other (by omega) _ _ _).set3Other (by omega) _ _ _
    have A1' : At 35 V (w.heap.size + 1) #[.int .i64 z0, .int .i64 z1, .int .i64 z2] := by rw [← hV]; exact (put3_at A1 _ _ _).set3Other (by omega) _ _ _
    have A2' : At 35 V (w.heap.size + 2) #[.int .i64 y0, .int .i64 y1, .int .i64 y2] := by rw [← hV]; exact put3_at (A2.set3Other (by omega) _ _ _) _ _ _
    clear A1 A2 hV hc
    obtain ⟨A1, A2⟩ := And.intro A1' A2'
    clear A1' A2'
    have hcc := cr_in hz0 hz1 hy0 hy1
    have hp := cr_in hx0 hx1 hy0 hy1
    have hq := cr_in hz0 hz1 hx0 hx1
    obtain ⟨c, hC⟩ : ∃ c, cr z0 z1 y0 y1 = c := ⟨_, rfl⟩
    obtain ⟨p, hP⟩ : ∃ p, cr x0 x1 y0 y1 = p := ⟨_, rfl⟩
    obtain ⟨q, hQ⟩ : ∃ q, cr z0 z1 x0 x1 = q := ⟨_, rfl⟩
    rw [hC, hP, hQ] at hT
    rw [hC] at hcc
    rw [hP] at hp
    rw [hQ] at hq
    obtain ⟨u0, hu0, bb⟩ : ∃ uu, V.drew = uu ∧ Below V.heap.size V uu := ⟨_, rfl, (Below.refl _ _).drew⟩
    replace A0 := A0.below bb
    replace A1 := A1.below bb
    replace A2 := A2.below bb
    replace B := B.trans (bb.mono B.size)
    clear bb
    refine wp_region_held_drew (S := Kb u0) (by kernel_rfl) (by rw [hu0]; exact Below.refl _ _) (fun hHeld => ?_)
    rw [hu0] at hHeld ⊢
    clear hu0
    have bu : Kb u0 u0 := Below.refl _ _
    change wpAnyH _ _ _ _ _ 12 #[false, false, false, false, false, false, false, false, false, false, false, false] _ _
    refine wpAnyH_take (i := 0) (v := fV z0 z1 z2) rfl (by kernel_rfl) (by kernel_rfl) (by kernel_rfl) (fun _ _ _ h => h) (Or.inl ⟨by kernel_rfl, ?_⟩) hHeld ?_
    · intro w' hSw; obtain ⟨z0', z1', z2', -⟩ := (A1.below hSw).open3; go_simp
    try simp only [Act.put, List.setIfInBounds_toArray, List.set_cons_zero, List.set_cons_succ, List.getElem_toArray, List.getElem_cons_zero]
    refine wpAnyH_take (i := 1) (v := fV y0 y1 y2) rfl (by kernel_rfl) (by kernel_rfl) (by kernel_rfl) (fun _ _ _ h => h) (Or.inl ⟨by kernel_rfl, ?_⟩) hHeld ?_
    · intro w' hSw; obtain ⟨z0', z1', z2', -⟩ := (A2.below hSw).open3; go_simp
    try simp only [Act.put, List.setIfInBounds_toArray, List.set_cons_zero, List.set_cons_succ, List.getElem_toArray, List.getElem_cons_succ, List.getElem_cons_zero]
    refine wpAnyH_take (i := 3) (v := fV x0 x1 x2) rfl (by kernel_rfl) (by kernel_rfl) (by kernel_rfl) (fun _ _ _ h => h) (Or.inl ⟨by kernel_rfl, ?_⟩) hHeld ?_
    · intro w' hSw; obtain ⟨z0', z1', z2', -⟩ := (A0.below hSw).open3; go_simp
    try simp only [Act.put, List.setIfInBounds_toArray, List.set_cons_zero, List.set_cons_succ, List.getElem_toArray, List.getElem_cons_succ, List.getElem_cons_zero]
    refine wpAnyH_take (i := 4) (v := fV y0 y1 y2) rfl (by kernel_rfl) (by kernel_rfl) (by kernel_rfl) (fun _ _ _ h => h) (Or.inl ⟨by kernel_rfl, ?_⟩) hHeld ?_
    · intro w' hSw; obtain ⟨z0', z1', z2', -⟩ := (A2.below hSw).open3; go_simp
    try simp only [Act.put, List.setIfInBounds_toArray, List.set_cons_zero, List.set_cons_succ, List.getElem_toArray, List.getElem_cons_succ, List.getElem_cons_zero]
    refine wpAnyH_take (i := 6) (v := fV z0 z1 z2) rfl (by kernel_rfl) (by kernel_rfl) (by kernel_rfl) (fun _ _ _ h => h) (Or.inl ⟨by kernel_rfl, ?_⟩) hHeld ?_
    · intro w' hSw; obtain ⟨z0', z1', z2', -⟩ := (A1.below hSw).open3; go_simp
    try simp only [Act.put, List.setIfInBounds_toArray, List.set_cons_zero, List.set_cons_succ, List.getElem_toArray, List.getElem_cons_succ, List.getElem_cons_zero]
    refine wpAnyH_take (i := 7) (v := fV x0 x1 x2) rfl (by kernel_rfl) (by kernel_rfl) (by kernel_rfl) (fun _ _ _ h => h) (Or.inl ⟨by kernel_rfl, ?_⟩) hHeld ?_
    · intro w' hSw; obtain ⟨z0', z1', z2', -⟩ := (A0.below hSw).open3; go_simp
    try simp only [Act.put, List.setIfInBounds_toArray, List.set_cons_zero, List.set_cons_succ, List.getElem_toArray, List.getElem_cons_succ, List.getElem_cons_zero]
    refine wpAnyH_ready (rs := [2]) (by kernel_rfl) (by simp) ?_
    refine AllReadyH.cons rfl (fun KK hK' => ?_) AllReadyH.nil
    go_simp
    refine (turnTo_any _ _ _ _ _ _ _ hz0 hz1 hy0 hy1).mono ?_
    rintro e u1 ⟨rfl, bb⟩
    rw [hC]
    replace bu : Kb u0 u1 := bu.trans (bb.mono bu.size)
    clear bb
    try go_wp2_with fail
    clear hHeld
    refine hK'.out _ _ bu (fun hHeld => ?_)
    clear hK' KK
    try simp only [List.setIfInBounds_toArray, List.set_cons_zero, List.set_cons_succ]
    refine wpAnyH_ready (rs := [5]) (by kernel_rfl) (by simp) ?_
    refine AllReadyH.cons rfl (fun KK hK' => ?_) AllReadyH.nil
    go_simp
    refine (turnTo_any _ _ _ _ _ _ _ hx0 hx1 hy0 hy1).mono ?_
    rintro e u2 ⟨rfl, bb⟩
    rw [hP]
    replace bu : Kb u0 u2 := bu.trans (bb.mono bu.size)
    clear bb
    try go_wp2_with fail
    clear hHeld
    refine hK'.out _ _ bu (fun hHeld => ?_)
    clear hK' KK
    try simp only [List.setIfInBounds_toArray, List.set_cons_zero, List.set_cons_succ]
    refine wpAnyH_ready (rs := [8]) (by kernel_rfl) (by simp) ?_
    refine AllReadyH.cons rfl (fun KK hK' => ?_) AllReadyH.nil
    go_simp
    refine (turnTo_any _ _ _ _ _ _ _ hz0 hz1 hx0 hx1).mono ?_
    rintro e u3 ⟨rfl, bb⟩
    rw [hQ]
    replace bu : Kb u0 u3 := bu.trans (bb.mono bu.size)
    clear bb
    try go_wp2_with fail
    clear hHeld
    refine hK'.out _ _ bu (fun hHeld => ?_)
    clear hK' KK
    try simp only [List.setIfInBounds_toArray, List.set_cons_zero, List.set_cons_succ]
    refine wpAnyH_ready (rs := [9]) (by kernel_rfl) (by simp) ?_
    refine AllReadyH.cons rfl (fun KK hK' => ?_) AllReadyH.nil
    go_simp
    clear hHeld
    refine hK'.out _ _ (bu) (fun hHeld => ?_)
    clear hK' KK
    try simp only [List.setIfInBounds_toArray, List.set_cons_zero, List.set_cons_succ]
    refine wpAnyH_ready (rs := [10]) (by kernel_rfl) (by simp) ?_
    refine AllReadyH.cons rfl (fun KK hK' => ?_) AllReadyH.nil
    go_simp
    clear hHeld
    refine hK'.out _ _ (bu) (fun hHeld => ?_)
    clear hK' KK
    try simp only [List.setIfInBounds_toArray, List.set_cons_zero, List.set_cons_succ]
    refine wpAnyH_ready (rs := [11]) (by kernel_rfl) (by simp) ?_
    refine AllReadyH.cons rfl (fun KK hK' => ?_) AllReadyH.nil
    go_simp
    clear hHeld
    refine hK'.out _ _ (bu) (fun hHeld => ?_)
    clear hK' KK
    try simp only [List.setIfInBounds_toArray, List.set_cons_zero, List.set_cons_succ]
    refine wpAnyH_done (by kernel_rfl) ?_ _
    clear hHeld
    replace B := B.trans (Below.mono bu B.size)
    replace A0 := A0.below bu
    replace A1 := A1.below bu
    replace A2 := A2.below bu
    clear bu hC hP hQ
    obtain ⟨c0, c1, c2, -⟩ := A0.open3
    obtain ⟨d0, d1, d2, -⟩ := A1.open3
    obtain ⟨e0, e1, e2, -⟩ := A2.open3
    clear A0 A1 A2
    by_cases k1 : 0 < c
    · by_cases k2 : 0 ≤ p
      · by_cases k3 : 0 ≤ q
        · have m1 := mul_bound hp hz2
          have m2 := mul_bound hq hy2
          have m3 := mul_bound hcc hx2
          obtain rfl := core_yes hT k1 k2 k3
          clear hT
          go_wp2
          go_ret
          exact ⟨rfl, B⟩
        · obtain rfl := core_no hT (fun h => k3 h.2.2)
          clear hT
          go_wp2
          go_ret
          exact ⟨rfl, B⟩
      · obtain rfl := core_no hT (fun h => k2 h.2.1)
        clear hT
        go_wp2
        go_ret
        exact ⟨rfl, B⟩
    · obtain rfl := core_no hT (fun h => k1 h.1)
      clear hT
      go_wp2
      go_ret
      exact ⟨rfl, B⟩
  · have hT := cv_pos hb hc
    clear hb
    obtain ⟨c0, c1, c2, c3, c4, c5⟩ := A0.open3
    obtain ⟨d0, d1, d2, d3, d4, d5⟩ := A1.open3
    obtain ⟨e0, e1, e2, e3, e4, e5⟩ := A2.open3
    go_wp2_with fail
    clear c0 c1 c2 c3 c4 c5 d0 d1 d2 d3 d4 d5 e0 e1 e2 e3 e4 e5
    obtain ⟨V, rfl⟩ : ∃ V, V = w1 := ⟨_, rfl⟩
    have hcc := cr_in hy0 hy1 hz0 hz1
    have hp := cr_in hx0 hx1 hz0 hz1
    have hq := cr_in hy0 hy1 hx0 hx1
    obtain ⟨c, hC⟩ : ∃ c, cr y0 y1 z0 z1 = c := ⟨_, rfl⟩
    obtain ⟨p, hP⟩ : ∃ p, cr x0 x1 z0 z1 = p := ⟨_, rfl⟩
    obtain ⟨q, hQ⟩ : ∃ q, cr y0 y1 x0 x1 = q := ⟨_, rfl⟩
    rw [hC, hP, hQ] at hT
    rw [hC] at hcc
    rw [hP] at hp
    rw [hQ] at hq
    obtain ⟨u0, hu0, bb⟩ : ∃ uu, V.drew = uu ∧ Below V.heap.size V uu := ⟨_, rfl, (Below.refl _ _).drew⟩
    replace A0 := A0.below bb
    replace A1 := A1.below bb
    replace A2 := A2.below bb
    replace B := B.trans (bb.mono B.size)
    clear bb
    refine wp_region_held_drew (S := Kb u0) (by kernel_rfl) (by rw [hu0]; exact Below.refl _ _) (fun hHeld => ?_)
    rw [hu0] at hHeld ⊢
    clear hu0
    have bu : Kb u0 u0 := Below.refl _ _
    change wpAnyH _ _ _ _ _ 12 #[false, false, false, false, false, false, false, false, false, false, false, false] _ _
    refine wpAnyH_take (i := 0) (v := fV y0 y1 y2) rfl (by kernel_rfl) (by kernel_rfl) (by kernel_rfl) (fun _ _ _ h => h) (Or.inl ⟨by kernel_rfl, ?_⟩) hHeld ?_
    · intro w' hSw; obtain ⟨z0', z1', z2', -⟩ := (A1.below hSw).open3; go_simp
    try simp only [Act.put, List.setIfInBounds_toArray, List.set_cons_zero, List.set_cons_succ, List.getElem_toArray, List.getElem_cons_zero]
    refine wpAnyH_take (i := 1) (v := fV z0 z1 z2) rfl (by kernel_rfl) (by kernel_rfl) (by kernel_rfl) (fun _ _ _ h => h) (Or.inl ⟨by kernel_rfl, ?_⟩) hHeld ?_
    · intro w' hSw; obtain ⟨z0', z1', z2', -⟩ := (A2.below hSw).open3; go_simp
    try simp only [Act.put, List.setIfInBounds_toArray, List.set_cons_zero, List.set_cons_succ, List.getElem_toArray, List.getElem_cons_succ, List.getElem_cons_zero]
    refine wpAnyH_take (i := 3) (v := fV x0 x1 x2) rfl (by kernel_rfl) (by kernel_rfl) (by kernel_rfl) (fun _ _ _ h => h) (Or.inl ⟨by kernel_rfl, ?_⟩) hHeld ?_
    · intro w' hSw; obtain ⟨z0', z1', z2', -⟩ := (A0.below hSw).open3; go_simp
    try simp only [Act.put, List.setIfInBounds_toArray, List.set_cons_zero, List.set_cons_succ, List.getElem_toArray, List.getElem_cons_succ, List.getElem_cons_zero]
    refine wpAnyH_take (i := 4) (v := fV z0 z1 z2) rfl (by kernel_rfl) (by kernel_rfl) (by kernel_rfl) (fun _ _ _ h => h) (Or.inl ⟨by kernel_rfl, ?_⟩) hHeld ?_
    · intro w' hSw; obtain ⟨z0', z1', z2', -⟩ := (A2.below hSw).open3; go_simp
    try simp only [Act.put, List.setIfInBounds_toArray, List.set_cons_zero, List.set_cons_succ, List.getElem_toArray, List.getElem_cons_succ, List.getElem_cons_zero]
    refine wpAnyH_take (i := 6) (v := fV y0 y1 y2) rfl (by kernel_rfl) (by kernel_rfl) (by kernel_rfl) (fun _ _ _ h => h) (Or.inl ⟨by kernel_rfl, ?_⟩) hHeld ?_
    · intro w' hSw; obtain ⟨z0', z1', z2', -⟩ := (A1.below hSw).open3; go_simp
    try simp only [Act.put, List.setIfInBounds_toArray, List.set_cons_zero, List.set_cons_succ, List.getElem_toArray, List.getElem_cons_succ, List.getElem_cons_zero]
    refine wpAnyH_take (i := 7) (v := fV x0 x1 x2) rfl (by kernel_rfl) (by kernel_rfl) (by kernel_rfl) (fun _ _ _ h => h) (Or.inl ⟨by kernel_rfl, ?_⟩) hHeld ?_
    · intro w' hSw; obtain ⟨z0', z1', z2', -⟩ := (A0.below hSw).open3; go_simp
    try simp only [Act.put, List.setIfInBounds_toArray, List.set_cons_zero, List.set_cons_succ, List.getElem_toArray, List.getElem_cons_succ, List.getElem_cons_zero]
    refine wpAnyH_ready (rs := [2]) (by kernel_rfl) (by simp) ?_
    refine AllReadyH.cons rfl (fun KK hK' => ?_) AllReadyH.nil
    go_simp
    refine (turnTo_any _ _ _ _ _ _ _ hy0 hy1 hz0 hz1).mono ?_
    rintro e u1 ⟨rfl, bb⟩
    rw [hC]
    replace bu : Kb u0 u1 := bu.trans (bb.mono bu.size)
    clear bb
    try go_wp2_with fail
    clear hHeld
    refine hK'.out _ _ bu (fun hHeld => ?_)
    clear hK' KK
    try simp only [List.setIfInBounds_toArray, List.set_cons_zero, List.set_cons_succ]
    refine wpAnyH_ready (rs := [5]) (by kernel_rfl) (by simp) ?_
    refine AllReadyH.cons rfl (fun KK hK' => ?_) AllReadyH.nil
    go_simp
    refine (turnTo_any _ _ _ _ _ _ _ hx0 hx1 hz0 hz1).mono ?_
    rintro e u2 ⟨rfl, bb⟩
    rw [hP]
    replace bu : Kb u0 u2 := bu.trans (bb.mono bu.size)
    clear bb
    try go_wp2_with fail
    clear hHeld
    refine hK'.out _ _ bu (fun hHeld => ?_)
    clear hK' KK
    try simp only [List.setIfInBounds_toArray, List.set_cons_zero, List.set_cons_succ]
    refine wpAnyH_ready (rs := [8]) (by kernel_rfl) (by simp) ?_
    refine AllReadyH.cons rfl (fun KK hK' => ?_) AllReadyH.nil
    go_simp
    refine (turnTo_any _ _ _ _ _ _ _ hy0 hy1 hx0 hx1).mono ?_
    rintro e u3 ⟨rfl, bb⟩
    rw [hQ]
    replace bu : Kb u0 u3 := bu.trans (bb.mono bu.size)
    clear bb
    try go_wp2_with fail
    clear hHeld
    refine hK'.out _ _ bu (fun hHeld => ?_)
    clear hK' KK
    try simp only [List.setIfInBounds_toArray, List.set_cons_zero, List.set_cons_succ]
    refine wpAnyH_ready (rs := [9]) (by kernel_rfl) (by simp) ?_
    refine AllReadyH.cons rfl (fun KK hK' => ?_) AllReadyH.nil
    go_simp
    clear hHeld
    refine hK'.out _ _ (bu) (fun hHeld => ?_)
    clear hK' KK
    try simp only [List.setIfInBounds_toArray, List.set_cons_zero, List.set_cons_succ]
    refine wpAnyH_ready (rs := [10]) (by kernel_rfl) (by simp) ?_
    refine AllReadyH.cons rfl (fun KK hK' => ?_) AllReadyH.nil
    go_simp
    clear hHeld
    refine hK'.out _ _ (bu) (fun hHeld => ?_)
    clear hK' KK
    try simp only [List.setIfInBounds_toArray, List.set_cons_zero, List.set_cons_succ]
    refine wpAnyH_ready (rs := [11]) (by kernel_rfl) (by simp) ?_
    refine AllReadyH.cons rfl (fun KK hK' => ?_) AllReadyH.nil
    go_simp
    clear hHeld
    refine hK'.out _ _ (bu) (fun hHeld => ?_)
    clear hK' KK
    try simp only [List.setIfInBounds_toArray, List.set_cons_zero, List.set_cons_succ]
    refine wpAnyH_done (by kernel_rfl) ?_ _
    clear hHeld
    replace B := B.trans (Below.mono bu B.size)
    replace A0 := A0.below bu
    replace A1 := A1.below bu
    replace A2 := A2.below bu
    clear bu hC hP hQ
    obtain ⟨c0, c1, c2, -⟩ := A0.open3
    obtain ⟨d0, d1, d2, -⟩ := A1.open3
    obtain ⟨e0, e1, e2, -⟩ := A2.open3
    clear A0 A1 A2
    by_cases k1 : 0 < c
    · by_cases k2 : 0 ≤ p
      · by_cases k3 : 0 ≤ q
        · have m1 := mul_bound hp hy2
          have m2 := mul_bound hq hz2
          have m3 := mul_bound hcc hx2
          obtain rfl := core_yes hT k1 k2 k3
          clear hT
          go_wp2
          go_ret
          exact ⟨rfl, B⟩
        · obtain rfl := core_no hT (fun h => k3 h.2.2)
          clear hT
          go_wp2
          go_ret
          exact ⟨rfl, B⟩
      · obtain rfl := core_no hT (fun h => k2 h.2.1)
        clear hT
        go_wp2
        go_ret
        exact ⟨rfl, B⟩
    · obtain rfl := core_no hT (fun h => k1 h.1)
      clear hT
      go_wp2
      go_ret
      exact ⟨rfl, B⟩
end Go.Proofs.Ytealbihplfpgeaa
