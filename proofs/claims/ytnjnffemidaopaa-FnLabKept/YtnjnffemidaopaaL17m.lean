/-
  A job measured, cancelled; a sample thrown away with its jobs: walked.
-/
import Derived.Test.YtnjnffemidaopaaL17l
import Derived.BigRegion
namespace Go.Proofs.Ytnjnffemidaopaa
open Go.RowKit

section
variable {B q : Nat} {w : World} {vS vJ : Value} {n m p j : Nat} {f g : Nat → Int} {T D : Int}
theorem cancel_no (s o : Int) (W : Wk B q w vS vJ n f m g T D) (hm : m ≤ 300) (hno : Hid (∀ i, i < m → ¬ isJ g s o i)) :
    Calls Try.prog 82 #[.pointer (some ⟨q, 0, none⟩), .int .i64 s, .int .i64 o] w (DoP B q w D 5 n f m g T) := by
  obtain ⟨a, c, rfl, hc, L⟩ := W.J.ls
  obtain ⟨c0, c1, c2, c3, -⟩ := Job.box W.bx
  go_enter Try.func82, Try.ntmps82
  go_wp2_with fail
  refine (jobIn_no s o L hm hno).mono ?_
  rintro e w2 ⟨rfl, rfl⟩
  go_wp2
  go_ret
  exact ⟨_, _, rfl, W, Bel.refl _ _⟩
theorem cancel_bad (s o : Int) (W : Wk B q w vS vJ n f m g T D) (hm : m ≤ 300) (hj : j < m) (HN : Hid (∀ i, i < j → ¬ isJ g s o i)) (HY : Hid (isJ g s o j)) (hst : Hid (g (j * 4 + 3) ≠ 1)) :
    Calls Try.prog 82 #[.pointer (some ⟨q, 0, none⟩), .int .i64 s, .int .i64 o] w (DoP B q w D 7 n f m g T) := by
  obtain ⟨gj, cj, rfl, hl1, hc, hcm, R⟩ := W.J.pick hj
  obtain ⟨c0, c1, c2, c3, -⟩ := Job.box W.bx
  obtain ⟨x, hx⟩ : ∃ x, g (j * 4 + 3) = x := ⟨_, rfl⟩
  have hx1 : (x != 1) = true := by simpa [← hx] using hst.out
  obtain ⟨d0, d1, d2, d3⟩ := Job.open R.recsN j hj
  rw [hx] at d3
  clear hx
  go_enter Try.func82, Try.ntmps82
  go_wp2_with fail
  refine (jobIn_yes s o R.recsN hm hj HN HY).mono ?_
  rintro e w2 ⟨rfl, rfl⟩
  go_wp2
  go_ret
  exact ⟨_, _, rfl, W, Bel.refl _ _⟩
theorem cancel_ok (s o : Int) (W : Wk B q w vS vJ n f m g T D) (hm : m ≤ 300) (hj : j < m) (HN : Hid (∀ i, i < j → ¬ isJ g s o i)) (HY : Hid (isJ g s o j)) (hst : Hid (g (j * 4 + 3) = 1)) :
    Calls Try.prog 82 #[.pointer (some ⟨q, 0, none⟩), .int .i64 s, .int .i64 o] w (DoP B q w D 0 n f m (upd g (j * 4 + 3) 3) T) := by
  obtain ⟨gj, cj, rfl, hl1, hc, hcm, R⟩ := W.J.pick hj
  obtain ⟨c0, c1, c2, c3, -⟩ := Job.box W.bx
  obtain ⟨d3, f3, -⟩ := W.frJ (i := j * 4 + 3) (by omega)
  rw [hst.out] at d3
  obtain ⟨W4, B4⟩ := W.updJ (i := j * 4 + 3) (by omega) 3
  go_enter Try.func82, Try.ntmps82
  go_wp2_with fail
  refine (jobIn_yes s o R.recsN hm hj HN HY).mono ?_
  rintro e w2 ⟨rfl, rfl⟩
  go_wp2
  go_ret
  exact ⟨_, _, rfl, W4, B4⟩
set_option maxRecDepth 100000 in
set_option maxHeartbeats 1600000 in
theorem measure_no (s o : Int) (W : Wk B q w vS vJ n f m g T D) (hn : n ≤ 100) (HP : Hid (Plc n f s p)) (hm : m ≤ 300) (hno : Hid (∀ i, i < m → ¬ isJ g s o i)) :
    Calls Try.prog 81 #[.pointer (some ⟨q, 0, none⟩), .int .i64 s, .int .i64 o] w (DoP B q w D 5 n f m g T) := by
  obtain ⟨aj, cj, rfl, hcj, LJ⟩ := W.J.ls
  have B1 := Bel.refl B w
  by_cases hpx : p < n ∧ f (p * 3) = s
  · obtain ⟨hpn, hpe⟩ := hpx
    have HE : Hid (f (p * 3) = s) := hpe
    clear hpe
    obtain ⟨gs, cs, rfl, hl1, hc, hcm, R⟩ := W.S.pick hpn
    have m1 := W.bx
    go_enter Try.func81, Try.ntmps81
    go_wp2_with fail
    obtain ⟨u0, hu0, bb⟩ : ∃ uu, w.drew = uu ∧ Below w.heap.size w uu := ⟨_, rfl, (Below.refl _ _).drew⟩
    replace B1 := B1.trans (Bel.of bb W.lt)
    replace m1 := m1.below bb
    replace W := W.below bb
    replace R := R.below bb
    replace LJ := LJ.below bb
    have m0 := m1
    clear bb
    refine wp_region_held_drew (S := Kb u0) (by kernel_rfl) (by rw [hu0]; exact Below.refl _ _) (fun hHeld => ?_)
    rw [hu0] at hHeld ⊢
    clear hu0
    have bu : Kb u0 u0 := Below.refl _ _
    change wpAnyH _ _ _ _ _ 15 #[false, false, false, false, false, false, false, false, false, false, false, false, false, false, false] _ _
    refine wpAnyH_take (i := 0) (v := .pointer (some ⟨q, 0, none⟩)) rfl (by kernel_rfl) (by kernel_rfl) (by kernel_rfl) (fun _ _ _ h => h) (Or.inl ⟨by kernel_rfl, ?_⟩) hHeld ?_
    · intro w' hSw; go_simp
    try simp only [Act.put, List.setIfInBounds_toArray, List.set_cons_zero, List.set_cons_succ, List.getElem_toArray, List.getElem_cons_zero]
    refine wpAnyH_take (i := 1) (v := .pointer (some ⟨q, 0, none⟩)) rfl (by kernel_rfl) (by kernel_rfl) (by kernel_rfl) (fun _ _ _ h => h) (Or.inl ⟨by kernel_rfl, ?_⟩) hHeld ?_
    · intro w' hSw; go_simp
    try simp only [Act.put, List.setIfInBounds_toArray, List.set_cons_zero, List.set_cons_succ, List.getElem_toArray, List.getElem_cons_succ, List.getElem_cons_zero]
    refine wpAnyH_take (i := 2) (v := .pointer (some ⟨q, 0, none⟩)) rfl (by kernel_rfl) (by kernel_rfl) (by kernel_rfl) (fun _ _ _ h => h) (Or.inl ⟨by kernel_rfl, ?_⟩) hHeld ?_
    · intro w' hSw; go_simp
    try simp only [Act.put, List.setIfInBounds_toArray, List.set_cons_zero, List.set_cons_succ, List.getElem_toArray, List.getElem_cons_succ, List.getElem_cons_zero]
    refine wpAnyH_take (i := 3) (v := .slice ((some ⟨gs, 0, none⟩)) n cs) rfl (by kernel_rfl) (by kernel_rfl) (by kernel_rfl) (fun _ _ _ h => h) (Or.inl ⟨by kernel_rfl, ?_⟩) hHeld ?_
    · intro w' hSw; obtain ⟨z0, z1, z2, z3, -⟩ := Job.box (m0.below hSw); go_simp
    try simp only [Act.put, List.setIfInBounds_toArray, List.set_cons_zero, List.set_cons_succ, List.getElem_toArray, List.getElem_cons_succ, List.getElem_cons_zero]
    refine wpAnyH_take (i := 4) (v := .int .i64 (s)) rfl (by kernel_rfl) (by kernel_rfl) (by kernel_rfl) (fun _ _ _ h => h) (Or.inl ⟨by kernel_rfl, ?_⟩) hHeld ?_
    · intro w' hSw; go_simp
    try simp only [Act.put, List.setIfInBounds_toArray, List.set_cons_zero, List.set_cons_succ, List.getElem_toArray, List.getElem_cons_succ, List.getElem_cons_zero]
    refine wpAnyH_take (i := 6) (v := .pointer (some ⟨q, 0, none⟩)) rfl (by kernel_rfl) (by kernel_rfl) (by kernel_rfl) (fun _ _ _ h => h) (Or.inl ⟨by kernel_rfl, ?_⟩) hHeld ?_
    · intro w' hSw; go_simp
    try simp only [Act.put, List.setIfInBounds_toArray, List.set_cons_zero, List.set_cons_succ, List.getElem_toArray, List.getElem_cons_succ, List.getElem_cons_zero]
    refine wpAnyH_take (i := 7) (v := .pointer (some ⟨q, 0, none⟩)) rfl (by kernel_rfl) (by kernel_rfl) (by kernel_rfl) (fun _ _ _ h => h) (Or.inl ⟨by kernel_rfl, ?_⟩) hHeld ?_
    · intro w' hSw; go_simp
    try simp only [Act.put, List.setIfInBounds_toArray, List.set_cons_zero, List.set_cons_succ, List.getElem_toArray, List.getElem_cons_succ, List.getElem_cons_zero]
    refine wpAnyH_take (i := 8) (v := .pointer (some ⟨q, 1, none⟩)) rfl (by kernel_rfl) (by kernel_rfl) (by kernel_rfl) (fun _ _ _ h => h) (Or.inl ⟨by kernel_rfl, ?_⟩) hHeld ?_
    · intro w' hSw; go_simp
    try simp only [Act.put, List.setIfInBounds_toArray, List.set_cons_zero, List.set_cons_succ, List.getElem_toArray, List.getElem_cons_succ, List.getElem_cons_zero]
    refine wpAnyH_take (i := 9) (v := .slice aj m cj) rfl (by kernel_rfl) (by kernel_rfl) (by kernel_rfl) (fun _ _ _ h => h) (Or.inl ⟨by kernel_rfl, ?_⟩) hHeld ?_
    · intro w' hSw; obtain ⟨z0, z1, z2, z3, -⟩ := Job.box (m0.below hSw); go_simp
    try simp only [Act.put, List.setIfInBounds_toArray, List.set_cons_zero, List.set_cons_succ, List.getElem_toArray, List.getElem_cons_succ, List.getElem_cons_zero]
    refine wpAnyH_take (i := 10) (v := .int .i64 (s)) rfl (by kernel_rfl) (by kernel_rfl) (by kernel_rfl) (fun _ _ _ h => h) (Or.inl ⟨by kernel_rfl, ?_⟩) hHeld ?_
    · intro w' hSw; go_simp
    try simp only [Act.put, List.setIfInBounds_toArray, List.set_cons_zero, List.set_cons_succ, List.getElem_toArray, List.getElem_cons_succ, List.getElem_cons_zero]
    refine wpAnyH_take (i := 11) (v := .int .i64 (o)) rfl (by kernel_rfl) (by kernel_rfl) (by kernel_rfl) (fun _ _ _ h => h) (Or.inl ⟨by kernel_rfl, ?_⟩) hHeld ?_
    · intro w' hSw; go_simp
    try simp only [Act.put, List.setIfInBounds_toArray, List.set_cons_zero, List.set_cons_succ, List.getElem_toArray, List.getElem_cons_succ, List.getElem_cons_zero]
    refine wpAnyH_ready (rs := [5]) (by kernel_rfl) (by simp) ?_
    refine AllReadyH.cons rfl (fun KK hK' => ?_) AllReadyH.nil
    go_simp
    refine (sampleIn_yes R.recsN hn HP hpn HE).mono ?_
    rintro e u1 ⟨rfl, bb⟩
    replace B1 := B1.trans (Bel.of bb W.lt)
    replace m1 := m1.below bb
    replace W := W.below bb
    replace R := R.below bb
    replace LJ := LJ.below bb
    replace bu : Kb u0 u1 := bu.trans (bb.mono bu.size)
    clear bb
    try go_wp2_with fail
    clear hHeld
    refine hK'.out _ _ (bu) (fun hHeld => ?_)
    clear hK' KK
    try simp only [List.setIfInBounds_toArray, List.set_cons_zero, List.set_cons_succ]
    refine wpAnyH_ready (rs := [12]) (by kernel_rfl) (by simp) ?_
    refine AllReadyH.cons rfl (fun KK hK' => ?_) AllReadyH.nil
    go_simp
    refine (jobIn_noB s o LJ hm hno).mono ?_
    rintro e u2 ⟨rfl, bb⟩
    replace B1 := B1.trans (Bel.of bb W.lt)
    replace m1 := m1.below bb
    replace W := W.below bb
    replace R := R.below bb
    replace LJ := LJ.below bb
    replace bu : Kb u0 u2 := bu.trans (bb.mono bu.size)
    clear bb
    try go_wp2_with fail
    clear hHeld
    refine hK'.out _ _ (bu) (fun hHeld => ?_)
    clear hK' KK
    try simp only [List.setIfInBounds_toArray, List.set_cons_zero, List.set_cons_succ]
    refine wpAnyH_take (i := 13) (v := .pointer (some ⟨gs, p * 3, none⟩)) rfl (by kernel_rfl) (by kernel_rfl) (by kernel_rfl) (fun _ _ _ h => h) (Or.inl ⟨by kernel_rfl, ?_⟩) hHeld ?_
    · intro w' hSw; go_simp
    try simp only [Act.put, List.setIfInBounds_toArray, List.set_cons_zero, List.set_cons_succ, List.getElem_toArray, List.getElem_cons_succ, List.getElem_cons_zero]
    refine wpAnyH_take (i := 14) (v := .pointer none) rfl (by kernel_rfl) (by kernel_rfl) (by kernel_rfl) (fun _ _ _ h => h) (Or.inl ⟨by kernel_rfl, ?_⟩) hHeld ?_
    · intro w' hSw; go_simp
    try simp only [Act.put, List.setIfInBounds_toArray, List.set_cons_zero, List.set_cons_succ, List.getElem_toArray, List.getElem_cons_succ, List.getElem_cons_zero]
    refine wpAnyH_done (by kernel_rfl) ?_ _
    clear hHeld
    clear m0
    go_wp2
    go_ret
    exact ⟨_, _, rfl, W, B1⟩
  · have HN2 : Hid (¬ (p < n ∧ f (p * 3) = s)) := hpx
    clear hpx
    obtain ⟨sa, cs, rfl, hcs, LS⟩ := W.S.ls
    have m1 := W.bx
    go_enter Try.func81, Try.ntmps81
    go_wp2_with fail
    obtain ⟨u0, hu0, bb⟩ : ∃ uu, w.drew = uu ∧ Below w.heap.size w uu := ⟨_, rfl, (Below.refl _ _).drew⟩
    replace B1 := B1.trans (Bel.of bb W.lt)
    replace m1 := m1.below bb
    replace W := W.below bb
    replace LS := LS.below bb
    replace LJ := LJ.below bb
    have m0 := m1
    clear bb
    refine wp_region_held_drew (S := Kb u0) (by kernel_rfl) (by rw [hu0]; exact Below.refl _ _) (fun hHeld => ?_)
    rw [hu0] at hHeld ⊢
    clear hu0
    have bu : Kb u0 u0 := Below.refl _ _
    change wpAnyH _ _ _ _ _ 15 #[false, false, false, false, false, false, false, false, false, false, false, false, false, false, false] _ _
    refine wpAnyH_take (i := 0) (v := .pointer (some ⟨q, 0, none⟩)) rfl (by kernel_rfl) (by kernel_rfl) (by kernel_rfl) (fun _ _ _ h => h) (Or.inl ⟨by kernel_rfl, ?_⟩) hHeld ?_
    · intro w' hSw; go_simp
    try simp only [Act.put, List.setIfInBounds_toArray, List.set_cons_zero, List.set_cons_succ, List.getElem_toArray, List.getElem_cons_zero]
    refine wpAnyH_take (i := 1) (v := .pointer (some ⟨q, 0, none⟩)) rfl (by kernel_rfl) (by kernel_rfl) (by kernel_rfl) (fun _ _ _ h => h) (Or.inl ⟨by kernel_rfl, ?_⟩) hHeld ?_
    · intro w' hSw; go_simp
    try simp only [Act.put, List.setIfInBounds_toArray, List.set_cons_zero, List.set_cons_succ, List.getElem_toArray, List.getElem_cons_succ, List.getElem_cons_zero]
    refine wpAnyH_take (i := 2) (v := .pointer (some ⟨q, 0, none⟩)) rfl (by kernel_rfl) (by kernel_rfl) (by kernel_rfl) (fun _ _ _ h => h) (Or.inl ⟨by kernel_rfl, ?_⟩) hHeld ?_
    · intro w' hSw; go_simp
    try simp only [Act.put, List.setIfInBounds_toArray, List.set_cons_zero, List.set_cons_succ, List.getElem_toArray, List.getElem_cons_succ, List.getElem_cons_zero]
    refine wpAnyH_take (i := 3) (v := .slice sa n cs) rfl (by kernel_rfl) (by kernel_rfl) (by kernel_rfl) (fun _ _ _ h => h) (Or.inl ⟨by kernel_rfl, ?_⟩) hHeld ?_
    · intro w' hSw; obtain ⟨z0, z1, z2, z3, -⟩ := Job.box (m0.below hSw); go_simp
    try simp only [Act.put, List.setIfInBounds_toArray, List.set_cons_zero, List.set_cons_succ, List.getElem_toArray, List.getElem_cons_succ, List.getElem_cons_zero]
    refine wpAnyH_take (i := 4) (v := .int .i64 (s)) rfl (by kernel_rfl) (by kernel_rfl) (by kernel_rfl) (fun _ _ _ h => h) (Or.inl ⟨by kernel_rfl, ?_⟩) hHeld ?_
    · intro w' hSw; go_simp
    try simp only [Act.put, List.setIfInBounds_toArray, List.set_cons_zero, List.set_cons_succ, List.getElem_toArray, List.getElem_cons_succ, List.getElem_cons_zero]
    refine wpAnyH_take (i := 6) (v := .pointer (some ⟨q, 0, none⟩)) rfl (by kernel_rfl) (by kernel_rfl) (by kernel_rfl) (fun _ _ _ h => h) (Or.inl ⟨by kernel_rfl, ?_⟩) hHeld ?_
    · intro w' hSw; go_simp
    try simp only [Act.put, List.setIfInBounds_toArray, List.set_cons_zero, List.set_cons_succ, List.getElem_toArray, List.getElem_cons_succ, List.getElem_cons_zero]
    refine wpAnyH_take (i := 7) (v := .pointer (some ⟨q, 0, none⟩)) rfl (by kernel_rfl) (by kernel_rfl) (by kernel_rfl) (fun _ _ _ h => h) (Or.inl ⟨by kernel_rfl, ?_⟩) hHeld ?_
    · intro w' hSw; go_simp
    try simp only [Act.put, List.setIfInBounds_toArray, List.set_cons_zero, List.set_cons_succ, List.getElem_toArray, List.getElem_cons_succ, List.getElem_cons_zero]
    refine wpAnyH_take (i := 8) (v := .pointer (some ⟨q, 1, none⟩)) rfl (by kernel_rfl) (by kernel_rfl) (by kernel_rfl) (fun _ _ _ h => h) (Or.inl ⟨by kernel_rfl, ?_⟩) hHeld ?_
    · intro w' hSw; go_simp
    try simp only [Act.put, List.setIfInBounds_toArray, List.set_cons_zero, List.set_cons_succ, List.getElem_toArray, List.getElem_cons_succ, List.getElem_cons_zero]
    refine wpAnyH_take (i := 9) (v := .slice aj m cj) rfl (by kernel_rfl) (by kernel_rfl) (by kernel_rfl) (fun _ _ _ h => h) (Or.inl ⟨by kernel_rfl, ?_⟩) hHeld ?_
    · intro w' hSw; obtain ⟨z0, z1, z2, z3, -⟩ := Job.box (m0.below hSw); go_simp
    try simp only [Act.put, List.setIfInBounds_toArray, List.set_cons_zero, List.set_cons_succ, List.getElem_toArray, List.getElem_cons_succ, List.getElem_cons_zero]
    refine wpAnyH_take (i := 10) (v := .int .i64 (s)) rfl (by kernel_rfl) (by kernel_rfl) (by kernel_rfl) (fun _ _ _ h => h) (Or.inl ⟨by kernel_rfl, ?_⟩) hHeld ?_
    · intro w' hSw; go_simp
    try simp only [Act.put, List.setIfInBounds_toArray, List.set_cons_zero, List.set_cons_succ, List.getElem_toArray, List.getElem_cons_succ, List.getElem_cons_zero]
    refine wpAnyH_take (i := 11) (v := .int .i64 (o)) rfl (by kernel_rfl) (by kernel_rfl) (by kernel_rfl) (fun _ _ _ h => h) (Or.inl ⟨by kernel_rfl, ?_⟩) hHeld ?_
    · intro w' hSw; go_simp
    try simp only [Act.put, List.setIfInBounds_toArray, List.set_cons_zero, List.set_cons_succ, List.getElem_toArray, List.getElem_cons_succ, List.getElem_cons_zero]
    refine wpAnyH_ready (rs := [5]) (by kernel_rfl) (by simp) ?_
    refine AllReadyH.cons rfl (fun KK hK' => ?_) AllReadyH.nil
    go_simp
    refine (sampleIn_no LS hn HP HN2).mono ?_
    rintro e u1 ⟨rfl, bb⟩
    replace B1 := B1.trans (Bel.of bb W.lt)
    replace m1 := m1.below bb
    replace W := W.below bb
    replace LS := LS.below bb
    replace LJ := LJ.below bb
    replace bu : Kb u0 u1 := bu.trans (bb.mono bu.size)
    clear bb
    try go_wp2_with fail
    clear hHeld
    refine hK'.out _ _ (bu) (fun hHeld => ?_)
    clear hK' KK
    try simp only [List.setIfInBounds_toArray, List.set_cons_zero, List.set_cons_succ]
    refine wpAnyH_ready (rs := [12]) (by kernel_rfl) (by simp) ?_
    refine AllReadyH.cons rfl (fun KK hK' => ?_) AllReadyH.nil
    go_simp
    refine (jobIn_noB s o LJ hm hno).mono ?_
    rintro e u2 ⟨rfl, bb⟩
    replace B1 := B1.trans (Bel.of bb W.lt)
    replace m1 := m1.below bb
    replace W := W.below bb
    replace LS := LS.below bb
    replace LJ := LJ.below bb
    replace bu : Kb u0 u2 := bu.trans (bb.mono bu.size)
    clear bb
    try go_wp2_with fail
    clear hHeld
    refine hK'.out _ _ (bu) (fun hHeld => ?_)
    clear hK' KK
    try simp only [List.setIfInBounds_toArray, List.set_cons_zero, List.set_cons_succ]
    refine wpAnyH_take (i := 13) (v := .pointer none) rfl (by kernel_rfl) (by kernel_rfl) (by kernel_rfl) (fun _ _ _ h => h) (Or.inl ⟨by kernel_rfl, ?_⟩) hHeld ?_
    · intro w' hSw; go_simp
    try simp only [Act.put, List.setIfInBounds_toArray, List.set_cons_zero, List.set_cons_succ, List.getElem_toArray, List.getElem_cons_succ, List.getElem_cons_zero]
    refine wpAnyH_take (i := 14) (v := .pointer none) rfl (by kernel_rfl) (by kernel_rfl) (by kernel_rfl) (fun _ _ _ h => h) (Or.inl ⟨by kernel_rfl, ?_⟩) hHeld ?_
    · intro w' hSw; go_simp
    try simp only [Act.put, List.setIfInBounds_toArray, List.set_cons_zero, List.set_cons_succ, List.getElem_toArray, List.getElem_cons_succ, List.getElem_cons_zero]
    refine wpAnyH_done (by kernel_rfl) ?_ _
    clear hHeld
    clear m0
    go_wp2
    go_ret
    exact ⟨_, _, rfl, W, B1⟩
/-- What is told behind a measurement. -/
def MsP (B q : Nat) (w : World) (D : Int) (n : Nat) (f : Nat → Int) (m : Nat) (g : Nat → Int) (T : Int) (p j : Nat) (pl lf nd st : Int) (e : Ending) (w' : World) : Prop :=
  if pl ≠ 3 then DoP B q w D 6 n f m g T e w' else if st ≠ 1 then DoP B q w D 7 n f m g T e w' else if lf < nd then DoP B q w D 8 n f m g T e w' else DoP B q w D 0 n (upd f (p * 3 + 2) (lf - nd)) m (upd g (j * 4 + 3) 2) (T + nd) e w'
set_option maxRecDepth 100000 in
set_option maxHeartbeats 3200000 in
theorem measure_any (s o pl lf nd st : Int) (W : Wk B q w vS vJ n f m g T D) (hn : n ≤ 100) (HP : Hid (Plc n f s p)) (hpn : p < n) (HE : Hid (f (p * 3) = s)) (hm : m ≤ 300) (hj : j < m) (HN : Hid (∀ i, i < j → ¬ isJ g s o i)) (HY : Hid (isJ g s o j))
    (e1 : Hid (f (p * 3 + 1) = pl)) (e2 : Hid (f (p * 3 + 2) = lf)) (e3 : Hid (g (j * 4 + 2) = nd)) (e4 : Hid (g (j * 4 + 3) = st)) (hlf : 0 ≤ lf ∧ lf ≤ 1000) (hnd : 1 ≤ nd ∧ nd ≤ 1000) (hT : 0 ≤ T ∧ T ≤ 300000) :
    Calls Try.prog 81 #[.pointer (some ⟨q, 0, none⟩), .int .i64 s, .int .i64 o] w (MsP B q w D n f m g T p j pl lf nd st) := by
  obtain ⟨gj, cj, rfl, hl2, hcj, hcmj, RJ⟩ := W.J.pick hj
  obtain ⟨gs, cs, rfl, hl1, hc, hcm, R⟩ := W.S.pick hpn
  have B1 := Bel.refl B w
  have m1 := W.bx
  go_enter Try.func81, Try.ntmps81
  go_wp2_with fail
  obtain ⟨u0, hu0, bb⟩ : ∃ uu, w.drew = uu ∧ Below w.heap.size w uu := ⟨_, rfl, (Below.refl _ _).drew⟩
  replace B1 := B1.trans (Bel.of bb W.lt)
  replace m1 := m1.below bb
  replace W := W.below bb
  replace R := R.below bb
  replace RJ := RJ.below bb
  have m0 := m1
  clear bb
  refine wp_region_held_drew (S := Kb u0) (by kernel_rfl) (by rw [hu0]; exact Below.refl _ _) (fun hHeld => ?_)
  rw [hu0] at hHeld ⊢
  clear hu0
  have bu : Kb u0 u0 := Below.refl _ _
  change wpAnyH _ _ _ _ _ 15 #[false, false, false, false, false, false, false, false, false, false, false, false, false, false, false] _ _
  refine wpAnyH_take (i := 0) (v := .pointer (some ⟨q, 0, none⟩)) rfl (by kernel_rfl) (by kernel_rfl) (by kernel_rfl) (fun _ _ _ h => h) (Or.inl ⟨by kernel_rfl, ?_⟩) hHeld ?_
  · intro w' hSw; go_simp
  try simp only [Act.put, List.setIfInBounds_toArray, List.set_cons_zero, List.set_cons_succ, List.getElem_toArray, List.getElem_cons_zero]
  refine wpAnyH_take (i := 1) (v := .pointer (some ⟨q, 0, none⟩)) rfl (by kernel_rfl) (by kernel_rfl) (by kernel_rfl) (fun _ _ _ h => h) (Or.inl ⟨by kernel_rfl, ?_⟩) hHeld ?_
  · intro w' hSw; go_simp
  try simp only [Act.put, List.setIfInBounds_toArray, List.set_cons_zero, List.set_cons_succ, List.getElem_toArray, List.getElem_cons_succ, List.getElem_cons_zero]
  refine wpAnyH_take (i := 2) (v := .pointer (some ⟨q, 0, none⟩)) rfl (by kernel_rfl) (by kernel_rfl) (by kernel_rfl) (fun _ _ _ h => h) (Or.inl ⟨by kernel_rfl, ?_⟩) hHeld ?_
  · intro w' hSw; go_simp
  try simp only [Act.put, List.setIfInBounds_toArray, List.set_cons_zero, List.set_cons_succ, List.getElem_toArray, List.getElem_cons_succ, List.getElem_cons_zero]
  refine wpAnyH_take (i := 3) (v := .slice ((some ⟨gs, 0, none⟩)) n cs) rfl (by kernel_rfl) (by kernel_rfl) (by kernel_rfl) (fun _ _ _ h => h) (Or.inl ⟨by kernel_rfl, ?_⟩) hHeld ?_
  · intro w' hSw; obtain ⟨z0, z1, z2, z3, -⟩ := Job.box (m0.below hSw); go_simp
  try simp only [Act.put, List.setIfInBounds_toArray, List.set_cons_zero, List.set_cons_succ, List.getElem_toArray, List.getElem_cons_succ, List.getElem_cons_zero]
  refine wpAnyH_take (i := 4) (v := .int .i64 (s)) rfl (by kernel_rfl) (by kernel_rfl) (by kernel_rfl) (fun _ _ _ h => h) (Or.inl ⟨by kernel_rfl, ?_⟩) hHeld ?_
  · intro w' hSw; go_simp
  try simp only [Act.put, List.setIfInBounds_toArray, List.set_cons_zero, List.set_cons_succ, List.getElem_toArray, List.getElem_cons_succ, List.getElem_cons_zero]
  refine wpAnyH_take (i := 6) (v := .pointer (some ⟨q, 0, none⟩)) rfl (by kernel_rfl) (by kernel_rfl) (by kernel_rfl) (fun _ _ _ h => h) (Or.inl ⟨by kernel_rfl, ?_⟩) hHeld ?_
  · intro w' hSw; go_simp
  try simp only [Act.put, List.setIfInBounds_toArray, List.set_cons_zero, List.set_cons_succ, List.getElem_toArray, List.getElem_cons_succ, List.getElem_cons_zero]
  refine wpAnyH_take (i := 7) (v := .pointer (some ⟨q, 0, none⟩)) rfl (by kernel_rfl) (by kernel_rfl) (by kernel_rfl) (fun _ _ _ h => h) (Or.inl ⟨by kernel_rfl, ?_⟩) hHeld ?_
  · intro w' hSw; go_simp
  try simp only [Act.put, List.setIfInBounds_toArray, List.set_cons_zero, List.set_cons_succ, List.getElem_toArray, List.getElem_cons_succ, List.getElem_cons_zero]
  refine wpAnyH_take (i := 8) (v := .pointer (some ⟨q, 1, none⟩)) rfl (by kernel_rfl) (by kernel_rfl) (by kernel_rfl) (fun _ _ _ h => h) (Or.inl ⟨by kernel_rfl, ?_⟩) hHeld ?_
  · intro w' hSw; go_simp
  try simp only [Act.put, List.setIfInBounds_toArray, List.set_cons_zero, List.set_cons_succ, List.getElem_toArray, List.getElem_cons_succ, List.getElem_cons_zero]
  refine wpAnyH_take (i := 9) (v := .slice ((some ⟨gj, 0, none⟩)) m cj) rfl (by kernel_rfl) (by kernel_rfl) (by kernel_rfl) (fun _ _ _ h => h) (Or.inl ⟨by kernel_rfl, ?_⟩) hHeld ?_
  · intro w' hSw; obtain ⟨z0, z1, z2, z3, -⟩ := Job.box (m0.below hSw); go_simp
  try simp only [Act.put, List.setIfInBounds_toArray, List.set_cons_zero, List.set_cons_succ, List.getElem_toArray, List.getElem_cons_succ, List.getElem_cons_zero]
  refine wpAnyH_take (i := 10) (v := .int .i64 (s)) rfl (by kernel_rfl) (by kernel_rfl) (by kernel_rfl) (fun _ _ _ h => h) (Or.inl ⟨by kernel_rfl, ?_⟩) hHeld ?_
  · intro w' hSw; go_simp
  try simp only [Act.put, List.setIfInBounds_toArray, List.set_cons_zero, List.set_cons_succ, List.getElem_toArray, List.getElem_cons_succ, List.getElem_cons_zero]
  refine wpAnyH_take (i := 11) (v := .int .i64 (o)) rfl (by kernel_rfl) (by kernel_rfl) (by kernel_rfl) (fun _ _ _ h => h) (Or.inl ⟨by kernel_rfl, ?_⟩) hHeld ?_
  · intro w' hSw; go_simp
  try simp only [Act.put, List.setIfInBounds_toArray, List.set_cons_zero, List.set_cons_succ, List.getElem_toArray, List.getElem_cons_succ, List.getElem_cons_zero]
  refine wpAnyH_ready (rs := [5]) (by kernel_rfl) (by simp) ?_
  refine AllReadyH.cons rfl (fun KK hK' => ?_) AllReadyH.nil
  go_simp
  refine (sampleIn_yes R.recsN hn HP hpn HE).mono ?_
  rintro e u1 ⟨rfl, bb⟩
  replace B1 := B1.trans (Bel.of bb W.lt)
  replace m1 := m1.below bb
  replace W := W.below bb
  replace R := R.below bb
  replace RJ := RJ.below bb
  replace bu : Kb u0 u1 := bu.trans (bb.mono bu.size)
  clear bb
  try go_wp2_with fail
  clear hHeld
  refine hK'.out _ _ (bu) (fun hHeld => ?_)
  clear hK' KK
  try simp only [List.setIfInBounds_toArray, List.set_cons_zero, List.set_cons_succ]
  refine wpAnyH_ready (rs := [12]) (by kernel_rfl) (by simp) ?_
  refine AllReadyH.cons rfl (fun KK hK' => ?_) AllReadyH.nil
  go_simp
  refine (jobIn_yesB s o RJ.recsN hm hj HN HY).mono ?_
  rintro e u2 ⟨rfl, bb⟩
  replace B1 := B1.trans (Bel.of bb W.lt)
  replace m1 := m1.below bb
  replace W := W.below bb
  replace R := R.below bb
  replace RJ := RJ.below bb
  replace bu : Kb u0 u2 := bu.trans (bb.mono bu.size)
  clear bb
  try go_wp2_with fail
  clear hHeld
  refine hK'.out _ _ (bu) (fun hHeld => ?_)
  clear hK' KK
  try simp only [List.setIfInBounds_toArray, List.set_cons_zero, List.set_cons_succ]
  refine wpAnyH_take (i := 13) (v := .pointer (some ⟨gs, p * 3, none⟩)) rfl (by kernel_rfl) (by kernel_rfl) (by kernel_rfl) (fun _ _ _ h => h) (Or.inl ⟨by kernel_rfl, ?_⟩) hHeld ?_
  · intro w' hSw; go_simp
  try simp only [Act.put, List.setIfInBounds_toArray, List.set_cons_zero, List.set_cons_succ, List.getElem_toArray, List.getElem_cons_succ, List.getElem_cons_zero]
  refine wpAnyH_take (i := 14) (v := .pointer (some ⟨gj, j * 4, none⟩)) rfl (by kernel_rfl) (by kernel_rfl) (by kernel_rfl) (fun _ _ _ h => h) (Or.inl ⟨by kernel_rfl, ?_⟩) hHeld ?_
  · intro w' hSw; go_simp
  try simp only [Act.put, List.setIfInBounds_toArray, List.set_cons_zero, List.set_cons_succ, List.getElem_toArray, List.getElem_cons_succ, List.getElem_cons_zero]
  refine wpAnyH_done (by kernel_rfl) ?_ _
  clear hHeld
  clear m0
  clear R RJ m1
  obtain ⟨d1, f1, hgs⟩ := W.frS (i := p * 3 + 1) (by omega)
  obtain ⟨d2, f2, -⟩ := W.frS (i := p * 3 + 2) (by omega)
  obtain ⟨d3, f3, hgj⟩ := W.frJ (i := j * 4 + 2) (by omega)
  obtain ⟨d4, f4, -⟩ := W.frJ (i := j * 4 + 3) (by omega)
  rw [e1.out] at d1
  rw [e2.out] at d2
  rw [e3.out] at d3
  rw [e4.out] at d4
  by_cases h1 : pl = 3
  case neg =>
    have h1' : (pl != 3) = true := by simpa using h1
    have H1 : Hid (pl ≠ 3) := h1
    clear h1
    go_wp2
    go_ret
    unfold MsP
    rw [if_pos H1.out]
    exact ⟨_, _, rfl, W, B1⟩
  subst h1
  by_cases h2 : st = 1
  case neg =>
    have h2' : (st != 1) = true := by simpa using h2
    have H2 : Hid (st ≠ 1) := h2
    clear h2
    go_wp2
    go_ret
    unfold MsP
    rw [if_neg (by simp), if_pos H2.out]
    exact ⟨_, _, rfl, W, B1⟩
  subst h2
  by_cases h3 : lf < nd
  · have H3 : Hid (lf < nd) := h3
    go_wp2_with fail
    go_region
    go_wp2
    go_ret
    unfold MsP
    rw [if_neg (by simp), if_neg (by simp), if_pos H3.out]
    exact ⟨_, _, rfl, W.below (below_drewN (Below.refl _ _) _), B1.trans (Bel.of (below_drewN (Below.refl _ _) _) W.lt)⟩
  · have H3 : Hid (¬ lf < nd) := h3
    obtain ⟨Z, hZ⟩ : ∃ Z, lf - nd = Z := ⟨_, rfl⟩
    obtain ⟨Y, hY⟩ : ∃ Y, T + nd = Y := ⟨_, rfl⟩
    have w1 : IntKind.i64.wrap (lf - nd) = Z := by rw [IntKind.wrap_i64]; omega
    have w2 : IntKind.i64.wrap (T + nd) = Y := by rw [IntKind.wrap_i64]; omega
    have HZ : Hid (lf - nd = Z) := hZ
    have HW : Hid (T + nd = Y) := hY
    clear hZ hY
    go_wp2_with fail
    go_region
    go_wp2_with fail
    clear d1 d2 d3 d4 f1 f2 f3 f4 hgs hgj
    have z3 : Below u2.heap.size u2 u2.drew := (Below.refl _ _).drew
    replace B1 := B1.trans (Bel.of z3 W.lt)
    replace W := W.below z3
    obtain ⟨u3, hu3⟩ : ∃ u, u2.drew = u := ⟨_, rfl⟩
    rw [hu3] at W B1 ⊢
    clear z3 hu3
    obtain ⟨d2, f2, hgs⟩ := W.frS (i := p * 3 + 2) (by omega)
    obtain ⟨d3, f3, hgj⟩ := W.frJ (i := j * 4 + 2) (by omega)
    rw [e2.out] at d2
    rw [e3.out] at d3
    go_region
    go_wp2_with fail
    clear d2 d3 f2 f3 hgs hgj
    obtain ⟨W4, B4⟩ := W.updS (i := p * 3 + 2) (by omega) Z
    replace B1 := B1.trans B4
    clear W B4
    have z3 : Below (u3.setCell ⟨gs, p * 3 + 2, none⟩ (.int .i64 Z)).heap.size (u3.setCell ⟨gs, p * 3 + 2, none⟩ (.int .i64 Z)) (u3.setCell ⟨gs, p * 3 + 2, none⟩ (.int .i64 Z)).drew := (Below.refl _ _).drew
    replace B1 := B1.trans (Bel.of z3 W4.lt)
    replace W4 := W4.below z3
    obtain ⟨u4, hu4⟩ : ∃ u, (u3.setCell ⟨gs, p * 3 + 2, none⟩ (.int .i64 Z)).drew = u := ⟨_, rfl⟩
    rw [hu4] at W4 B1 ⊢
    clear z3 hu4
    obtain ⟨d3, f3, hgj⟩ := W4.frJ (i := j * 4 + 2) (by omega)
    obtain ⟨c0, c1, c2, c3, -⟩ := Job.box W4.bx
    obtain ⟨g0, g1, g2, g3⟩ := Job.boxF W4.bx
    have hql := W4.bx.lt
    rw [e3.out] at d3
    go_region
    clear c0 c1 c2 c3 g0 g1 g2 g3 d3 f3
    obtain ⟨W5, B5⟩ := W4.updT Y
    replace B1 := B1.trans B5
    clear W4 B5
    have z3 : Below (u4.setCell ⟨q, 2, none⟩ (.int .i64 Y)).heap.size (u4.setCell ⟨q, 2, none⟩ (.int .i64 Y)) (u4.setCell ⟨q, 2, none⟩ (.int .i64 Y)).drew := (Below.refl _ _).drew
    replace B1 := B1.trans (Bel.of z3 W5.lt)
    replace W5 := W5.below z3
    obtain ⟨u5, hu5⟩ : ∃ u, (u4.setCell ⟨q, 2, none⟩ (.int .i64 Y)).drew = u := ⟨_, rfl⟩
    rw [hu5] at W5 B1 ⊢
    clear z3 hu5
    obtain ⟨d4, f4, -⟩ := W5.frJ (i := j * 4 + 3) (by omega)
    obtain ⟨W6, B6⟩ := W5.updJ (i := j * 4 + 3) (by omega) 2
    go_wp2
    go_ret
    unfold MsP
    rw [if_neg (by simp), if_neg (by simp), if_neg (Int.not_lt.2 H3.out), HZ.out, HW.out]
    exact ⟨_, _, rfl, W6, B1.trans B6⟩
end
end Go.Proofs.Ytnjnffemidaopaa
