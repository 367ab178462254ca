/-
  An operator told in new memory. Walked.
-/
import Derived.Test.YtmjeplhigjlopaaHb
import Derived.Test.YtmjeplhigjlopaaOpH
import Derived.Test.YtmjeplhigjlopaaGr
namespace Go.Proofs.Ytmjeplhigjlopaa
open Go.RowKit

theorem opA_ints {w : World} {q : Nat} {f h : Nat → Int} {t : TypeId} (a : At t w q (opA f h)) : Ints w q 0 9 f ∧ Ints w q 9 3 h := by
  refine ⟨fun i hi => ?_, fun i hi => ?_⟩
  · have := a.cell i (opA_get f h i (by omega))
    rw [if_pos hi] at this
    simpa using this
  · have := a.cell (9 + i) (opA_get f h (9 + i) (by omega))
    rw [if_neg (by omega), show 9 + i - 9 = i by omega] at this
    exact this
set_option maxRecDepth 100000 in
set_option maxHeartbeats 1600000 in
theorem opNew_any (f h : Nat → Int) (w : World) : Calls Try.prog 69 #[.agg (opA f h)] w fun e w' => ∃ v1 v2, e = .returned (.agg #[v1, v2]) ∧ Arr w' w.heap.size w'.heap.size v1 9 f ∧ Arr w' w.heap.size w'.heap.size v2 3 h ∧ Apart v1 v2 ∧ Below w.heap.size w w' := by
  obtain ⟨W1, hW1, a1, B1, -⟩ := boxed w 77 (opA f h)
  obtain ⟨W2, hW2, a2, B2, -⟩ := boxed W1 37 #[.slice none 0 0, .slice none 0 0]
  replace a1 := a1.below B2
  have B : Below w.heap.size w W2 := B1.trans (B2.mono B1.size)
  have hqq : w.heap.size ≤ W1.heap.size := B1.size
  clear B1 B2
  unfold opA at hW1 ⊢
  go_enter Try.func69, Try.ntmps69
  go_wp2_with fail
  clear hW1 hW2
  obtain ⟨q1, hq1⟩ : ∃ q, w.heap.size = q := ⟨_, rfl⟩
  obtain ⟨q2, hq2⟩ : ∃ q, W1.heap.size = q := ⟨_, rfl⟩
  rw [hq1] at a1 ⊢
  rw [hq2] at a2 ⊢
  obtain ⟨u0, hu0, bb⟩ : ∃ u0, W2.drew = u0 ∧ Below W2.heap.size W2 u0 := ⟨_, rfl, (Below.refl _ _).drew⟩
  replace a1 := a1.below bb
  replace a2 := a2.below bb
  have B0 := B.trans (bb.mono B.size)
  clear bb B
  refine wp_region_held_drew (S := fun _ => True) (by kernel_rfl) trivial (fun hHeld => ?_)
  rw [hu0]
  clear hu0
  change wpAnyH _ _ _ _ _ 8 #[false, false, false, false, false, false, false, false] _ _
  refine wpAnyH_take (i := 0) (v := .pointer (some ⟨q1, 0, none⟩)) rfl (by kernel_rfl) (by kernel_rfl) (by kernel_rfl) (fun _ _ _ h => h) (Or.inl ⟨by kernel_rfl, ?_⟩) hHeld ?_
  · intro w' hSw; go_simp
  try simp only [Act.put, List.setIfInBounds_toArray, List.set_cons_zero]
  refine wpAnyH_take (i := 1) (v := .slice (some ⟨q1, 0, none⟩) 9 9) rfl (by kernel_rfl) (by kernel_rfl) (by kernel_rfl) (fun _ _ _ h => h) (Or.inl ⟨by kernel_rfl, ?_⟩) hHeld ?_
  · intro w' hSw; go_simp
  try simp only [Act.put, List.setIfInBounds_toArray, List.set_cons_zero, List.set_cons_succ]
  refine wpAnyH_take (i := 3) (v := .pointer (some ⟨q1, 9, none⟩)) rfl (by kernel_rfl) (by kernel_rfl) (by kernel_rfl) (fun _ _ _ h => h) (Or.inl ⟨by kernel_rfl, ?_⟩) hHeld ?_
  · intro w' hSw; go_simp
  try simp only [Act.put, List.setIfInBounds_toArray, List.set_cons_zero, List.set_cons_succ]
  refine wpAnyH_take (i := 4) (v := .slice (some ⟨q1, 9, none⟩) 3 3) rfl (by kernel_rfl) (by kernel_rfl) (by kernel_rfl) (fun _ _ _ h => h) (Or.inl ⟨by kernel_rfl, ?_⟩) hHeld ?_
  · intro w' hSw; go_simp
  try simp only [Act.put, List.setIfInBounds_toArray, List.set_cons_zero, List.set_cons_succ]
  refine wpAnyH_ready (rs := [2]) (by kernel_rfl) (by simp) ?_
  refine AllReadyH.cons rfl (fun KK hK' => ?_) AllReadyH.nil
  go_simp
  refine (clone_any (f := f) (opA_ints a1).1 a1.lt (by omega)).mono ?_
  rintro e u1 ⟨g1, c1, rfl, hg1, hc1, m1, b1⟩
  have m1lt := m1.lt
  have a0 := a2
  replace a1 := a1.below b1
  replace a2 := a2.below b1
  have B1 := B0.trans (b1.mono B0.size)
  try go_wp2_with fail
  clear hHeld
  refine hK'.out _ _ (trivial) (fun hHeld => ?_)
  clear hK' KK
  try simp only [List.setIfInBounds_toArray, List.set_cons_zero, List.set_cons_succ]
  refine wpAnyH_ready (rs := [5]) (by kernel_rfl) (by simp) ?_
  refine AllReadyH.cons rfl (fun KK hK' => ?_) AllReadyH.nil
  go_simp
  refine (clone_any (f := h) (opA_ints a1).2 a1.lt (by omega)).mono ?_
  rintro e u2 ⟨g2, c2, rfl, hg2, hc2, m2, b2⟩
  replace a2 := a2.below b2
  replace m1 := m1.below b2
  have B2 := B1.trans (b2.mono B1.size)
  try go_wp2_with fail
  clear hHeld
  refine hK'.out _ _ (trivial) (fun hHeld => ?_)
  clear hK' KK
  try simp only [List.setIfInBounds_toArray, List.set_cons_zero, List.set_cons_succ]
  refine wpAnyH_take (i := 6) (v := .agg #[.slice (some ⟨g1, 0, none⟩) 9 c1, .slice (some ⟨g2, 0, none⟩) 3 c2]) rfl (by kernel_rfl) (by kernel_rfl) (by kernel_rfl) (fun _ _ _ h => h) (Or.inl ⟨by kernel_rfl, ?_⟩) hHeld ?_
  · intro w' hSw; go_simp
  try simp only [Act.put, List.setIfInBounds_toArray, List.set_cons_zero, List.set_cons_succ]
  refine wpAnyH_ready (rs := [7]) (by kernel_rfl) (by simp) ?_
  refine AllReadyH.cons rfl (fun KK hK' => ?_) AllReadyH.nil
  obtain ⟨k0, k1, k2, k3⟩ := a2.open2
  go_simp
  have s2 := (a2.set 0 (.slice (some ⟨g1, 0, none⟩) 9 c1)).set 1 (.slice (some ⟨g2, 0, none⟩) 3 c2)
  clear hHeld
  refine hK'.out _ _ (trivial) (fun hHeld => ?_)
  clear hK' KK
  try simp only [List.setIfInBounds_toArray, List.set_cons_zero, List.set_cons_succ]
  clear hHeld
  refine wpAnyH_done (by kernel_rfl) ?_ _
  obtain ⟨u3, hu3⟩ : ∃ u, (u2.setCell ⟨q2, 0, none⟩ (.slice (some ⟨g1, 0, none⟩) 9 c1)).setCell ⟨q2, 1, none⟩ (.slice (some ⟨g2, 0, none⟩) 3 c2) = u := ⟨_, rfl⟩
  have hq2l : q2 < u0.heap.size := a0.lt
  have hb1 := b1.size
  have hm1 : Made u3 g1 c1 9 f := by
    rw [← hu3]
    obtain ⟨cur, t1, t2⟩ := m1
    exact ⟨cur, (t1.setOther (by omega) _).setOther (by omega) _, t2⟩
  have hm2 : Made u3 g2 c2 3 h := by
    rw [← hu3]
    obtain ⟨cur, t1, t2⟩ := m2
    exact ⟨cur, (t1.setOther (by omega) _).setOther (by omega) _, t2⟩
  have hw : q1 ≤ q2 := by rw [← hq1, ← hq2]; exact hqq
  have B3 : Below w.heap.size w u3 := by
    rw [← hu3]
    exact (B2.setCell (p := ⟨q2, 0, none⟩) (by show _ ≤ q2; omega) _).setCell (p := ⟨q2, 1, none⟩) (by show _ ≤ q2; omega) _
  have s3 : At 37 u3 q2 #[.slice (some ⟨g1, 0, none⟩) 9 c1, .slice (some ⟨g2, 0, none⟩) 3 c2] := by rw [← hu3]; exact s2
  have hl1 := hm1.lt
  have hl2 := hm2.lt
  have hg1b : g1 < u1.heap.size := m1lt
  rw [hu3]
  clear hu3 s2 a2 k0 k1 k2 k3 a1
  obtain ⟨k0, k1, -⟩ := s3.open2
  go_wp2
  refine bodyPost_ret (v := .agg #[.slice (some ⟨g1, 0, none⟩) 9 c1, .slice (some ⟨g2, 0, none⟩) 3 c2]) (by simp [results, Try.results69, go_sem, k0, k1]) rfl ⟨_, _, rfl, .inr ⟨g1, c1, rfl, by omega, hl1, hc1, hm1⟩, .inr ⟨g2, c2, rfl, by omega, hl2, hc2, hm2⟩, fun k e1 e2 => ?_, B3⟩
  simp only [Value.ownBlock, Option.some.injEq] at e1 e2
  omega
end Go.Proofs.Ytmjeplhigjlopaa
