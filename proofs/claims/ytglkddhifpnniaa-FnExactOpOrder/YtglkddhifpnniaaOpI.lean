/-
  Operators told in new memory by the program, walked.
-/
import Derived.Test.YtglkddhifpnniaaOpG
import Derived.Test.YtglkddhifpnniaaOpH
import Derived.Test.YtglkddhifpnniaaOpF
namespace Go.Proofs.Ytglkddhifpnniaa
open Go.RowKit

theorem At.ints9 {w : World} {q : Nat} {f h : Nat → Int} (a : At 45 w q (opA f h)) : Ints w q 0 9 f := by
  intro i hi
  rw [Nat.zero_add]
  have := opA_get f h i (by omega)
  rw [if_pos hi] at this
  exact a.cell i this
theorem At.ints3 {w : World} {q : Nat} {f h : Nat → Int} (a : At 45 w q (opA f h)) : Ints w q 9 3 h := by
  intro i hi
  have := opA_get f h (9 + i) (by omega)
  rw [if_neg (by omega), Nat.add_sub_cancel_left] at this
  exact a.cell (9 + i) this
theorem arr_of_made {w : World} {lo g c n : Nat} {f : Nat → Int} (h : Made w g c n f) (hc : n ≤ c) (hl : lo ≤ g) : Arr w lo w.heap.size (.slice (some ⟨g, 0, none⟩) n c) n f := .inr ⟨g, c, rfl, hl, h.lt, hc, h⟩
theorem Made.below {w w' : World} {g n k : Nat} {f : Nat → Int} (h : Made w g n k f) (hb : Below w.heap.size w w') : Made w' g n k f := by
  obtain ⟨cur, h1, h2⟩ := h
  exact ⟨cur, h1.below hb, h2⟩
theorem told_bad {f h : Nat → Int} (hR : ¬ isR f h) (w : World) :
    Calls Try.prog 23 #[.agg (opA f h)] w fun e w' => e = .returned (.tuple #[.agg #[.slice none 0 0, .slice none 0 0], .bool false]) ∧ Below w.heap.size w w' := by
  obtain ⟨W1, hW1, a1, bW1, -⟩ := boxed w 45 (opA f h)
  obtain ⟨W2, hW2, a2, bW2, -⟩ := boxed W1 26 #[.slice none 0 0, .slice none 0 0]
  have s1 := a1.lt
  replace a1 := a1.below bW2
  replace bW1 := bW1.trans (bW2.mono bW1.size)
  have hr : ∀ w, Calls Try.prog 36 #[.agg (opA f h)] w fun e w' => e = .returned (.bool false) ∧ Below w.heap.size w w' := by
    intro w
    have := right_any f h w
    rwa [decide_eq_false hR] at this
  obtain ⟨⟨c0, c1, c2, c3, c4, c5, c6, c7, c8⟩, c9, c10, c11⟩ := a1.open12
  unfold opA at hW1 hr ⊢
  go_enter Try.func23, Try.ntmps23
  go_wp2_with fail
  refine (hr _).mono ?_
  rintro e w3 ⟨rfl, b3⟩
  replace a2 := a2.below b3
  replace bW1 := bW1.trans (b3.mono bW1.size)
  clear c0 c1 c2 c3 c4 c5 c6 c7 c8 c9 c10 c11 hr
  obtain ⟨d0, d1, f0, f1⟩ := a2.open2
  go_wp2
  have a7 : At 26 ((w3.setCell ⟨W1.heap.size, 0, none⟩ (.slice none 0 0)).setCell ⟨W1.heap.size, 1, none⟩ (.slice none 0 0)) W1.heap.size #[.slice none 0 0, .slice none 0 0] := by
    simpa using (a2.set 0 (.slice none 0 0)).set 1 (.slice none 0 0)
  obtain ⟨p0, p1, -⟩ := a7.open2
  exact bodyPost_ret (v := .tuple #[.agg #[.slice none 0 0, .slice none 0 0], .bool false]) (by simp [results, Try.results23, go_sem, p0, p1]) rfl ⟨rfl, (bW1.setCell (show w.heap.size ≤ W1.heap.size by omega) _).setCell (show w.heap.size ≤ W1.heap.size by omega) _⟩
theorem Arr.setOther {w : World} {lo hi q i : Nat} {v : Value} {n : Nat} {f : Nat → Int} (h : Arr w lo hi v n f) (hq : q < lo) (x : Value) : Arr (w.setCell ⟨q, i, none⟩ x) lo hi v n f := by
  refine h.imp id ?_
  rintro ⟨g, c, rfl, hl, hh, hc, m⟩
  exact ⟨g, c, rfl, hl, hh, hc, m.setOther (by omega) x⟩
set_option maxHeartbeats 1600000 in
theorem op_any (f h : Nat → Int) (w : World) :
    Calls Try.prog 40 #[.agg (opA f h)] w fun e w' => ∃ o, e = .returned o ∧ OpAt w' w.heap.size w'.heap.size o 9 f 3 h ∧ Below w.heap.size w w' := by
  obtain ⟨W1, hW1, a1, bW1, -⟩ := boxed w 45 (opA f h)
  obtain ⟨W2, hW2, a2, bW2, -⟩ := boxed W1 26 #[.slice none 0 0, .slice none 0 0]
  have s1 := a1.lt
  replace a1 := a1.below bW2
  replace bW1 := bW1.trans (bW2.mono bW1.size)
  have s3 := a2.lt
  unfold opA at hW1 ⊢
  go_enter Try.func40, Try.ntmps40
  go_wp2_with fail
  obtain ⟨w0, hw0, A1, A2, B0⟩ : ∃ w0, W2.drew = w0 ∧ At 45 w0 w.heap.size (opA f h) ∧ At 26 w0 W1.heap.size #[.slice none 0 0, .slice none 0 0] ∧ Below w.heap.size w w0 := ⟨_, rfl, a1, a2, bW1.drew⟩
  have s0 : W2.heap.size ≤ w0.heap.size := hw0 ▸ Nat.le_refl _
  refine wp_region_held_drew (S := fun _ => True) (by kernel_rfl) (trivial) (fun hHeld => ?_)
  rw [hw0]
  clear hw0 a1 a2 bW1
  change wpAnyH _ _ _ _ _ 8 #[false, false, false, false, false, false, false, false] _ _
  refine wpAnyH_take (i := 0) (v := .pointer (some ⟨w.heap.size, 0, none⟩)) rfl (by kernel_rfl) (by kernel_rfl) (by kernel_rfl) (fun _ _ _ h => h) (Or.inl ⟨by kernel_rfl, ?_⟩) hHeld ?_
  · intro w' hSw; go_simp
  try simp only [Act.put, List.setIfInBounds_toArray, List.set_cons_zero]
  refine wpAnyH_take (i := 1) (v := .slice (some ⟨w.heap.size, 0, none⟩) 9 9) rfl (by kernel_rfl) (by kernel_rfl) (by kernel_rfl) (fun _ _ _ h => h) (Or.inl ⟨by kernel_rfl, ?_⟩) hHeld ?_
  · intro w' hSw; go_simp
  try simp only [Act.put, List.setIfInBounds_toArray, List.set_cons_zero, List.set_cons_succ]
  refine wpAnyH_take (i := 3) (v := .pointer (some ⟨w.heap.size, 9, none⟩)) rfl (by kernel_rfl) (by kernel_rfl) (by kernel_rfl) (fun _ _ _ h => h) (Or.inl ⟨by kernel_rfl, ?_⟩) hHeld ?_
  · intro w' hSw; go_simp
  try simp only [Act.put, List.setIfInBounds_toArray, List.set_cons_zero, List.set_cons_succ]
  refine wpAnyH_take (i := 4) (v := .slice (some ⟨w.heap.size, 9, none⟩) 3 3) rfl (by kernel_rfl) (by kernel_rfl) (by kernel_rfl) (fun _ _ _ h => h) (Or.inl ⟨by kernel_rfl, ?_⟩) hHeld ?_
  · intro w' hSw; go_simp
  try simp only [Act.put, List.setIfInBounds_toArray, List.set_cons_zero, List.set_cons_succ]
  refine wpAnyH_ready (rs := [2]) (by kernel_rfl) (by simp) ?_
  refine AllReadyH.cons rfl (fun K hK => ?_) AllReadyH.nil
  go_simp
  refine (clone_any A1.ints9 A1.lt (by omega)).mono ?_
  rintro e w4 ⟨g9, c9, rfl, hg9, hc9, m9, bw4⟩
  replace A1 := A1.below bw4
  replace A2 := A2.below bw4
  have tw4 := bw4.size
  try go_wp2_with fail
  clear hHeld
  refine hK.out _ _ trivial (fun hHeld => ?_)
  clear hK K
  try simp only [List.setIfInBounds_toArray, List.set_cons_zero, List.set_cons_succ]
  replace B0 := B0.trans (bw4.mono B0.size)
  have l1 := m9.lt
  refine wpAnyH_ready (rs := [5]) (by kernel_rfl) (by simp) ?_
  refine AllReadyH.cons rfl (fun K hK => ?_) AllReadyH.nil
  go_simp
  refine (clone_any A1.ints3 A1.lt (by omega)).mono ?_
  rintro e w5 ⟨g3, c3, rfl, hg3, hc3, m3, bw5⟩
  replace A1 := A1.below bw5
  replace A2 := A2.below bw5
  have tw5 := bw5.size
  try go_wp2_with fail
  clear hHeld
  refine hK.out _ _ trivial (fun hHeld => ?_)
  clear hK K
  try simp only [List.setIfInBounds_toArray, List.set_cons_zero, List.set_cons_succ]
  replace m9 := m9.below bw5
  replace B0 := B0.trans (bw5.mono B0.size)
  refine wpAnyH_take (i := 6) (v := .agg #[.slice (some ⟨g9, 0, none⟩) 9 c9, .slice (some ⟨g3, 0, none⟩) 3 c3]) rfl (by kernel_rfl) (by kernel_rfl) (by kernel_rfl) (fun _ _ _ h => h) (Or.inl ⟨by kernel_rfl, ?_⟩) hHeld ?_
  · intro w' hSw; go_simp
  try simp only [Act.put, List.setIfInBounds_toArray, List.set_cons_zero, List.set_cons_succ]
  obtain ⟨d0, d1, f0, f1⟩ := A2.open2
  refine wpAnyH_ready (rs := [7]) (by kernel_rfl) (by simp) ?_
  refine AllReadyH.cons rfl (fun K hK => ?_) AllReadyH.nil
  go_simp
  clear d0 d1 f0 f1
  clear hHeld
  refine hK.out _ _ (trivial) (fun hHeld => ?_)
  clear hK K
  try simp only [List.setIfInBounds_toArray, List.set_cons_zero, List.set_cons_succ]
  refine wpAnyH_done (by kernel_rfl) ?_ _
  have q9 := (m9.setOther (q := W1.heap.size) (i := 0) (by omega) (.slice (some ⟨g9, 0, none⟩) 9 c9)).setOther (q := W1.heap.size) (i := 1) (by omega) (.slice (some ⟨g3, 0, none⟩) 3 c3)
  have q3 := (m3.setOther (q := W1.heap.size) (i := 0) (by omega) (.slice (some ⟨g9, 0, none⟩) 9 c9)).setOther (q := W1.heap.size) (i := 1) (by omega) (.slice (some ⟨g3, 0, none⟩) 3 c3)
  have a7 : At 26 ((w5.setCell ⟨W1.heap.size, 0, none⟩ (.slice (some ⟨g9, 0, none⟩) 9 c9)).setCell ⟨W1.heap.size, 1, none⟩ (.slice (some ⟨g3, 0, none⟩) 3 c3)) W1.heap.size #[.slice (some ⟨g9, 0, none⟩) 9 c9, .slice (some ⟨g3, 0, none⟩) 3 c3] := by
    simpa using (A2.set 0 (.slice (some ⟨g9, 0, none⟩) 9 c9)).set 1 (.slice (some ⟨g3, 0, none⟩) 3 c3)
  obtain ⟨p0, p1, -⟩ := a7.open2
  go_wp2
  refine bodyPost_ret (v := .agg #[.slice (some ⟨g9, 0, none⟩) 9 c9, .slice (some ⟨g3, 0, none⟩) 3 c3]) (by simp [results, Try.results40, go_sem, p0, p1]) rfl ⟨_, rfl, ⟨_, _, rfl, arr_of_made q9 hc9 (by omega), arr_of_made q3 hc3 (by omega), ?_⟩, (B0.setCell (show w.heap.size ≤ W1.heap.size by omega) _).setCell (show w.heap.size ≤ W1.heap.size by omega) _⟩
  intro x h1 h2
  cases h1
  cases h2
  omega
set_option maxHeartbeats 1600000 in
theorem told_ok {f h : Nat → Int} (hR : isR f h) (w : World) :
    Calls Try.prog 23 #[.agg (opA f h)] w fun e w' => ∃ o, e = .returned (.tuple #[o, .bool true]) ∧ OpAt w' w.heap.size w'.heap.size o 9 f 3 h ∧ Below w.heap.size w w' := by
  obtain ⟨W1, hW1, a1, bW1, -⟩ := boxed w 45 (opA f h)
  obtain ⟨W2, hW2, a2, bW2, -⟩ := boxed W1 26 #[.slice none 0 0, .slice none 0 0]
  have s1 := a1.lt
  replace a1 := a1.below bW2
  replace bW1 := bW1.trans (bW2.mono bW1.size)
  have hr : ∀ w, Calls Try.prog 36 #[.agg (opA f h)] w fun e w' => e = .returned (.bool true) ∧ Below w.heap.size w w' := by
    intro w
    have := right_any f h w
    rwa [decide_eq_true hR] at this
  have ho := op_any f h
  obtain ⟨⟨c0, c1, c2, c3, c4, c5, c6, c7, c8⟩, c9, c10, c11⟩ := a1.open12
  have HA : Hid (At 45 W2 w.heap.size (opA f h)) := a1
  have HO : Hid (∀ w, Calls Try.prog 40 #[.agg (opA f h)] w fun e w' => ∃ o, e = .returned o ∧ OpAt w' w.heap.size w'.heap.size o 9 f 3 h ∧ Below w.heap.size w w') := ho
  clear ho
  unfold opA at hW1 hr ⊢
  go_enter Try.func23, Try.ntmps23
  go_wp2_with fail
  refine (hr _).mono ?_
  rintro e w3 ⟨rfl, b3⟩
  replace a2 := a2.below b3
  replace bW1 := bW1.trans (b3.mono bW1.size)
  clear c0 c1 c2 c3 c4 c5 c6 c7 c8 c9 c10 c11 hr a1
  have a1 := HA.out.below b3
  have s3 := a2.lt
  clear HA b3 hW1 hW2 bW2
  obtain ⟨⟨c0, c1, c2, c3, c4, c5, c6, c7, c8⟩, c9, c10, c11⟩ := a1.open12
  go_wp2_with fail
  clear c0 c1 c2 c3 c4 c5 c6 c7 c8 c9 c10 c11
  refine (HO.out _).mono ?_
  rintro e w4 ⟨o, rfl, N4, b4⟩
  clear a1 HO
  replace a2 := a2.below b4
  replace bW1 := bW1.trans (b4.mono bW1.size)
  obtain ⟨v1, v2, rfl, A1, A2, ap⟩ := N4
  obtain ⟨z1, y1, hz1, -⟩ := A1.src
  obtain ⟨z2, y2, hz2, -⟩ := A2.src
  subst hz1 hz2
  obtain ⟨d0, d1, f0, f1⟩ := a2.open2
  have a7 : At 26 ((w4.setCell ⟨W1.heap.size, 0, none⟩ (.slice z1 9 y1)).setCell ⟨W1.heap.size, 1, none⟩ (.slice z2 3 y2)) W1.heap.size #[.slice z1 9 y1, .slice z2 3 y2] := by
    simpa using (a2.set 0 (.slice z1 9 y1)).set 1 (.slice z2 3 y2)
  obtain ⟨p0, p1, -⟩ := a7.open2
  go_wp2
  refine bodyPost_ret (v := .tuple #[.agg #[.slice z1 9 y1, .slice z2 3 y2], .bool true]) (by simp [results, Try.results23, go_sem, p0, p1]) rfl ⟨_, rfl, ⟨_, _, rfl, ?_, ?_, ap⟩, (bW1.setCell (show w.heap.size ≤ W1.heap.size by omega) _).setCell (show w.heap.size ≤ W1.heap.size by omega) _⟩
  · exact ((A1.setOther s3 _).setOther s3 _).wide (by omega) (by simp [World.setCell])
  · exact ((A2.setOther s3 _).setOther s3 _).wide (by omega) (by simp [World.setCell])
end Go.Proofs.Ytglkddhifpnniaa
