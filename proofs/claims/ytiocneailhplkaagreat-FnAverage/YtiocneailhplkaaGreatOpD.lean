/-
  Operators of nine and three numbers taken in by the program, walked.
-/
import Derived.Test.YtiocneailhplkaaGreatMB
import Derived.Deep.CutRange
namespace Go.Proofs.YtiocneailhplkaaGreat
open Go.RowKit

abbrev vecL (h : Nat → Int) : List Value := [.int .i64 (h 0), .int .i64 (h 1), .int .i64 (h 2)]
abbrev opL (f h : Nat → Int) : List Value := [.int .i64 (f 0), .int .i64 (f 1), .int .i64 (f 2), .int .i64 (f 3), .int .i64 (f 4), .int .i64 (f 5), .int .i64 (f 6), .int .i64 (f 7), .int .i64 (f 8), .int .i64 (h 0), .int .i64 (h 1), .int .i64 (h 2)]
theorem size53 (m : Nat → Int) : (Tryz.prog.info? 88).map (·.size) = some (matL m).length := by
  have : (Tryz.prog.info? 88).map (·.size) = some 9 := by kernel_rfl
  exact this
theorem size55 (m : Nat → Int) : (Tryz.prog.info? 66).map (·.size) = some (vecL m).length := by
  have : (Tryz.prog.info? 66).map (·.size) = some 3 := by kernel_rfl
  exact this
theorem size57 (f h : Nat → Int) : (Tryz.prog.info? 90).map (·.size) = some (opL f h).length := by
  have : (Tryz.prog.info? 90).map (·.size) = some 12 := by kernel_rfl
  exact this
theorem range9 {w : World} {b o : Nat} {f : Nat → Int} (h : Ints w b o 9 f) : w.rangeAt b o (matL f) := by
  intro j v hv
  have hj : j < 9 := (List.getElem?_eq_some_iff.1 hv).1
  have := h j hj
  rw [this]
  rcases (by omega : j = 0 ∨ j = 1 ∨ j = 2 ∨ j = 3 ∨ j = 4 ∨ j = 5 ∨ j = 6 ∨ j = 7 ∨ j = 8) with rfl | rfl | rfl | rfl | rfl | rfl | rfl | rfl | rfl <;> simpa using hv
theorem range3 {w : World} {b o : Nat} {f : Nat → Int} (h : Ints w b o 3 f) : w.rangeAt b o (vecL f) := by
  intro j v hv
  have hj : j < 3 := (List.getElem?_eq_some_iff.1 hv).1
  have := h j hj
  rw [this]
  rcases (by omega : j = 0 ∨ j = 1 ∨ j = 2) with rfl | rfl | rfl <;> simpa using hv
/-- What the region reads: the operator's lists, and their numbers. -/
def S3c (V : World) (q b1 o1 cap : Nat) (f : Nat → Int) (b2 o2 cap' : Nat) (h : Nat → Int) (w' : World) : Prop :=
  w'.cell? ⟨q, 0, none⟩ = some (.slice (some ⟨b1, o1, none⟩) 9 cap) ∧ w'.cell? ⟨q, 1, none⟩ = some (.slice (some ⟨b2, o2, none⟩) 3 cap') ∧ w'.rangeAt b1 o1 (matL f) ∧ w'.rangeAt b2 o2 (vecL h) ∧ Below V.heap.size V w'
theorem s3c_mk {V : World} {q b1 o1 cap b2 o2 cap' : Nat} {f h : Nat → Int} (a : At 57 V q #[.slice (some ⟨b1, o1, none⟩) 9 cap, .slice (some ⟨b2, o2, none⟩) 3 cap']) (hs : Ints V b1 o1 9 f) (ht : Ints V b2 o2 3 h) (l1 : b1 < V.heap.size) (l2 : b2 < V.heap.size) (w' : World) (hw : Below V.heap.size V w') : S3c V q b1 o1 cap f b2 o2 cap' h w' := by
  obtain ⟨c0, c1, -⟩ := (a.below hw).open2
  exact ⟨c0, c1, range9 (hs.below l1 hw), range3 (ht.below l2 hw), hw⟩
def S12 (q : Nat) (f h : Nat → Int) (w' : World) : Prop := w'.rangeAt q 0 (opL f h)
theorem s12_mk {w' : World} {q : Nat} {f h : Nat → Int} (a : At 90 w' q (opA f h)) : S12 q f h w' :=
  fun j v hv => by rw [Nat.zero_add]; exact a.cell j (by simpa [opA] using hv)
set_option maxRecDepth 100000 in
set_option maxHeartbeats 1600000 in
theorem operatorOf_ok {w : World} {b1 o1 b2 o2 : Nat} {f h : Nat → Int} (hs : Ints w b1 o1 9 f) (ht : Ints w b2 o2 3 h) (l1 : b1 < w.heap.size) (l2 : b2 < w.heap.size) (cap cap' : Nat) :
    Calls Tryz.prog 81 #[.agg #[.slice (some ⟨b1, o1, none⟩) 9 cap, .slice (some ⟨b2, o2, none⟩) 3 cap']] w fun e w' => e = .returned (.tuple #[.agg (opA f h), .bool (decide (isR f h))]) ∧ Below w.heap.size w w' := by
  obtain ⟨W1, hW1, a1, bW1, -⟩ := boxed w 57 #[.slice (some ⟨b1, o1, none⟩) 9 cap, .slice (some ⟨b2, o2, none⟩) 3 cap']
  obtain ⟨W2, hW2, a2, bW2, -⟩ := boxed W1 90 (opA (fun _ => 0) (fun _ => 0))
  rw [zero12] at hW2
  have s1 := a1.lt
  have s2 := a2.lt
  replace a1 := a1.below bW2
  replace bW1 := bW1.trans (bW2.mono bW1.size)
  replace hs := hs.below l1 bW1
  replace ht := ht.below l2 bW1
  obtain ⟨c0, c1, -⟩ := a1.open2
  have mk : Hid (∀ w', Below W2.heap.size W2 w' → S3c W2 w.heap.size b1 o1 cap f b2 o2 cap' h w') := s3c_mk a1 hs ht (Nat.lt_of_lt_of_le l1 bW1.size) (Nat.lt_of_lt_of_le l2 bW1.size)
  go_enter Tryz.func81, Tryz.ntmps81
  go_wp2
  clear c0 c1 hs ht a1
  have hB : Below W2.heap.size W2 W2.drew := (Below.refl _ _).drew
  refine wp_region_held_drew (S := S3c W2 w.heap.size b1 o1 cap f b2 o2 cap' h) (by kernel_rfl) (mk.out _ hB) (fun hHeld => ?_)
  obtain ⟨w0, hw0⟩ : ∃ w0, W2.drew = w0 := ⟨_, rfl⟩
  rw [hw0] at hB hHeld ⊢
  clear hw0
  change wpAnyH _ _ _ _ _ 11 #[false, false, false, false, false, false, false, false, false, false, false] _ _
  refine wpAnyH_take (i := 0) (v := .pointer (some ⟨w.heap.size, 0, none⟩)) rfl (by kernel_rfl) (by kernel_rfl) (by kernel_rfl) (fun _ _ _ h => h) (Or.inl ⟨by kernel_rfl, ?_⟩) hHeld ?_
  · intro w' hSw; go_simp
  try simp only [Act.put]
  refine wpAnyH_take (i := 1) (v := .slice (some ⟨b1, o1, none⟩) 9 cap) rfl (by kernel_rfl) (by kernel_rfl) (by kernel_rfl) (fun _ _ _ h => h) (Or.inl ⟨by kernel_rfl, ?_⟩) hHeld ?_
  · intro w' hSw; obtain ⟨hc0, -⟩ := hSw; go_simp
  try simp only [Act.put]
  refine wpAnyH_take (i := 2) (v := .pointer (some ⟨b1, o1, none⟩)) rfl (by kernel_rfl) (by kernel_rfl) (by kernel_rfl) (fun _ _ _ h => h) (Or.inl ⟨by kernel_rfl, ?_⟩) hHeld ?_
  · intro w' hSw; go_simp
  try simp only [Act.put]
  refine wpAnyH_take (i := 3) (v := .agg (matL f).toArray) rfl (by kernel_rfl) (by kernel_rfl) (by kernel_rfl) (fun _ _ _ h => h) (yieldsIf_load_mid (by rfl) _ _ rfl _ _ rfl (matL f) _ (fun w' h => h.2.2.1) Tryz.underlying88 rfl (size53 f)) hHeld ?_
  try simp only [Act.put]
  refine wpAnyH_take (i := 4) (v := .pointer (some ⟨w.heap.size, 1, none⟩)) rfl (by kernel_rfl) (by kernel_rfl) (by kernel_rfl) (fun _ _ _ h => h) (Or.inl ⟨by kernel_rfl, ?_⟩) hHeld ?_
  · intro w' hSw; go_simp
  try simp only [Act.put]
  refine wpAnyH_take (i := 5) (v := .slice (some ⟨b2, o2, none⟩) 3 cap') rfl (by kernel_rfl) (by kernel_rfl) (by kernel_rfl) (fun _ _ _ h => h) (Or.inl ⟨by kernel_rfl, ?_⟩) hHeld ?_
  · intro w' hSw; obtain ⟨-, hc1, -⟩ := hSw; go_simp
  try simp only [Act.put]
  refine wpAnyH_take (i := 6) (v := .pointer (some ⟨b2, o2, none⟩)) rfl (by kernel_rfl) (by kernel_rfl) (by kernel_rfl) (fun _ _ _ h => h) (Or.inl ⟨by kernel_rfl, ?_⟩) hHeld ?_
  · intro w' hSw; go_simp
  try simp only [Act.put]
  refine wpAnyH_take (i := 7) (v := .agg (vecL h).toArray) rfl (by kernel_rfl) (by kernel_rfl) (by kernel_rfl) (fun _ _ _ h => h) (yieldsIf_load_mid (by rfl) _ _ rfl _ _ rfl (vecL h) _ (fun w' h => h.2.2.2.1) Tryz.underlying66 rfl (size55 h)) hHeld ?_
  try simp only [Act.put]
  refine wpAnyH_take (i := 8) (v := .agg (opA f h)) rfl (by kernel_rfl) (by kernel_rfl) (by kernel_rfl) (fun _ _ _ h => h) (Or.inl ⟨by kernel_rfl, ?_⟩) hHeld ?_
  · intro w' hSw; go_simp; rfl
  try simp only [Act.put]
  refine wpAnyH_ready (rs := [9]) (by kernel_rfl) (by simp) ?_
  refine AllReadyH.cons rfl (fun K hK => ?_) AllReadyH.nil
  go_simp
  obtain ⟨w4, h4, B4, b4, -⟩ := boxed w0 90 (opA (fun _ => 0) (fun _ => 0))
  rw [zero12] at h4
  rw [h4]
  obtain ⟨g, hg⟩ : ∃ g, w0.heap.size = g := ⟨_, rfl⟩
  rw [hg] at B4
  have s4 : W2.heap.size ≤ g := hg ▸ hB.size
  try rw [hg]
  replace hB := bl_step hB b4
  clear hHeld
  refine hK.out _ _ (mk.out _ hB) (fun hHeld => ?_)
  clear hK K
  try simp only [List.setIfInBounds_toArray, List.set_cons_zero, List.set_cons_succ]
  refine wpAnyH_ready (rs := [10]) (by kernel_rfl) (by simp) ?_
  refine AllReadyH.cons rfl (fun K hK => ?_) AllReadyH.nil
  obtain ⟨⟨x0, x1, x2, x3, x4, x5, x6, x7, x8⟩, x9, x10, x11⟩ := B4.open12
  obtain ⟨y0, y1, y2, y3, y4, y5, y6, y7, y8, y9, y10, y11⟩ := B4.fro12
  unfold opA
  go_simp
  clear x0 x1 x2 x3 x4 x5 x6 x7 x8 x9 x10 x11 y0 y1 y2 y3 y4 y5 y6 y7 y8 y9 y10 y11 hHeld
  obtain ⟨X1, hX1⟩ : ∃ X1, put12 w4 g f h = X1 := ⟨_, rfl⟩
  have C4 : At 90 X1 g (opA f h) := hX1 ▸ put12_at B4 f h
  have hB1 : Below W2.heap.size W2 X1 := hX1 ▸ put12_below hB s4 f h
  unfold put12 at hX1
  rw [hX1]
  refine hK.out _ _ (mk.out _ hB1) (fun hHeld => ?_)
  clear hK K B4 hB hX1 hHeld
  try simp only [List.setIfInBounds_toArray, List.set_cons_zero, List.set_cons_succ]
  refine wpAnyH_done (by kernel_rfl) ?_ _
  go_wp2_with fail
  obtain ⟨wC, hwC⟩ : ∃ x, X1 = x := ⟨_, rfl⟩
  rw [hwC] at C4 hB1 ⊢
  clear hwC
  replace a2 := a2.below hB1
  replace bW1 := bW1.trans (hB1.mono bW1.size)
  have hgq : g ≠ W1.heap.size := by omega
  obtain ⟨w0, hw0, C40, a20, bW0⟩ : ∃ w0, wC.drew = w0 ∧ At 90 w0 g (opA f h) ∧ At 90 w0 W1.heap.size (opA (fun _ => 0) (fun _ => 0)) ∧ Below w.heap.size w w0 := ⟨_, rfl, C4, a2, bW1.drew⟩
  refine wp_region_held_drew (S := S12 g f h) (by kernel_rfl) (by rw [hw0]; exact s12_mk C40) (fun hHeld => ?_)
  rw [hw0] at hHeld ⊢
  clear hw0
  change wpAnyH _ _ _ _ _ 5 #[false, false, false, false, false] _ _
  refine wpAnyH_take (i := 0) (v := .agg (opL f h).toArray) rfl (by kernel_rfl) (by kernel_rfl) (by kernel_rfl) (fun _ _ _ h => h) (yieldsIf_load_mid (by rfl) _ _ rfl _ _ rfl (opL f h) _ (fun w' h => h) Tryz.underlying90 rfl (size57 f h)) hHeld ?_
  try simp only [Act.put]
  refine wpAnyH_take (i := 1) (v := .agg (opL f h).toArray) rfl (by kernel_rfl) (by kernel_rfl) (by kernel_rfl) (fun _ _ _ h => h) (yieldsIf_load_mid (by rfl) _ _ rfl _ _ rfl (opL f h) _ (fun w' h => h) Tryz.underlying90 rfl (size57 f h)) hHeld ?_
  try simp only [Act.put]
  refine wpAnyH_ready (rs := [2]) (by kernel_rfl) (by simp) ?_
  refine AllReadyH.cons rfl (fun K hK => ?_) AllReadyH.nil
  go_simp
  refine (right_any f h _).mono ?_
  rintro e w4 ⟨rfl, b4⟩
  replace C40 := C40.below b4
  replace a20 := a20.below b4
  replace bW0 := bW0.trans (b4.mono bW0.size)
  try go_wp2_with fail
  clear hHeld
  refine hK.out _ _ (s12_mk C40) (fun hHeld => ?_)
  clear hK K
  try simp only [List.setIfInBounds_toArray, List.set_cons_zero, List.set_cons_succ]
  refine wpAnyH_ready (rs := [3]) (by kernel_rfl) (by simp) ?_
  refine AllReadyH.cons rfl (fun K hK => ?_) AllReadyH.nil
  obtain ⟨⟨x0, x1, x2, x3, x4, x5, x6, x7, x8⟩, x9, x10, x11⟩ := a20.open12
  obtain ⟨y0, y1, y2, y3, y4, y5, y6, y7, y8, y9, y10, y11⟩ := a20.fro12
  go_simp
  clear x0 x1 x2 x3 x4 x5 x6 x7 x8 x9 x10 x11 y0 y1 y2 y3 y4 y5 y6 y7 y8 y9 y10 y11 hHeld
  obtain ⟨X2, hX2⟩ : ∃ X1, put12 w4 W1.heap.size f h = X1 := ⟨_, rfl⟩
  have C5 : At 90 X2 W1.heap.size (opA f h) := hX2 ▸ put12_at a20 f h
  have C6 : At 90 X2 g (opA f h) := hX2 ▸ put12_other C40 hgq f h
  have hB2 : Below w.heap.size w X2 := hX2 ▸ put12_below bW0 (Nat.le_of_lt s1) f h
  unfold put12 at hX2
  rw [hX2]
  refine hK.out _ _ (s12_mk C6) (fun hHeld => ?_)
  clear hK K hX2
  try simp only [List.setIfInBounds_toArray, List.set_cons_zero, List.set_cons_succ]
  refine wpAnyH_ready (rs := [4]) (by kernel_rfl) (by simp) ?_
  refine AllReadyH.cons rfl (fun K hK => ?_) AllReadyH.nil
  go_simp
  clear hHeld
  refine hK.out _ _ (s12_mk C6) (fun hHeld => ?_)
  clear hK K
  try simp only [List.setIfInBounds_toArray, List.set_cons_zero, List.set_cons_succ]
  refine wpAnyH_done (by kernel_rfl) ?_ _
  go_wp2
  obtain ⟨⟨p0, p1, p2, p3, p4, p5, p6, p7, p8⟩, p9, p10, p11⟩ := C5.open12
  exact bodyPost_ret (v := .tuple #[.agg (opA f h), .bool (decide (isR f h))]) (by simp [results, Tryz.results81, go_sem, opA, p0, p1, p2, p3, p4, p5, p6, p7, p8, p9, p10, p11]) rfl ⟨rfl, hB2⟩
end Go.Proofs.YtiocneailhplkaaGreat
