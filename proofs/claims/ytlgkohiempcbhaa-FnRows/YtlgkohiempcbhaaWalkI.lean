/-
  Contains, the program's, and the law on it, walked.
-/
import Derived.Test.YtlgkohiempcbhaaWalkH
namespace Go.Proofs.Ytlgkohiempcbhaa
open Go.RowKit

theorem spanned_matOf {n : Nat} {f : Nat → Int} (h : isM n f) (x y z : Int) : spanned (matOf n f) x y z = spanned f x y z := by rw [matOf, if_pos h]
theorem isM_of_det {n : Nat} {f : Nat → Int} (h : detOf n f ≠ 0) : isM n f := by
  by_cases hM : isM n f
  · exact hM
  · exact absurd (show detOf n f = 0 by rw [detOf, if_neg hM]) h
theorem ix0 (x y z : Int) (w : World) : (Instr.index 59 (.agg #[.int .i64 x, .int .i64 y, .int .i64 z]) (.int .i64 0)).run Try.prog w = .ok (.int .i64 x) w := by kernel_rfl
theorem ix1 (x y z : Int) (w : World) : (Instr.index 59 (.agg #[.int .i64 x, .int .i64 y, .int .i64 z]) (.int .i64 1)).run Try.prog w = .ok (.int .i64 y) w := by kernel_rfl
theorem ix2 (x y z : Int) (w : World) : (Instr.index 59 (.agg #[.int .i64 x, .int .i64 y, .int .i64 z]) (.int .i64 2)).run Try.prog w = .ok (.int .i64 z) w := by kernel_rfl
set_option maxHeartbeats 1600000 in
theorem implContains_any {w : World} {a : Option Addr} {n cap : Nat} {f : Nat → Int} (hs : Src w a n f) (x y z : Int) :
    Calls Try.prog 23 #[.slice a n cap, .int .i64 x, .int .i64 y, .int .i64 z] w fun e w' => e = .returned (.bool (contains n f x y z)) ∧ Below w.heap.size w w' := by
  obtain ⟨m, hmd⟩ : ∃ m, matOf n f = m := ⟨_, rfl⟩
  have hm : ∀ i, i < 9 → -1000 ≤ m i ∧ m i ≤ 1000 := by rw [← hmd]; exact matOf_bound n f
  have hdm : det3 m = detOf n f := by rw [← hmd]; exact det3_matOf n f
  have hmat : Calls Try.prog 39 #[.slice a n cap] w fun e w' => e = .returned (.agg (matA m)) ∧ Below w.heap.size w w' := by
    have h := matrixOf_any (cap := cap) hs
    rwa [hmd] at h
  have hdet : ∀ w, Calls Try.prog 40 #[.agg (matA m)] w fun e w' => e = .returned (.int .i64 (detOf n f)) ∧ Below w.heap.size w w' := by
    intro w
    have h := det_any hm w
    rwa [hdm] at h
  have hsp : detOf n f ≠ 0 → inIx x → inIx y → inIx z → ∀ w, Calls Try.prog 43 #[.agg (matA m), .agg #[.int .i64 x, .int .i64 y, .int .i64 z]] w fun e w' => e = .returned (.bool (spanned f x y z)) ∧ Below w.heap.size w w' := by
    intro h0 hx hy hz w
    have hd0 : det3 m ≠ 0 := by rw [hdm]; exact h0
    have hse : spanned m x y z = spanned f x y z := by rw [← hmd]; exact spanned_matOf (isM_of_det h0) x y z
    have h := spans_any hm hd0 hx hy hz w
    rwa [hse] at h
  have i0 := ix0 x y z
  have i1 := ix1 x y z
  have i2 := ix2 x y z
  clear hm hdm hmd hs
  unfold matA at hmat hdet hsp
  go_enter Try.func23, Try.ntmps23
  go_wp2
  go_loopw [16] (fun s wr => (s = .int .i64 0 ∨ (s = .int .i64 1 ∧ inIx x) ∨ (s = .int .i64 2 ∧ inIx x ∧ inIx y) ∨ (s = .int .i64 3 ∧ inIx x ∧ inIx y ∧ inIx z)) ∧ w = wr) (fun s _ => 3 - (intOf s).toNat)
  case atStart => exact ⟨.inl rfl, rfl⟩
  case round =>
    obtain ⟨rfl | ⟨rfl, hx⟩ | ⟨rfl, hx, hy⟩ | ⟨rfl, hx, hy, hz⟩, rfl⟩ := hrel
    · by_cases hx : inIx x
      · have hx' : (-1000000000 ≤ x ∧ x ≤ 1000000000) := hx
        go_wp2_with (go_at_call 53; refine (within_any _ _ _ (by decide) (by decide)).mono ?_; rintro e w2 ⟨rfl, rfl⟩)
        exact ⟨⟨.inr (.inl ⟨rfl, hx⟩), by trivial⟩, by simp [intOf]⟩
      · have hx' : ¬ (-1000000000 ≤ x ∧ x ≤ 1000000000) := hx
        go_wp2_with (go_at_call 53; refine (within_any _ _ _ (by decide) (by decide)).mono ?_; rintro e w2 ⟨rfl, rfl⟩)
        go_ret
        exact ⟨by simp [contains, hx], Below.refl _ _⟩
    · by_cases hy : inIx y
      · have hy' : (-1000000000 ≤ y ∧ y ≤ 1000000000) := hy
        go_wp2_with (go_at_call 53; refine (within_any _ _ _ (by decide) (by decide)).mono ?_; rintro e w2 ⟨rfl, rfl⟩)
        exact ⟨⟨.inr (.inr (.inl ⟨rfl, hx, hy⟩)), by trivial⟩, by simp [intOf]⟩
      · have hy' : ¬ (-1000000000 ≤ y ∧ y ≤ 1000000000) := hy
        go_wp2_with (go_at_call 53; refine (within_any _ _ _ (by decide) (by decide)).mono ?_; rintro e w2 ⟨rfl, rfl⟩)
        go_ret
        exact ⟨by simp [contains, hy], Below.refl _ _⟩
    · by_cases hz : inIx z
      · have hz' : (-1000000000 ≤ z ∧ z ≤ 1000000000) := hz
        go_wp2_with (go_at_call 53; refine (within_any _ _ _ (by decide) (by decide)).mono ?_; rintro e w2 ⟨rfl, rfl⟩)
        exact ⟨⟨.inr (.inr (.inr ⟨rfl, hx, hy, hz⟩)), by trivial⟩, by simp [intOf]⟩
      · have hz' : ¬ (-1000000000 ≤ z ∧ z ≤ 1000000000) := hz
        go_wp2_with (go_at_call 53; refine (within_any _ _ _ (by decide) (by decide)).mono ?_; rintro e w2 ⟨rfl, rfl⟩)
        go_ret
        exact ⟨by simp [contains, hz], Below.refl _ _⟩
    · clear i0 i1 i2
      by_cases h0 : detOf n f = 0
      · go_wp2_with (first
          | (go_at_call 39; refine hmat.mono ?_; rintro e w2 ⟨rfl, hb2⟩; obtain ⟨W2, hW2, a2, bW2, z2⟩ := boxed w2 54 (matA m); unfold matA at hW2; obtain ⟨⟨c0, c1, c2, c3, c4, c5, c6, c7, c8⟩, -⟩ := a2.open9)
          | (go_at_call 40; refine (hdet _).mono ?_; rintro e w3 ⟨rfl, hb3⟩))
        go_ret
        exact ⟨by simp [contains, h0], (hb2.trans (bW2.mono hb2.size)).trans (hb3.mono (Nat.le_trans hb2.size bW2.size))⟩
      · have hspan := hsp h0 hx hy hz
        have hcn : contains n f x y z = spanned f x y z := by simp [contains, h0, hx, hy, hz]
        have HCN : Hid (contains n f x y z = spanned f x y z) := hcn
        clear hcn hsp
        go_wp2_with (first
          | (go_at_call 39; refine hmat.mono ?_; rintro e w2 ⟨rfl, hb2⟩; obtain ⟨W2, hW2, a2, bW2, z2⟩ := boxed w2 54 (matA m); unfold matA at hW2; obtain ⟨⟨c0, c1, c2, c3, c4, c5, c6, c7, c8⟩, -⟩ := a2.open9)
          | (go_at_call 40; refine (hdet _).mono ?_; rintro e w3 ⟨rfl, hb3⟩; replace a2 := a2.below hb3; obtain ⟨⟨c0, c1, c2, c3, c4, c5, c6, c7, c8⟩, -⟩ := a2.open9)
          | (go_at_call 43; refine (hspan _).mono ?_; rintro e w4 ⟨rfl, hb4⟩))
        go_ret
        refine ⟨?_, ((hb2.trans (bW2.mono hb2.size)).trans (hb3.mono (Nat.le_trans hb2.size bW2.size))).trans (hb4.mono (Nat.le_trans (Nat.le_trans hb2.size bW2.size) hb3.size))⟩
        rw [HCN.out]
        simp [h0]
theorem Own.src {w : World} {g n : Nat} {f : Nat → Int} (h : Own w g n f) : Src w (some ⟨g, 0, none⟩) n f := .inr ⟨g, 0, rfl, h.lt, h.row⟩
end Go.Proofs.Ytlgkohiempcbhaa
