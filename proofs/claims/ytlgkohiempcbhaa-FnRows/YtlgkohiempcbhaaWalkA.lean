/-
  Ranges, and which forms are right, walked.
-/
import Derived.Test.YtlgkohiempcbhaaRows
import Derived.Test.YtlgkohiempcbhaaKit
namespace Go.Proofs.Ytlgkohiempcbhaa
open Go.RowKit

theorem in_any (x lo hi : Int) (w : World) : Calls Try.prog 55 #[.int .i64 x, .int .i64 lo, .int .i64 hi] w fun e w' => e = .returned (.bool (decide (lo ≤ x ∧ x ≤ hi))) ∧ w = w' := by
  by_cases h1 : lo ≤ x <;> by_cases h2 : x ≤ hi
  all_goals
    go_enter Try.func55, Try.ntmps55
    go_wp2
    go_ret
    exact ⟨by simp [h1, h2], rfl⟩
theorem within_any (x hi : Int) (w : World) (h0 : 0 ≤ hi) (h : hi ≤ 1000000000) : Calls Try.prog 53 #[.int .i64 x, .int .i64 hi] w fun e w' => e = .returned (.bool (decide (-hi ≤ x ∧ x ≤ hi))) ∧ w = w' := by
  by_cases h1 : -hi ≤ x <;> by_cases h2 : x ≤ hi
  all_goals
    go_enter Try.func53, Try.ntmps53
    go_wp2
    go_ret
    exact ⟨by simp [h1, h2], rfl⟩
/-- Which forms are right. -/
def fOk (a b c : Int) : Bool := decide (1 ≤ a ∧ a ≤ 1000000) && (decide (1 ≤ c ∧ c ≤ 1000000) && (decide (-1000000 ≤ b ∧ b ≤ 1000000) && decide (0 < a * c - b * b)))
theorem sq_nonneg (x : Int) : 0 ≤ x * x := by
  rcases Int.le_total 0 x with h | h
  · exact Int.mul_nonneg h h
  · have := Int.mul_nonneg (show 0 ≤ -x by omega) (show 0 ≤ -x by omega)
    rwa [Int.neg_mul_neg] at this
theorem mul_bound {x y M N : Int} (hx : -M ≤ x ∧ x ≤ M) (hy : -N ≤ y ∧ y ≤ N) : -(M * N) ≤ x * y ∧ x * y ≤ M * N := by
  have h1 : x.natAbs ≤ M.natAbs := by omega
  have h2 : y.natAbs ≤ N.natAbs := by omega
  have h3 := Nat.mul_le_mul h1 h2
  rw [← Int.natAbs_mul, ← Int.natAbs_mul] at h3
  have : 0 ≤ M * N := Int.mul_nonneg (by omega) (by omega)
  omega
theorem specOk_any (a b c : Int) (w : World) : Calls Try.prog 25 #[.agg #[.int .i64 a, .int .i64 b, .int .i64 c]] w fun e w' => e = .returned (.bool (fOk a b c)) ∧ Below w.heap.size w w' := by
  by_cases h1 : 1 ≤ a ∧ a ≤ 1000000
  · by_cases h2 : 1 ≤ c ∧ c ≤ 1000000
    · by_cases h3 : -1000000 ≤ b ∧ b ≤ 1000000
      · have m1 := mul_bound (x := a) (y := c) (M := 1000000) (N := 1000000) (by omega) (by omega)
        have m2 := mul_bound (x := b) (y := b) (M := 1000000) (N := 1000000) h3 h3
        go_enter Try.func25, Try.ntmps25
        go_wp2_with (go_at_call 55; refine (in_any _ _ _ _).mono ?_; rintro e w2 ⟨rfl, rfl⟩)
        go_ret
        refine ⟨?_, below_alloc _ _⟩
        simp [fOk, h1, h2, h3]
      · go_enter Try.func25, Try.ntmps25
        go_wp2_with (go_at_call 55; refine (in_any _ _ _ _).mono ?_; rintro e w2 ⟨rfl, rfl⟩)
        go_ret
        exact ⟨by simp [fOk, h1, h2, h3], below_alloc _ _⟩
    · go_enter Try.func25, Try.ntmps25
      go_wp2_with (go_at_call 55; refine (in_any _ _ _ _).mono ?_; rintro e w2 ⟨rfl, rfl⟩)
      go_ret
      exact ⟨by simp [fOk, h1, h2], below_alloc _ _⟩
  · go_enter Try.func25, Try.ntmps25
    go_wp2_with (go_at_call 55; refine (in_any _ _ _ _).mono ?_; rintro e w2 ⟨rfl, rfl⟩)
    go_ret
    exact ⟨by simp [fOk, h1], below_alloc _ _⟩
theorem formDet_any (a b c : Int) (w : World) (ha : -1000000 ≤ a ∧ a ≤ 1000000) (hb : -1000000 ≤ b ∧ b ≤ 1000000) (hc : -1000000 ≤ c ∧ c ≤ 1000000) : Calls Try.prog 58 #[.agg #[.int .i64 a, .int .i64 b, .int .i64 c]] w fun e w' => e = .returned (.int .i64 (a * c - b * b)) ∧ Below w.heap.size w w' := by
  have m1 := mul_bound ha hc
  have m2 := mul_bound hb hb
  go_enter Try.func58, Try.ntmps58
  go_wp2
  go_ret
  exact ⟨rfl, below_alloc _ _⟩
theorem implOk_any (a b c : Int) (w : World) : Calls Try.prog 56 #[.agg #[.int .i64 a, .int .i64 b, .int .i64 c]] w fun e w' => e = .returned (.bool (fOk a b c)) ∧ Below w.heap.size w w' := by
  by_cases h1 : a < 1
  · go_enter Try.func56, Try.ntmps56
    go_wp2
    go_ret
    exact ⟨by simp [fOk, show ¬ 1 ≤ a by omega], below_alloc _ _⟩
  · by_cases h2 : 1000000 < a
    · go_enter Try.func56, Try.ntmps56
      go_wp2
      go_ret
      exact ⟨by simp [fOk, show ¬ a ≤ 1000000 by omega], below_alloc _ _⟩
    · by_cases h3 : c < 1
      · go_enter Try.func56, Try.ntmps56
        go_wp2
        go_ret
        exact ⟨by simp [fOk, show ¬ 1 ≤ c by omega], below_alloc _ _⟩
      · by_cases h4 : 1000000 < c
        · go_enter Try.func56, Try.ntmps56
          go_wp2
          go_ret
          exact ⟨by simp [fOk, show ¬ c ≤ 1000000 by omega], below_alloc _ _⟩
        · by_cases h5 : -1000000 ≤ b ∧ b ≤ 1000000
          · go_enter Try.func56, Try.ntmps56
            go_wp2_with (first | (go_at_call 53; refine (within_any _ _ _ (by decide) (by decide)).mono ?_; rintro e w2 ⟨rfl, rfl⟩) | (go_at_call 58; refine (formDet_any _ _ _ _ (by omega) (by omega) (by omega)).mono ?_; rintro e w2 ⟨rfl, hb2⟩))
            go_ret
            refine ⟨?_, (below_alloc _ _).trans (hb2.mono (by simp))⟩
            simp [fOk, show 1 ≤ a by omega, show a ≤ 1000000 by omega, show 1 ≤ c by omega, show c ≤ 1000000 by omega, h5]
          · go_enter Try.func56, Try.ntmps56
            go_wp2_with (go_at_call 53; refine (within_any _ _ _ (by decide) (by decide)).mono ?_; rintro e w2 ⟨rfl, rfl⟩)
            go_ret
            exact ⟨by simp [fOk, h5], below_alloc _ _⟩
end Go.Proofs.Ytlgkohiempcbhaa
