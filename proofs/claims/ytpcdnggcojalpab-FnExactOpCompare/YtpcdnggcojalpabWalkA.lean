/-
  Ranges, and which forms are right, walked.
-/
import Derived.Test.YtpcdnggcojalpabRows
import Derived.Test.YtpcdnggcojalpabKit
namespace Go.Proofs.Ytpcdnggcojalpab
open Go.RowKit

/-- Which forms are right. -/
def fOk (a b c : Int) : Bool := decide (1 ≤ a ∧ a ≤ 1000000) && (decide (1 ≤ c ∧ c ≤ 1000000) && (decide (-1000000 ≤ b ∧ b ≤ 1000000) && decide (0 < a * c - b * b)))
theorem sq_nonneg (x : Int) : 0 ≤ x * x := by
  rcases Int.le_total 0 x with h | h
  · exact Int.mul_nonneg h h
  · have := Int.mul_nonneg (show 0 ≤ -x by omega) (show 0 ≤ -x by omega)
    rwa [Int.neg_mul_neg] at this
theorem mul_bound {x y M N : Int} (hx : -M ≤ x ∧ x ≤ M) (hy : -N ≤ y ∧ y ≤ N) : -(M * N) ≤ x * y ∧ x * y ≤ M * N := by
  have h1 : x.natAbs ≤ M.natAbs := by omega
  have h2 : y.natAbs ≤ N.natAbs := by omega
  have h3 := Nat.mul_le_mul h1 h2
  rw [← Int.natAbs_mul, ← Int.natAbs_mul] at h3
  have : 0 ≤ M * N := Int.mul_nonneg (by omega) (by omega)
  omega
end Go.Proofs.Ytpcdnggcojalpab
