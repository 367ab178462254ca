/-
  Sums of rows lie in the lattice; all units do just if the determinant is 1 or -1. No function of the program.
-/
import Derived.Test.YtlgkohiempcbhaaWalkG
namespace Go.Proofs.Ytlgkohiempcbhaa
open Go.RowKit

theorem cram_rows (m : Nat → Int) (p q r : Int) : cram m (p * m 0 + q * m 3 + r * m 6) (p * m 1 + q * m 4 + r * m 7) (p * m 2 + q * m 5 + r * m 8) 0 = det3 m * p ∧ cram m (p * m 0 + q * m 3 + r * m 6) (p * m 1 + q * m 4 + r * m 7) (p * m 2 + q * m 5 + r * m 8) 1 = det3 m * q ∧ cram m (p * m 0 + q * m 3 + r * m 6) (p * m 1 + q * m 4 + r * m 7) (p * m 2 + q * m 5 + r * m 8) 2 = det3 m * r := by
  refine ⟨?_, ?_, ?_⟩
  · show (p * m 0 + q * m 3 + r * m 6) * (m 4 * m 8 - m 5 * m 7) + (p * m 1 + q * m 4 + r * m 7) * (m 5 * m 6 - m 3 * m 8) + (p * m 2 + q * m 5 + r * m 8) * (m 3 * m 7 - m 4 * m 6) = _
    unfold det3; grind
  · show (p * m 0 + q * m 3 + r * m 6) * (m 2 * m 7 - m 1 * m 8) + (p * m 1 + q * m 4 + r * m 7) * (m 0 * m 8 - m 2 * m 6) + (p * m 2 + q * m 5 + r * m 8) * (m 1 * m 6 - m 0 * m 7) = _
    unfold det3; grind
  · show (p * m 0 + q * m 3 + r * m 6) * (m 1 * m 5 - m 2 * m 4) + (p * m 1 + q * m 4 + r * m 7) * (m 2 * m 3 - m 0 * m 5) + (p * m 2 + q * m 5 + r * m 8) * (m 0 * m 4 - m 1 * m 3) = _
    unfold det3; grind
theorem rows_spanned (m : Nat → Int) (p q r : Int) : spanned m (p * m 0 + q * m 3 + r * m 6) (p * m 1 + q * m 4 + r * m 7) (p * m 2 + q * m 5 + r * m 8) = true := by
  obtain ⟨h0, h1, h2⟩ := cram_rows m p q r
  unfold spanned
  rw [h0, h1, h2]
  simp
/-- The determinant of the adjugate. -/
theorem det_of_adj (m : Nat → Int) : det3 (adj m) = det3 m * det3 m := by
  have h0 : det3 (adj m) = adj m 0 * (adj m 4 * adj m 8 - adj m 5 * adj m 7) - adj m 1 * (adj m 3 * adj m 8 - adj m 5 * adj m 6) + adj m 2 * (adj m 3 * adj m 7 - adj m 4 * adj m 6) := rfl
  have e0 : adj m 4 * adj m 8 - adj m 5 * adj m 7 = det3 m * m 0 := by unfold det3 adj; grind
  have e1 : adj m 3 * adj m 8 - adj m 5 * adj m 6 = -(det3 m * m 3) := by unfold det3 adj; grind
  have e2 : adj m 3 * adj m 7 - adj m 4 * adj m 6 = det3 m * m 6 := by unfold det3 adj; grind
  rw [h0, e0, e1, e2]
  have e3 : m 0 * adj m 0 + m 3 * adj m 1 + m 6 * adj m 2 = det3 m := by unfold det3 adj; grind
  generalize det3 m = D at *
  have : adj m 0 * (D * m 0) - adj m 1 * -(D * m 3) + adj m 2 * (D * m 6) = D * (m 0 * adj m 0 + m 3 * adj m 1 + m 6 * adj m 2) := by grind
  rw [this, e3]
theorem units_one {m : Nat → Int} (h0 : det3 m ≠ 0) (hd : ∀ k, k < 9 → det3 m ∣ adj m k) : det3 m = 1 ∨ det3 m = -1 := by
  have hk : ∀ k, k < 9 → ∃ b, adj m k = det3 m * b := hd
  obtain ⟨b0, e0⟩ := hk 0 (by decide)
  obtain ⟨b1, e1⟩ := hk 1 (by decide)
  obtain ⟨b2, e2⟩ := hk 2 (by decide)
  obtain ⟨b3, e3⟩ := hk 3 (by decide)
  obtain ⟨b4, e4⟩ := hk 4 (by decide)
  obtain ⟨b5, e5⟩ := hk 5 (by decide)
  obtain ⟨b6, e6⟩ := hk 6 (by decide)
  obtain ⟨b7, e7⟩ := hk 7 (by decide)
  obtain ⟨b8, e8⟩ := hk 8 (by decide)
  have h := det_of_adj m
  have h' : det3 (adj m) = det3 m * det3 m * (det3 m * (b0 * (b4 * b8 - b5 * b7) - b1 * (b3 * b8 - b5 * b6) + b2 * (b3 * b7 - b4 * b6))) := by
    show adj m 0 * (adj m 4 * adj m 8 - adj m 5 * adj m 7) - adj m 1 * (adj m 3 * adj m 8 - adj m 5 * adj m 6) + adj m 2 * (adj m 3 * adj m 7 - adj m 4 * adj m 6) = _
    rw [e0, e1, e2, e3, e4, e5, e6, e7, e8]
    generalize det3 m = D
    grind
  rw [h] at h'
  have hdd : det3 m * det3 m ≠ 0 := Int.mul_ne_zero h0 h0
  have h1 : det3 m * (b0 * (b4 * b8 - b5 * b7) - b1 * (b3 * b8 - b5 * b6) + b2 * (b3 * b7 - b4 * b6)) = 1 := by
    have := Int.eq_of_mul_eq_mul_left hdd ((Int.mul_one (det3 m * det3 m)).trans h')
    exact this.symm
  have h2 := congrArg Int.natAbs h1
  rw [Int.natAbs_mul] at h2
  have h3 : (det3 m).natAbs = 1 := Nat.eq_one_of_mul_eq_one_right h2
  omega
end Go.Proofs.Ytlgkohiempcbhaa
