/-
  Which cyclotomic numbers are real: the mathematics of it.
-/
import Derived.Test.YtedchpohbhmjhabDoorCo
namespace Go.Proofs.YtedchpohbhmjhabDoor
open Go.RowKit

/-- A number is its own conjugate just if it is real. -/
theorem conj_own {a b c d p q r s : Int} (h1 : cOk a b c d = true) (h : conjT a b c d = cV p q r s) : (p = a ∧ q = b ∧ r = c ∧ s = d) ↔ (c = 0 ∧ b = -2 * d) := by
  obtain ⟨i1, i2, i3, i4⟩ := cOk_in h1
  unfold conjT at h
  rw [h1] at h
  by_cases h2 : cOk (a + c) b (-c) (-b - d) = true
  · rw [if_pos (by simp [h2])] at h
    simp at h
    omega
  · rw [if_neg (by simp [h2])] at h
    simp at h
    constructor
    · rintro ⟨e1, e2, e3, e4⟩
      omega
    · rintro ⟨e1, e2⟩
      exact absurd (show cOk (a + c) b (-c) (-b - d) = true from by rw [show a + c = a by omega, show -c = c by omega, show -b - d = d by omega]; exact h1) h2
end Go.Proofs.YtedchpohbhmjhabDoor
