/-
  Conjugates, by the program and by the specification: walked.
-/
import Derived.Test.YtedchpohbhmjhabDoorCm
namespace Go.Proofs.YtedchpohbhmjhabDoor
open Go.RowKit

/-- What is told of a conjugate. -/
def conjT (a b c d : Int) : Value := if cOk a b c d && cOk (a + c) b (-c) (-b - d) then cV (a + c) b (-c) (-b - d) else cV 0 0 0 0
theorem cOk_in {a b c d : Int} (h : cOk a b c d = true) : (-1000000000000 ≤ a ∧ a ≤ 1000000000000) ∧ (-1000000000000 ≤ b ∧ b ≤ 1000000000000) ∧ (-1000000000000 ≤ c ∧ c ≤ 1000000000000) ∧ (-1000000000000 ≤ d ∧ d ≤ 1000000000000) := by
  have := (cOk_iff a b c d).1 h
  exact ⟨this 0 (by decide), this 1 (by decide), this 2 (by decide), this 3 (by decide)⟩
end Go.Proofs.YtedchpohbhmjhabDoor
