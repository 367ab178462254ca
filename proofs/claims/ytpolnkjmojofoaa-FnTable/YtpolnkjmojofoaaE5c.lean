/-
  Whether a reflection is extinct under a list of operators, by the program: walked.
-/
import Derived.Test.YtpolnkjmojofoaaMS
import Derived.Test.YtpolnkjmojofoaaMN
namespace Go.Proofs.Ytpolnkjmojofoaa
open Go.RowKit

/-- The operator forces h to be nought. -/
def exO (x y z : Int) (k : Nat → Int) : Prop := (x * k 0 + y * k 3 + z * k 6 = x ∧ x * k 1 + y * k 4 + z * k 7 = y ∧ x * k 2 + y * k 5 + z * k 8 = z) ∧ (x * k 9 + y * k 10 + z * k 11) % 24 ≠ 0
def ExTo (x y z : Int) (F : Nat → Nat → Int) (n : Nat) : Prop := ∃ i, i < n ∧ exO x y z (F i)
theorem exTo_no {x y z : Int} {F : Nat → Nat → Int} : ¬ ExTo x y z F 0 := fun ⟨_, h, _⟩ => absurd h (Nat.not_lt_zero _)
theorem exTo_step {x y z : Int} {F : Nat → Nat → Int} {i : Nat} (h : ¬ ExTo x y z F i) (he : ¬ exO x y z (F i)) : ¬ ExTo x y z F (i + 1) := by
  rintro ⟨j, hj, e⟩
  by_cases c : j = i
  · subst c; exact he e
  · exact h ⟨j, by omega, e⟩
end Go.Proofs.Ytpolnkjmojofoaa
