/-
  Extinct, by the specification and by the program; the law: walked.
-/
import Derived.Test.YtpolnkjmojofoaaE5d
import Derived.Test.YtpolnkjmojofoaaMN
namespace Go.Proofs.Ytpolnkjmojofoaa
open Go.RowKit

theorem ok_small {o : OpD} (h : o.ok) : smK o.key := by
  obtain ⟨-, -, h1, h2, -⟩ := h
  intro i hi
  unfold OpD.key cat
  by_cases c : i < 9
  · rw [if_pos c]
    have := h1 i c
    omega
  · rw [if_neg c]
    have := h2 (i - 9) (by omega)
    omega
theorem key_lo (o : OpD) {i : Nat} (h : i < 9) : o.key i = o.f i := by unfold OpD.key cat; rw [if_pos h]
theorem key_hi (o : OpD) (i : Nat) : o.key (9 + i) = o.h i := by unfold OpD.key cat; rw [if_neg (by omega), show 9 + i - 9 = i by omega]
theorem exO_key {x y z : Int} {o : OpD} : exO x y z o.key ↔ ((x * o.f 0 + y * o.f 3 + z * o.f 6 = x ∧ x * o.f 1 + y * o.f 4 + z * o.f 7 = y ∧ x * o.f 2 + y * o.f 5 + z * o.f 8 = z) ∧ (x * o.h 0 + y * o.h 1 + z * o.h 2) % 24 ≠ 0) := by
  unfold exO
  rw [key_lo o (by decide), key_lo o (by decide), key_lo o (by decide), key_lo o (by decide), key_lo o (by decide), key_lo o (by decide), key_lo o (by decide), key_lo o (by decide), key_lo o (by decide), show (9 : Nat) = 9 + 0 from rfl, key_hi, show (10 : Nat) = 9 + 1 from rfl, key_hi, show (11 : Nat) = 9 + 2 from rfl, key_hi]
/-- What Extinct tells. -/
def ExP (n : Nat) (A : Nat → OpD) (x y z : Int) : Prop := isG n A ∧ hkR x y z ∧ ExTo x y z (fun i => (A i).key) n
theorem bool_ofP (P : Prop) : ∃ b : Bool, (b = true ↔ P) := by
  by_cases h : P
  · exact ⟨true, fun _ => h, fun _ => rfl⟩
  · exact ⟨false, fun e => (by cases e), fun e => absurd e h⟩
end Go.Proofs.Ytpolnkjmojofoaa
