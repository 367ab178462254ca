/-
  Whether a reflection is extinct under a list of operators, by the program: walked.
-/
import Derived.Test.YtiocneailhplkaaGreatMS
import Derived.Test.YtiocneailhplkaaGreatMN
namespace Go.Proofs.YtiocneailhplkaaGreat
open Go.RowKit

/-- The operator forces h to be nought. -/
def exO (x y z : Int) (k : Nat → Int) : Prop := (x * k 0 + y * k 3 + z * k 6 = x ∧ x * k 1 + y * k 4 + z * k 7 = y ∧ x * k 2 + y * k 5 + z * k 8 = z) ∧ (x * k 9 + y * k 10 + z * k 11) % 24 ≠ 0
def ExTo (x y z : Int) (F : Nat → Nat → Int) (n : Nat) : Prop := ∃ i, i < n ∧ exO x y z (F i)
theorem exTo_no {x y z : Int} {F : Nat → Nat → Int} : ¬ ExTo x y z F 0 := fun ⟨_, h, _⟩ => absurd h (Nat.not_lt_zero _)
theorem exTo_step {x y z : Int} {F : Nat → Nat → Int} {i : Nat} (h : ¬ ExTo x y z F i) (he : ¬ exO x y z (F i)) : ¬ ExTo x y z F (i + 1) := by
  rintro ⟨j, hj, e⟩
  by_cases c : j = i
  · subst c; exact he e
  · exact h ⟨j, by omega, e⟩
end Go.Proofs.YtiocneailhplkaaGreat
/-
  Whether a reflection is extinct, by the specification: walked.
-/
namespace Go.Proofs.YtiocneailhplkaaGreat
open Go.RowKit

theorem ints_set3 {w : World} {b o n q : Nat} {f : Nat → Int} (h : Ints w b o n f) (hb : b ≠ q) (v0 v1 v2 : Value) : Ints (((w.setCell ⟨q, 0, none⟩ v0).setCell ⟨q, 1, none⟩ v1).setCell ⟨q, 2, none⟩ v2) b o n f := fun i hi => by
  have e : ∀ (W : World) (j : Nat) (v : Value), (W.setCell ⟨q, j, none⟩ v).cell? ⟨b, o + i, none⟩ = W.cell? ⟨b, o + i, none⟩ := fun W j v => World.cell?_of_block (Below.heap_setCell _ _ _ _ (by simpa using hb))
  rw [e, e, e]
  exact h i hi
end Go.Proofs.YtiocneailhplkaaGreat
/-
  Extinct, by the specification and by the program; the law: walked.
-/
namespace Go.Proofs.YtiocneailhplkaaGreat
open Go.RowKit

theorem ok_small {o : OpD} (h : o.ok) : smK o.key := by
  obtain ⟨-, -, h1, h2, -⟩ := h
  intro i hi
  unfold OpD.key cat
  by_cases c : i < 9
  · rw [if_pos c]
    have := h1 i c
    omega
  · rw [if_neg c]
    have := h2 (i - 9) (by omega)
    omega
theorem key_lo (o : OpD) {i : Nat} (h : i < 9) : o.key i = o.f i := by unfold OpD.key cat; rw [if_pos h]
theorem key_hi (o : OpD) (i : Nat) : o.key (9 + i) = o.h i := by unfold OpD.key cat; rw [if_neg (by omega), show 9 + i - 9 = i by omega]
theorem exO_key {x y z : Int} {o : OpD} : exO x y z o.key ↔ ((x * o.f 0 + y * o.f 3 + z * o.f 6 = x ∧ x * o.f 1 + y * o.f 4 + z * o.f 7 = y ∧ x * o.f 2 + y * o.f 5 + z * o.f 8 = z) ∧ (x * o.h 0 + y * o.h 1 + z * o.h 2) % 24 ≠ 0) := by
  unfold exO
  rw [key_lo o (by decide), key_lo o (by decide), key_lo o (by decide), key_lo o (by decide), key_lo o (by decide), key_lo o (by decide), key_lo o (by decide), key_lo o (by decide), key_lo o (by decide), show (9 : Nat) = 9 + 0 from rfl, key_hi, show (10 : Nat) = 9 + 1 from rfl, key_hi, show (11 : Nat) = 9 + 2 from rfl, key_hi]
/-- What Extinct tells. -/
def ExP (n : Nat) (A : Nat → OpD) (x y z : Int) : Prop := isG n A ∧ hkR x y z ∧ ExTo x y z (fun i => (A i).key) n
theorem bool_ofP (P : Prop) : ∃ b : Bool, (b = true ↔ P) := by
  by_cases h : P
  · exact ⟨true, fun _ => h, fun _ => rfl⟩
  · exact ⟨false, fun e => (by cases e), fun e => absurd e h⟩
end Go.Proofs.YtiocneailhplkaaGreat
