/-
  Points: the program's and the specification's.
-/
import Derived.Test.YtfmbljmcdidocaaGreatMC
import Derived.Test.YtfmbljmcdidocaaGreatMD
import Derived.BigRegion
namespace Go.Proofs.YtfmbljmcdidocaaGreat
open Go.RowKit
def pV (x y z : Int) : Value := .agg #[.int .i64 x, .int .i64 y, .int .i64 z]
/-- A point of the cell. -/
def inP (x y z : Int) : Prop := (0 ≤ x ∧ x ≤ 23) ∧ (0 ≤ y ∧ y ≤ 23) ∧ (0 ≤ z ∧ z ≤ 23)
instance (x y z : Int) : Decidable (inP x y z) := by unfold inP; infer_instance
end Go.Proofs.YtfmbljmcdidocaaGreat
/-
  An operator's deed at a point: the closure walked.
-/
namespace Go.Proofs.YtfmbljmcdidocaaGreat
open Go.RowKit
/-- A point's numbers, one by one. -/
def p3 (x y z : Int) : Nat → Int
  | 0 => x
  | 1 => y
  | _ => z
/-- Where an operator takes a point. -/
def actV (f h p : Nat → Int) : Nat → Int := fun i => (movV f p i + h i) % 24
def apart (f h p : Nat → Int) (i : Nat) : Nat → Int := fun k => if k < i then actV f h p k else movV f p k
theorem apart0 (f h p : Nat → Int) : vA (apart f h p 0) = vA (movV f p) := by simp [vA, apart]
theorem apart3 (f h p : Nat → Int) : vA (apart f h p 3) = vA (actV f h p) := by simp [vA, apart]
theorem set_apart (f h p : Nat → Int) (i : Nat) (hi : i < 3) : (vA (apart f h p i)).setIfInBounds i (.int .i64 (actV f h p i)) = vA (apart f h p (i + 1)) := by
  obtain rfl | rfl | rfl : i = 0 ∨ i = 1 ∨ i = 2 := by omega
  all_goals simp [vA, apart]
theorem opA_shiftQ (f h : Nat → Int) (n : Nat) (hn : n < 3) : (opA f h)[9 + n]? = some (.int .i64 (h n)) := by
  rw [opA_get f h _ (by omega), if_neg (by omega), Nat.add_sub_cancel_left]
theorem p3_in {x y z : Int} (hp : inP x y z) : ∀ i, i < 3 → 0 ≤ p3 x y z i ∧ p3 x y z i < 24 := by
  obtain ⟨hx, hy, hz⟩ := hp
  intro i hi
  obtain rfl | rfl | rfl : i = 0 ∨ i = 1 ∨ i = 2 := by omega
  · show 0 ≤ x ∧ x < 24; omega
  · show 0 ≤ y ∧ y < 24; omega
  · show 0 ≤ z ∧ z < 24; omega
end Go.Proofs.YtfmbljmcdidocaaGreat
