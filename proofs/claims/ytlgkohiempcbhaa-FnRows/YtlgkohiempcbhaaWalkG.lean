/-
  Whether a vector lies in a lattice, by the specification, walked.
-/
import Derived.Test.YtlgkohiempcbhaaWalkF
namespace Go.Proofs.Ytlgkohiempcbhaa
open Go.RowKit

/-- Cramer's sums. -/
def cram (f : Nat → Int) (x y z : Int) (k : Nat) : Int := x * adj f k + y * adj f (3 + k) + z * adj f (6 + k)
/-- Does the vector lie in the lattice? -/
def spanned (f : Nat → Int) (x y z : Int) : Bool := decide ((cram f x y z 0).tmod (det3 f) = 0) && (decide ((cram f x y z 1).tmod (det3 f) = 0) && decide ((cram f x y z 2).tmod (det3 f) = 0))
def inIx (x : Int) : Prop := -1000000000 ≤ x ∧ x ≤ 1000000000
instance (x : Int) : Decidable (inIx x) := by unfold inIx; infer_instance
def contains (n : Nat) (f : Nat → Int) (x y z : Int) : Bool := decide (detOf n f ≠ 0) && (decide (inIx x) && (decide (inIx y) && (decide (inIx z) && spanned f x y z)))
theorem cram_bound {f : Nat → Int} (hf : ∀ i, i < 9 → -1000 ≤ f i ∧ f i ≤ 1000) {x y z : Int} (hx : inIx x) (hy : inIx y) (hz : inIx z) (k : Nat) :
    (-2000000000000000 ≤ x * adj f k ∧ x * adj f k ≤ 2000000000000000) ∧ (-2000000000000000 ≤ y * adj f (3 + k) ∧ y * adj f (3 + k) ≤ 2000000000000000) ∧ (-2000000000000000 ≤ z * adj f (6 + k) ∧ z * adj f (6 + k) ≤ 2000000000000000) :=
  ⟨mul_bound (M := 1000000000) (N := 2000000) hx (adj_bound hf k), mul_bound (M := 1000000000) (N := 2000000) hy (adj_bound hf _), mul_bound (M := 1000000000) (N := 2000000) hz (adj_bound hf _)⟩
end Go.Proofs.Ytlgkohiempcbhaa
