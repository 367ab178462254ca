/-
  Whether a reflection is extinct, by the specification: walked.
-/
import Derived.Test.YtehbpcoiciodhaaGreatE5c
namespace Go.Proofs.YtehbpcoiciodhaaGreat
open Go.RowKit

/-- What is read: the reflection, the operator, its numbers. -/
def RdO (q1 q3 bB oO : Nat) (x y z : Int) (v1 v2 : Value) (f : Nat → Int) (w : World) : Prop := At 70 w q1 #[.int .i64 x, .int .i64 y, .int .i64 z] ∧ At 59 w q3 #[v1, v2] ∧ Ints w bB oO 9 f ∧ bB < w.heap.size
theorem ints_set3 {w : World} {b o n q : Nat} {f : Nat → Int} (h : Ints w b o n f) (hb : b ≠ q) (v0 v1 v2 : Value) : Ints (((w.setCell ⟨q, 0, none⟩ v0).setCell ⟨q, 1, none⟩ v1).setCell ⟨q, 2, none⟩ v2) b o n f := fun i hi => by
  have e : ∀ (W : World) (j : Nat) (v : Value), (W.setCell ⟨q, j, none⟩ v).cell? ⟨b, o + i, none⟩ = W.cell? ⟨b, o + i, none⟩ := fun W j v => World.cell?_of_block (Below.heap_setCell _ _ _ _ (by simpa using hb))
  rw [e, e, e]
  exact h i hi
end Go.Proofs.YtehbpcoiciodhaaGreat
