/-
  Whether a reflection is extinct, by the specification: walked.
-/
import Derived.Test.YtpolnkjmojofoaaE5c
namespace Go.Proofs.Ytpolnkjmojofoaa
open Go.RowKit

theorem ints_set3 {w : World} {b o n q : Nat} {f : Nat → Int} (h : Ints w b o n f) (hb : b ≠ q) (v0 v1 v2 : Value) : Ints (((w.setCell ⟨q, 0, none⟩ v0).setCell ⟨q, 1, none⟩ v1).setCell ⟨q, 2, none⟩ v2) b o n f := fun i hi => by
  have e : ∀ (W : World) (j : Nat) (v : Value), (W.setCell ⟨q, j, none⟩ v).cell? ⟨b, o + i, none⟩ = W.cell? ⟨b, o + i, none⟩ := fun W j v => World.cell?_of_block (Below.heap_setCell _ _ _ _ (by simpa using hb))
  rw [e, e, e]
  exact h i hi
end Go.Proofs.Ytpolnkjmojofoaa
