/-
  Products of cyclotomic numbers, by the program and by the specification: what both tell.
-/
import Derived.Test.YtbninbeccgdemaaDoorMo
namespace Go.Proofs.YtbninbeccgdemaaDoor
open Go.RowKit

/-- What is told of a product, right numbers or not. -/
def mulR (a b c d x y z u : Int) : Value := if cOk a b c d && cOk x y z u then mulT a b c d x y z u else .tuple #[cV 0 0 0 0, .bool false]
theorem mulR_parts (a b c d x y z u : Int) : ∃ p q r s k, mulR a b c d x y z u = .tuple #[cV p q r s, .bool k] := by
  unfold mulR
  split
  · exact told_parts _ _ _ _
  · exact ⟨_, _, _, _, _, rfl⟩
theorem implMul_any (a b c d x y z u : Int) (w : World) (ht : Tab w) : Calls Tryd.prog 12 #[cV a b c d, cV x y z u] w fun e w' => e = .returned (mulR a b c d x y z u) ∧ Below w.heap.size w w' := by
  unfold mulR
  by_cases h : (cOk a b c d && cOk x y z u) = true
  · rw [if_pos h]
    rw [Bool.and_eq_true] at h
    exact implMul_yes a b c d x y z u w ht h.1 h.2
  · rw [if_neg h]
    exact implMul_no a b c d x y z u w (Bool.eq_false_iff.2 h)
end Go.Proofs.YtbninbeccgdemaaDoor
