/-
  Operators told in new memory by the program, walked.
-/
import Derived.Test.YtdiohpekjhamoabOpG
import Derived.Test.YtdiohpekjhamoabOpH
import Derived.Test.YtdiohpekjhamoabOpF
namespace Go.Proofs.Ytdiohpekjhamoab
open Go.RowKit

theorem At.ints9 {w : World} {q : Nat} {f h : Nat → Int} (a : At 65 w q (opA f h)) : Ints w q 0 9 f := by
  intro i hi
  rw [Nat.zero_add]
  have := opA_get f h i (by omega)
  rw [if_pos hi] at this
  exact a.cell i this
theorem At.ints3 {w : World} {q : Nat} {f h : Nat → Int} (a : At 65 w q (opA f h)) : Ints w q 9 3 h := by
  intro i hi
  have := opA_get f h (9 + i) (by omega)
  rw [if_neg (by omega), Nat.add_sub_cancel_left] at this
  exact a.cell (9 + i) this
theorem arr_of_made {w : World} {lo g c n : Nat} {f : Nat → Int} (h : Made w g c n f) (hc : n ≤ c) (hl : lo ≤ g) : Arr w lo w.heap.size (.slice (some ⟨g, 0, none⟩) n c) n f := .inr ⟨g, c, rfl, hl, h.lt, hc, h⟩
theorem Made.below {w w' : World} {g n k : Nat} {f : Nat → Int} (h : Made w g n k f) (hb : Below w.heap.size w w') : Made w' g n k f := by
  obtain ⟨cur, h1, h2⟩ := h
  exact ⟨cur, h1.below hb, h2⟩
end Go.Proofs.Ytdiohpekjhamoab
