/-
  The exact law of traces reduced: walked.
-/
import Derived.Test.YtbninbeccgdemaaDoorRd
namespace Go.Proofs.YtbninbeccgdemaaDoor
open Go.RowKit

theorem src_own {w : World} {g n : Nat} {f : Nat → Int} (h : Own w g n f) : Src w (some ⟨g, 0, none⟩) n f := .inr ⟨g, 0, rfl, h.lt, Made.row h⟩
theorem tab_turn {w w' : World} {lo hi : Nat} (h : Tab w) (t : Turn lo hi w w') (hl : 0 < lo) : Tab w' :=
  ⟨Nat.lt_of_lt_of_le h.1 t.size, fun i hi => (World.cell?_of_block (w := w) (t.block 0 h.1 (.inl hl))).trans (h.2 i hi)⟩
end Go.Proofs.YtbninbeccgdemaaDoor
