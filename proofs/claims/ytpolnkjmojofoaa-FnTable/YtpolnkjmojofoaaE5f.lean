/-
  Extinct by the program, and the law FnExactExtinct: walked.
-/
import Derived.Test.YtpolnkjmojofoaaE5e
namespace Go.Proofs.Ytpolnkjmojofoaa
open Go.RowKit

theorem oprs_open {w : World} {base n : Nat} {v : Value} {F : Nat → Nat → Int} (h : Oprs w base v n F) : ∃ g c, v = .slice (some ⟨g, 0, none⟩) n c := by
  rcases h.1.2 with ⟨e, _⟩ | ⟨g, c, cur, e, -⟩
  · exact absurd e h.2
  · exact ⟨g, c, e⟩
end Go.Proofs.Ytpolnkjmojofoaa
