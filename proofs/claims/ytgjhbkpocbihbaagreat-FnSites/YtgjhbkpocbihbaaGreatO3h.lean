/-
  Orbit and Asymmetric, by the program and by the specification: walked.
-/
import Derived.Test.YtgjhbkpocbihbaaGreatNF
import Derived.Test.YtgjhbkpocbihbaaGreatMT
namespace Go.Proofs.YtgjhbkpocbihbaaGreat
open Go.RowKit Go.Lib

/-- What both orbits tell: the same list. -/
def OrbR (w : World) (n : Nat) (A : Nat → OpD) (x y z : Int) (e : Ending) (w' : World) : Prop :=
  (∃ v m F, e = .returned v ∧ PtG w' w.heap.size v m F ∧ ((isG n A ∧ inP x y z) ∧ OrbI (orbP A x y z) n m F ∨ ¬ (isG n A ∧ inP x y z) ∧ m = 0)) ∧ Below w.heap.size w w'
theorem PtG.lower {w : World} {lo lo' m : Nat} {v : Value} {F : Nat → T3} (h : PtG w lo v m F) (hl : lo' ≤ lo) : PtG w lo' v m F := ⟨by
  obtain ⟨e0, h1 | ⟨g', c', cur', e', hb', r⟩⟩ := h.row
  · exact ⟨e0, .inl h1⟩
  · exact ⟨e0, .inr ⟨g', c', cur', e', Nat.le_trans hl hb', r⟩⟩, h.nn⟩
theorem ptG_new {w W : World} {lo : Nat} (F : Nat → T3) (a1 : At 64 W w.heap.size #[]) (hl : lo ≤ w.heap.size) : PtG W lo (.slice (some ⟨w.heap.size, 0, none⟩) 0 0) 0 F := ptG_of (cur := #[]) a1 rfl (Nat.le_refl _) (Nat.zero_le _) hl (fun t ht => by omega)
end Go.Proofs.YtgjhbkpocbihbaaGreat
