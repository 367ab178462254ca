/-
  Nets: sized, taken over, compared, marked and held, walked.
-/
import Derived.Test.YtlmgdcoknpakcaaNa
namespace Go.Proofs.Ytlmgdcoknpakcaa
open Go.RowKit

/-- A net of its own memory. -/
def NetAt (w : World) (lo hi : Nat) (m : Value) (W H : Int) (lr : Nat) (r : Nat → Int) (lu : Nat) (u : Nat → Int) : Prop := ∃ v v', m = nV W H v v' ∧ Arr w lo hi v lr r ∧ Arr w lo hi v' lu u ∧ Apart v v'
theorem NetAt.below {w w' : World} {lo hi : Nat} {m : Value} {W H : Int} {lr lu : Nat} {r u : Nat → Int} (h : NetAt w lo hi m W H lr r lu u) (hb : Below w.heap.size w w') : NetAt w' lo hi m W H lr r lu u := by
  obtain ⟨v, v', e, h1, h2, h3⟩ := h
  exact ⟨v, v', e, h1.below hb, h2.below hb, h3⟩
theorem NetAt.wide {w : World} {lo hi lo' hi' : Nat} {m : Value} {W H : Int} {lr lu : Nat} {r u : Nat → Int} (h : NetAt w lo hi m W H lr r lu u) (h1 : lo' ≤ lo) (h2 : hi ≤ hi') : NetAt w lo' hi' m W H lr r lu u := by
  obtain ⟨v, v', e, h3, h4, h5⟩ := h
  exact ⟨v, v', e, h3.wide h1 h2, h4.wide h1 h2, h5⟩
theorem NetAt.turn {w w' : World} {lo hi a b : Nat} {m : Value} {W H : Int} {lr lu : Nat} {r u : Nat → Int} (h : NetAt w a b m W H lr r lu u) (ht : Turn lo hi w w') (hd : b ≤ lo ∨ hi ≤ a) : NetAt w' a b m W H lr r lu u := by
  obtain ⟨v, v', e, h3, h4, h5⟩ := h
  exact ⟨v, v', e, h3.turn ht hd, h4.turn ht hd, h5⟩
end Go.Proofs.Ytlmgdcoknpakcaa
