/-
  Products of operators by the program, whatever is handed in, walked.
-/
import Derived.Test.YtmjeplhigjlopaaOpK
namespace Go.Proofs.Ytmjeplhigjlopaa
open Go.RowKit

/-- The product is told. -/
def mulOk (n : Nat) (f : Nat → Int) (k : Nat) (h : Nat → Int) (n' : Nat) (f' : Nat → Int) (k' : Nat) (h' : Nat → Int) : Prop := isOp n f k h ∧ isOp n' f' k' h' ∧ isR (mulM f f') (behV f h h')
instance (n : Nat) (f : Nat → Int) (k : Nat) (h : Nat → Int) (n' : Nat) (f' : Nat → Int) (k' : Nat) (h' : Nat → Int) : Decidable (mulOk n f k h n' f' k' h') := by unfold mulOk; infer_instance
/-- An operator of nine and three numbers, or an empty one. -/
def Told (w : World) (lo hi : Nat) (o : Value) (p : Bool) (f h : Nat → Int) : Prop := OpAt w lo hi o (if p then 9 else 0) f (if p then 3 else 0) h
theorem told_none (w : World) (lo hi : Nat) (f h : Nat → Int) : Told w lo hi (.agg #[.slice none 0 0, .slice none 0 0]) false f h :=
  ⟨_, _, rfl, .inl ⟨rfl, rfl⟩, .inl ⟨rfl, rfl⟩, fun k h1 => by cases h1⟩
theorem turn_set2 (w : World) (q : Nat) (v1 v2 : Value) : Turn q (q + 1) w ((w.setCell ⟨q, 0, none⟩ v1).setCell ⟨q, 1, none⟩ v2) :=
  ⟨rfl, rfl, rfl, by simp [World.setCell], fun k _ hk => (Below.heap_setCell _ _ _ _ (show k ≠ q by omega)).trans (Below.heap_setCell _ _ _ _ (show k ≠ q by omega))⟩
theorem OpAt.store {w : World} {lo hi q : Nat} {o : Value} {n k : Nat} {f h : Nat → Int} (ho : OpAt w lo hi o n f k h) (hq : q < lo) (v1 v2 : Value) : OpAt ((w.setCell ⟨q, 0, none⟩ v1).setCell ⟨q, 1, none⟩ v2) lo hi o n f k h :=
  ho.turn (turn_set2 w q v1 v2) (.inr hq)
theorem size_set2 (w : World) (q : Nat) (v1 v2 : Value) : ((w.setCell ⟨q, 0, none⟩ v1).setCell ⟨q, 1, none⟩ v2).heap.size = w.heap.size := by simp [World.setCell]
end Go.Proofs.Ytmjeplhigjlopaa
