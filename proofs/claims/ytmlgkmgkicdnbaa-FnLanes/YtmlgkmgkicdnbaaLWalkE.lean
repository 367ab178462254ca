/-
  Two complex numbers drawn, walked.
-/
import Derived.Test.YtmlgkmgkicdnbaaLWalkD
import Derived.RegionTactic
namespace Go.Proofs.Ytmlgkmgkicdnbaa
open Go.RowKit Fl

theorem Row.mono {w : World} {p q : Nat} {a : Option Addr} {len : Nat} (h : Row w p a len) (hq : p ≤ q) : Row w q a len := by
  refine ⟨h.1, h.2.imp id ?_⟩
  rintro ⟨b, off, e, hb, hc⟩
  exact ⟨b, off, e, by omega, hc⟩

/-- Block q holds two cells, and stands in w as it stood. -/
def Box (w : World) (q : Nat) (v0 v1 : Value) : Prop := w.heap[q]? = some (.cells #[v0, v1] 28)
theorem Box.lt {w : World} {q : Nat} {v0 v1 : Value} (h : Box w q v0 v1) : q < w.heap.size := (Array.getElem?_eq_some_iff.1 h).1
theorem Box.kept {w w' : World} {p q : Nat} {v0 v1 : Value} (h : Box w q v0 v1) (hk : Kept p w w') (hq : q ≠ p) : Box w' q v0 v1 := (hk.block q h.lt hq).trans h
theorem Box.below {w w' : World} {q : Nat} {v0 v1 : Value} (h : Box w q v0 v1) (hk : Below w.heap.size w w') : Box w' q v0 v1 := (hk.block q h.lt).trans h
theorem Box.open {w : World} {q : Nat} {v0 v1 : Value} (h : Box w q v0 v1) : w.cell? ⟨q, 0, none⟩ = some v0 ∧ w.cell? ⟨q, 1, none⟩ = some v1 ∧ w.frozen? ⟨q, 0, none⟩ = false ∧ w.frozen? ⟨q, 1, none⟩ = false := by
  simp [World.cell?, World.frozen?, show w.heap[q]? = _ from h]
theorem box_new (w : World) (v0 v1 : Value) : Box (w.alloc (.cells #[v0, v1] 28)) w.heap.size v0 v1 := heap_alloc_new w _
theorem box_new' (w : World) (v0 v1 : Value) {q : Nat} (hq : q = w.heap.size) : Box (w.alloc (.cells #[v0, v1] 28)) q v0 v1 := hq ▸ heap_alloc_new w _
theorem below_alloc (w : World) (o : Obj) : Below w.heap.size w (w.alloc o) := (Below.refl _ _).alloc (Nat.le_refl _) _

theorem neg_lt {x : Nat} (h : x < 2 ^ 64) : Op.negFloat .f64 x < 2 ^ 64 := Nat.xor_lt_two_pow h (by decide)

end Go.Proofs.Ytmlgkmgkicdnbaa
