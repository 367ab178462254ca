/-
  A deed drawn: walked.
-/
import Derived.Test.YtnjnffemidaopaaL17z
import Derived.Deep.CutRange
namespace Go.Proofs.Ytnjnffemidaopaa
open Go.RowKit

/-- The cursor, and what has turned since w0: its own block alone. -/
structure Dz (w0 w : World) (p : Nat) (a : Option Addr) (len cap : Nat) : Prop where
  kp : Kept p w0 w
  cur : Cur w p a len cap
  pN : p < w0.heap.size
section
variable {w0 w w' : World} {p : Nat} {a : Option Addr} {len cap : Nat}
theorem Dz.st (h : Dz w0 w p a len cap) : Dr w p a len cap w := Dr.start h.cur
theorem Dz.draw (h : Dz w0 w p a len cap) (d : Dr w p a len cap w') : Dz w0 w' p a len cap := ⟨h.kp.trans d.1, d.2, h.pN⟩
theorem Dz.below (h : Dz w0 w p a len cap) (hb : Below w.heap.size w w') : Dz w0 w' p a len cap := ⟨h.kp.trans (Kept.of_below hb), h.cur.kept hb, h.pN⟩
theorem Cur.setO {q i : Nat} {v : Value} (h : Cur w p a len cap) (hq : p < q) : Cur (w.setCell ⟨q, i, none⟩ v) p a len cap := by
  obtain ⟨i, hh, hi, hc, hr⟩ := h
  refine ⟨i, hh, hi, (Below.heap_setCell _ _ _ _ (by show p ≠ q; omega)).trans hc, hr.1, hr.2.imp id ?_⟩
  rintro ⟨b, off, e, hb, hcell⟩
  refine ⟨b, off, e, hb, fun j hj => ?_⟩
  obtain ⟨x, h0, h2, h3⟩ := hcell j hj
  refine ⟨x, h0, h2, ?_⟩
  rw [World.cell?_of_block (w := w) (Below.heap_setCell _ _ _ _ (by show b ≠ q; omega))]
  exact h3
theorem Dz.setO {q i : Nat} {v : Value} (h : Dz w0 w p a len cap) (hq : w0.heap.size ≤ q) : Dz w0 (w.setCell ⟨q, i, none⟩ v) p a len cap :=
  ⟨⟨h.kp.os, h.kp.tape, h.kp.output, by simpa [World.setCell] using h.kp.size, fun k hk hp => (Below.heap_setCell _ _ _ _ (by show k ≠ q; omega)).trans (h.kp.block k hk hp)⟩, h.cur.setO (by have := h.pN; omega), h.pN⟩
end
theorem lit_at {t : TypeId} {w : World} {q : Nat} {l : List Int} (h : At t w q (lC l).toArray) {i : Nat} (hi : i < l.length) : w.cell? ⟨q, i, none⟩ = some (.int .i64 (l.getD i 0)) := by
  refine h.cell i ?_
  simp [lC, hi]
end Go.Proofs.Ytnjnffemidaopaa
