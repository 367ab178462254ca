/-
  Lists of letters of one's own, and the texts that are made of them.
-/
import Derived.Test.YtnkmiljnilmicaaRows
import Derived.Test.YtnkmiljnilmicaaKit
import Derived.Deep.AppendLies
import Derived.Laws.IdiomStrings
namespace Go.Proofs.Ytnkmiljnilmicaa
open Go.RowKit

/-- The cells of letters. -/
def bCells (L : List UInt8) : List Value := L.map fun b => .int .u8 (b.toNat : Int)
theorem bCells_add (L : List UInt8) (b : UInt8) : bCells L ++ [.int .u8 (b.toNat : Int)] = bCells (L ++ [b]) := by simp [bCells]
/-- A list of letters of one's own. -/
def ByR (w : World) (base : Nat) (v : Value) (L : List UInt8) : Prop := v ≠ .slice none 0 0 ∧ w.ownsRow base 5 1 v L.length (bCells L)
theorem ByR.text {w : World} {base : Nat} {v : Value} {L : List UInt8} (h : ByR w base v L) : (convert 22 9 v).run Try.prog w = .ok (.string ⟨L.toArray⟩) w := by
  obtain ⟨h0, hl, h1⟩ := h
  rcases h1 with ⟨h1, -⟩ | ⟨g, c, cur, rfl, hb, hh, hc1, hc2, hsz, ht⟩
  · exact absurd h1 h0
  · refine run_convert_bytes_back w 22 9 5 ⟨g, 0, none⟩ c L Try.underlying22 Try.underlying5 Try.underlying9 fun j hj => ?_
    have a1 : (bCells L)[j]? = some (.int .u8 (L[j].toNat : Int)) := by simp [bCells, hj]
    rw [← ht] at a1
    rw [List.getElem?_take_of_lt (by omega)] at a1
    simp only [World.cell?, Addr.add_lit, hh]
    simpa using a1
theorem below_grown9 {N : Nat} {w w1 w2 : World} {row : Option Nat} (b : Below N w w1) (g : w1.grownBy w2 row) (hr : ∀ j, row = some j → N ≤ j) (hN : N ≤ w1.heap.size) : Below N w w2 :=
  b.trans ⟨g.os, g.tape, g.output, g.size, fun k hk => g.block k (by omega) (fun e => by have := hr k e.symm; omega)⟩
theorem ownBlock_ge9 {w : World} {base : Nat} {e : TypeId} {size : Nat} {v : Value} {n : Nat} {xs : List Value} (h : w.ownsRow base e size v n xs) {j : Nat} (hj : v.ownBlock = some j) : base ≤ j := by
  rcases h.2 with ⟨rfl, _⟩ | ⟨g, cap, cur, rfl, hb, _⟩
  · cases hj
  · cases hj; exact hb

theorem infoB : (Try.prog.info? 5).map (fun i => (i.zero, i.size, i.bytes)) = some (some (.int .u8 0), 1, 1) := by kernel_rfl
set_option maxRecDepth 100000 in
theorem byR_new (w : World) : ByR (w.alloc (.cells #[] 5)) w.heap.size (.slice (some ⟨w.heap.size, 0, none⟩) 0 0) [] := ⟨(by intro h; cases h), World.ownsRow_made w #[] 0 (Nat.le_refl _) (by decide) rfl⟩
end Go.Proofs.Ytnkmiljnilmicaa
