/-
  Small facts on worlds, as the walks take them. No function of the program.
-/
import Derived.WalkKit
import Derived.WalkLawsBesides
import Derived.WalkSmall
import Derived.Below
import Derived.Deep.Draws
import Derived.Outline
import Derived.OwnWalk
import Derived.Deep.RegionHeld3
import Derived.Deep.QuietTactic
import Derived.BigQuiet
import Derived.RegionTactic
import Derived.Laws.Rows
import Derived.Laws.StructEq
import Derived.Laws.Tables
import Derived.Deep.Cut
namespace Go.Proofs.Ytnkmiljnilmicaa
open Go.RowKit

theorem cell_old (w : World) (o : Obj) (a : Addr) (h : a.block < w.heap.size) : (w.alloc o).cell? a = w.cell? a := World.cell?_of_block (w := w) (Below.heap_alloc w o a.block h)
theorem frozen_old (w : World) (o : Obj) (a : Addr) (h : a.block < w.heap.size) : (w.alloc o).frozen? a = w.frozen? a := World.frozen?_of_block (w := w) (Below.heap_alloc w o a.block h)
/-- What a cell of block N holds (a name for it). -/
def cv (w : World) (N i : Nat) : Value := (w.cell? ⟨N, i, none⟩).getD undef
/-- Behind a call that keeps what was there: old cells and marks read as before (two rules for the walk). -/
theorem bcell {W w1 : World} (hb : Below W.heap.size W w1) : (∀ b o, b < W.heap.size → w1.cell? ⟨b, o, none⟩ = W.cell? ⟨b, o, none⟩) ∧ (∀ b o, b < W.heap.size → w1.frozen? ⟨b, o, none⟩ = W.frozen? ⟨b, o, none⟩) :=
  ⟨fun b o h => hb.cell (p := ⟨b, o, none⟩) h, fun b o h => hb.frozen (p := ⟨b, o, none⟩) h⟩
/-- Of what was there, block p alone may have turned. -/
structure Kept (p : Nat) (w w' : World) : Prop where
  os : w'.os = w.os
  tape : w'.tape = w.tape
  output : w'.output = w.output
  size : w.heap.size ≤ w'.heap.size
  block : ∀ k, k < w.heap.size → k ≠ p → w'.heap[k]? = w.heap[k]?
theorem Kept.refl (p : Nat) (w : World) : Kept p w w := ⟨rfl, rfl, rfl, Nat.le_refl _, fun _ _ _ => rfl⟩
theorem Kept.trans {p : Nat} {a b c : World} (h : Kept p a b) (k : Kept p b c) : Kept p a c :=
  ⟨k.os.trans h.os, k.tape.trans h.tape, k.output.trans h.output, Nat.le_trans h.size k.size, fun i hi hp => (k.block i (Nat.lt_of_lt_of_le hi h.size) hp).trans (h.block i hi hp)⟩
theorem Kept.of_below {p : Nat} {w w' : World} (h : Below w.heap.size w w') : Kept p w w' := ⟨h.os, h.tape, h.output, h.size, fun k hk _ => h.block k hk⟩
theorem Kept.set {p i : Nat} {w w' : World} (h : Kept p w w') (v : Value) : Kept p w (w'.setCell ⟨p, i, none⟩ v) :=
  h.trans ⟨rfl, rfl, rfl, by simp [World.setCell], fun k _ hk => Below.heap_setCell _ _ _ _ hk⟩
theorem Kept.drewN {p n : Nat} {w w' : World} (h : Kept p w w') : Kept p w (w'.drewN n) := h.trans ⟨rfl, rfl, rfl, Nat.le_refl _, fun _ _ _ => rfl⟩
/-- A block from N on alone has turned: below N all is as it was. -/
theorem Kept.below {p N : Nat} {w w' : World} (h : Kept p w w') (hp : N ≤ p) (hN : N ≤ w.heap.size) : Below N w w' :=
  ⟨h.os, h.tape, h.output, h.size, fun k hk => h.block k (by omega) (by omega)⟩
theorem Kept.cell {p b o : Nat} {w w' : World} (h : Kept p w w') (hb : b ≠ p) (hs : b < w.heap.size) : w'.cell? ⟨b, o, none⟩ = w.cell? ⟨b, o, none⟩ := World.cell?_of_block (w := w) (h.block b hs hb)
theorem Kept.frozen {p b o : Nat} {w w' : World} (h : Kept p w w') (hb : b ≠ p) (hs : b < w.heap.size) : w'.frozen? ⟨b, o, none⟩ = w.frozen? ⟨b, o, none⟩ := World.frozen?_of_block (w := w) (h.block b hs hb)
theorem below_alloc (w : World) (o : Obj) : Below w.heap.size w (w.alloc o) := (Below.refl _ _).alloc (Nat.le_refl _) _
theorem lt_of_cell {w : World} {b o : Nat} {v : Value} (h : w.cell? ⟨b, o, none⟩ = some v) : b < w.heap.size := by
  refine Nat.lt_of_not_le fun hb => ?_
  have : w.heap[b]? = none := Array.getElem?_eq_none hb
  simp [World.cell?, this] at h
/-- The block q holds these cells. -/
def At (t : TypeId) (w : World) (q : Nat) (vs : Array Value) : Prop := w.heap[q]? = some (.cells vs t)
theorem At.lt {t : TypeId} {w : World} {q : Nat} {vs : Array Value} (h : At t w q vs) : q < w.heap.size := (Array.getElem?_eq_some_iff.1 h).1
theorem At.below {t : TypeId} {w w' : World} {q : Nat} {vs : Array Value} (h : At t w q vs) (hk : Below w.heap.size w w') : At t w' q vs := (hk.block q h.lt).trans h
theorem At.belowN {t : TypeId} {w w' : World} {q n : Nat} {vs : Array Value} (h : At t w q vs) (hk : Below n w w') (hq : q < n) : At t w' q vs := (hk.block q hq).trans h
theorem At.cell {t : TypeId} {w : World} {q : Nat} {vs : Array Value} (h : At t w q vs) (i : Nat) {v : Value} (hv : vs[i]? = some v) : w.cell? ⟨q, i, none⟩ = some v := by
  simp only [World.cell?, show w.heap[q]? = _ from h]; simpa using hv
theorem At.frozen {t : TypeId} {w : World} {q : Nat} {vs : Array Value} (h : At t w q vs) (i : Nat) : w.frozen? ⟨q, i, none⟩ = false := by
  simp [World.frozen?, show w.heap[q]? = _ from h]
theorem At.set {t : TypeId} {w : World} {q : Nat} {vs : Array Value} (h : At t w q vs) (i : Nat) (v : Value) : At t (w.setCell ⟨q, i, none⟩ v) q (vs.setIfInBounds i v) := by
  simp [At, World.setCell, Array.getElem?_modify, show w.heap[q]? = _ from h]
theorem At.setOther {t : TypeId} {w : World} {q p i : Nat} {vs : Array Value} (h : At t w q vs) (hq : q ≠ p) (v : Value) : At t (w.setCell ⟨p, i, none⟩ v) q vs := (Below.heap_setCell _ _ _ _ hq).trans h
theorem at_new (t : TypeId) (w : World) (vs : Array Value) : At t (w.alloc (.cells vs t)) w.heap.size vs := heap_alloc_new w _
theorem At.open3 {t : TypeId} {w : World} {q : Nat} {v0 v1 v2 : Value} (h : At t w q #[v0, v1, v2]) : w.cell? ⟨q, 0, none⟩ = some v0 ∧ w.cell? ⟨q, 1, none⟩ = some v1 ∧ w.cell? ⟨q, 2, none⟩ = some v2 ∧ w.frozen? ⟨q, 0, none⟩ = false ∧ w.frozen? ⟨q, 1, none⟩ = false ∧ w.frozen? ⟨q, 2, none⟩ = false :=
  ⟨h.cell 0 rfl, h.cell 1 rfl, h.cell 2 rfl, h.frozen 0, h.frozen 1, h.frozen 2⟩
/-- A new block: its world gets a letter. -/
theorem boxed (w : World) (t : TypeId) (vs : Array Value) : ∃ W, w.alloc (.cells vs t) = W ∧ At t W w.heap.size vs ∧ Below w.heap.size w W ∧ W.heap.size = w.heap.size + 1 := ⟨_, rfl, at_new t w vs, below_alloc _ _, by simp⟩
/-- What is told of a slice that came in. -/
def IsRow (k : IntKind) (w : World) (a : Option Addr) (len cap : Nat) (zs : List Int) : Prop :=
  (a = none ∧ len = 0 ∧ cap = 0 ∧ zs = []) ∨
  ∃ x, a = some x ∧ len ≤ cap ∧ cap ≤ maxLen ∧ zs.length = cap ∧ (∀ i, i < zs.length → w.cell? (x.add i) = some (.int k (zs.getD i 0))) ∧ ∀ n ∈ zs, (Lit.int k n).wf = true
/-- Numbers from off on in block b. -/
def Ints (w : World) (b off n : Nat) (f : Nat → Int) : Prop := ∀ i, i < n → w.cell? ⟨b, off + i, none⟩ = some (.int .i64 (f i))
theorem Ints.below {w w' : World} {b off n : Nat} {f : Nat → Int} (h : Ints w b off n f) (hlt : b < w.heap.size) (hb : Below w.heap.size w w') : Ints w' b off n f := fun i hi => (hb.cell (p := ⟨b, off + i, none⟩) hlt).trans (h i hi)
/-- A list of numbers. -/
def Src (w : World) (a : Option Addr) (n : Nat) (f : Nat → Int) : Prop := n = 0 ∨ ∃ b off, a = some ⟨b, off, none⟩ ∧ b < w.heap.size ∧ Ints w b off n f
theorem Src.below {w w' : World} {a : Option Addr} {n : Nat} {f : Nat → Int} (h : Src w a n f) (hb : Below w.heap.size w w') : Src w' a n f := by
  refine h.imp id ?_
  rintro ⟨b, off, rfl, hlt, hr⟩
  exact ⟨b, off, rfl, Nat.lt_of_lt_of_le hlt hb.size, hr.below hlt hb⟩
theorem wf64 {n : Int} (h : (Lit.int .i64 n).wf = true) : -9223372036854775808 ≤ n ∧ n ≤ 9223372036854775807 := by
  simpa [Lit.wf, IntKind.min, IntKind.max, IntKind.bits, IntKind.signed] using h
theorem src_of {w : World} {a : Option Addr} {len cap : Nat} {zs : List Int} (h : IsRow .i64 w a len cap zs) : ∃ f : Nat → Int, Src w a len f ∧ len ≤ maxLen ∧ ∀ i, i < len → -9223372036854775808 ≤ f i ∧ f i ≤ 9223372036854775807 := by
  rcases h with ⟨rfl, rfl, rfl, rfl⟩ | ⟨x, rfl, hl, hm, hz, hcell, hwz⟩
  · exact ⟨fun _ => 0, .inl rfl, Nat.zero_le _, fun i hi => by omega⟩
  · refine ⟨fun i => zs.getD i 0, ?_, Nat.le_trans hl hm, fun i hi => ?_⟩
    · by_cases h0 : len = 0
      · exact .inl h0
      · obtain ⟨b, off, spot⟩ := x
        have hc := hcell 0 (by omega)
        have hspot : spot = none := by simpa [Addr.add] using World.cell?_spot hc
        subst hspot
        refine .inr ⟨b, off, rfl, ?_, fun j hj => ?_⟩
        · refine Nat.lt_of_not_le fun hb => ?_
          have : w.heap[b]? = none := Array.getElem?_eq_none hb
          simp [Addr.add, World.cell?, this] at hc
        · have hcj := hcell j (by omega)
          by_cases e : j = 0
          · subst e; simpa [Addr.add] using hcj
          · simpa [Addr.add, e] using hcj
    · have hi' : i < zs.length := by omega
      have := hwz (zs.getD i 0) (by simp [List.getD, hi'])
      exact wf64 this
end Go.Proofs.Ytnkmiljnilmicaa
