/-
  Small facts on worlds, as the walks take them. No function of the program.
-/
import Derived.WalkKit
import Derived.WalkLawsBesides
import Derived.WalkSmall
import Derived.Below
import Derived.Deep.Draws
import Derived.Outline
import Derived.OwnWalk
import Derived.Deep.RegionHeld3
import Derived.Deep.QuietTactic
import Derived.BigQuiet
import Derived.RegionTactic
import Derived.Laws.Rows
import Derived.Laws.StructEq
import Derived.Laws.Tables
import Derived.Deep.Cut
import Derived.Test.YtiocneailhplkaaGreatRows
import Derived.Laws.Cover3
namespace Go.Proofs.YtiocneailhplkaaGreat
open Go.RowKit

theorem cell_old (w : World) (o : Obj) (a : Addr) (h : a.block < w.heap.size) : (w.alloc o).cell? a = w.cell? a := World.cell?_of_block (w := w) (Below.heap_alloc w o a.block h)
theorem frozen_old (w : World) (o : Obj) (a : Addr) (h : a.block < w.heap.size) : (w.alloc o).frozen? a = w.frozen? a := World.frozen?_of_block (w := w) (Below.heap_alloc w o a.block h)
/-- What a cell of block N holds (a name for it). -/
def cv (w : World) (N i : Nat) : Value := (w.cell? ⟨N, i, none⟩).getD undef
/-- Behind a call that keeps what was there: old cells and marks read as before (two rules for the walk). -/
theorem bcell {W w1 : World} (hb : Below W.heap.size W w1) : (∀ b o, b < W.heap.size → w1.cell? ⟨b, o, none⟩ = W.cell? ⟨b, o, none⟩) ∧ (∀ b o, b < W.heap.size → w1.frozen? ⟨b, o, none⟩ = W.frozen? ⟨b, o, none⟩) :=
  ⟨fun b o h => hb.cell (p := ⟨b, o, none⟩) h, fun b o h => hb.frozen (p := ⟨b, o, none⟩) h⟩
/-- Of what was there, block p alone may have turned. -/
structure Kept (p : Nat) (w w' : World) : Prop where
  os : w'.os = w.os
  tape : w'.tape = w.tape
  output : w'.output = w.output
  size : w.heap.size ≤ w'.heap.size
  block : ∀ k, k < w.heap.size → k ≠ p → w'.heap[k]? = w.heap[k]?
theorem Kept.refl (p : Nat) (w : World) : Kept p w w := ⟨rfl, rfl, rfl, Nat.le_refl _, fun _ _ _ => rfl⟩
theorem Kept.trans {p : Nat} {a b c : World} (h : Kept p a b) (k : Kept p b c) : Kept p a c :=
  ⟨k.os.trans h.os, k.tape.trans h.tape, k.output.trans h.output, Nat.le_trans h.size k.size, fun i hi hp => (k.block i (Nat.lt_of_lt_of_le hi h.size) hp).trans (h.block i hi hp)⟩
theorem Kept.of_below {p : Nat} {w w' : World} (h : Below w.heap.size w w') : Kept p w w' := ⟨h.os, h.tape, h.output, h.size, fun k hk _ => h.block k hk⟩
theorem Kept.set {p i : Nat} {w w' : World} (h : Kept p w w') (v : Value) : Kept p w (w'.setCell ⟨p, i, none⟩ v) :=
  h.trans ⟨rfl, rfl, rfl, by simp [World.setCell], fun k _ hk => Below.heap_setCell _ _ _ _ hk⟩
theorem Kept.drewN {p n : Nat} {w w' : World} (h : Kept p w w') : Kept p w (w'.drewN n) := h.trans ⟨rfl, rfl, rfl, Nat.le_refl _, fun _ _ _ => rfl⟩
/-- A block from N on alone has turned: below N all is as it was. -/
theorem Kept.below {p N : Nat} {w w' : World} (h : Kept p w w') (hp : N ≤ p) (hN : N ≤ w.heap.size) : Below N w w' :=
  ⟨h.os, h.tape, h.output, h.size, fun k hk => h.block k (by omega) (by omega)⟩
theorem Kept.cell {p b o : Nat} {w w' : World} (h : Kept p w w') (hb : b ≠ p) (hs : b < w.heap.size) : w'.cell? ⟨b, o, none⟩ = w.cell? ⟨b, o, none⟩ := World.cell?_of_block (w := w) (h.block b hs hb)
theorem Kept.frozen {p b o : Nat} {w w' : World} (h : Kept p w w') (hb : b ≠ p) (hs : b < w.heap.size) : w'.frozen? ⟨b, o, none⟩ = w.frozen? ⟨b, o, none⟩ := World.frozen?_of_block (w := w) (h.block b hs hb)
theorem below_alloc (w : World) (o : Obj) : Below w.heap.size w (w.alloc o) := (Below.refl _ _).alloc (Nat.le_refl _) _
theorem lt_of_cell {w : World} {b o : Nat} {v : Value} (h : w.cell? ⟨b, o, none⟩ = some v) : b < w.heap.size := by
  refine Nat.lt_of_not_le fun hb => ?_
  have : w.heap[b]? = none := Array.getElem?_eq_none hb
  simp [World.cell?, this] at h
/-- The block q holds these cells. -/
def At (t : TypeId) (w : World) (q : Nat) (vs : Array Value) : Prop := w.heap[q]? = some (.cells vs t)
theorem At.lt {t : TypeId} {w : World} {q : Nat} {vs : Array Value} (h : At t w q vs) : q < w.heap.size := (Array.getElem?_eq_some_iff.1 h).1
theorem At.below {t : TypeId} {w w' : World} {q : Nat} {vs : Array Value} (h : At t w q vs) (hk : Below w.heap.size w w') : At t w' q vs := (hk.block q h.lt).trans h
theorem At.belowN {t : TypeId} {w w' : World} {q n : Nat} {vs : Array Value} (h : At t w q vs) (hk : Below n w w') (hq : q < n) : At t w' q vs := (hk.block q hq).trans h
theorem At.cell {t : TypeId} {w : World} {q : Nat} {vs : Array Value} (h : At t w q vs) (i : Nat) {v : Value} (hv : vs[i]? = some v) : w.cell? ⟨q, i, none⟩ = some v := by
  simp only [World.cell?, show w.heap[q]? = _ from h]; simpa using hv
theorem At.frozen {t : TypeId} {w : World} {q : Nat} {vs : Array Value} (h : At t w q vs) (i : Nat) : w.frozen? ⟨q, i, none⟩ = false := by
  simp [World.frozen?, show w.heap[q]? = _ from h]
theorem At.set {t : TypeId} {w : World} {q : Nat} {vs : Array Value} (h : At t w q vs) (i : Nat) (v : Value) : At t (w.setCell ⟨q, i, none⟩ v) q (vs.setIfInBounds i v) := by
  simp [At, World.setCell, Array.getElem?_modify, show w.heap[q]? = _ from h]
theorem At.setOther {t : TypeId} {w : World} {q p i : Nat} {vs : Array Value} (h : At t w q vs) (hq : q ≠ p) (v : Value) : At t (w.setCell ⟨p, i, none⟩ v) q vs := (Below.heap_setCell _ _ _ _ hq).trans h
theorem at_new (t : TypeId) (w : World) (vs : Array Value) : At t (w.alloc (.cells vs t)) w.heap.size vs := heap_alloc_new w _
theorem At.open3 {t : TypeId} {w : World} {q : Nat} {v0 v1 v2 : Value} (h : At t w q #[v0, v1, v2]) : w.cell? ⟨q, 0, none⟩ = some v0 ∧ w.cell? ⟨q, 1, none⟩ = some v1 ∧ w.cell? ⟨q, 2, none⟩ = some v2 ∧ w.frozen? ⟨q, 0, none⟩ = false ∧ w.frozen? ⟨q, 1, none⟩ = false ∧ w.frozen? ⟨q, 2, none⟩ = false :=
  ⟨h.cell 0 rfl, h.cell 1 rfl, h.cell 2 rfl, h.frozen 0, h.frozen 1, h.frozen 2⟩
/-- A new block: its world gets a letter. -/
theorem boxed (w : World) (t : TypeId) (vs : Array Value) : ∃ W, w.alloc (.cells vs t) = W ∧ At t W w.heap.size vs ∧ Below w.heap.size w W ∧ W.heap.size = w.heap.size + 1 := ⟨_, rfl, at_new t w vs, below_alloc _ _, by simp⟩
/-- What is told of a slice that came in. -/
def IsRow (k : IntKind) (w : World) (a : Option Addr) (len cap : Nat) (zs : List Int) : Prop :=
  (a = none ∧ len = 0 ∧ cap = 0 ∧ zs = []) ∨
  ∃ x, a = some x ∧ len ≤ cap ∧ cap ≤ maxLen ∧ zs.length = cap ∧ (∀ i, i < zs.length → w.cell? (x.add i) = some (.int k (zs.getD i 0))) ∧ ∀ n ∈ zs, (Lit.int k n).wf = true
/-- Numbers from off on in block b. -/
def Ints (w : World) (b off n : Nat) (f : Nat → Int) : Prop := ∀ i, i < n → w.cell? ⟨b, off + i, none⟩ = some (.int .i64 (f i))
theorem Ints.below {w w' : World} {b off n : Nat} {f : Nat → Int} (h : Ints w b off n f) (hlt : b < w.heap.size) (hb : Below w.heap.size w w') : Ints w' b off n f := fun i hi => (hb.cell (p := ⟨b, off + i, none⟩) hlt).trans (h i hi)
/-- A list of numbers. -/
def Src (w : World) (a : Option Addr) (n : Nat) (f : Nat → Int) : Prop := n = 0 ∨ ∃ b off, a = some ⟨b, off, none⟩ ∧ b < w.heap.size ∧ Ints w b off n f
theorem Src.below {w w' : World} {a : Option Addr} {n : Nat} {f : Nat → Int} (h : Src w a n f) (hb : Below w.heap.size w w') : Src w' a n f := by
  refine h.imp id ?_
  rintro ⟨b, off, rfl, hlt, hr⟩
  exact ⟨b, off, rfl, Nat.lt_of_lt_of_le hlt hb.size, hr.below hlt hb⟩
theorem wf64 {n : Int} (h : (Lit.int .i64 n).wf = true) : -9223372036854775808 ≤ n ∧ n ≤ 9223372036854775807 := by
  simpa [Lit.wf, IntKind.min, IntKind.max, IntKind.bits, IntKind.signed] using h
theorem src_of {w : World} {a : Option Addr} {len cap : Nat} {zs : List Int} (h : IsRow .i64 w a len cap zs) : ∃ f : Nat → Int, Src w a len f ∧ len ≤ maxLen ∧ ∀ i, i < len → -9223372036854775808 ≤ f i ∧ f i ≤ 9223372036854775807 := by
  rcases h with ⟨rfl, rfl, rfl, rfl⟩ | ⟨x, rfl, hl, hm, hz, hcell, hwz⟩
  · exact ⟨fun _ => 0, .inl rfl, Nat.zero_le _, fun i hi => by omega⟩
  · refine ⟨fun i => zs.getD i 0, ?_, Nat.le_trans hl hm, fun i hi => ?_⟩
    · by_cases h0 : len = 0
      · exact .inl h0
      · obtain ⟨b, off, spot⟩ := x
        have hc := hcell 0 (by omega)
        have hspot : spot = none := by simpa [Addr.add] using World.cell?_spot hc
        subst hspot
        refine .inr ⟨b, off, rfl, ?_, fun j hj => ?_⟩
        · refine Nat.lt_of_not_le fun hb => ?_
          have : w.heap[b]? = none := Array.getElem?_eq_none hb
          simp [Addr.add, World.cell?, this] at hc
        · have hcj := hcell j (by omega)
          by_cases e : j = 0
          · subst e; simpa [Addr.add] using hcj
          · simpa [Addr.add, e] using hcj
    · have hi' : i < zs.length := by omega
      have := hwz (zs.getD i 0) (by simp [List.getD, hi'])
      exact wf64 this
end Go.Proofs.YtiocneailhplkaaGreat
/-
  Ranges, and which forms are right, walked.
-/
namespace Go.Proofs.YtiocneailhplkaaGreat
open Go.RowKit

theorem in_any (x lo hi : Int) (w : World) : Calls Tryz.prog 54 #[.int .i64 x, .int .i64 lo, .int .i64 hi] w fun e w' => e = .returned (.bool (decide (lo ≤ x ∧ x ≤ hi))) ∧ w = w' := by
  by_cases h1 : lo ≤ x <;> by_cases h2 : x ≤ hi
  all_goals
    go_enter Tryz.func54, Tryz.ntmps54
    go_wp2
    go_ret
    exact ⟨by simp [h1, h2], rfl⟩
theorem within_any (x hi : Int) (w : World) (h0 : 0 ≤ hi) (h : hi ≤ 1000000000) : Calls Tryz.prog 101 #[.int .i64 x, .int .i64 hi] w fun e w' => e = .returned (.bool (decide (-hi ≤ x ∧ x ≤ hi))) ∧ w = w' := by
  by_cases h1 : -hi ≤ x <;> by_cases h2 : x ≤ hi
  all_goals
    go_enter Tryz.func101, Tryz.ntmps101
    go_wp2
    go_ret
    exact ⟨by simp [h1, h2], rfl⟩
/-- Which forms are right. -/
def fOk (a b c : Int) : Bool := decide (1 ≤ a ∧ a ≤ 1000000) && (decide (1 ≤ c ∧ c ≤ 1000000) && (decide (-1000000 ≤ b ∧ b ≤ 1000000) && decide (0 < a * c - b * b)))
theorem sq_nonneg (x : Int) : 0 ≤ x * x := by
  rcases Int.le_total 0 x with h | h
  · exact Int.mul_nonneg h h
  · have := Int.mul_nonneg (show 0 ≤ -x by omega) (show 0 ≤ -x by omega)
    rwa [Int.neg_mul_neg] at this
theorem mul_bound {x y M N : Int} (hx : -M ≤ x ∧ x ≤ M) (hy : -N ≤ y ∧ y ≤ N) : -(M * N) ≤ x * y ∧ x * y ≤ M * N := by
  have h1 : x.natAbs ≤ M.natAbs := by omega
  have h2 : y.natAbs ≤ N.natAbs := by omega
  have h3 := Nat.mul_le_mul h1 h2
  rw [← Int.natAbs_mul, ← Int.natAbs_mul] at h3
  have : 0 ≤ M * N := Int.mul_nonneg (by omega) (by omega)
  omega
end Go.Proofs.YtiocneailhplkaaGreat
/-
  Lists taken over and compared; matrices, their determinants and adjugates by the specification, walked.
-/
namespace Go.Proofs.YtiocneailhplkaaGreat
open Go.RowKit

/-- Is it a matrix? -/
def isM (n : Nat) (f : Nat → Int) : Prop := n = 9 ∧ ∀ i, i < 9 → -1000 ≤ f i ∧ f i ≤ 1000
instance (n : Nat) (f : Nat → Int) : Decidable (isM n f) := by unfold isM; infer_instance
def det3 (m : Nat → Int) : Int := m 0 * (m 4 * m 8 - m 5 * m 7) - m 1 * (m 3 * m 8 - m 5 * m 6) + m 2 * (m 3 * m 7 - m 4 * m 6)
def adj (m : Nat → Int) (k : Nat) : Int :=
  match k with
  | 0 => m 4 * m 8 - m 5 * m 7
  | 1 => m 2 * m 7 - m 1 * m 8
  | 2 => m 1 * m 5 - m 2 * m 4
  | 3 => m 5 * m 6 - m 3 * m 8
  | 4 => m 0 * m 8 - m 2 * m 6
  | 5 => m 2 * m 3 - m 0 * m 5
  | 6 => m 3 * m 7 - m 4 * m 6
  | 7 => m 1 * m 6 - m 0 * m 7
  | _ => m 0 * m 4 - m 1 * m 3

theorem Ints.open9 {w : World} {b off : Nat} {f : Nat → Int} (h : Ints w b off 9 f) : (w.cell? ⟨b, off, none⟩ = some (.int .i64 (f 0)) ∧ w.cell? ⟨b, off + 1, none⟩ = some (.int .i64 (f 1)) ∧ w.cell? ⟨b, off + 2, none⟩ = some (.int .i64 (f 2)) ∧ w.cell? ⟨b, off + 3, none⟩ = some (.int .i64 (f 3)) ∧ w.cell? ⟨b, off + 4, none⟩ = some (.int .i64 (f 4))) ∧ w.cell? ⟨b, off + 5, none⟩ = some (.int .i64 (f 5)) ∧ w.cell? ⟨b, off + 6, none⟩ = some (.int .i64 (f 6)) ∧ w.cell? ⟨b, off + 7, none⟩ = some (.int .i64 (f 7)) ∧ w.cell? ⟨b, off + 8, none⟩ = some (.int .i64 (f 8)) :=
  ⟨⟨h 0 (by decide), h 1 (by decide), h 2 (by decide), h 3 (by decide), h 4 (by decide)⟩, h 5 (by decide), h 6 (by decide), h 7 (by decide), h 8 (by decide)⟩

set_option maxHeartbeats 1600000 in
theorem specDet0_any {w : World} {b off cap : Nat} {f : Nat → Int} (h : Ints w b off 9 f) (hb : ∀ i, i < 9 → -1000 ≤ f i ∧ f i ≤ 1000) :
    Calls Tryz.prog 100 #[.slice (some ⟨b, off, none⟩) 9 cap] w fun e w' => e = .returned (.int .i64 (det3 f)) ∧ Below w.heap.size w w' := by
  obtain ⟨⟨c0, c1, c2, c3, c4⟩, c5, c6, c7, c8⟩ := h.open9
  have p1 := mul_bound (hb 4 (by decide)) (hb 8 (by decide))
  have p2 := mul_bound (hb 5 (by decide)) (hb 7 (by decide))
  have p3 := mul_bound (hb 3 (by decide)) (hb 8 (by decide))
  have p4 := mul_bound (hb 5 (by decide)) (hb 6 (by decide))
  have p5 := mul_bound (hb 3 (by decide)) (hb 7 (by decide))
  have p6 := mul_bound (hb 4 (by decide)) (hb 6 (by decide))
  have q1 := mul_bound (N := 2000000) (hb 0 (by decide)) (show -2000000 ≤ f 4 * f 8 - f 5 * f 7 ∧ f 4 * f 8 - f 5 * f 7 ≤ 2000000 by omega)
  have q2 := mul_bound (N := 2000000) (hb 1 (by decide)) (show -2000000 ≤ f 3 * f 8 - f 5 * f 6 ∧ f 3 * f 8 - f 5 * f 6 ≤ 2000000 by omega)
  have q3 := mul_bound (N := 2000000) (hb 2 (by decide)) (show -2000000 ≤ f 3 * f 7 - f 4 * f 6 ∧ f 3 * f 7 - f 4 * f 6 ≤ 2000000 by omega)
  clear h
  go_enter Tryz.func100, Tryz.ntmps100
  go_wp2
  go_quiet (fail)
  go_wp2
  go_ret
  exact ⟨rfl, below_drewN (Below.refl _ _) _⟩
theorem Tryz.info2 : (Tryz.prog.info? 2).map (fun i => (i.zero, i.size, i.bytes)) = some (some (.int .i64 0), 1, 8) := by kernel_rfl
theorem make_ints (M : Nat) (hM : M ≤ 1048576) : ∃ C : Array Value, C.size = M ∧ ∀ w, (Instr.makeSlice 24 (.int .i64 (M : Int)) (.int .i64 (M : Int))).run Tryz.prog w = .ok (.slice (some ⟨w.heap.size, 0, none⟩) M M) (w.alloc (.cells C 2)) := by
  obtain ⟨i0, hi0, hz0, hz1, hz2⟩ := info_parts Tryz.info2
  refine ⟨madeCells (Value.int .i64 0).cells M, by simp [madeCells], fun w => ?_⟩
  have := run_make (P := Tryz.prog) w 24 2 i0 _ Tryz.underlying24 hi0 hz0 .i64 .i64 (M : Int) (M : Int) (by omega) (by omega) (by rw [hz2]; omega) (by omega)
  rw [this, hz1]
  simp
/-- The list that is being made. -/
def Made (w : World) (g n k : Nat) (f : Nat → Int) : Prop :=
  ∃ cur : Array Value, At 2 w g cur ∧ cur.size = n ∧ ∀ i, i < k → cur[i]? = some (.int .i64 (f i))
theorem Made.open {w : World} {g n k : Nat} {f : Nat → Int} (h : Made w g n k f) (hk : k < n) : w.cell? ⟨g, k, none⟩ = some (cv w g k) ∧ w.frozen? ⟨g, k, none⟩ = false := by
  obtain ⟨cur, h1, h2, h3⟩ := h
  have l0 : k < cur.size := by omega
  have := h1.cell k (Array.getElem?_eq_getElem l0)
  exact ⟨by simp [cv, this], h1.frozen k⟩
theorem Made.set {w : World} {g n k : Nat} {f : Nat → Int} (h : Made w g n k f) (hk : k < n) : Made (w.setCell ⟨g, k, none⟩ (.int .i64 (f k))) g n (k + 1) f := by
  obtain ⟨cur, h1, h2, h3⟩ := h
  refine ⟨_, h1.set k _, by simpa using h2, fun i hi => ?_⟩
  by_cases e : i = k
  · subst e
    have l0 : i < cur.size := by omega
    simp [l0]
  · have := h3 i (by omega)
    rw [Array.getElem?_setIfInBounds, if_neg (by omega)]
    exact this
theorem Made.row {w : World} {g n : Nat} {f : Nat → Int} (h : Made w g n n f) : Ints w g 0 n f := by
  obtain ⟨cur, h1, h2, h3⟩ := h
  intro i hi
  rw [Nat.zero_add]
  exact h1.cell i (h3 i hi)
theorem Made.lt {w : World} {g n k : Nat} {f : Nat → Int} (h : Made w g n k f) : g < w.heap.size := by
  obtain ⟨cur, h1, -⟩ := h
  exact h1.lt
/-- A list of its own. -/
def Own (w : World) (g n : Nat) (f : Nat → Int) : Prop := Made w g n n f
theorem Own.below {w w' : World} {g n : Nat} {f : Nat → Int} (h : Own w g n f) (hb : Below w.heap.size w w') : Own w' g n f := by
  obtain ⟨cur, h1, h2⟩ := h
  exact ⟨cur, h1.below hb, h2⟩
theorem toInts_any {w : World} {a : Option Addr} {n cap : Nat} {f : Nat → Int} (hs : Src w a n f) (hn : n ≤ 1048576) :
    Calls Tryz.prog 42 #[.slice a n cap] w fun e w' => ∃ g, e = .returned (.slice (some ⟨g, 0, none⟩) n n) ∧ w.heap.size ≤ g ∧ Own w' g n f ∧ Below w.heap.size w w' := by
  obtain ⟨C, hC, hmk⟩ := make_ints n hn
  go_enter Tryz.func42, Tryz.ntmps42
  go_wp2
  clear hmk
  have m0 : Made (w.alloc (.cells C 2)) w.heap.size n 0 f := ⟨C, at_new _ _ _, hC, fun i hi => by omega⟩
  have B0 : Below w.heap.size w (w.alloc (.cells C 2)) := below_alloc _ _
  go_loopw [4] (fun s wr => ∃ k : Nat, k ≤ n ∧ s = .int .i64 k ∧ Made wr w.heap.size n k f ∧ Below w.heap.size w wr) (fun s _ => n - (intOf s).toNat)
  case atStart => exact ⟨0, Nat.zero_le _, rfl, m0, B0⟩
  case round =>
    clear m0 B0 hC
    obtain ⟨k, hk, rfl, hm, hbel⟩ := hrel
    by_cases hlt : k < n
    · have hlt' : (k : Int) < (n : Int) := by omega
      rcases hs with h0 | ⟨b, off, rfl, hb, hr⟩
      · omega
      have g0 := hr k hlt
      replace g0 := (hbel.cell (p := ⟨b, off + k, none⟩) hb).trans g0
      obtain ⟨z0, y0⟩ := hm.open hlt
      have HM : Hid (Made wr w.heap.size n k f) := hm
      clear hm
      go_wp2
      refine ⟨⟨k + 1, by omega, by go_num, HM.out.set hlt, ?_⟩, by simp [intOf]; omega⟩
      exact hbel.setCell (Nat.le_refl _) _
    · have hlt' : ¬ (k : Int) < (n : Int) := by omega
      obtain rfl : k = n := by omega
      go_wp2
      go_ret
      exact ⟨_, rfl, Nat.le_refl _, hm, hbel⟩
theorem eqInts_true {w : World} {g1 g2 n cap1 cap2 : Nat} {f : Nat → Int} (h1 : Ints w g1 0 n f) (h2 : Ints w g2 0 n f) (l1 : g1 < w.heap.size) (l2 : g2 < w.heap.size) (hn : n ≤ 1048576) :
    Calls Tryz.prog 44 #[.slice (some ⟨g1, 0, none⟩) n cap1, .slice (some ⟨g2, 0, none⟩) n cap2] w fun e w' => e = .returned (.bool true) ∧ Below w.heap.size w w' := by
  go_enter Tryz.func44, Tryz.ntmps44
  go_wp2
  go_loopw [5] (fun s wr => ∃ k : Nat, k ≤ n ∧ s = .int .i64 k ∧ Below w.heap.size w wr) (fun s _ => n - (intOf s).toNat)
  case atStart => exact ⟨0, Nat.zero_le _, rfl, Below.refl _ _⟩
  case round =>
    obtain ⟨k, hk, rfl, hbel⟩ := hrel
    by_cases hlt : k < n
    · have hlt' : (k : Int) < (n : Int) := by omega
      have hk0 : (0 : Int) ≤ (k : Int) := by omega
      have a0 := (hbel.cell (p := ⟨g1, 0 + k, none⟩) l1).trans (h1 k hlt)
      have a2 := (hbel.cell (p := ⟨g2, 0 + k, none⟩) l2).trans (h2 k hlt)
      rw [Nat.zero_add] at a0 a2
      go_wp2
      go_quiet (fail)
      go_wp2
      go_roundw
      case rel => exact ⟨k + 1, by omega, by go_num, below_drewN hbel _⟩
      case measure => simp [intOf]; omega
    · have hlt' : ¬ (k : Int) < (n : Int) := by omega
      go_wp2
      go_ret
      exact ⟨rfl, hbel⟩
/-- The determinant that is told. -/
def detOf (n : Nat) (f : Nat → Int) : Int := if isM n f then det3 f else 0
theorem Src.ints9 {w : World} {a : Option Addr} {n : Nat} {f : Nat → Int} (hs : Src w a n f) (h : isM n f) : ∃ b off, a = some ⟨b, off, none⟩ ∧ b < w.heap.size ∧ Ints w b off 9 f := by
  obtain ⟨rfl, -⟩ := h
  rcases hs with h0 | h
  · omega
  · exact h
end Go.Proofs.YtiocneailhplkaaGreat
/-
  Lists that a function made, taken over, compared, marked and held, walked.
-/
namespace Go.Proofs.YtiocneailhplkaaGreat
open Go.RowKit

/-- A list of its own memory, in a block from lo up to hi; or nothing. -/
def Arr (w : World) (lo hi : Nat) (v : Value) (n : Nat) (f : Nat → Int) : Prop :=
  (v = .slice none 0 0 ∧ n = 0) ∨ ∃ g c, v = .slice (some ⟨g, 0, none⟩) n c ∧ lo ≤ g ∧ g < hi ∧ (n ≤ c ∧ c ≤ maxLen) ∧ Made w g c n f
theorem own_room {w : World} {base g n c m size : Nat} {e : TypeId} {xs : List Value} (h : w.ownsRow base e size (.slice (some ⟨g, 0, none⟩) n c) m xs) : c ≤ maxLen := by
  rcases h.2 with ⟨h1, _⟩ | ⟨g', c', cur, e, _, _, _, h4, _⟩
  · cases h1
  · cases e; exact h4
/-- Of what was there, the list's own block alone may have turned. -/
structure Only (v : Value) (w w' : World) : Prop where
  os : w'.os = w.os
  tape : w'.tape = w.tape
  output : w'.output = w.output
  size : w.heap.size ≤ w'.heap.size
  block : ∀ k, k < w.heap.size → v.ownBlock ≠ some k → w'.heap[k]? = w.heap[k]?
theorem Only.of_below {v : Value} {w w' : World} (h : Below w.heap.size w w') : Only v w w' := ⟨h.os, h.tape, h.output, h.size, fun k hk _ => h.block k hk⟩
theorem Only.of_kept {a : Addr} {n c : Nat} {w w' : World} (h : Kept a.block w w') : Only (.slice (some a) n c) w w' :=
  ⟨h.os, h.tape, h.output, h.size, fun k hk hne => h.block k hk (fun e => hne (by rw [e]; rfl))⟩
/-- The two lists don't share a block. -/
def Apart (v u : Value) : Prop := ∀ k, v.ownBlock = some k → u.ownBlock ≠ some k
theorem Apart.symm {v u : Value} (h : Apart v u) : Apart u v := fun k h1 h2 => h k h2 h1
theorem Arr.src {w : World} {lo hi : Nat} {v : Value} {n : Nat} {f : Nat → Int} (h : Arr w lo hi v n f) : ∃ a c, v = .slice a n c ∧ Src w a n f := by
  rcases h with ⟨rfl, rfl⟩ | ⟨g, c, rfl, hl, hh, hc, hm⟩
  · exact ⟨none, 0, rfl, .inl rfl⟩
  · obtain ⟨cur, h1, h2, h3⟩ := hm
    refine ⟨_, c, rfl, .inr ⟨g, 0, rfl, h1.lt, fun i hi => ?_⟩⟩
    rw [Nat.zero_add]
    exact h1.cell i (h3 i hi)
theorem Arr.lt {w : World} {lo hi : Nat} {v : Value} {n : Nat} {f : Nat → Int} (h : Arr w lo hi v n f) {k : Nat} (hk : v.ownBlock = some k) : lo ≤ k ∧ k < hi ∧ k < w.heap.size := by
  rcases h with ⟨rfl, rfl⟩ | ⟨g, c, rfl, hl, hh, hc, hm⟩
  · cases hk
  · cases hk
    exact ⟨hl, hh, hm.lt⟩
theorem Arr.below {w w' : World} {lo hi : Nat} {v : Value} {n : Nat} {f : Nat → Int} (h : Arr w lo hi v n f) (hb : Below w.heap.size w w') : Arr w' lo hi v n f := by
  refine h.imp id ?_
  rintro ⟨g, c, rfl, hl, hh, hc, cur, h1, h2⟩
  exact ⟨g, c, rfl, hl, hh, hc, cur, h1.below hb, h2⟩
theorem Arr.only {w w' : World} {lo hi : Nat} {v u : Value} {n : Nat} {f : Nat → Int} (h : Arr w lo hi v n f) (hb : Only u w w') (hu : Apart u v) : Arr w' lo hi v n f := by
  refine h.imp id ?_
  rintro ⟨g, c, rfl, hl, hh, hc, cur, h1, h2⟩
  exact ⟨g, c, rfl, hl, hh, hc, cur, (hb.block g h1.lt (fun e => hu g e rfl)).trans h1, h2⟩
theorem Arr.wide {w : World} {lo hi lo' hi' : Nat} {v : Value} {n : Nat} {f : Nat → Int} (h : Arr w lo hi v n f) (h1 : lo' ≤ lo) (h2 : hi ≤ hi') : Arr w lo' hi' v n f := by
  refine h.imp id ?_
  rintro ⟨g, c, rfl, hl, hh, r⟩
  exact ⟨g, c, rfl, Nat.le_trans h1 hl, Nat.lt_of_lt_of_le hh h2, r⟩
theorem Arr.apart {w w' : World} {lo hi lo' hi' : Nat} {v u : Value} {n k : Nat} {f h : Nat → Int} (h1 : Arr w lo hi v n f) (h2 : Arr w' lo' hi' u k h) (hd : hi ≤ lo' ∨ hi' ≤ lo) : Apart v u := by
  intro b e1 e2
  have a1 := h1.lt e1
  have a2 := h2.lt e2
  omega
theorem Only.below {w0 w w' : World} {lo hi : Nat} {v : Value} {n : Nat} {f : Nat → Int} {N : Nat} (ho : Only v w w') (h : Arr w lo hi v n f) (hN : N ≤ lo) (hb : Below N w0 w) (hs : N ≤ w.heap.size) : Below N w0 w' := by
  refine hb.trans ⟨ho.os, ho.tape, ho.output, ho.size, fun k hk => ho.block k (by omega) (fun e => ?_)⟩
  have := h.lt e
  omega
theorem Src.belowN {w w' : World} {a : Option Addr} {n : Nat} {f : Nat → Int} (h : Src w a n f) (hb : Below w.heap.size w w') : Src w' a n f := h.below hb
theorem arr_of_own {w : World} {lo g n : Nat} {f : Nat → Int} (h : Own w g n f) (hl : lo ≤ g) (hm : n ≤ maxLen := by unfold maxLen; omega) : Arr w lo w.heap.size (.slice (some ⟨g, 0, none⟩) n n) n f := .inr ⟨g, n, rfl, hl, h.lt, ⟨Nat.le_refl _, hm⟩, h⟩
/-- Two lists with the same numbers are told as equal. -/
theorem eqSrc_true {w : World} {a1 a2 : Option Addr} {n c1 c2 : Nat} {f h : Nat → Int} (h1 : Src w a1 n f) (h2 : Src w a2 n h) (hfh : ∀ i, i < n → f i = h i) (hn : n ≤ 1048576) :
    Calls Tryz.prog 44 #[.slice a1 n c1, .slice a2 n c2] w fun e w' => e = .returned (.bool true) ∧ Below w.heap.size w w' := by
  go_enter Tryz.func44, Tryz.ntmps44
  go_wp2
  go_loopw [5] (fun s wr => ∃ k : Nat, k ≤ n ∧ s = .int .i64 k ∧ Below w.heap.size w wr) (fun s _ => n - (intOf s).toNat)
  case atStart => exact ⟨0, Nat.zero_le _, rfl, Below.refl _ _⟩
  case round =>
    obtain ⟨k, hk, rfl, hbel⟩ := hrel
    by_cases hlt : k < n
    · have hlt' : (k : Int) < (n : Int) := by omega
      have hk0 : (0 : Int) ≤ (k : Int) := by omega
      rcases h1 with h0 | ⟨g1, o1, rfl, l1, r1⟩
      · omega
      rcases h2 with h0 | ⟨g2, o2, rfl, l2, r2⟩
      · omega
      have a0 := (hbel.cell (p := ⟨g1, o1 + k, none⟩) l1).trans (r1 k hlt)
      have a2 := (hbel.cell (p := ⟨g2, o2 + k, none⟩) l2).trans (r2 k hlt)
      rw [hfh k hlt] at a0
      go_wp2
      go_quiet (fail)
      go_wp2
      go_roundw
      case rel => exact ⟨k + 1, by omega, by go_num, below_drewN hbel _⟩
      case measure => simp [intOf]; omega
    · have hlt' : ¬ (k : Int) < (n : Int) := by omega
      go_wp2
      go_ret
      exact ⟨rfl, hbel⟩
theorem eqArr_true {w : World} {lo1 hi1 lo2 hi2 : Nat} {v1 v2 : Value} {n : Nat} {f : Nat → Int} (h1 : Arr w lo1 hi1 v1 n f) (h2 : Arr w lo2 hi2 v2 n f) (hn : n ≤ 1048576) :
    Calls Tryz.prog 44 #[v1, v2] w fun e w' => e = .returned (.bool true) ∧ Below w.heap.size w w' := by
  obtain ⟨a1, c1, rfl, s1⟩ := h1.src
  obtain ⟨a2, c2, rfl, s2⟩ := h2.src
  exact eqSrc_true s1 s2 (fun _ _ => rfl) hn
/-- Marks are written into a list of one's own. -/
theorem markArr_any {w : World} {lo hi : Nat} {v : Value} {n : Nat} {f : Nat → Int} (h : Arr w lo hi v n f) (hn : n ≤ 1048576) (x : Nat) (hx : x ≤ 10000000) :
    Calls Tryz.prog 46 #[v, .int .i64 (x : Int)] w fun e w' => e = .returned (.int .i64 ((x + n : Nat) : Int)) ∧ Arr w' lo hi v n (fun i => (x + i : Nat)) ∧ Only v w w' := by
  rcases h with ⟨rfl, rfl⟩ | ⟨g, c, rfl, hl, hh, hc, hm⟩
  · go_enter Tryz.func46, Tryz.ntmps46
    go_wp2
    go_loopw [1, 5] (fun s t wr => s = .int .i64 (x : Int) ∧ t = .int .i64 0 ∧ w = wr) (fun _ _ _ => 0)
    case atStart => exact ⟨rfl, rfl, rfl⟩
    case round =>
      obtain ⟨rfl, rfl, rfl⟩ := hrel
      go_wp2
      go_ret
      exact ⟨rfl, .inl ⟨rfl, rfl⟩, .of_below (Below.refl _ _)⟩
  · have m0 : Made w g c 0 (fun i => ((x + i : Nat) : Int)) := by
      obtain ⟨cur, h1, h2, -⟩ := hm
      exact ⟨cur, h1, h2, fun i hi => by omega⟩
    clear hm
    go_enter Tryz.func46, Tryz.ntmps46
    go_wp2
    go_loopw [1, 5] (fun s t wr => ∃ k : Nat, k ≤ n ∧ s = .int .i64 ((x + k : Nat) : Int) ∧ t = .int .i64 k ∧ Made wr g c k (fun i => ((x + i : Nat) : Int)) ∧ Kept g w wr) (fun _ t _ => n - (intOf t).toNat)
    case atStart => exact ⟨0, Nat.zero_le _, rfl, rfl, m0, Kept.refl _ _⟩
    case round =>
      clear m0
      obtain ⟨k, hk, rfl, rfl, hm, hK⟩ := hrel
      by_cases hlt : k < n
      · have hlt' : (k : Int) < (n : Int) := by omega
        have hn' : (n : Int) ≤ 1048576 := by omega
        obtain ⟨z0, y0⟩ := hm.open (show k < c by omega)
        have HM : Hid (Made wr g c k (fun i => ((x + i : Nat) : Int))) := hm
        clear hm
        obtain ⟨X, hX⟩ : ∃ X : Int, ((x + k : Nat) : Int) = X := ⟨_, rfl⟩
        have hX1 : 0 ≤ X ∧ X ≤ 20000000 := by omega
        rw [hX]
        go_wp2
        have hs := HM.out.set (show k < c by omega)
        simp only [hX] at hs
        refine ⟨⟨k + 1, by omega, ?_, by go_num, hs, hK.set _⟩, by simp [intOf]; omega⟩
        rw [← hX]
        congr 1
      · have hlt' : ¬ (k : Int) < (n : Int) := by omega
        obtain rfl : k = n := by omega
        go_wp2
        go_ret
        exact ⟨rfl, .inr ⟨g, c, rfl, hl, hh, hc, hm⟩, .of_kept hK⟩
theorem heldArr_any {w : World} {lo hi : Nat} {v : Value} {n : Nat} (x : Nat) (h : Arr w lo hi v n (fun i => (x + i : Nat))) (hn : n ≤ 1048576) (hx : x ≤ 10000000) :
    Calls Tryz.prog 47 #[v, .int .i64 (x : Int)] w fun e w' => e = .returned (.int .i64 ((x + n : Nat) : Int)) ∧ Below w.heap.size w w' := by
  obtain ⟨a, c, rfl, hs⟩ := h.src
  go_enter Tryz.func47, Tryz.ntmps47
  go_wp2
  go_loopw [1, 5] (fun s t wr => ∃ k : Nat, k ≤ n ∧ s = .int .i64 ((x + k : Nat) : Int) ∧ t = .int .i64 k ∧ Below w.heap.size w wr) (fun _ t _ => n - (intOf t).toNat)
  case atStart => exact ⟨0, Nat.zero_le _, rfl, rfl, Below.refl _ _⟩
  case round =>
    obtain ⟨k, hk, rfl, rfl, bW⟩ := hrel
    by_cases hlt : k < n
    · have hlt' : (k : Int) < (n : Int) := by omega
      have hn' : (n : Int) ≤ 1048576 := by omega
      rcases hs.below bW with h0 | ⟨g, o, rfl, l1, r1⟩
      · omega
      have c0 : wr.cell? ⟨g, o + k, none⟩ = some (.int .i64 ((x + k : Nat) : Int)) := r1 k hlt
      obtain ⟨X, hX⟩ : ∃ X : Int, ((x + k : Nat) : Int) = X := ⟨_, rfl⟩
      have hX1 : 0 ≤ X ∧ X ≤ 20000000 := by omega
      rw [hX] at c0 ⊢
      go_wp2
      refine ⟨⟨k + 1, by omega, ?_, by go_num, bW⟩, by simp [intOf]; omega⟩
      rw [← hX]
      congr 1
    · have hlt' : ¬ (k : Int) < (n : Int) := by omega
      obtain rfl : k = n := by omega
      go_wp2
      go_ret
      exact ⟨rfl, bW⟩
end Go.Proofs.YtiocneailhplkaaGreat
/-
  Operators as the laws take them over, and compare, mark and hold them, walked.
-/
namespace Go.Proofs.YtiocneailhplkaaGreat
open Go.RowKit

theorem At.open2 {t : TypeId} {w : World} {q : Nat} {v0 v1 : Value} (h : At t w q #[v0, v1]) : w.cell? ⟨q, 0, none⟩ = some v0 ∧ w.cell? ⟨q, 1, none⟩ = some v1 ∧ w.frozen? ⟨q, 0, none⟩ = false ∧ w.frozen? ⟨q, 1, none⟩ = false :=
  ⟨h.cell 0 rfl, h.cell 1 rfl, h.frozen 0, h.frozen 1⟩
/-- An operator of its own memory. -/
def OpAt (w : World) (lo hi : Nat) (o : Value) (n : Nat) (f : Nat → Int) (k : Nat) (h : Nat → Int) : Prop :=
  ∃ v1 v2, o = .agg #[v1, v2] ∧ Arr w lo hi v1 n f ∧ Arr w lo hi v2 k h ∧ Apart v1 v2
theorem OpAt.below {w w' : World} {lo hi : Nat} {o : Value} {n k : Nat} {f h : Nat → Int} (ho : OpAt w lo hi o n f k h) (hb : Below w.heap.size w w') : OpAt w' lo hi o n f k h := by
  obtain ⟨v1, v2, e, h1, h2, h3⟩ := ho
  exact ⟨v1, v2, e, h1.below hb, h2.below hb, h3⟩
/-- Blocks from lo up to hi alone may have turned. -/
structure Turn (lo hi : Nat) (w w' : World) : Prop where
  os : w'.os = w.os
  tape : w'.tape = w.tape
  output : w'.output = w.output
  size : w.heap.size ≤ w'.heap.size
  block : ∀ k, k < w.heap.size → (k < lo ∨ hi ≤ k) → w'.heap[k]? = w.heap[k]?
theorem Turn.trans {lo hi : Nat} {a b c : World} (h : Turn lo hi a b) (k : Turn lo hi b c) : Turn lo hi a c :=
  ⟨k.os.trans h.os, k.tape.trans h.tape, k.output.trans h.output, Nat.le_trans h.size k.size, fun i hi hp => (k.block i (Nat.lt_of_lt_of_le hi h.size) hp).trans (h.block i hi hp)⟩
theorem Turn.of_below {lo hi : Nat} {w w' : World} (h : Below w.heap.size w w') : Turn lo hi w w' := ⟨h.os, h.tape, h.output, h.size, fun k hk _ => h.block k hk⟩
theorem Turn.of_only {lo hi : Nat} {v : Value} {w w' : World} {n : Nat} {f : Nat → Int} (h : Only v w w') (ha : Arr w lo hi v n f) : Turn lo hi w w' :=
  ⟨h.os, h.tape, h.output, h.size, fun k hk hd => h.block k hk (fun e => by have := ha.lt e; omega)⟩
theorem Turn.below {lo hi N : Nat} {w0 w w' : World} (h : Turn lo hi w w') (hb : Below N w0 w) (hN : N ≤ lo) (hs : N ≤ w.heap.size) : Below N w0 w' :=
  hb.trans ⟨h.os, h.tape, h.output, h.size, fun k hk => h.block k (by omega) (.inl (by omega))⟩
theorem Arr.turn {w w' : World} {lo hi a b : Nat} {v : Value} {n : Nat} {f : Nat → Int} (h : Arr w a b v n f) (ht : Turn lo hi w w') (hd : b ≤ lo ∨ hi ≤ a) : Arr w' a b v n f := by
  refine h.imp id ?_
  rintro ⟨g, c, rfl, hl, hh, hc, cur, h1, h2⟩
  exact ⟨g, c, rfl, hl, hh, hc, cur, (ht.block g h1.lt (by omega)).trans h1, h2⟩
theorem OpAt.turn {w w' : World} {lo hi a b : Nat} {o : Value} {n k : Nat} {f h : Nat → Int} (ho : OpAt w a b o n f k h) (ht : Turn lo hi w w') (hd : b ≤ lo ∨ hi ≤ a) : OpAt w' a b o n f k h := by
  obtain ⟨v1, v2, e, h1, h2, h3⟩ := ho
  exact ⟨v1, v2, e, h1.turn ht hd, h2.turn ht hd, h3⟩
theorem At.turn {t : TypeId} {w w' : World} {q lo hi : Nat} {vs : Array Value} (h : At t w q vs) (ht : Turn lo hi w w') (hd : q < lo ∨ hi ≤ q) : At t w' q vs := (ht.block q h.lt hd).trans h

theorem sz_any (a : Option Addr) (n cap : Nat) (left : Int) (w : World) (hn : n ≤ maxLen) (hl : -1 ≤ left ∧ left ≤ 1048576) :
    Calls Tryz.prog 40 #[.slice a n cap, .int .i64 left] w fun e w' => e = .returned (.int .i64 (if left < n then -1 else left - n)) ∧ w = w' := by
  unfold maxLen at hn
  by_cases h : left < n
  · rw [if_pos h]
    go_enter Tryz.func40, Tryz.ntmps40
    go_wp2
    go_ret
    exact ⟨rfl, rfl⟩
  · rw [if_neg h]
    go_enter Tryz.func40, Tryz.ntmps40
    go_wp2
    go_ret
    exact ⟨rfl, rfl⟩
theorem szOp_any (a b : Option Addr) (n cap k cap' : Nat) (left : Int) (w : World) (hn : n ≤ maxLen) (hk : k ≤ maxLen) (hl : -1 ≤ left ∧ left ≤ 1048576) :
    Calls Tryz.prog 41 #[.agg #[.slice a n cap, .slice b k cap'], .int .i64 left] w fun e w' => ∃ r : Int, e = .returned (.int .i64 r) ∧ (r = -1 ∨ (r = left - n - k ∧ 0 ≤ r)) ∧ Below w.heap.size w w' := by
  obtain ⟨W1, hW1, a1, bW1, z1⟩ := boxed w 73 #[.slice a n cap, .slice b k cap']
  obtain ⟨c0, c1, -⟩ := a1.open2
  by_cases h1 : left < n
  · have r1 : (if left < (n : Int) then -1 else left - n) = -1 := if_pos h1
    go_enter Tryz.func41, Tryz.ntmps41
    go_wp2_with (go_at_call 40; refine (sz_any _ _ _ _ _ (by assumption) (by omega)).mono ?_; rintro e w2 ⟨rfl, rfl⟩; try rw [r1])
    go_ret
    exact ⟨_, rfl, .inl rfl, bW1⟩
  · obtain ⟨L, hL⟩ : ∃ L, left - (n : Int) = L := ⟨_, rfl⟩
    have hL1 : 0 ≤ L ∧ L ≤ 1048576 := by omega
    have r1 : (if left < (n : Int) then -1 else left - n) = L := (if_neg h1).trans hL
    by_cases h2 : L < k
    · have r2 : (if L < (k : Int) then -1 else L - k) = -1 := if_pos h2
      go_enter Tryz.func41, Tryz.ntmps41
      go_wp2_with (go_at_call 40; refine (sz_any _ _ _ _ _ (by assumption) (by omega)).mono ?_; rintro e w2 ⟨rfl, rfl⟩; first | rw [r1] | rw [r2])
      go_ret
      exact ⟨_, rfl, .inl rfl, bW1⟩
    · obtain ⟨R, hR⟩ : ∃ R, L - (k : Int) = R := ⟨_, rfl⟩
      have hR1 : 0 ≤ R ∧ R ≤ 1048576 := by omega
      have r2 : (if L < (k : Int) then -1 else L - k) = R := (if_neg h2).trans hR
      go_enter Tryz.func41, Tryz.ntmps41
      go_wp2_with (go_at_call 40; refine (sz_any _ _ _ _ _ (by assumption) (by omega)).mono ?_; rintro e w2 ⟨rfl, rfl⟩; first | rw [r1] | rw [r2])
      go_ret
      exact ⟨_, rfl, .inr ⟨by omega, hR1.1⟩, bW1⟩
theorem Made.setOther {w : World} {g n k q i : Nat} {f : Nat → Int} (h : Made w g n k f) (hq : g ≠ q) (v : Value) : Made (w.setCell ⟨q, i, none⟩ v) g n k f := by
  obtain ⟨cur, q1, q2⟩ := h
  exact ⟨cur, q1.setOther hq _, q2⟩
theorem toOp_any {w : World} {a b : Option Addr} {n cap k cap' : Nat} {f h : Nat → Int} (hs : Src w a n f) (ht : Src w b k h) (hn : n ≤ 1048576) (hk : k ≤ 1048576) :
    Calls Tryz.prog 43 #[.agg #[.slice a n cap, .slice b k cap']] w fun e w' => ∃ o, e = .returned o ∧ OpAt w' w.heap.size w'.heap.size o n f k h ∧ Below w.heap.size w w' := by
  obtain ⟨W1, hW1, a1, bW1, -⟩ := boxed w 73 #[.slice a n cap, .slice b k cap']
  obtain ⟨W2, hW2, a2, bW2, -⟩ := boxed W1 57 #[.slice none 0 0, .slice none 0 0]
  obtain ⟨W3, hW3, a3, bW3, -⟩ := boxed W2 57 #[.slice none 0 0, .slice none 0 0]
  have s2 := a2.lt
  have s1 := a1.lt
  have s3 := a3.lt
  replace a1 := (a1.below bW2).below bW3
  replace a2 := a2.below bW3
  replace bW1 := (bW1.trans (bW2.mono bW1.size)).trans (bW3.mono (by omega))
  obtain ⟨c0, c1, -⟩ := a1.open2
  go_enter Tryz.func43, Tryz.ntmps43
  go_wp2_with fail
  refine (toInts_any (hs.below bW1) hn).mono ?_
  rintro e w1 ⟨g1, rfl, hg1, o1, b1⟩
  replace a1 := a1.below b1
  replace a2 := a2.below b1
  replace a3 := a3.below b1
  replace bW1 := bW1.trans (b1.mono bW1.size)
  have s4 := b1.size
  clear c0 c1 b1
  obtain ⟨c0, c1, -⟩ := a1.open2
  obtain ⟨d0, d1, e0, e1⟩ := a3.open2
  obtain ⟨W4, hW4, a34, a14, a24, o14, bW4, s5⟩ : ∃ W, w1.setCell ⟨W2.heap.size, 0, none⟩ (.slice (some ⟨g1, 0, none⟩) n n) = W ∧ At 57 W W2.heap.size #[.slice (some ⟨g1, 0, none⟩) n n, .slice none 0 0] ∧ At 73 W w.heap.size #[.slice a n cap, .slice b k cap'] ∧ At 57 W W1.heap.size #[.slice none 0 0, .slice none 0 0] ∧ Own W g1 n f ∧ Below w.heap.size w W ∧ W3.heap.size ≤ W.heap.size := by
    refine ⟨_, rfl, ?_, a1.setOther (by omega) _, a2.setOther (by omega) _, Made.setOther o1 (by omega) _, bW1.setCell (show w.heap.size ≤ W2.heap.size by omega) _, by simpa [World.setCell] using s4⟩
    simpa using a3.set 0 (.slice (some ⟨g1, 0, none⟩) n n)
  clear a1 a2 a3 o1 bW1
  clear c0 c1
  obtain ⟨c0, c1, -⟩ := a14.open2
  go_wp2_with fail
  refine (toInts_any (ht.below bW4) hk).mono ?_
  rintro e w5 ⟨g2, rfl, hg2, o2, b5⟩
  have hg12 : g1 < W4.heap.size := o14.lt
  replace a14 := a14.below b5
  replace a24 := a24.below b5
  replace a34 := a34.below b5
  replace o14 := o14.below b5
  replace bW4 := bW4.trans (b5.mono bW4.size)
  have s6 := b5.size
  clear c0 c1 d0 d1 e0 e1 b5 hW4
  obtain ⟨c0, c1, -⟩ := a14.open2
  obtain ⟨d0, d1, e0, e1⟩ := a34.open2
  obtain ⟨W6, hW6, a36, a26, o16, o26, bW6, s7⟩ : ∃ W, w5.setCell ⟨W2.heap.size, 1, none⟩ (.slice (some ⟨g2, 0, none⟩) k k) = W ∧ At 57 W W2.heap.size #[.slice (some ⟨g1, 0, none⟩) n n, .slice (some ⟨g2, 0, none⟩) k k] ∧ At 57 W W1.heap.size #[.slice none 0 0, .slice none 0 0] ∧ Own W g1 n f ∧ Own W g2 k h ∧ Below w.heap.size w W ∧ W4.heap.size ≤ W.heap.size := by
    refine ⟨_, rfl, ?_, a24.setOther (by omega) _, Made.setOther o14 (by omega) _, Made.setOther o2 (by omega) _, bW4.setCell (show w.heap.size ≤ W2.heap.size by omega) _, by simpa [World.setCell] using s6⟩
    simpa using a34.set 1 (.slice (some ⟨g2, 0, none⟩) k k)
  clear c0 c1 d0
  obtain ⟨c0, c1, -⟩ := a36.open2
  obtain ⟨f0, f1, r0, r1⟩ := a26.open2
  go_wp2
  have a7 : At 57 ((W6.setCell ⟨W1.heap.size, 0, none⟩ (.slice (some ⟨g1, 0, none⟩) n n)).setCell ⟨W1.heap.size, 1, none⟩ (.slice (some ⟨g2, 0, none⟩) k k)) W1.heap.size #[.slice (some ⟨g1, 0, none⟩) n n, .slice (some ⟨g2, 0, none⟩) k k] := by
    simpa using (a26.set 0 (.slice (some ⟨g1, 0, none⟩) n n)).set 1 (.slice (some ⟨g2, 0, none⟩) k k)
  obtain ⟨p0, p1, -⟩ := a7.open2
  refine bodyPost_ret (v := .agg #[.slice (some ⟨g1, 0, none⟩) n n, .slice (some ⟨g2, 0, none⟩) k k]) (by simp [results, Tryz.results43, go_sem, p0, p1]) rfl ?_
  have q1 : Own ((W6.setCell ⟨W1.heap.size, 0, none⟩ (.slice (some ⟨g1, 0, none⟩) n n)).setCell ⟨W1.heap.size, 1, none⟩ (.slice (some ⟨g2, 0, none⟩) k k)) g1 n f := Made.setOther (Made.setOther o16 (by omega) _) (by omega) _
  have q2 : Own ((W6.setCell ⟨W1.heap.size, 0, none⟩ (.slice (some ⟨g1, 0, none⟩) n n)).setCell ⟨W1.heap.size, 1, none⟩ (.slice (some ⟨g2, 0, none⟩) k k)) g2 k h := Made.setOther (Made.setOther o26 (by omega) _) (by omega) _
  refine ⟨_, rfl, ⟨_, _, rfl, arr_of_own q1 (by omega), arr_of_own q2 (by omega), ?_⟩, ?_⟩
  · intro x h1 h2
    cases h1
    cases h2
    omega
  · exact (bW6.setCell (show w.heap.size ≤ W1.heap.size by omega) _).setCell (show w.heap.size ≤ W1.heap.size by omega) _
theorem OpAt.wide {w : World} {lo hi lo' hi' : Nat} {o : Value} {n k : Nat} {f h : Nat → Int} (ho : OpAt w lo hi o n f k h) (h1 : lo' ≤ lo) (h2 : hi ≤ hi') : OpAt w lo' hi' o n f k h := by
  obtain ⟨v1, v2, e, r1, r2, r3⟩ := ho
  exact ⟨v1, v2, e, r1.wide h1 h2, r2.wide h1 h2, r3⟩
/-- Two operators with the same numbers are told as equal. -/
theorem eqOp_true {w : World} {lo1 hi1 lo2 hi2 : Nat} {o1 o2 : Value} {n k : Nat} {f h : Nat → Int} (h1 : OpAt w lo1 hi1 o1 n f k h) (h2 : OpAt w lo2 hi2 o2 n f k h) (hn : n ≤ 1048576) (hk : k ≤ 1048576) :
    Calls Tryz.prog 45 #[o1, o2] w fun e w' => e = .returned (.bool true) ∧ Below w.heap.size w w' := by
  obtain ⟨v1, u1, rfl, m1, t1, -⟩ := h1
  obtain ⟨v2, u2, rfl, m2, t2, -⟩ := h2
  obtain ⟨W1, hW1, a1, bW1, -⟩ := boxed w 57 #[v1, u1]
  obtain ⟨W2, hW2, a2, bW2, -⟩ := boxed W1 57 #[v2, u2]
  have s1 := a1.lt
  replace a1 := a1.below bW2
  replace m1 := (m1.below bW1).below bW2
  replace m2 := (m2.below bW1).below bW2
  replace t1 := (t1.below bW1).below bW2
  replace t2 := (t2.below bW1).below bW2
  replace bW1 := bW1.trans (bW2.mono bW1.size)
  obtain ⟨d1, e1, rfl, -⟩ := m1.src
  obtain ⟨d2, e2, rfl, -⟩ := m2.src
  obtain ⟨d3, e3, rfl, -⟩ := t1.src
  obtain ⟨d4, e4, rfl, -⟩ := t2.src
  obtain ⟨c0, c1, -⟩ := a1.open2
  obtain ⟨c2, c3, -⟩ := a2.open2
  go_enter Tryz.func45, Tryz.ntmps45
  go_wp2_with fail
  refine (eqArr_true m1 m2 hn).mono ?_
  rintro e w3 ⟨rfl, b3⟩
  replace a1 := a1.below b3
  replace a2 := a2.below b3
  replace t1 := t1.below b3
  replace t2 := t2.below b3
  replace bW1 := bW1.trans (b3.mono bW1.size)
  clear c0 c1 c2 c3 m1 m2
  obtain ⟨c0, c1, -⟩ := a1.open2
  obtain ⟨c2, c3, -⟩ := a2.open2
  go_wp2_with fail
  refine (eqArr_true t1 t2 hk).mono ?_
  rintro e w4 ⟨rfl, b4⟩
  go_wp2
  go_ret
  exact ⟨rfl, bW1.trans (b4.mono bW1.size)⟩
end Go.Proofs.YtiocneailhplkaaGreat
/-
  The program's matrices: rows, adjugates, determinants, walked.
-/
namespace Go.Proofs.YtiocneailhplkaaGreat
open Go.RowKit

/-- A matrix as a value. -/
def matA (m : Nat → Int) : Array Value := #[.int .i64 (m 0), .int .i64 (m 1), .int .i64 (m 2), .int .i64 (m 3), .int .i64 (m 4), .int .i64 (m 5), .int .i64 (m 6), .int .i64 (m 7), .int .i64 (m 8)]
def vecA (x y z : Int) : Array Value := #[.int .i64 x, .int .i64 y, .int .i64 z]

@[go_sem] theorem at47 (a : Option Addr) (cap : Nat) (w : World) : (Instr.arrayAt 66 (.slice a 3 cap)).run Tryz.prog w = .ok (.pointer a) w := run_arrayAt w 66 _ 3 a 3 cap Tryz.underlying66 (by decide)
@[go_sem] theorem at39 (a : Option Addr) (cap : Nat) (w : World) : (Instr.arrayAt 88 (.slice a 9 cap)).run Tryz.prog w = .ok (.pointer a) w := run_arrayAt w 88 _ 9 a 9 cap Tryz.underlying88 (by decide)
theorem row0_any (m : Nat → Int) (w : World) : Calls Tryz.prog 117 #[.agg (matA m), .int .i64 0] w fun e w' => e = .returned (.agg (vecA (m 0) (m 1) (m 2))) ∧ Below w.heap.size w w' := by
  unfold matA vecA
  go_enter Tryz.func117, Tryz.ntmps117
  go_wp2
  exact bodyPost_ret (v := .agg #[.int .i64 (m 0), .int .i64 (m 1), .int .i64 (m 2)]) (by simp [results, Tryz.results117, go_sem]) rfl ⟨rfl, (below_alloc _ _).trans ((below_alloc _ _).mono (by simp))⟩
theorem row1_any (m : Nat → Int) (w : World) : Calls Tryz.prog 117 #[.agg (matA m), .int .i64 1] w fun e w' => e = .returned (.agg (vecA (m 3) (m 4) (m 5))) ∧ Below w.heap.size w w' := by
  unfold matA vecA
  go_enter Tryz.func117, Tryz.ntmps117
  go_wp2
  exact bodyPost_ret (v := .agg #[.int .i64 (m 3), .int .i64 (m 4), .int .i64 (m 5)]) (by simp [results, Tryz.results117, go_sem]) rfl ⟨rfl, (below_alloc _ _).trans ((below_alloc _ _).mono (by simp))⟩
theorem row2_any (m : Nat → Int) (w : World) : Calls Tryz.prog 117 #[.agg (matA m), .int .i64 2] w fun e w' => e = .returned (.agg (vecA (m 6) (m 7) (m 8))) ∧ Below w.heap.size w w' := by
  unfold matA vecA
  go_enter Tryz.func117, Tryz.ntmps117
  go_wp2
  exact bodyPost_ret (v := .agg #[.int .i64 (m 6), .int .i64 (m 7), .int .i64 (m 8)]) (by simp [results, Tryz.results117, go_sem]) rfl ⟨rfl, (below_alloc _ _).trans ((below_alloc _ _).mono (by simp))⟩
theorem row_any (m : Nat → Int) (i : Nat) (hi : i < 3) (w : World) : Calls Tryz.prog 117 #[.agg (matA m), .int .i64 (i : Int)] w fun e w' => e = .returned (.agg (vecA (m (3 * i)) (m (3 * i + 1)) (m (3 * i + 2)))) ∧ Below w.heap.size w w' := by
  rcases (by omega : i = 0 ∨ i = 1 ∨ i = 2) with rfl | rfl | rfl
  · exact row0_any m w
  · exact row1_any m w
  · exact row2_any m w
/-- What the program takes a list for. -/
def matOf (n : Nat) (f : Nat → Int) : Nat → Int := if isM n f then f else fun _ => 0
theorem matOf_bound (n : Nat) (f : Nat → Int) : ∀ i, i < 9 → -1000 ≤ matOf n f i ∧ matOf n f i ≤ 1000 := by
  intro i hi
  unfold matOf
  split
  · rename_i h; exact h.2 i hi
  · constructor <;> (show (_ : Int) ≤ _; simp)
theorem det3_matOf (n : Nat) (f : Nat → Int) : det3 (matOf n f) = detOf n f := by
  unfold matOf detOf
  split
  · rfl
  · simp [det3]
theorem At.open9 {t : TypeId} {w : World} {q : Nat} {m : Nat → Int} (h : At t w q (matA m)) : (w.cell? ⟨q, 0, none⟩ = some (.int .i64 (m 0)) ∧ w.cell? ⟨q, 1, none⟩ = some (.int .i64 (m 1)) ∧ w.cell? ⟨q, 2, none⟩ = some (.int .i64 (m 2)) ∧ w.cell? ⟨q, 3, none⟩ = some (.int .i64 (m 3)) ∧ w.cell? ⟨q, 4, none⟩ = some (.int .i64 (m 4)) ∧ w.cell? ⟨q, 5, none⟩ = some (.int .i64 (m 5)) ∧ w.cell? ⟨q, 6, none⟩ = some (.int .i64 (m 6)) ∧ w.cell? ⟨q, 7, none⟩ = some (.int .i64 (m 7)) ∧ w.cell? ⟨q, 8, none⟩ = some (.int .i64 (m 8))) ∧
    (w.frozen? ⟨q, 0, none⟩ = false ∧ w.frozen? ⟨q, 1, none⟩ = false ∧ w.frozen? ⟨q, 2, none⟩ = false ∧ w.frozen? ⟨q, 3, none⟩ = false ∧ w.frozen? ⟨q, 4, none⟩ = false ∧ w.frozen? ⟨q, 5, none⟩ = false ∧ w.frozen? ⟨q, 6, none⟩ = false ∧ w.frozen? ⟨q, 7, none⟩ = false ∧ w.frozen? ⟨q, 8, none⟩ = false) :=
  ⟨⟨h.cell 0 rfl, h.cell 1 rfl, h.cell 2 rfl, h.cell 3 rfl, h.cell 4 rfl, h.cell 5 rfl, h.cell 6 rfl, h.cell 7 rfl, h.cell 8 rfl⟩, h.frozen 0, h.frozen 1, h.frozen 2, h.frozen 3, h.frozen 4, h.frozen 5, h.frozen 6, h.frozen 7, h.frozen 8⟩
/-- Nine numbers stored at block q. -/
abbrev put9 (W : World) (q : Nat) (m : Nat → Int) : World := (((((((((W.setCell ⟨q, 0, none⟩ (.int .i64 (m 0))).setCell ⟨q, 1, none⟩ (.int .i64 (m 1))).setCell ⟨q, 2, none⟩ (.int .i64 (m 2))).setCell ⟨q, 3, none⟩ (.int .i64 (m 3))).setCell ⟨q, 4, none⟩ (.int .i64 (m 4))).setCell ⟨q, 5, none⟩ (.int .i64 (m 5))).setCell ⟨q, 6, none⟩ (.int .i64 (m 6))).setCell ⟨q, 7, none⟩ (.int .i64 (m 7))).setCell ⟨q, 8, none⟩ (.int .i64 (m 8)))
theorem put9_at {t : TypeId} {W : World} {q : Nat} {v : Nat → Int} (h : At t W q (matA v)) (m : Nat → Int) : At t (put9 W q m) q (matA m) := by
  have := ((((((((h.set 0 (.int .i64 (m 0))).set 1 (.int .i64 (m 1))).set 2 (.int .i64 (m 2))).set 3 (.int .i64 (m 3))).set 4 (.int .i64 (m 4))).set 5 (.int .i64 (m 5))).set 6 (.int .i64 (m 6))).set 7 (.int .i64 (m 7))).set 8 (.int .i64 (m 8))
  simpa [matA] using this
theorem put9_below {w W : World} {n q : Nat} (h : Below n w W) (hq : n ≤ q) (m : Nat → Int) : Below n w (put9 W q m) :=
  ((((((((h.setCell hq _).setCell hq _).setCell hq _).setCell hq _).setCell hq _).setCell hq _).setCell hq _).setCell hq _).setCell hq _
theorem put9_other {t : TypeId} {W : World} {p q : Nat} {vs : Array Value} (h : At t W p vs) (hp : p ≠ q) (m : Nat → Int) : At t (put9 W q m) p vs :=
  ((((((((h.setOther hp _).setOther hp _).setOther hp _).setOther hp _).setOther hp _).setOther hp _).setOther hp _).setOther hp _).setOther hp _
end Go.Proofs.YtiocneailhplkaaGreat
