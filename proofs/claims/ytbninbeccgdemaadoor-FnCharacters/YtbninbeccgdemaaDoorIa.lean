/-
  Lists of numbers: taken over, compared, marked and held, walked.
-/
import Derived.Test.YtbninbeccgdemaaDoorRows
import Derived.Test.YtbninbeccgdemaaDoorKit
namespace Go.Proofs.YtbninbeccgdemaaDoor
open Go.RowKit

theorem At.open2 {t : TypeId} {w : World} {q : Nat} {v0 v1 : Value} (h : At t w q #[v0, v1]) : w.cell? ⟨q, 0, none⟩ = some v0 ∧ w.cell? ⟨q, 1, none⟩ = some v1 ∧ w.frozen? ⟨q, 0, none⟩ = false ∧ w.frozen? ⟨q, 1, none⟩ = false :=
  ⟨h.cell 0 rfl, h.cell 1 rfl, h.frozen 0, h.frozen 1⟩
theorem infoI : (Tryd.prog.info? 2).map (fun i => (i.zero, i.size, i.bytes)) = some (some (.int .i64 0), 1, 8) := by kernel_rfl
theorem make_ints (M : Nat) (hM : M ≤ 1048576) : ∃ C : Array Value, C.size = M ∧ ∀ w, (Instr.makeSlice 24 (.int .i64 (M : Int)) (.int .i64 (M : Int))).run Tryd.prog w = .ok (.slice (some ⟨w.heap.size, 0, none⟩) M M) (w.alloc (.cells C 2)) := by
  obtain ⟨i0, hi0, hz0, hz1, hz2⟩ := info_parts infoI
  refine ⟨madeCells (Value.int .i64 0).cells M, by simp [madeCells], fun w => ?_⟩
  have := run_make (P := Tryd.prog) w 24 2 i0 _ Tryd.underlying24 hi0 hz0 .i64 .i64 (M : Int) (M : Int) (by omega) (by omega) (by rw [hz2]; omega) (by omega)
  rw [this, hz1]
  simp
/-- The list that is being made. -/
def Made (w : World) (g n k : Nat) (f : Nat → Int) : Prop :=
  ∃ cur : Array Value, At 2 w g cur ∧ cur.size = n ∧ ∀ i, i < k → cur[i]? = some (.int .i64 (f i))
theorem Made.open {w : World} {g n k : Nat} {f : Nat → Int} (h : Made w g n k f) (hk : k < n) : w.cell? ⟨g, k, none⟩ = some (cv w g k) ∧ w.frozen? ⟨g, k, none⟩ = false := by
  obtain ⟨cur, h1, h2, h3⟩ := h
  have l0 : k < cur.size := by omega
  have := h1.cell k (Array.getElem?_eq_getElem l0)
  exact ⟨by simp [cv, this], h1.frozen k⟩
theorem Made.set {w : World} {g n k : Nat} {f : Nat → Int} (h : Made w g n k f) (hk : k < n) : Made (w.setCell ⟨g, k, none⟩ (.int .i64 (f k))) g n (k + 1) f := by
  obtain ⟨cur, h1, h2, h3⟩ := h
  refine ⟨_, h1.set k _, by simpa using h2, fun i hi => ?_⟩
  by_cases e : i = k
  · subst e
    have l0 : i < cur.size := by omega
    simp [l0]
  · have := h3 i (by omega)
    rw [Array.getElem?_setIfInBounds, if_neg (by omega)]
    exact this
theorem Made.row {w : World} {g n : Nat} {f : Nat → Int} (h : Made w g n n f) : Ints w g 0 n f := by
  obtain ⟨cur, h1, h2, h3⟩ := h
  intro i hi
  rw [Nat.zero_add]
  exact h1.cell i (h3 i hi)
theorem Made.lt {w : World} {g n k : Nat} {f : Nat → Int} (h : Made w g n k f) : g < w.heap.size := by
  obtain ⟨cur, h1, -⟩ := h
  exact h1.lt
/-- A list of its own. -/
def Own (w : World) (g n : Nat) (f : Nat → Int) : Prop := Made w g n n f
theorem Own.below {w w' : World} {g n : Nat} {f : Nat → Int} (h : Own w g n f) (hb : Below w.heap.size w w') : Own w' g n f := by
  obtain ⟨cur, h1, h2⟩ := h
  exact ⟨cur, h1.below hb, h2⟩
/-- A list of its own memory, in a block from lo up to hi; or nothing. -/
def Arr (w : World) (lo hi : Nat) (v : Value) (n : Nat) (f : Nat → Int) : Prop :=
  (v = .slice none 0 0 ∧ n = 0) ∨ ∃ g c, v = .slice (some ⟨g, 0, none⟩) n c ∧ lo ≤ g ∧ g < hi ∧ n ≤ c ∧ Made w g c n f
/-- Of what was there, the list's own block alone may have turned. -/
structure Only (v : Value) (w w' : World) : Prop where
  os : w'.os = w.os
  tape : w'.tape = w.tape
  output : w'.output = w.output
  size : w.heap.size ≤ w'.heap.size
  block : ∀ k, k < w.heap.size → v.ownBlock ≠ some k → w'.heap[k]? = w.heap[k]?
theorem Only.of_below {v : Value} {w w' : World} (h : Below w.heap.size w w') : Only v w w' := ⟨h.os, h.tape, h.output, h.size, fun k hk _ => h.block k hk⟩
theorem Only.of_kept {a : Addr} {n c : Nat} {w w' : World} (h : Kept a.block w w') : Only (.slice (some a) n c) w w' :=
  ⟨h.os, h.tape, h.output, h.size, fun k hk hne => h.block k hk (fun e => hne (by rw [e]; rfl))⟩
/-- The two lists don't share a block. -/
def Apart (v u : Value) : Prop := ∀ k, v.ownBlock = some k → u.ownBlock ≠ some k
theorem Apart.symm {v u : Value} (h : Apart v u) : Apart u v := fun k h1 h2 => h k h2 h1
theorem Arr.src {w : World} {lo hi : Nat} {v : Value} {n : Nat} {f : Nat → Int} (h : Arr w lo hi v n f) : ∃ a c, v = .slice a n c ∧ Src w a n f := by
  rcases h with ⟨rfl, rfl⟩ | ⟨g, c, rfl, hl, hh, hc, hm⟩
  · exact ⟨none, 0, rfl, .inl rfl⟩
  · obtain ⟨cur, h1, h2, h3⟩ := hm
    refine ⟨_, c, rfl, .inr ⟨g, 0, rfl, h1.lt, fun i hi => ?_⟩⟩
    rw [Nat.zero_add]
    exact h1.cell i (h3 i hi)
theorem Arr.lt {w : World} {lo hi : Nat} {v : Value} {n : Nat} {f : Nat → Int} (h : Arr w lo hi v n f) {k : Nat} (hk : v.ownBlock = some k) : lo ≤ k ∧ k < hi ∧ k < w.heap.size := by
  rcases h with ⟨rfl, rfl⟩ | ⟨g, c, rfl, hl, hh, hc, hm⟩
  · cases hk
  · cases hk
    exact ⟨hl, hh, hm.lt⟩
theorem Arr.below {w w' : World} {lo hi : Nat} {v : Value} {n : Nat} {f : Nat → Int} (h : Arr w lo hi v n f) (hb : Below w.heap.size w w') : Arr w' lo hi v n f := by
  refine h.imp id ?_
  rintro ⟨g, c, rfl, hl, hh, hc, cur, h1, h2⟩
  exact ⟨g, c, rfl, hl, hh, hc, cur, h1.below hb, h2⟩
theorem Arr.only {w w' : World} {lo hi : Nat} {v u : Value} {n : Nat} {f : Nat → Int} (h : Arr w lo hi v n f) (hb : Only u w w') (hu : Apart u v) : Arr w' lo hi v n f := by
  refine h.imp id ?_
  rintro ⟨g, c, rfl, hl, hh, hc, cur, h1, h2⟩
  exact ⟨g, c, rfl, hl, hh, hc, cur, (hb.block g h1.lt (fun e => hu g e rfl)).trans h1, h2⟩
theorem Arr.wide {w : World} {lo hi lo' hi' : Nat} {v : Value} {n : Nat} {f : Nat → Int} (h : Arr w lo hi v n f) (h1 : lo' ≤ lo) (h2 : hi ≤ hi') : Arr w lo' hi' v n f := by
  refine h.imp id ?_
  rintro ⟨g, c, rfl, hl, hh, r⟩
  exact ⟨g, c, rfl, Nat.le_trans h1 hl, Nat.lt_of_lt_of_le hh h2, r⟩
theorem Arr.apart {w w' : World} {lo hi lo' hi' : Nat} {v u : Value} {n k : Nat} {f h : Nat → Int} (h1 : Arr w lo hi v n f) (h2 : Arr w' lo' hi' u k h) (hd : hi ≤ lo' ∨ hi' ≤ lo) : Apart v u := by
  intro b e1 e2
  have a1 := h1.lt e1
  have a2 := h2.lt e2
  omega
theorem Only.below {w0 w w' : World} {lo hi : Nat} {v : Value} {n : Nat} {f : Nat → Int} {N : Nat} (ho : Only v w w') (h : Arr w lo hi v n f) (hN : N ≤ lo) (hb : Below N w0 w) (hs : N ≤ w.heap.size) : Below N w0 w' := by
  refine hb.trans ⟨ho.os, ho.tape, ho.output, ho.size, fun k hk => ho.block k (by omega) (fun e => ?_)⟩
  have := h.lt e
  omega
theorem Src.belowN {w w' : World} {a : Option Addr} {n : Nat} {f : Nat → Int} (h : Src w a n f) (hb : Below w.heap.size w w') : Src w' a n f := h.below hb
theorem arr_of_own {w : World} {lo g n : Nat} {f : Nat → Int} (h : Own w g n f) (hl : lo ≤ g) : Arr w lo w.heap.size (.slice (some ⟨g, 0, none⟩) n n) n f := .inr ⟨g, n, rfl, hl, h.lt, Nat.le_refl _, h⟩
/-- Blocks from lo up to hi alone may have turned. -/
structure Turn (lo hi : Nat) (w w' : World) : Prop where
  os : w'.os = w.os
  tape : w'.tape = w.tape
  output : w'.output = w.output
  size : w.heap.size ≤ w'.heap.size
  block : ∀ k, k < w.heap.size → (k < lo ∨ hi ≤ k) → w'.heap[k]? = w.heap[k]?
theorem Turn.trans {lo hi : Nat} {a b c : World} (h : Turn lo hi a b) (k : Turn lo hi b c) : Turn lo hi a c :=
  ⟨k.os.trans h.os, k.tape.trans h.tape, k.output.trans h.output, Nat.le_trans h.size k.size, fun i hi hp => (k.block i (Nat.lt_of_lt_of_le hi h.size) hp).trans (h.block i hi hp)⟩
theorem Turn.of_below {lo hi : Nat} {w w' : World} (h : Below w.heap.size w w') : Turn lo hi w w' := ⟨h.os, h.tape, h.output, h.size, fun k hk _ => h.block k hk⟩
theorem Turn.of_only {lo hi : Nat} {v : Value} {w w' : World} {n : Nat} {f : Nat → Int} (h : Only v w w') (ha : Arr w lo hi v n f) : Turn lo hi w w' :=
  ⟨h.os, h.tape, h.output, h.size, fun k hk hd => h.block k hk (fun e => by have := ha.lt e; omega)⟩
theorem Turn.below {lo hi N : Nat} {w0 w w' : World} (h : Turn lo hi w w') (hb : Below N w0 w) (hN : N ≤ lo) (hs : N ≤ w.heap.size) : Below N w0 w' :=
  hb.trans ⟨h.os, h.tape, h.output, h.size, fun k hk => h.block k (by omega) (.inl (by omega))⟩
theorem Arr.turn {w w' : World} {lo hi a b : Nat} {v : Value} {n : Nat} {f : Nat → Int} (h : Arr w a b v n f) (ht : Turn lo hi w w') (hd : b ≤ lo ∨ hi ≤ a) : Arr w' a b v n f := by
  refine h.imp id ?_
  rintro ⟨g, c, rfl, hl, hh, hc, cur, h1, h2⟩
  exact ⟨g, c, rfl, hl, hh, hc, cur, (ht.block g h1.lt (by omega)).trans h1, h2⟩
theorem At.turn {t : TypeId} {w w' : World} {q lo hi : Nat} {vs : Array Value} (h : At t w q vs) (ht : Turn lo hi w w') (hd : q < lo ∨ hi ≤ q) : At t w' q vs := (ht.block q h.lt hd).trans h

theorem Made.setOther {w : World} {g n k q i : Nat} {f : Nat → Int} (h : Made w g n k f) (hq : g ≠ q) (v : Value) : Made (w.setCell ⟨q, i, none⟩ v) g n k f := by
  obtain ⟨cur, q1, q2⟩ := h
  exact ⟨cur, q1.setOther hq _, q2⟩
end Go.Proofs.YtbninbeccgdemaaDoor
