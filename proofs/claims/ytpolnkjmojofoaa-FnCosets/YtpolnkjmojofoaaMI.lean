/-
  Lists of operators that came in: measured, taken over, held against each other. Walked.
-/
import Derived.Test.YtpolnkjmojofoaaMH
import Derived.Maps.Own
import Derived.Maps.OwnOps
import Derived.Maps.RangeWalk
import Derived.DeepKeys4
namespace Go.Proofs.Ytpolnkjmojofoaa
open Go.RowKit

/-- A list of operators that came in. -/
def OpsS (w : World) (a : Option Addr) (n : Nat) (A : Nat → OpD) : Prop :=
  n = 0 ∨ ∃ g off, a = some ⟨g, off, none⟩ ∧ g < w.heap.size ∧ ∀ i, i < n → ∃ x c y d, w.cell? ⟨g, off + i * 2, none⟩ = some (.slice x (A i).n c) ∧ w.cell? ⟨g, off + i * 2 + 1, none⟩ = some (.slice y (A i).k d) ∧ Src w x (A i).n (A i).f ∧ Src w y (A i).k (A i).h ∧ (A i).n ≤ maxLen ∧ (A i).k ≤ maxLen
theorem OpsS.below {w w' : World} {a : Option Addr} {n : Nat} {A : Nat → OpD} (h : OpsS w a n A) (hb : Below w.heap.size w w') : OpsS w' a n A := by
  refine h.imp id ?_
  rintro ⟨g, off, e, hg, r⟩
  refine ⟨g, off, e, Nat.lt_of_lt_of_le hg hb.size, fun i hi => ?_⟩
  obtain ⟨x, c, y, d, e1, e2, s1, s2, m⟩ := r i hi
  exact ⟨x, c, y, d, (hb.cell (p := ⟨g, off + i * 2, none⟩) hg).trans e1, (hb.cell (p := ⟨g, off + i * 2 + 1, none⟩) hg).trans e2, s1.below hb, s2.below hb, m⟩
/-- None is too long. -/
def Short (n : Nat) (A : Nat → OpD) : Prop := n ≤ 1048576 ∧ ∀ i, i < n → (A i).n ≤ 1048576 ∧ (A i).k ≤ 1048576
theorem Try.info33 : (Try.prog.info? 33).map (fun i => (i.zero, i.size, i.bytes)) = some (some (.agg #[.slice none 0 0, .slice none 0 0]), 2, 48) := by kernel_rfl
theorem make_ops (M : Nat) (hM : M ≤ 1048576) : ∃ C : Array Value, C.size = M * 2 ∧ (∀ i, i < M * 2 → ∃ v, C[i]? = some v) ∧ ∀ w, (Instr.makeSlice 24 (.int .i64 (M : Int)) (.int .i64 (M : Int))).run Try.prog w = .ok (.slice (some ⟨w.heap.size, 0, none⟩) M M) (w.alloc (.cells C 33)) := by
  obtain ⟨i0, hi0, hz0, hz1, hz2⟩ := info_parts Try.info33
  refine ⟨madeCells (Value.agg #[.slice none 0 0, .slice none 0 0]).cells (M * 2), by simp [madeCells], fun i hi => ?_, fun w => ?_⟩
  · have : i < (madeCells (Value.agg #[.slice none 0 0, .slice none 0 0]).cells (M * 2)).size := by simpa [madeCells] using hi
    exact ⟨_, Array.getElem?_eq_getElem this⟩
  · have := run_make (P := Try.prog) w 24 33 i0 _ Try.underlying24 hi0 hz0 .i64 .i64 (M : Int) (M : Int) (by omega) (by omega) (by rw [hz2]; omega) (by omega)
    rw [this, hz1]
    simp
/-- A list that does not lie in block g. -/
def SrcNe (w : World) (g : Nat) (a : Option Addr) (n : Nat) (f : Nat → Int) : Prop := n = 0 ∨ ∃ b off, a = some ⟨b, off, none⟩ ∧ b ≠ g ∧ b < w.heap.size ∧ Ints w b off n f
theorem SrcNe.src {w : World} {g : Nat} {a : Option Addr} {n : Nat} {f : Nat → Int} (h : SrcNe w g a n f) : Src w a n f := by
  rcases h with h | ⟨b, off, e, -, l, r⟩
  · exact .inl h
  · exact .inr ⟨b, off, e, l, r⟩
theorem SrcNe.below {w w' : World} {g : Nat} {a : Option Addr} {n : Nat} {f : Nat → Int} (h : SrcNe w g a n f) (hb : Below w.heap.size w w') : SrcNe w' g a n f := by
  rcases h with h | ⟨b, off, e, ne, l, r⟩
  · exact .inl h
  · exact .inr ⟨b, off, e, ne, Nat.lt_of_lt_of_le l hb.size, r.below l hb⟩
theorem SrcNe.set {w : World} {g i : Nat} {a : Option Addr} {n : Nat} {f : Nat → Int} (h : SrcNe w g a n f) (v : Value) : SrcNe (w.setCell ⟨g, i, none⟩ v) g a n f := by
  rcases h with h | ⟨b, off, e, ne, l, r⟩
  · exact .inl h
  · exact .inr ⟨b, off, e, ne, by simpa [World.setCell] using l, fun j hj => (World.cell?_of_block (w := w) (Below.heap_setCell _ _ _ _ ne)).trans (r j hj)⟩
theorem arr_ne {w : World} {lo hi g n : Nat} {a : Option Addr} {c : Nat} {f : Nat → Int} (h : Arr w lo hi (.slice a n c) n f) (hg : g < lo) : SrcNe w g a n f := by
  rcases h with ⟨-, h0⟩ | ⟨b, c', e, hl, hh, hc, hm⟩
  · exact .inl h0
  · cases e
    have hlt := hm.lt
    obtain ⟨cur, h1, h2, h3⟩ := hm
    refine .inr ⟨b, 0, rfl, by omega, hlt, fun i hi => ?_⟩
    have := h1.cell i (h3 i hi)
    simpa using this
/-- A block of n operators, of which the first k are laid. -/
def Laid (w : World) (g n k : Nat) (A : Nat → OpD) : Prop :=
  ∃ cur : Array Value, At 33 w g cur ∧ cur.size = n * 2 ∧ ∀ i, i < k → ∃ x c y d, cur[i * 2]? = some (.slice x (A i).n c) ∧ cur[i * 2 + 1]? = some (.slice y (A i).k d) ∧ SrcNe w g x (A i).n (A i).f ∧ SrcNe w g y (A i).k (A i).h
theorem Laid.below {w w' : World} {g n k : Nat} {A : Nat → OpD} (h : Laid w g n k A) (hb : Below w.heap.size w w') : Laid w' g n k A := by
  obtain ⟨cur, h1, h2, h3⟩ := h
  refine ⟨cur, h1.below hb, h2, fun i hi => ?_⟩
  obtain ⟨x, c, y, d, e1, e2, s1, s2⟩ := h3 i hi
  exact ⟨x, c, y, d, e1, e2, s1.below hb, s2.below hb⟩
theorem Laid.put {w : World} {g n k : Nat} {A : Nat → OpD} (h : Laid w g n k A) (hk : k < n) {x y : Option Addr} {c d : Nat} (s1 : SrcNe w g x (A k).n (A k).f) (s2 : SrcNe w g y (A k).k (A k).h) :
    Laid ((w.setCell ⟨g, k * 2, none⟩ (.slice x (A k).n c)).setCell ⟨g, k * 2 + 1, none⟩ (.slice y (A k).k d)) g n (k + 1) A := by
  obtain ⟨cur, h1, h2, h3⟩ := h
  refine ⟨_, (h1.set (k * 2) _).set (k * 2 + 1) _, by simpa using h2, fun i hi => ?_⟩
  by_cases e : i = k
  · subst e
    refine ⟨x, c, y, d, ?_, ?_, (s1.set _).set _, (s2.set _).set _⟩
    · rw [Array.getElem?_setIfInBounds, if_neg (by omega), Array.getElem?_setIfInBounds, if_pos rfl, if_pos (by omega)]
    · rw [Array.getElem?_setIfInBounds, if_pos rfl, if_pos (by simp; omega)]
  · obtain ⟨x', c', y', d', e1, e2, t1, t2⟩ := h3 i (by omega)
    refine ⟨x', c', y', d', ?_, ?_, (t1.set _).set _, (t2.set _).set _⟩
    · rw [Array.getElem?_setIfInBounds, if_neg (by omega), Array.getElem?_setIfInBounds, if_neg (by omega)]; exact e1
    · rw [Array.getElem?_setIfInBounds, if_neg (by omega), Array.getElem?_setIfInBounds, if_neg (by omega)]; exact e2
theorem Laid.ops {w : World} {g n : Nat} {A : Nat → OpD} (h : Laid w g n n A) : OpsL w g n A := by
  obtain ⟨cur, h1, h2, h3⟩ := h
  refine ⟨h1.lt, fun i hi => ?_⟩
  obtain ⟨x, c, y, d, e1, e2, s1, s2⟩ := h3 i hi
  exact ⟨x, c, y, d, h1.cell _ e1, h1.cell _ e2, s1.src, s2.src⟩
theorem Laid.cells {w : World} {g n k j : Nat} {A : Nat → OpD} (h : Laid w g n k A) (hj : j < n * 2) : w.cell? ⟨g, j, none⟩ = some (cv w g j) ∧ w.frozen? ⟨g, j, none⟩ = false := by
  obtain ⟨cur, h1, h2, h3⟩ := h
  have hl : j < cur.size := by omega
  have := h1.cell j (Array.getElem?_eq_getElem hl)
  exact ⟨by rw [cv, this]; rfl, h1.frozen j⟩
theorem opsL_src {w : World} {g n i : Nat} {A : Nat → OpD} (h : OpsL w g n A) (hi : i < n) : ∃ a c b d, w.cell? ⟨g, i * 2, none⟩ = some (.slice a (A i).n c) ∧ w.cell? ⟨g, i * 2 + 1, none⟩ = some (.slice b (A i).k d) ∧ Src w a (A i).n (A i).f ∧ Src w b (A i).k (A i).h := h.2 i hi
end Go.Proofs.Ytpolnkjmojofoaa
/-
  Operators as a map's keys. No function of the program.
-/
namespace Go.Proofs.Ytpolnkjmojofoaa
open Go.RowKit

theorem laidOutP : laidOutB Try.prog = true := by kernel_rfl
theorem keyed65 : Go.Maps.Keyed Try.prog 70 := Go.Maps.Keyed.of_law (deep_law_laid laidOutP (m := 4) (by omega) (of_decide_eq_true (by kernel_rfl)) (by kernel_rfl) (by kernel_rfl))
/-- An operator as a value. -/
def kV (k : Nat → Int) : Value := .agg (kc k).toArray
theorem kV_opA (f h : Nat → Int) : kV (cat 9 f h) = .agg (opA f h) := rfl
def small (k : Nat → Int) : Prop := ∀ j, j < 12 → -1000 ≤ k j ∧ k j ≤ 1000
theorem wf_small {n : Int} (h : -1000 ≤ n ∧ n ≤ 1000) : (Lit.int .i64 n).wf = true := by
  have h1 : -9223372036854775808 ≤ n ∧ n ≤ 9223372036854775807 := by omega
  simpa [Lit.wf, IntKind.min, IntKind.max, IntKind.bits, IntKind.signed] using h1
theorem lits1 (d : Nat) {n : Int} (h : -1000 ≤ n ∧ n ≤ 1000) : Try.prog.keyLits (d + 1) 2 [.int .i64 n] = some [.int .i64 n] := by
  unfold Program.keyLits
  rw [Try.underlying2]
  simp [wf_small h]
theorem cells61 : Try.prog.cellsOf 66 = 9 := by kernel_rfl
theorem cells63 : Try.prog.cellsOf 68 = 3 := by kernel_rfl
theorem cells65 : Try.prog.cellsOf 70 = 12 := by kernel_rfl
theorem cells2' : Try.prog.cellsOf 2 = 1 := by kernel_rfl
theorem lits9 (d : Nat) {k : Nat → Int} (h : small k) : Try.prog.keyLits (d + 2) 66 [.int .i64 (k 0), .int .i64 (k 1), .int .i64 (k 2), .int .i64 (k 3), .int .i64 (k 4), .int .i64 (k 5), .int .i64 (k 6), .int .i64 (k 7), .int .i64 (k 8)] = some [.int .i64 (k 0), .int .i64 (k 1), .int .i64 (k 2), .int .i64 (k 3), .int .i64 (k 4), .int .i64 (k 5), .int .i64 (k 6), .int .i64 (k 7), .int .i64 (k 8)] := by
  unfold Program.keyLits
  have u : Try.prog.underlying 66 = some (.array 9 2) := by kernel_rfl
  rw [u]
  simp [cells61, cells2', List.range, List.range.loop, lits1 d (h 0 (by omega)), lits1 d (h 1 (by omega)), lits1 d (h 2 (by omega)), lits1 d (h 3 (by omega)), lits1 d (h 4 (by omega)), lits1 d (h 5 (by omega)), lits1 d (h 6 (by omega)), lits1 d (h 7 (by omega)), lits1 d (h 8 (by omega))]
theorem lits3 (d : Nat) {k : Nat → Int} (h : small k) : Try.prog.keyLits (d + 2) 68 [.int .i64 (k 9), .int .i64 (k 10), .int .i64 (k 11)] = some [.int .i64 (k 9), .int .i64 (k 10), .int .i64 (k 11)] := by
  unfold Program.keyLits
  have u : Try.prog.underlying 68 = some (.array 3 2) := by kernel_rfl
  rw [u]
  simp [cells63, cells2', List.range, List.range.loop, lits1 d (h 9 (by omega)), lits1 d (h 10 (by omega)), lits1 d (h 11 (by omega))]
theorem key_kV {k : Nat → Int} (h : small k) : ∃ l, keyOf Try.prog 70 (kV k) = some l := by
  have hS : Try.prog.underlying 70 = some (.struct (Try.prog.fieldsOf 70)) := by kernel_rfl
  have hk : Try.prog.keyType 70 = true := by kernel_rfl
  have hf : (kV k).formed Try.prog 70 = true := by
    unfold kV Value.formed
    simp only [hS]
    simp [kc, cells65]
  have hT : ∃ d, Try.prog.types.size + 1 = d + 3 := ⟨Try.prog.types.size - 2, by (have h3 : 3 ≤ Try.prog.types.size := of_decide_eq_true (by kernel_rfl)); omega⟩
  obtain ⟨d, hd⟩ := hT
  unfold keyOf
  simp only [hS]
  rw [if_pos (by simp [hk, hf]), hd]
  refine ⟨.string (keyBytes [.int .i64 (k 0), .int .i64 (k 1), .int .i64 (k 2), .int .i64 (k 3), .int .i64 (k 4), .int .i64 (k 5), .int .i64 (k 6), .int .i64 (k 7), .int .i64 (k 8), .int .i64 (k 9), .int .i64 (k 10), .int .i64 (k 11)]), ?_⟩
  unfold Program.keyLits
  have hc : (kV k).cells.toList = kc k := rfl
  simp only [Try.underlying70, hc]
  rw [if_pos ⟨by rw [cells65]; rfl, by simp⟩]
  have h9 := lits9 d h
  have h3 := lits3 d h
  simp only [kc, List.mapM_cons, List.mapM_nil, cells61, cells63, List.drop, List.take, h9, h3]
  rfl
end Go.Proofs.Ytpolnkjmojofoaa
/-
  A map whose keys are operators: what it holds. No function of the program.
-/
namespace Go.Proofs.Ytpolnkjmojofoaa
open Go.RowKit Go.ChangeShapes Go.WideShapes Go.MapKept
open Go.ChangeMaps (setBlock heap_setBlock_same heap_setBlock_other)
open Go.WideElems (Fit rd rg pl rd_mk)

/-- How a value of the map reads. -/
noncomputable def RE : Value → Option (DataW Unit × List MemPlace) := plainElem Try.prog 2
theorem re_int {n : Int} (h : (Lit.int .i64 n).wf = true) : RE (.int .i64 n) = some (.lit (.int .i64 n), []) := by
  unfold RE plainElem
  rw [Try.underlying2]
  simp [h]
/-- Block b is a map with these keys, in the order in which they came. -/
def MapV (w : World) (b : Nat) (ks : List (Nat → Int)) : Prop :=
  ∃ es clock, w.heap[b]? = some (.map es clock) ∧ Fit Try.prog 70 RE es clock ∧ es.toList.map (·.key) = ks.map kV
theorem MapV.lt {w : World} {b : Nat} {ks : List (Nat → Int)} (h : MapV w b ks) : b < w.heap.size := by
  obtain ⟨es, clock, hb, -⟩ := h
  exact (Array.getElem?_eq_some_iff.1 hb).1
theorem MapV.of_block {w w' : World} {b : Nat} {ks : List (Nat → Int)} (h : MapV w b ks) (hb : w'.heap[b]? = w.heap[b]?) : MapV w' b ks := by
  obtain ⟨es, clock, h1, h2⟩ := h
  exact ⟨es, clock, hb.trans h1, h2⟩
theorem MapV.below {w w' : World} {b : Nat} {ks : List (Nat → Int)} (h : MapV w b ks) (hb : Below w.heap.size w w') : MapV w' b ks := h.of_block (hb.block b h.lt)
theorem MapV.nodup {w : World} {b : Nat} {ks : List (Nat → Int)} (h : MapV w b ks) : (ks.map kV).Nodup := by
  obtain ⟨es, clock, h1, h2, h3⟩ := h
  rw [← h3]
  exact h2.stamped.2.2
theorem MapV.size {w : World} {b : Nat} {ks : List (Nat → Int)} (h : MapV w b ks) : ∃ es clock, w.heap[b]? = some (.map es clock) ∧ es.size = ks.length := by
  obtain ⟨es, clock, h1, h2, h3⟩ := h
  have := congrArg List.length h3
  simp at this
  exact ⟨es, clock, h1, this⟩
theorem und75 : Try.prog.underlying 62 = some (.map 70 2) := by kernel_rfl
/-- Is the key there? -/
theorem MapV.look {w : World} {b : Nat} {ks : List (Nat → Int)} {k : Nat → Int} (h : MapV w b ks) (hk : small k) :
    ∃ z r, (Instr.lookup 62 (.map (some b)) (kV k) true).run Try.prog w = .ok (.tuple #[z, .bool r]) w ∧ (r = true ↔ kV k ∈ ks.map kV) := by
  obtain ⟨l, hl⟩ := key_kV hk
  obtain ⟨es, clock, h1, h2, h3⟩ := h
  have hz : (zeroValue 2).run Try.prog w = .ok (.int .i64 0) w := by kernel_rfl
  rcases Go.Maps.fit_look true keyed65 und75 hz h1 h2 hl with ⟨hr, hn, -⟩ | ⟨e0, y, hm, he, hr, -⟩
  · refine ⟨_, false, hr, ⟨fun x => absurd x (by decide), fun x => ?_⟩⟩
    rw [← h3] at x
    obtain ⟨e, hm, hke⟩ := List.mem_map.1 x
    exact absurd hke (hn e hm)
  · refine ⟨_, true, hr, ⟨fun _ => ?_, fun _ => rfl⟩⟩
    rw [← h3]
    exact List.mem_map.2 ⟨e0, hm, he⟩
/-- A new key. -/
theorem MapV.store {w : World} {b : Nat} {ks : List (Nat → Int)} {k : Nat → Int} {n : Int} (h : MapV w b ks) (hk : small k) (hn : (Lit.int .i64 n).wf = true) (hnew : kV k ∉ ks.map kV) (hroom : ks.length < maxLen) :
    ∃ w', (Instr.mapUpdate 62 (.map (some b)) (kV k) (.int .i64 n)).run Try.prog w = .ok () w' ∧ MapV w' b (ks ++ [k]) ∧ w.grownBy w' (some b) ∧ w'.heap.size = w.heap.size := by
  obtain ⟨l, hl⟩ := key_kV hk
  obtain ⟨es, clock, h1, h2, h3⟩ := h
  have hes : es.size = ks.length := by have := congrArg List.length h3; simpa using this
  have hv := re_int hn
  have hno : ∀ x ∈ es.toList, x.key ≠ kV k := fun x hx e => hnew (by rw [← h3]; exact List.mem_map.2 ⟨x, hx, e⟩)
  rcases keyed65.find w hl es.toList h2.keys with ⟨f1, f2⟩ | ⟨j, e0, f1, f2, f3⟩
  · refine ⟨setBlock w b (.map (es.push ⟨kV k, .int .i64 n, clock⟩) (clock + 1)), ?_, ⟨_, _, heap_setBlock_same h1 _, ⟨by simp; omega, stamped_push h2.stamped hno, ?_⟩, ?_⟩, ⟨rfl, rfl, rfl, by simp [setBlock], fun i _ hi => heap_setBlock_other h1 _ (fun e => hi (by rw [e]))⟩, by simp [setBlock]⟩
    · simp [Instr.mapUpdate, run_underlying und75, MapKept.run_getObj_map h1, keyed65.check w false hl, f1, MapKept.run_setObj_map _ h1, Result.andThen, setBlock]
    · intro x hx
      simp only [Array.toList_push, List.mem_append, List.mem_singleton] at hx
      rcases hx with hx | rfl
      · exact h2.reads x hx
      · exact ⟨_, rd_mk hl hv⟩
    · simp [h3]
  · exact absurd f3 (hno e0 (List.mem_of_getElem? f2))
theorem mapV_new (w : World) : MapV (w.alloc (.map #[] 0)) w.heap.size [] := by
  refine ⟨#[], 0, heap_alloc_new _ _, ⟨by simp, ⟨by simp, by simp, by simp⟩, by simp⟩, rfl⟩
theorem makeMap75 (w : World) : (Instr.makeMap 62 none).run Try.prog w = .ok (.map (some w.heap.size)) (w.alloc (.map #[] 0)) := by kernel_rfl
theorem kV_inj {k k' : Nat → Int} : kV k = kV k' ↔ lexC 12 k k' = 0 := by
  rw [lexC_zero]
  constructor
  · intro h
    have h1 : kc k = kc k' := by simpa [kV] using h
    intro j hj
    have h2 := kc_get k j hj
    rw [h1, kc_get k' j hj] at h2
    simpa using h2.symm
  · intro h
    unfold kV kc
    rw [h 0 (by omega), h 1 (by omega), h 2 (by omega), h 3 (by omega), h 4 (by omega), h 5 (by omega), h 6 (by omega), h 7 (by omega), h 8 (by omega), h 9 (by omega), h 10 (by omega), h 11 (by omega)]
end Go.Proofs.Ytpolnkjmojofoaa
