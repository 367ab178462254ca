/-
  A map whose keys are structs of four numbers and whose values are numbers; the range over it. No function of the program.
-/
import Derived.Test.YtfmbljmcdidocaaGreatRows
import Derived.Test.YtfmbljmcdidocaaGreatMA
import Derived.Maps.Own
import Derived.Maps.OwnOps
import Derived.Maps.RangeRun
import Derived.Maps.RangeWalk
import Derived.DeepKeys4
import Derived.Test.YtfmbljmcdidocaaGreatND
import Derived.Test.YtfmbljmcdidocaaGreatMH
import Derived.Test.YtfmbljmcdidocaaGreatMK
namespace Go.Proofs.YtfmbljmcdidocaaGreat
open Go.RowKit Go.ChangeShapes Go.WideShapes Go.MapKept
open Go.ChangeMaps (setBlock heap_setBlock_same heap_setBlock_other)
open Go.WideElems (Fit rd rg pl rd_mk)

abbrev Q4Kn := Int × Int × Int × Int
/-- A key as a value. -/
def aVKn (x : Q4Kn) : Value := .agg #[.int .i64 x.1, .int .i64 x.2.1, .int .i64 x.2.2.1, .int .i64 x.2.2.2]
theorem aVKn_inj {x y : Q4Kn} : aVKn x = aVKn y ↔ x = y := by
  constructor
  · intro h
    simp only [aVKn, Value.agg.injEq, Array.mk.injEq, List.cons.injEq, Value.int.injEq, true_and, and_true] at h
    obtain ⟨h1, h2, h3, h4⟩ := h
    exact Prod.ext h1 (Prod.ext h2 (Prod.ext h3 h4))
  · rintro rfl; rfl
theorem laidOutKn : laidOutB Tryz.prog = true := by kernel_rfl
theorem keyedKn : Go.Maps.Keyed Tryz.prog 36 := Go.Maps.Keyed.of_law (deep_law_laid laidOutKn (m := 4) (by omega) (of_decide_eq_true (by kernel_rfl)) (by kernel_rfl) (by kernel_rfl))
def smKn (x : Q4Kn) : Prop := (-1000000 ≤ x.1 ∧ x.1 ≤ 1000000) ∧ (-1000000 ≤ x.2.1 ∧ x.2.1 ≤ 1000000) ∧ (-1000000 ≤ x.2.2.1 ∧ x.2.2.1 ≤ 1000000) ∧ (-1000000 ≤ x.2.2.2 ∧ x.2.2.2 ≤ 1000000)
theorem wfKn {n : Int} (h : -1000000 ≤ n ∧ n ≤ 1000000) : (Lit.int .i64 n).wf = true := by
  have h1 : -9223372036854775808 ≤ n ∧ n ≤ 9223372036854775807 := by omega
  simpa [Lit.wf, IntKind.min, IntKind.max, IntKind.bits, IntKind.signed] using h1
theorem litsAKn (d : Nat) {n : Int} (h : -1000000 ≤ n ∧ n ≤ 1000000) : Tryz.prog.keyLits (d + 1) 2 [.int .i64 n] = some [.int .i64 n] := by
  unfold Program.keyLits
  rw [Tryz.underlying2]
  simp [wfKn h]
theorem cellsKKn : Tryz.prog.cellsOf 36 = 4 := by kernel_rfl
theorem cellsIKn : Tryz.prog.cellsOf 2 = 1 := by kernel_rfl
theorem keyKn {x : Q4Kn} (h : smKn x) : ∃ l, keyOf Tryz.prog 36 (aVKn x) = some l := by
  have hS : Tryz.prog.underlying 36 = some (.struct (Tryz.prog.fieldsOf 36)) := by kernel_rfl
  have hk : Tryz.prog.keyType 36 = true := by kernel_rfl
  have hf : (aVKn x).formed Tryz.prog 36 = true := by
    unfold aVKn Value.formed
    simp only [hS]
    simp [cellsKKn]
  have hT : ∃ d, Tryz.prog.types.size + 1 = d + 3 := ⟨Tryz.prog.types.size - 2, by (have h3 : 3 ≤ Tryz.prog.types.size := of_decide_eq_true (by kernel_rfl)); omega⟩
  obtain ⟨d, hd⟩ := hT
  unfold keyOf
  simp only [hS]
  rw [if_pos (by simp [hk, hf]), hd]
  refine ⟨.string (keyBytes [.int .i64 x.1, .int .i64 x.2.1, .int .i64 x.2.2.1, .int .i64 x.2.2.2]), ?_⟩
  unfold Program.keyLits
  have hc : (aVKn x).cells.toList = [.int .i64 x.1, .int .i64 x.2.1, .int .i64 x.2.2.1, .int .i64 x.2.2.2] := rfl
  simp only [Tryz.underlying36, hc]
  rw [if_pos ⟨by rw [cellsKKn]; rfl, by simp⟩]
  simp only [List.mapM_cons, List.mapM_nil, cellsIKn, List.drop, List.take, litsAKn (d + 1) h.1, litsAKn (d + 1) h.2.1, litsAKn (d + 1) h.2.2.1, litsAKn (d + 1) h.2.2.2]
  rfl
/-- How a value of the map reads. -/
noncomputable def REKn : Value → Option (DataW Unit × List MemPlace) := plainElem Tryz.prog 2
theorem reKn {n : Int} (h : (Lit.int .i64 n).wf = true) : REKn (.int .i64 n) = some (.lit (.int .i64 n), []) := by
  unfold REKn plainElem
  rw [Tryz.underlying2]
  simp [h]
/-- Key and value of an entry. -/
def kvKn (F : Q4Kn → Int) (x : Q4Kn) : Value × Value := (aVKn x, .int .i64 (F x))
/-- Block b is a map with these keys and values. -/
def MapKn (w : World) (b : Nat) (ks : List Q4Kn) (F : Q4Kn → Int) : Prop :=
  ∃ es clock, w.heap[b]? = some (.map es clock) ∧ Fit Tryz.prog 36 REKn es clock ∧ es.toList.map (fun e => (e.key, e.val)) = ks.map (kvKn F) ∧ ∀ y, y ∉ ks → F y = 0
theorem MapKn.lt {w : World} {b : Nat} {ks : List Q4Kn} {F : Q4Kn → Int} (h : MapKn w b ks F) : b < w.heap.size := by
  obtain ⟨es, clock, hb, -⟩ := h
  exact (Array.getElem?_eq_some_iff.1 hb).1
theorem MapKn.of_block {w w' : World} {b : Nat} {ks : List Q4Kn} {F : Q4Kn → Int} (h : MapKn w b ks F) (hb : w'.heap[b]? = w.heap[b]?) : MapKn w' b ks F := by
  obtain ⟨es, clock, h1, h2⟩ := h
  exact ⟨es, clock, hb.trans h1, h2⟩
theorem MapKn.below {w w' : World} {b : Nat} {ks : List Q4Kn} {F : Q4Kn → Int} (h : MapKn w b ks F) (hb : Below w.heap.size w w') : MapKn w' b ks F := h.of_block (hb.block b h.lt)
theorem MapKn.ne_at {t : TypeId} {w : World} {b q : Nat} {ks : List Q4Kn} {F : Q4Kn → Int} {vs : Array Value} (h : MapKn w b ks F) (a : At t w q vs) : q ≠ b := by
  rintro rfl
  obtain ⟨es, clock, hb, -⟩ := h
  have := hb.symm.trans a
  simp at this
theorem keysKn {es : Array MapEntry} {ks : List Q4Kn} {F : Q4Kn → Int} (h : es.toList.map (fun e => (e.key, e.val)) = ks.map (kvKn F)) : es.toList.map (·.key) = ks.map aVKn := by
  have := congrArg (List.map Prod.fst) h
  simpa [List.map_map, Function.comp_def, kvKn] using this
theorem MapKn.nodup {w : World} {b : Nat} {ks : List Q4Kn} {F : Q4Kn → Int} (h : MapKn w b ks F) : ks.Nodup := by
  obtain ⟨es, clock, h1, h2, h3, -⟩ := h
  have h4 := h2.stamped.2.2
  rw [keysKn h3] at h4
  exact List.Pairwise.of_map aVKn (fun a b hne e => hne (by rw [e])) h4
theorem undKn : Tryz.prog.underlying 56 = some (.map 36 2) := by kernel_rfl
set_option maxRecDepth 100000 in
/-- What stands at a key; nought where it is not there. -/
theorem MapKn.look {w : World} {b : Nat} {ks : List Q4Kn} {F : Q4Kn → Int} {x : Q4Kn} (h : MapKn w b ks F) (hk : smKn x) :
    (Instr.lookup 56 (.map (some b)) (aVKn x) false).run Tryz.prog w = .ok (.int .i64 (F x)) w := by
  obtain ⟨l, hl⟩ := keyKn hk
  obtain ⟨es, clock, h1, h2, h3, h4⟩ := h
  have hz : (zeroValue 2).run Tryz.prog w = .ok (.int .i64 0) w := by kernel_rfl
  rcases Go.Maps.fit_look false keyedKn undKn hz h1 h2 hl with ⟨hr, hn, -⟩ | ⟨e0, y, hm0, he, hr, -⟩
  · have : x ∉ ks := fun hx => by
      have h5 : aVKn x ∈ es.toList.map (·.key) := by rw [keysKn h3]; exact List.mem_map_of_mem hx
      obtain ⟨e, hm, hke⟩ := List.mem_map.1 h5
      exact hn e hm hke
    rw [hr, h4 x this]
    rfl
  · have h5 : (e0.key, e0.val) ∈ ks.map (kvKn F) := by rw [← h3]; exact List.mem_map.2 ⟨e0, hm0, rfl⟩
    obtain ⟨y', -, ep⟩ := List.mem_map.1 h5
    simp only [kvKn, Prod.mk.injEq] at ep
    have : y' = x := aVKn_inj.1 (ep.1.trans he)
    subst this
    rw [hr, ← ep.2]
    rfl
def setKn (F : Q4Kn → Int) (x : Q4Kn) (n : Int) (y : Q4Kn) : Int := if y = x then n else F y
theorem mem_modKn {l : List MapEntry} {j : Nat} {f : MapEntry → MapEntry} {x : MapEntry} (hx : x ∈ l.modify j f) : x ∈ l ∨ ∃ e, l[j]? = some e ∧ x = f e := by
  obtain ⟨i, hi⟩ := List.getElem?_of_mem hx
  rw [List.getElem?_modify] at hi
  by_cases e : j = i
  · subst e
    simp only [if_true, Option.map_eq_map] at hi
    cases hl : l[j]? with
    | none => rw [hl] at hi; cases hi
    | some e0 =>
      rw [hl] at hi
      exact .inr ⟨e0, rfl, by simpa using hi.symm⟩
  · simp only [if_neg e, Option.map_eq_map, Option.map_id'] at hi
    exact .inl (List.mem_of_getElem? (by simpa using hi))
set_option maxRecDepth 100000 in
/-- A value is laid at a key. -/
theorem MapKn.put {w : World} {b : Nat} {ks : List Q4Kn} {F : Q4Kn → Int} {x : Q4Kn} {n : Int} (h : MapKn w b ks F) (hk : smKn x) (hn : (Lit.int .i64 n).wf = true) (hroom : ks.length < maxLen) :
    ∃ w' ks', (Instr.mapUpdate 56 (.map (some b)) (aVKn x) (.int .i64 n)).run Tryz.prog w = .ok () w' ∧ MapKn w' b ks' (setKn F x n) ∧ (∀ y, y ∈ ks' ↔ y ∈ ks ∨ y = x) ∧ ks'.length ≤ ks.length + 1 ∧ w.grownBy w' (some b) ∧ w'.heap.size = w.heap.size := by
  have hnd := h.nodup
  obtain ⟨l, hl⟩ := keyKn hk
  obtain ⟨es, clock, h1, h2, h3, h4⟩ := h
  have hv := reKn hn
  have hes : es.size = ks.length := by have := congrArg List.length h3; simpa using this
  rcases keyedKn.find w hl es.toList h2.keys with ⟨f1, f2⟩ | ⟨j, e0, f1, f2, f3⟩
  · have hno : ∀ y ∈ es.toList, y.key ≠ aVKn x := fun y hy e => f2 y hy (by rw [e])
    have hnew : x ∉ ks := fun hx => by
      have h5 : aVKn x ∈ es.toList.map (·.key) := by rw [keysKn h3]; exact List.mem_map_of_mem hx
      obtain ⟨e, hm, hke⟩ := List.mem_map.1 h5
      exact hno e hm hke
    refine ⟨setBlock w b (.map (es.push ⟨aVKn x, .int .i64 n, clock⟩) (clock + 1)), ks ++ [x], ?_, ⟨_, _, heap_setBlock_same h1 _, ⟨by simp; omega, stamped_push h2.stamped hno, ?_⟩, ?_, ?_⟩, fun y => by simp, by simp, ⟨rfl, rfl, rfl, by simp [setBlock], fun i _ hi => heap_setBlock_other h1 _ (fun e => hi (by rw [e]))⟩, by simp [setBlock]⟩
    · simp [Instr.mapUpdate, run_underlying undKn, MapKept.run_getObj_map h1, keyedKn.check w false hl, f1, MapKept.run_setObj_map _ h1, Result.andThen, setBlock]
    · intro y hy
      simp only [Array.toList_push, List.mem_append, List.mem_singleton] at hy
      rcases hy with hy | rfl
      · exact h2.reads y hy
      · exact ⟨_, rd_mk hl hv⟩
    · rw [Array.toList_push, List.map_append, h3, List.map_append]
      congr 1
      · exact List.map_congr_left (fun y hy => by
        have hyx : y ≠ x := by rintro rfl; exact hnew hy
        simp [kvKn, setKn, hyx])
      · simp [kvKn, setKn]
    · intro y hy
      have hy2 : y ∉ ks ∧ y ≠ x := by simpa [not_or] using hy
      unfold setKn
      rw [if_neg hy2.2]
      exact h4 y hy2.1
  · have hj : es[j]? = some e0 := by simpa using f2
    have hkeyf : ∀ e', es[j]? = some e' → ({ e' with key := aVKn x, val := .int .i64 n } : MapEntry).key = e'.key := fun e' he' => by rw [hj] at he'; cases he'; exact f3.symm
    have hat : ∀ i : Nat, (es.toList[i]?).map (fun e => (e.key, e.val)) = (ks[i]?).map (kvKn F) := fun i => by
      have := congrArg (fun l => l[i]?) h3
      simpa [List.getElem?_map] using this
    have hks : ks[j]? = some x := by
      have h5 := hat j
      rw [f2] at h5
      cases hq : ks[j]? with
      | none => rw [hq] at h5; cases h5
      | some y =>
        rw [hq] at h5
        simp only [Option.map_some, Option.some.injEq, kvKn, Prod.mk.injEq] at h5
        rw [aVKn_inj.1 (h5.1.symm.trans f3)]
    refine ⟨setBlock w b (.map (es.modify j (fun e' => { e' with key := aVKn x, val := .int .i64 n })) clock), ks, ?_, ⟨_, _, heap_setBlock_same h1 _, ⟨by simpa using h2.size, stamped_modify h2.stamped _ _ (fun _ _ => rfl) (fun e' _ he' => hkeyf e' he'), fun y hy => ?_⟩, ?_, ?_⟩, fun y => ⟨.inl, fun e => by rcases e with e | e; exact e; exact e ▸ List.mem_of_getElem? hks⟩, by omega, ⟨rfl, rfl, rfl, by simp [setBlock], fun i _ hi => heap_setBlock_other h1 _ (fun e => hi (by rw [e]))⟩, by simp [setBlock]⟩
    · simp [Instr.mapUpdate, run_underlying undKn, MapKept.run_getObj_map h1, keyedKn.check w false hl, f1, hj, f3, keyedKn.stays w hl, MapKept.run_setObj_map _ h1, Result.andThen, setBlock]
    · rw [Array.toList_modify] at hy
      rcases mem_modKn hy with hy | ⟨e, -, rfl⟩
      · exact h2.reads y hy
      · exact ⟨_, rd_mk hl hv⟩
    · rw [Array.toList_modify]
      refine List.ext_getElem? fun i => ?_
      rw [List.getElem?_map, List.getElem?_modify, List.getElem?_map]
      by_cases e : j = i
      · subst e
        rw [f2, hks]
        simp [kvKn, setKn]
      · have h5 := hat i
        simp only [if_neg e, Option.map_eq_map, Option.map_id']
        rw [h5]
        cases hq : ks[i]? with
        | none => rfl
        | some y =>
          have hyx : y ≠ x := by
            rintro rfl
            obtain ⟨a1, a2⟩ := List.getElem?_eq_some_iff.1 hks
            obtain ⟨b1, b2⟩ := List.getElem?_eq_some_iff.1 hq
            exact e ((List.getElem_inj hnd).1 (a2.trans b2.symm))
          simp [kvKn, setKn, hyx]
    · intro y hy
      have hyx : y ≠ x := by rintro rfl; exact hy (List.mem_of_getElem? hks)
      unfold setKn
      rw [if_neg hyx]
      exact h4 y hy
theorem mapKn_new (w : World) : MapKn (w.alloc (.map #[] 0)) w.heap.size [] (fun _ => 0) := by
  refine ⟨#[], 0, heap_alloc_new _ _, ⟨by simp, ⟨by simp, by simp, by simp⟩, by simp⟩, rfl, fun _ _ => rfl⟩
theorem makeMapKn (w : World) : (Instr.makeMap 56 none).run Tryz.prog w = .ok (.map (some w.heap.size)) (w.alloc (.map #[] 0)) := by kernel_rfl
/-- An iterator over the map, these keys still to come. -/
def ItKn (w : World) (b r : Nat) (ks : List Q4Kn) (F : Q4Kn → Int) (left : List Q4Kn) : Prop :=
  ∃ es clock since seen c0, w.heap[b]? = some (.map es clock) ∧ w.heap[r]? = some (.mapIter (some b) since seen c0) ∧ (∀ x ∈ es.toList, x.born < since) ∧ since ≤ c0 ∧ since ≤ clock ∧ (es.toList.map (·.born)).Nodup ∧ (es.toList.map (·.key)).Nodup ∧ es.toList.map (fun e => (e.key, e.val)) = ks.map (kvKn F) ∧ (leftOf es seen).toList.map (fun e => (e.key, e.val)) = left.map (kvKn F)
theorem ItKn.map {w : World} {b r : Nat} {ks left : List Q4Kn} {F : Q4Kn → Int} (h : ItKn w b r ks F left) : b < w.heap.size ∧ r < w.heap.size := by
  obtain ⟨es, clock, since, seen, c0, h1, h2, -⟩ := h
  exact ⟨(Array.getElem?_eq_some_iff.1 h1).1, (Array.getElem?_eq_some_iff.1 h2).1⟩
theorem ItKn.of_blocks {w w' : World} {b r : Nat} {ks left : List Q4Kn} {F : Q4Kn → Int} (h : ItKn w b r ks F left) (hb : w'.heap[b]? = w.heap[b]?) (hr : w'.heap[r]? = w.heap[r]?) : ItKn w' b r ks F left := by
  obtain ⟨es, clock, since, seen, c0, h1, h2, h3⟩ := h
  exact ⟨es, clock, since, seen, c0, hb.trans h1, hr.trans h2, h3⟩
theorem ItKn.below {w w' : World} {b r : Nat} {ks left : List Q4Kn} {F : Q4Kn → Int} (h : ItKn w b r ks F left) (hb : Below w.heap.size w w') : ItKn w' b r ks F left := h.of_blocks (hb.block b h.map.1) (hb.block r h.map.2)
theorem ItKn.ne_at {t : TypeId} {w : World} {b r q : Nat} {ks left : List Q4Kn} {F : Q4Kn → Int} {vs : Array Value} (h : ItKn w b r ks F left) (a : At t w q vs) : q ≠ b ∧ q ≠ r := by
  obtain ⟨es, clock, since, seen, c0, h1, h2, -⟩ := h
  constructor
  · rintro rfl
    have := h1.symm.trans a
    simp at this
  · rintro rfl
    have := h2.symm.trans a
    simp at this
/-- The range begins. -/
theorem MapKn.range {w : World} {b : Nat} {ks : List Q4Kn} {F : Q4Kn → Int} (h : MapKn w b ks F) :
    ∃ w', (Instr.range 56 (.map (some b))).run Tryz.prog w = .ok (.pointer (some ⟨w.heap.size, 0, none⟩)) w' ∧ ItKn w' b w.heap.size ks F ks ∧ Below w.heap.size w w' ∧ w'.heap.size = w.heap.size + 1 := by
  have hlt := h.lt
  obtain ⟨es, clock, h1, h2, h3, -⟩ := h
  refine ⟨_, run_range_map w 56 _ _ b es clock undKn h1, ⟨es, clock, clock, #[], clock, ?_, heap_alloc_new _ _, h2.stamped.1, Nat.le_refl _, Nat.le_refl _, h2.stamped.2.1, h2.stamped.2.2, h3, ?_⟩, below_alloc _ _, by simp⟩
  · rw [heap_alloc_old w _ hlt, h1]
  · rw [← h3]
    congr 1
    unfold leftOf
    simp
theorem sb_sameKn {w : World} {r : Nat} {o0 : Obj} (h : w.heap[r]? = some o0) (o : Obj) : (setBlock w r o).heap[r]? = some o := by
  have hlt := (Array.getElem?_eq_some_iff.1 h).1
  simp [setBlock, hlt]
theorem sb_otherKn (w : World) {r i : Nat} (o : Obj) (hi : i ≠ r) : (setBlock w r o).heap[i]? = w.heap[i]? := by
  simp only [setBlock, Array.getElem?_setIfInBounds, if_neg (fun e => hi (Eq.symm e))]
theorem subKn {F : Q4Kn → Int} {ks : List Q4Kn} : ∀ (l : List MapEntry), (∀ e ∈ l, (e.key, e.val) ∈ ks.map (kvKn F)) → ∃ ys : List Q4Kn, l.map (fun e => (e.key, e.val)) = ys.map (kvKn F)
  | [], _ => ⟨[], rfl⟩
  | e :: l, h => by
    obtain ⟨ys, h1⟩ := subKn l (fun x hx => h x (List.mem_cons_of_mem _ hx))
    obtain ⟨y, -, hy⟩ := List.mem_map.1 (h e (List.mem_cons_self ..))
    exact ⟨y :: ys, by rw [List.map_cons, List.map_cons, h1, hy]⟩
set_option maxRecDepth 100000 in
/-- A step of the range: nothing is left, or one that is left comes out. -/
theorem ItKn.next {w : World} {b r : Nat} {ks left : List Q4Kn} {F : Q4Kn → Int} (h : ItKn w b r ks F left) (ty : TypeId) :
    (left = [] ∧ (Instr.next (.pointer (some ⟨r, 0, none⟩)) false ty).run Tryz.prog w = .ok (.tuple #[.bool false]) w) ∨
    ∃ x w' left', (Instr.next (.pointer (some ⟨r, 0, none⟩)) false ty).run Tryz.prog w = .ok (.tuple #[.bool true, aVKn x, .int .i64 (F x)]) w' ∧ (Instr.entry (.pointer (some ⟨r, 0, none⟩))).run Tryz.prog w' = .ok (.tuple #[aVKn x, .int .i64 (F x)]) w' ∧ ItKn w' b r ks F left' ∧ x ∈ left ∧ (∀ y, y ∈ left' ↔ y ∈ left ∧ y ≠ x) ∧ left'.length < left.length ∧ w.grownBy w' (some r) ∧ w'.heap.size = w.heap.size := by
  obtain ⟨es, clock, since, seen, c0, h1, h2, h3, h4, h4', h5, h6, h7, h8⟩ := h
  have hne : r ≠ b := by
    rintro rfl
    have := h1.symm.trans h2
    simp at this
  rcases run_next_at (P := Tryz.prog) w ty r b since c0 seen es clock h2 h1 h3 h4 with ⟨hz, hrun⟩ | ⟨e, he, w1, hw1, hrun⟩
  · refine .inl ⟨?_, hrun⟩
    have : (left.map (kvKn F)).length = 0 := by rw [← h8]; simpa using hz
    simpa using this
  · right
    have hme := mem_left he
    have hl := left_shrinks es seen e he
    obtain ⟨x, hxm, hx⟩ : ∃ x, x ∈ left ∧ kvKn F x = (e.key, e.val) := by
      have : (e.key, e.val) ∈ left.map (kvKn F) := by rw [← h8]; exact List.mem_map.2 ⟨e, he, rfl⟩
      obtain ⟨x, h9, h10⟩ := List.mem_map.1 this
      exact ⟨x, h9, h10⟩
    simp only [kvKn, Prod.mk.injEq] at hx
    have hw1h : w1.heap = w.heap := by rcases hw1 with rfl | rfl <;> rfl
    have hr1 : w1.heap[r]? = some (.mapIter (some b) since seen c0) := by rw [hw1h]; exact h2
    obtain ⟨left', hL⟩ := subKn (F := F) (ks := ks) (leftOf es (seen.push e.born)).toList (fun y hy => by rw [← h7]; exact List.mem_map.2 ⟨y, (mem_left hy).1, rfl⟩)
    have hb' : (setBlock w1 r (.mapIter (some b) since (seen.push e.born) clock)).heap[b]? = some (.map es clock) := by
      rw [sb_otherKn _ _ (fun e => hne e.symm), hw1h]; exact h1
    have hr' := sb_sameKn hr1 (.mapIter (some b) since (seen.push e.born) clock)
    have inj : ∀ e1 ∈ es.toList, ∀ e2 ∈ es.toList, e1.key = e2.key → e1 = e2 := fun e1 m1 e2 m2 he12 => by
      obtain ⟨i1, q1⟩ := List.getElem?_of_mem m1
      obtain ⟨i2, q2⟩ := List.getElem?_of_mem m2
      obtain ⟨a1, a2⟩ := List.getElem?_eq_some_iff.1 q1
      obtain ⟨b1, b2⟩ := List.getElem?_eq_some_iff.1 q2
      have hi : i1 = i2 := (List.getElem_inj (i := i1) (j := i2) (h₀ := by simpa using a1) (h₁ := by simpa using b1) h6).1 (by simp only [List.getElem_map, a2, b2]; exact he12)
      subst hi
      exact a2.symm.trans b2
    have memL : ∀ (sn : Array Nat) (lf : List Q4Kn), (leftOf es sn).toList.map (fun e => (e.key, e.val)) = lf.map (kvKn F) → ∀ y, y ∈ lf ↔ ∃ e', e' ∈ (leftOf es sn).toList ∧ e'.key = aVKn y := fun sn lf hlf y => by
      constructor
      · intro hy
        have : kvKn F y ∈ lf.map (kvKn F) := List.mem_map_of_mem hy
        rw [← hlf] at this
        obtain ⟨e', q1, q2⟩ := List.mem_map.1 this
        simp only [kvKn, Prod.mk.injEq] at q2
        exact ⟨e', q1, q2.1⟩
      · rintro ⟨e', q1, q2⟩
        have : (e'.key, e'.val) ∈ lf.map (kvKn F) := by rw [← hlf]; exact List.mem_map.2 ⟨e', q1, rfl⟩
        obtain ⟨z, z1, z2⟩ := List.mem_map.1 this
        simp only [kvKn, Prod.mk.injEq] at z2
        rw [← aVKn_inj.1 (z2.1.trans q2)]
        exact z1
    have inLeft : ∀ (sn : Array Nat) (e' : MapEntry), e' ∈ (leftOf es sn).toList ↔ e' ∈ es.toList ∧ sn.contains e'.born = false := fun sn e' => by
      constructor
      · exact mem_left
      · rintro ⟨q1, q2⟩
        exact Array.mem_toList_iff.2 (Array.mem_filter.2 ⟨Array.mem_toList_iff.1 q1, by rw [q2]; rfl⟩)
    refine ⟨x, _, left', by rw [hx.1, hx.2]; exact hrun, ?_, ⟨es, clock, since, seen.push e.born, clock, hb', hr', h3, h4', h4', h5, h6, h7, hL⟩, hxm, fun y => ?_, ?_, ?_, ?_⟩
    · rw [hx.1, hx.2]
      exact run_entry_at _ r b since seen es clock e hr' hb' hme.1 h5
    · rw [memL _ _ hL y, memL _ _ h8 y]
      constructor
      · rintro ⟨e', q1, q2⟩
        have q3 := (inLeft _ e').1 q1
        rw [contains_push] at q3
        have q4 : seen.contains e'.born = false ∧ (e'.born == e.born) = false := by simpa using q3.2
        refine ⟨⟨e', (inLeft _ e').2 ⟨q3.1, q4.1⟩, q2⟩, ?_⟩
        rintro rfl
        have : e' = e := inj e' q3.1 e hme.1 (q2.trans hx.1)
        rw [this] at q4
        simp at q4
      · rintro ⟨⟨e', q1, q2⟩, q3⟩
        have q4 := (inLeft _ e').1 q1
        refine ⟨e', (inLeft _ e').2 ⟨q4.1, ?_⟩, q2⟩
        rw [contains_push, q4.2, Bool.false_or]
        cases hc : e'.born == e.born with
        | false => rfl
        | true =>
          exfalso
          have hbb : e'.born = e.born := beq_iff_eq.1 hc
          have : e' = e := by
            obtain ⟨i1, u1⟩ := List.getElem?_of_mem q4.1
            obtain ⟨i2, u2⟩ := List.getElem?_of_mem hme.1
            obtain ⟨a1, a2⟩ := List.getElem?_eq_some_iff.1 u1
            obtain ⟨b1, b2⟩ := List.getElem?_eq_some_iff.1 u2
            have hi : i1 = i2 := (List.getElem_inj (i := i1) (j := i2) (h₀ := by simpa using a1) (h₁ := by simpa using b1) h5).1 (by simp only [List.getElem_map, a2, b2]; exact hbb)
            subst hi
            exact a2.symm.trans b2
          rw [this] at q2
          exact q3 (aVKn_inj.1 (q2.symm.trans hx.1.symm))
    · have e1 := congrArg List.length hL
      have e2 := congrArg List.length h8
      simp only [List.length_map, Array.length_toList] at e1 e2
      omega
    · have hs : (setBlock w1 r (.mapIter (some b) since (seen.push e.born) clock)).heap.size = w1.heap.size := by simp [setBlock]
      refine ⟨?_, ?_, ?_, by rw [hs, hw1h]; exact Nat.le_refl _, fun i _ hi => ?_⟩
      · rcases hw1 with rfl | rfl <;> rfl
      · rcases hw1 with rfl | rfl <;> rfl
      · rcases hw1 with rfl | rfl <;> rfl
      · rw [sb_otherKn _ _ (fun e => hi (by rw [e])), hw1h]
    · simp [setBlock, hw1h]
end Go.Proofs.YtfmbljmcdidocaaGreat
/-
  Kinds compared, by three of four numbers: walked.
-/
namespace Go.Proofs.YtfmbljmcdidocaaGreat
open Go.RowKit Go.Shelf Go.Sort Go.Lib

/-- The first three of four. -/
def pr3 (x : Q4Kn) : T3 := (x.1, x.2.1, x.2.2.1)
def e4 (x : Q4Kn) : List Value := [.int .i64 x.1, .int .i64 x.2.1, .int .i64 x.2.2.1, .int .i64 x.2.2.2]
def t4f (x : Q4Kn) : Nat → Int := fun i => if i = 0 then x.1 else if i = 1 then x.2.1 else if i = 2 then x.2.2.1 else x.2.2.2
def c4 (x y : Q4Kn) : Int := c3 (pr3 x) (pr3 y)
theorem e4_one (x : Q4Kn) : ∀ u ∈ e4 x, u.oneCell' = true := by
  intro u hu
  simp only [e4, List.mem_cons, List.not_mem_nil, or_false] at hu
  rcases hu with rfl | rfl | rfl | rfl <;> rfl
theorem c4_swo : SWO (ltOf c4) where
  irrefl x := c3_swo.irrefl (pr3 x)
  trans x y z h1 h2 := c3_swo.trans (pr3 x) (pr3 y) (pr3 z) h1 h2
  ntrans x y z h1 h2 := c3_swo.ntrans (pr3 x) (pr3 y) (pr3 z) h1 h2
theorem e4_get (x : Q4Kn) (j : Nat) (hj : j < 4) : (e4 x)[j]! = .int .i64 (t4f x j) := by
  rcases (by omega : j = 0 ∨ j = 1 ∨ j = 2 ∨ j = 3) with rfl | rfl | rfl | rfl <;> rfl
theorem At.openQ4 {t : TypeId} {w : World} {q : Nat} {v0 v1 v2 v3 : Value} (h : At t w q #[v0, v1, v2, v3]) : w.cell? ⟨q, 0, none⟩ = some v0 ∧ w.cell? ⟨q, 1, none⟩ = some v1 ∧ w.cell? ⟨q, 2, none⟩ = some v2 ∧ w.cell? ⟨q, 3, none⟩ = some v3 ∧ w.frozen? ⟨q, 0, none⟩ = false ∧ w.frozen? ⟨q, 1, none⟩ = false ∧ w.frozen? ⟨q, 2, none⟩ = false ∧ w.frozen? ⟨q, 3, none⟩ = false :=
  ⟨h.cell 0 rfl, h.cell 1 rfl, h.cell 2 rfl, h.cell 3 rfl, h.frozen 0, h.frozen 1, h.frozen 2, h.frozen 3⟩
/-- Such a struct as a value. -/
abbrev tV4 (x : Q4Kn) : Value := .agg #[.int .i64 x.1, .int .i64 x.2.1, .int .i64 x.2.2.1, .int .i64 x.2.2.2]
set_option maxRecDepth 100000 in
set_option maxHeartbeats 1000000 in
theorem cmpK_any (x y : Q4Kn) (w : World) : Calls Tryz.prog 35 #[tV4 x, tV4 y] w fun e w' => e = .returned (.int .i64 (c4 x y)) ∧ Grew w w' := by
  obtain ⟨x0, x1, x2, x3⟩ := x
  obtain ⟨y0, y1, y2, y3⟩ := y
  obtain ⟨z, z0, z1, z2⟩ : ∃ z : Nat → Int, cmp3 x0 y0 = z 0 ∧ cmp3 x1 y1 = z 1 ∧ cmp3 x2 y2 = z 2 := ⟨fun i => if i = 0 then cmp3 x0 y0 else if i = 1 then cmp3 x1 y1 else cmp3 x2 y2, rfl, rfl, rfl⟩
  have HR := or_c3 (x0, x1, x2) (y0, y1, y2) z z0 z1 z2
  obtain ⟨R, hR⟩ : ∃ R, c4 (x0, x1, x2, x3) (y0, y1, y2, y3) = R := ⟨_, rfl⟩
  have hR2 : c3 (x0, x1, x2) (y0, y1, y2) = R := hR
  rw [hR2] at HR
  rw [hR]
  clear hR hR2
  obtain ⟨W, hW, b0, b1, bW, -⟩ := bx2 w 36 36 #[.int .i64 x0, .int .i64 x1, .int .i64 x2, .int .i64 x3] #[.int .i64 y0, .int .i64 y1, .int .i64 y2, .int .i64 y3]
  have G : Grew w W := by rw [← hW]; exact ((Grew.refl w).alloc _).alloc _
  go_enter Tryz.func35, Tryz.ntmps35
  go_wp2_with fail
  clear hW
  obtain ⟨q1, e1⟩ : ∃ z, w.heap.size = z := ⟨_, rfl⟩
  obtain ⟨q2, e2⟩ : ∃ z, q1 + 1 = z := ⟨_, rfl⟩
  rw [e1] at b0 b1 ⊢
  rw [e2] at b1 ⊢
  clear e1 e2 bW
  obtain ⟨u0, hu0, bb⟩ : ∃ uu, W.drew = uu ∧ Below W.heap.size W uu := ⟨_, rfl, (Below.refl _ _).drew⟩
  replace b0 := b0.below bb
  replace b1 := b1.below bb
  replace G := G.drew
  rw [hu0] at G
  have bu : Grew u0 u0 := Grew.refl _
  clear bb
  refine wp_region_held_drew (S := Grew u0) (by kernel_rfl) (by rw [hu0]; exact Grew.refl _) (fun hHeld => ?_)
  rw [hu0] at hHeld ⊢
  clear hu0
  change wpAnyH _ _ _ _ _ 18 #[false, false, false, false, false, false, false, false, false, false, false, false, false, false, false, false, false, false] _ _
  refine wpAnyH_take (i := 0) (v := .pointer (some ⟨q1, 0, none⟩)) rfl (by kernel_rfl) (by kernel_rfl) (by kernel_rfl) (fun _ _ _ h => h) (Or.inl ⟨by kernel_rfl, ?_⟩) hHeld ?_
  · intro w' hSw; go_simp
  try simp only [Act.put, List.setIfInBounds_toArray, List.set_cons_zero, List.set_cons_succ, List.getElem_toArray, List.getElem_cons_zero]
  refine wpAnyH_take (i := 1) (v := .int .i64 (x0)) rfl (by kernel_rfl) (by kernel_rfl) (by kernel_rfl) (fun _ _ _ h => h) (Or.inl ⟨by kernel_rfl, ?_⟩) hHeld ?_
  · intro w' hSw; have hw := hSw.below; obtain ⟨c0, c1, c2, c3, -⟩ := (b0.below hw).openQ4; go_simp
  try simp only [Act.put, List.setIfInBounds_toArray, List.set_cons_zero, List.set_cons_succ, List.getElem_toArray, List.getElem_cons_succ, List.getElem_cons_zero]
  refine wpAnyH_take (i := 2) (v := .pointer (some ⟨q2, 0, none⟩)) rfl (by kernel_rfl) (by kernel_rfl) (by kernel_rfl) (fun _ _ _ h => h) (Or.inl ⟨by kernel_rfl, ?_⟩) hHeld ?_
  · intro w' hSw; go_simp
  try simp only [Act.put, List.setIfInBounds_toArray, List.set_cons_zero, List.set_cons_succ, List.getElem_toArray, List.getElem_cons_succ, List.getElem_cons_zero]
  refine wpAnyH_take (i := 3) (v := .int .i64 (y0)) rfl (by kernel_rfl) (by kernel_rfl) (by kernel_rfl) (fun _ _ _ h => h) (Or.inl ⟨by kernel_rfl, ?_⟩) hHeld ?_
  · intro w' hSw; have hw := hSw.below; obtain ⟨c0, c1, c2, c3, -⟩ := (b1.below hw).openQ4; go_simp
  try simp only [Act.put, List.setIfInBounds_toArray, List.set_cons_zero, List.set_cons_succ, List.getElem_toArray, List.getElem_cons_succ, List.getElem_cons_zero]
  refine wpAnyH_take (i := 5) (v := .pointer (some ⟨q1, 1, none⟩)) rfl (by kernel_rfl) (by kernel_rfl) (by kernel_rfl) (fun _ _ _ h => h) (Or.inl ⟨by kernel_rfl, ?_⟩) hHeld ?_
  · intro w' hSw; go_simp
  try simp only [Act.put, List.setIfInBounds_toArray, List.set_cons_zero, List.set_cons_succ, List.getElem_toArray, List.getElem_cons_succ, List.getElem_cons_zero]
  refine wpAnyH_take (i := 6) (v := .int .i64 (x1)) rfl (by kernel_rfl) (by kernel_rfl) (by kernel_rfl) (fun _ _ _ h => h) (Or.inl ⟨by kernel_rfl, ?_⟩) hHeld ?_
  · intro w' hSw; have hw := hSw.below; obtain ⟨c0, c1, c2, c3, -⟩ := (b0.below hw).openQ4; go_simp
  try simp only [Act.put, List.setIfInBounds_toArray, List.set_cons_zero, List.set_cons_succ, List.getElem_toArray, List.getElem_cons_succ, List.getElem_cons_zero]
  refine wpAnyH_take (i := 7) (v := .pointer (some ⟨q2, 1, none⟩)) rfl (by kernel_rfl) (by kernel_rfl) (by kernel_rfl) (fun _ _ _ h => h) (Or.inl ⟨by kernel_rfl, ?_⟩) hHeld ?_
  · intro w' hSw; go_simp
  try simp only [Act.put, List.setIfInBounds_toArray, List.set_cons_zero, List.set_cons_succ, List.getElem_toArray, List.getElem_cons_succ, List.getElem_cons_zero]
  refine wpAnyH_take (i := 8) (v := .int .i64 (y1)) rfl (by kernel_rfl) (by kernel_rfl) (by kernel_rfl) (fun _ _ _ h => h) (Or.inl ⟨by kernel_rfl, ?_⟩) hHeld ?_
  · intro w' hSw; have hw := hSw.below; obtain ⟨c0, c1, c2, c3, -⟩ := (b1.below hw).openQ4; go_simp
  try simp only [Act.put, List.setIfInBounds_toArray, List.set_cons_zero, List.set_cons_succ, List.getElem_toArray, List.getElem_cons_succ, List.getElem_cons_zero]
  refine wpAnyH_take (i := 10) (v := .pointer (some ⟨q1, 2, none⟩)) rfl (by kernel_rfl) (by kernel_rfl) (by kernel_rfl) (fun _ _ _ h => h) (Or.inl ⟨by kernel_rfl, ?_⟩) hHeld ?_
  · intro w' hSw; go_simp
  try simp only [Act.put, List.setIfInBounds_toArray, List.set_cons_zero, List.set_cons_succ, List.getElem_toArray, List.getElem_cons_succ, List.getElem_cons_zero]
  refine wpAnyH_take (i := 11) (v := .int .i64 (x2)) rfl (by kernel_rfl) (by kernel_rfl) (by kernel_rfl) (fun _ _ _ h => h) (Or.inl ⟨by kernel_rfl, ?_⟩) hHeld ?_
  · intro w' hSw; have hw := hSw.below; obtain ⟨c0, c1, c2, c3, -⟩ := (b0.below hw).openQ4; go_simp
  try simp only [Act.put, List.setIfInBounds_toArray, List.set_cons_zero, List.set_cons_succ, List.getElem_toArray, List.getElem_cons_succ, List.getElem_cons_zero]
  refine wpAnyH_take (i := 12) (v := .pointer (some ⟨q2, 2, none⟩)) rfl (by kernel_rfl) (by kernel_rfl) (by kernel_rfl) (fun _ _ _ h => h) (Or.inl ⟨by kernel_rfl, ?_⟩) hHeld ?_
  · intro w' hSw; go_simp
  try simp only [Act.put, List.setIfInBounds_toArray, List.set_cons_zero, List.set_cons_succ, List.getElem_toArray, List.getElem_cons_succ, List.getElem_cons_zero]
  refine wpAnyH_take (i := 13) (v := .int .i64 (y2)) rfl (by kernel_rfl) (by kernel_rfl) (by kernel_rfl) (fun _ _ _ h => h) (Or.inl ⟨by kernel_rfl, ?_⟩) hHeld ?_
  · intro w' hSw; have hw := hSw.below; obtain ⟨c0, c1, c2, c3, -⟩ := (b1.below hw).openQ4; go_simp
  try simp only [Act.put, List.setIfInBounds_toArray, List.set_cons_zero, List.set_cons_succ, List.getElem_toArray, List.getElem_cons_succ, List.getElem_cons_zero]
  refine wpAnyH_ready (rs := [4]) (by kernel_rfl) (by simp) ?_
  refine AllReadyH.cons rfl (fun KK hK' => ?_) AllReadyH.nil
  go_simp
  refine (cmp_any x0 y0 _).mono ?_
  rintro e u1 ⟨rfl, hh⟩
  rw [z0]
  replace bu : Grew u0 u1 := by rw [← hh]; exact bu
  clear hh
  try go_wp2_with fail
  clear hHeld
  refine hK'.out _ _ (bu) (fun hHeld => ?_)
  clear hK' KK
  try simp only [List.setIfInBounds_toArray, List.set_cons_zero, List.set_cons_succ]
  refine wpAnyH_ready (rs := [9]) (by kernel_rfl) (by simp) ?_
  refine AllReadyH.cons rfl (fun KK hK' => ?_) AllReadyH.nil
  go_simp
  refine (cmp_any x1 y1 _).mono ?_
  rintro e u2 ⟨rfl, hh⟩
  rw [z1]
  replace bu : Grew u0 u2 := by rw [← hh]; exact bu
  clear hh
  try go_wp2_with fail
  clear hHeld
  refine hK'.out _ _ (bu) (fun hHeld => ?_)
  clear hK' KK
  try simp only [List.setIfInBounds_toArray, List.set_cons_zero, List.set_cons_succ]
  refine wpAnyH_ready (rs := [14]) (by kernel_rfl) (by simp) ?_
  refine AllReadyH.cons rfl (fun KK hK' => ?_) AllReadyH.nil
  go_simp
  refine (cmp_any x2 y2 _).mono ?_
  rintro e u3 ⟨rfl, hh⟩
  rw [z2]
  replace bu : Grew u0 u3 := by rw [← hh]; exact bu
  clear hh
  try go_wp2_with fail
  clear hHeld
  refine hK'.out _ _ (bu) (fun hHeld => ?_)
  clear hK' KK
  try simp only [List.setIfInBounds_toArray, List.set_cons_zero, List.set_cons_succ]
  refine wpAnyH_ready (rs := [15]) (by kernel_rfl) (by simp) ?_
  refine AllReadyH.cons rfl (fun KK hK' => ?_) AllReadyH.nil
  go_simp
  obtain ⟨UU, hUU, aU, -, -⟩ := boxed u3 3 #[.int .i64 (z 0), .int .i64 (z 1), .int .i64 (z 2)]
  rw [hUU]
  have bs : u3.heap.size < UU.heap.size := aU.lt
  replace bu : Grew u0 UU := by rw [← hUU]; exact bu.alloc _
  clear hUU
  clear hHeld
  refine hK'.out _ _ (bu) (fun hHeld => ?_)
  clear hK' KK
  try simp only [List.setIfInBounds_toArray, List.set_cons_zero, List.set_cons_succ]
  refine wpAnyH_ready (rs := [16]) (by kernel_rfl) (by simp) ?_
  refine AllReadyH.cons rfl (fun KK hK' => ?_) AllReadyH.nil
  go_simp
  refine (or_any z (fun i hi => by rcases (by omega : i = 0 ∨ i = 1 ∨ i = 2) with rfl | rfl | rfl; exact aU.cell 0 rfl; exact aU.cell 1 rfl; exact aU.cell 2 rfl) bs (by omega)).mono ?_
  rintro e u5 ⟨rfl, hh⟩
  rw [HR]
  replace bu : Grew u0 u5 := by rw [← hh]; exact bu
  clear hh aU bs
  try go_wp2_with fail
  clear hHeld
  refine hK'.out _ _ (bu) (fun hHeld => ?_)
  clear hK' KK
  try simp only [List.setIfInBounds_toArray, List.set_cons_zero, List.set_cons_succ]
  refine wpAnyH_ready (rs := [17]) (by kernel_rfl) (by simp) ?_
  refine AllReadyH.cons rfl (fun KK hK' => ?_) AllReadyH.nil
  go_simp
  clear hHeld
  refine hK'.out _ _ (bu) (fun hHeld => ?_)
  clear hK' KK
  try simp only [List.setIfInBounds_toArray, List.set_cons_zero, List.set_cons_succ]
  refine wpAnyH_done (by kernel_rfl) ?_ _
  clear hHeld
  go_wp2_with fail
  go_ret
  exact ⟨rfl, G.trans bu⟩
end Go.Proofs.YtfmbljmcdidocaaGreat
/-
  Lists of Kind: taken over, measured, held against each other, marked. Walked.
-/
namespace Go.Proofs.YtfmbljmcdidocaaGreat
open Go.RowKit

abbrev kindV (x0 x1 x2 x3 : Int) : Value := .agg #[.int .i64 x0, .int .i64 x1, .int .i64 x2, .int .i64 x3]
theorem Kind.open {w : World} {g n : Nat} {f : Nat → Int} (h : Recs 4 w g n f) (k : Nat) (hk : k < n) : w.cell? ⟨g, k * 4, none⟩ = some (.int .i64 (f (k * 4))) ∧ w.cell? ⟨g, k * 4 + 1, none⟩ = some (.int .i64 (f (k * 4 + 1))) ∧ w.cell? ⟨g, k * 4 + 2, none⟩ = some (.int .i64 (f (k * 4 + 2))) ∧ w.cell? ⟨g, k * 4 + 3, none⟩ = some (.int .i64 (f (k * 4 + 3))) :=
  ⟨h.2 _ (by omega), h.2 _ (by omega), h.2 _ (by omega), h.2 _ (by omega)⟩
theorem Kind.openI {w : World} {g off n : Nat} {f : Nat → Int} (h : Ints w g off (n * 4) f) (k : Nat) (hk : k < n) : w.cell? ⟨g, off + k * 4, none⟩ = some (.int .i64 (f (k * 4))) ∧ w.cell? ⟨g, off + k * 4 + 1, none⟩ = some (.int .i64 (f (k * 4 + 1))) ∧ w.cell? ⟨g, off + k * 4 + 2, none⟩ = some (.int .i64 (f (k * 4 + 2))) ∧ w.cell? ⟨g, off + k * 4 + 3, none⟩ = some (.int .i64 (f (k * 4 + 3))) :=
  ⟨h (k * 4) (by omega), h (k * 4 + 1) (by omega), h (k * 4 + 2) (by omega), h (k * 4 + 3) (by omega)⟩
theorem Kind.put {w : World} {g n k : Nat} {f : Nat → Int} (h : LaidK 4 36 w g n k f) (hk : k < n) : LaidK 4 36 ((((w.setCell ⟨g, k * 4, none⟩ (.int .i64 (f (k * 4)))).setCell ⟨g, k * 4 + 1, none⟩ (.int .i64 (f (k * 4 + 1)))).setCell ⟨g, k * 4 + 2, none⟩ (.int .i64 (f (k * 4 + 2)))).setCell ⟨g, k * 4 + 3, none⟩ (.int .i64 (f (k * 4 + 3)))) g n (k + 1) f := by
  obtain ⟨cur, h1, h2, h3⟩ := h
  refine ⟨_, ((((h1.set (k * 4) _).set (k * 4 + 1) _).set (k * 4 + 2) _).set (k * 4 + 3) _), by simpa using h2, fun i hi => ?_⟩
  by_cases e3 : i = k * 4 + 3
  · subst e3
    rw [Array.getElem?_setIfInBounds, if_pos rfl, if_pos (by simp; omega)]
  rw [Array.getElem?_setIfInBounds, if_neg (by omega)]
  by_cases e2 : i = k * 4 + 2
  · subst e2
    rw [Array.getElem?_setIfInBounds, if_pos rfl, if_pos (by simp; omega)]
  rw [Array.getElem?_setIfInBounds, if_neg (by omega)]
  by_cases e1 : i = k * 4 + 1
  · subst e1
    rw [Array.getElem?_setIfInBounds, if_pos rfl, if_pos (by simp; omega)]
  rw [Array.getElem?_setIfInBounds, if_neg (by omega)]
  by_cases e0 : i = k * 4
  · subst e0
    rw [Array.getElem?_setIfInBounds, if_pos rfl, if_pos (by omega)]
  rw [Array.getElem?_setIfInBounds, if_neg (by omega)]
  exact h3 i (by omega)
theorem Kind.box {t : TypeId} {w : World} {q : Nat} {v0 v1 v2 v3 : Value} (h : At t w q #[v0, v1, v2, v3]) : w.cell? ⟨q, 0, none⟩ = some v0 ∧ w.cell? ⟨q, 1, none⟩ = some v1 ∧ w.cell? ⟨q, 2, none⟩ = some v2 ∧ w.cell? ⟨q, 3, none⟩ = some v3 ∧ q < w.heap.size := ⟨h.cell 0 rfl, h.cell 1 rfl, h.cell 2 rfl, h.cell 3 rfl, h.lt⟩
theorem Kind.boxF {t : TypeId} {w : World} {q : Nat} {vs : Array Value} (h : At t w q vs) : w.frozen? ⟨q, 0, none⟩ = false ∧ w.frozen? ⟨q, 1, none⟩ = false ∧ w.frozen? ⟨q, 2, none⟩ = false ∧ w.frozen? ⟨q, 3, none⟩ = false := ⟨h.frozen 0, h.frozen 1, h.frozen 2, h.frozen 3⟩
theorem Kind.putBox {t : TypeId} {w : World} {q : Nat} {v0 v1 v2 v3 : Value} (h : At t w q #[v0, v1, v2, v3]) (x0 x1 x2 x3 : Value) : At t ((((w.setCell ⟨q, 0, none⟩ x0).setCell ⟨q, 1, none⟩ x1).setCell ⟨q, 2, none⟩ x2).setCell ⟨q, 3, none⟩ x3) q #[x0, x1, x2, x3] := by
  have := ((((h.set 0 x0).set 1 x1).set 2 x2).set 3 x3)
  simpa using this
theorem Kind.putBelow {w0 w : World} {q N : Nat} (h : Below N w0 w) (hq : N ≤ q) (x0 x1 x2 x3 : Value) : Below N w0 ((((w.setCell ⟨q, 0, none⟩ x0).setCell ⟨q, 1, none⟩ x1).setCell ⟨q, 2, none⟩ x2).setCell ⟨q, 3, none⟩ x3) := ((((h.setCell hq _).setCell hq _).setCell hq _).setCell hq _)
theorem infoKind : (Tryz.prog.info? 36).map (fun i => (i.zero, i.size, i.bytes)) = some (some (.agg #[.int .i64 0, .int .i64 0, .int .i64 0, .int .i64 0]), 4, 32) := by kernel_rfl
theorem makeKind (M : Nat) (hM : M ≤ 1048576) : ∃ C : Array Value, C.size = M * 4 ∧ ∀ w, (Instr.makeSlice 33 (.int .i64 (M : Int)) (.int .i64 (M : Int))).run Tryz.prog w = .ok (.slice (some ⟨w.heap.size, 0, none⟩) M M) (w.alloc (.cells C 36)) := by
  obtain ⟨i0, hi0, hz0, hz1, hz2⟩ := info_parts infoKind
  refine ⟨madeCells (Value.agg #[.int .i64 0, .int .i64 0, .int .i64 0, .int .i64 0]).cells (M * 4), by simp [madeCells], fun w => ?_⟩
  have := run_make (P := Tryz.prog) w 33 36 i0 _ Tryz.underlying33 hi0 hz0 .i64 .i64 (M : Int) (M : Int) (by omega) (by omega) (by rw [hz2]; omega) (by omega)
  rw [this, hz1]
  simp
set_option maxHeartbeats 1600000 in
theorem eqKind_any (x0 x1 x2 x3 : Int) (w : World) : Calls Tryz.prog 41 #[kindV x0 x1 x2 x3, kindV x0 x1 x2 x3] w fun e w' => e = .returned (.bool true) ∧ Below w.heap.size w w' := by
  obtain ⟨W, hW, b0, b1, bW, -⟩ := bx2 w 36 36 #[.int .i64 x0, .int .i64 x1, .int .i64 x2, .int .i64 x3] #[.int .i64 x0, .int .i64 x1, .int .i64 x2, .int .i64 x3]
  have c0 := b0.cell 0 rfl
  have c1 := b0.cell 1 rfl
  have c2 := b0.cell 2 rfl
  have c3 := b0.cell 3 rfl
  have d0 := b1.cell 0 rfl
  have d1 := b1.cell 1 rfl
  have d2 := b1.cell 2 rfl
  have d3 := b1.cell 3 rfl
  go_enter Tryz.func41, Tryz.ntmps41
  go_wp2
  go_ret
  exact ⟨rfl, bW⟩
/-- The cells of the structs k of two lists. -/
def Kind.Two (g1 g2 k : Nat) (f : Nat → Int) (w : World) : Prop :=
  (w.cell? ⟨g1, k * 4, none⟩ = some (.int .i64 (f (k * 4))) ∧ w.cell? ⟨g1, k * 4 + 1, none⟩ = some (.int .i64 (f (k * 4 + 1))) ∧ w.cell? ⟨g1, k * 4 + 2, none⟩ = some (.int .i64 (f (k * 4 + 2))) ∧ w.cell? ⟨g1, k * 4 + 3, none⟩ = some (.int .i64 (f (k * 4 + 3)))) ∧
  (w.cell? ⟨g2, k * 4, none⟩ = some (.int .i64 (f (k * 4))) ∧ w.cell? ⟨g2, k * 4 + 1, none⟩ = some (.int .i64 (f (k * 4 + 1))) ∧ w.cell? ⟨g2, k * 4 + 2, none⟩ = some (.int .i64 (f (k * 4 + 2))) ∧ w.cell? ⟨g2, k * 4 + 3, none⟩ = some (.int .i64 (f (k * 4 + 3))))
theorem Kind.two_of {w : World} {g1 g2 n k : Nat} {f : Nat → Int} (h1 : Recs 4 w g1 n f) (h2 : Recs 4 w g2 n f) (hk : k < n) : Kind.Two g1 g2 k f w := ⟨Kind.open h1 k hk, Kind.open h2 k hk⟩
set_option maxRecDepth 100000 in
set_option maxHeartbeats 1600000 in
theorem eqKindS_true {w : World} {g1 g2 n c1 c2 : Nat} {f : Nat → Int} (h1 : Recs 4 w g1 n f) (h2 : Recs 4 w g2 n f) (hn : n ≤ 1048576) :
    Calls Tryz.prog 17 #[.slice (some ⟨g1, 0, none⟩) n c1, .slice (some ⟨g2, 0, none⟩) n c2] w fun e w' => e = .returned (.bool true) ∧ Below w.heap.size w w' := by
  have hn' : (n : Int) ≤ 1048576 := by omega
  go_enter Tryz.func17, Tryz.ntmps17
  go_wp2
  go_loopw [5] (fun s wr => ∃ k : Nat, k ≤ n ∧ s = .int .i64 k ∧ Below w.heap.size w wr) (fun s _ => n - (intOf s).toNat)
  case atStart => exact ⟨0, Nat.zero_le _, rfl, Below.refl _ _⟩
  case round =>
    obtain ⟨k, hk, rfl, B⟩ := hrel
    by_cases hlt : k < n
    · have hlt' : (k : Int) < (n : Int) := by omega
      have L1 := h1.below B
      have L2 := h2.below B
      go_wp2_with fail
      obtain ⟨u0, hu0, bb⟩ : ∃ u0, wr.drew = u0 ∧ Below wr.heap.size wr u0 := ⟨_, rfl, (Below.refl _ _).drew⟩
      replace L1 := L1.below bb
      replace L2 := L2.below bb
      replace B := B.trans (bb.mono B.size)
      clear bb
      refine wp_region_held_drew (S := Kind.Two g1 g2 k f) (by kernel_rfl) (by rw [hu0]; exact Kind.two_of L1 L2 hlt) (fun hHeld => ?_)
      rw [hu0] at hHeld ⊢
      clear hu0
      change wpAnyH _ _ _ _ _ 10 #[false, false, false, false, false, false, false, false, false, false] _ _
      refine wpAnyH_take (i := 0) (v := .slice (some ⟨g1, 0, none⟩) n c1) rfl (by kernel_rfl) (by kernel_rfl) (by kernel_rfl) (fun _ _ _ h => h) (Or.inl ⟨by kernel_rfl, ?_⟩) hHeld ?_
      · intro w' hSw; go_simp
      try simp only [Act.put, List.setIfInBounds_toArray, List.set_cons_zero]
      refine wpAnyH_take (i := 1) (v := .int .i64 (k : Int)) rfl (by kernel_rfl) (by kernel_rfl) (by kernel_rfl) (fun _ _ _ h => h) (Or.inl ⟨by kernel_rfl, ?_⟩) hHeld ?_
      · intro w' hSw; go_simp
      try simp only [Act.put, List.setIfInBounds_toArray, List.set_cons_zero, List.set_cons_succ]
      refine wpAnyH_take (i := 2) (v := .pointer (some ⟨g1, k * 4, none⟩)) rfl (by kernel_rfl) (by kernel_rfl) (by kernel_rfl) (fun _ _ _ h => h) (Or.inl ⟨by kernel_rfl, ?_⟩) hHeld ?_
      · intro w' hSw; go_simp
      try simp only [Act.put, List.setIfInBounds_toArray, List.set_cons_zero, List.set_cons_succ]
      refine wpAnyH_take (i := 3) (v := kindV (f (k * 4)) (f (k * 4 + 1)) (f (k * 4 + 2)) (f (k * 4 + 3))) rfl (by kernel_rfl) (by kernel_rfl) (by kernel_rfl) (fun _ _ _ h => h) (Or.inl ⟨by kernel_rfl, ?_⟩) hHeld ?_
      · intro w' hSw; obtain ⟨⟨z0, z1, z2, z3⟩, -⟩ := hSw; go_simp
      try simp only [Act.put, List.setIfInBounds_toArray, List.set_cons_zero, List.set_cons_succ]
      refine wpAnyH_take (i := 4) (v := .slice (some ⟨g2, 0, none⟩) n c2) rfl (by kernel_rfl) (by kernel_rfl) (by kernel_rfl) (fun _ _ _ h => h) (Or.inl ⟨by kernel_rfl, ?_⟩) hHeld ?_
      · intro w' hSw; go_simp
      try simp only [Act.put, List.setIfInBounds_toArray, List.set_cons_zero, List.set_cons_succ]
      refine wpAnyH_take (i := 5) (v := .int .i64 (k : Int)) rfl (by kernel_rfl) (by kernel_rfl) (by kernel_rfl) (fun _ _ _ h => h) (Or.inl ⟨by kernel_rfl, ?_⟩) hHeld ?_
      · intro w' hSw; go_simp
      try simp only [Act.put, List.setIfInBounds_toArray, List.set_cons_zero, List.set_cons_succ]
      refine wpAnyH_take (i := 6) (v := .pointer (some ⟨g2, k * 4, none⟩)) rfl (by kernel_rfl) (by kernel_rfl) (by kernel_rfl) (fun _ _ _ h => h) (Or.inl ⟨by kernel_rfl, ?_⟩) hHeld ?_
      · intro w' hSw; go_simp
      try simp only [Act.put, List.setIfInBounds_toArray, List.set_cons_zero, List.set_cons_succ]
      refine wpAnyH_take (i := 7) (v := kindV (f (k * 4)) (f (k * 4 + 1)) (f (k * 4 + 2)) (f (k * 4 + 3))) rfl (by kernel_rfl) (by kernel_rfl) (by kernel_rfl) (fun _ _ _ h => h) (Or.inl ⟨by kernel_rfl, ?_⟩) hHeld ?_
      · intro w' hSw; obtain ⟨-, z0, z1, z2, z3⟩ := hSw; go_simp
      try simp only [Act.put, List.setIfInBounds_toArray, List.set_cons_zero, List.set_cons_succ]
      refine wpAnyH_ready (rs := [8]) (by kernel_rfl) (by simp) ?_
      refine AllReadyH.cons rfl (fun KK hK' => ?_) AllReadyH.nil
      go_simp
      refine (eqKind_any _ _ _ _ _).mono ?_
      rintro e u1 ⟨rfl, bb⟩
      replace L1 := L1.below bb
      replace L2 := L2.below bb
      replace B := B.trans (bb.mono B.size)
      clear bb
      try go_wp2_with fail
      clear hHeld
      refine hK'.out _ _ (Kind.two_of L1 L2 hlt) (fun hHeld => ?_)
      clear hK' KK
      try simp only [List.setIfInBounds_toArray, List.set_cons_zero, List.set_cons_succ]
      refine wpAnyH_ready (rs := [9]) (by kernel_rfl) (by simp) ?_
      refine AllReadyH.cons rfl (fun KK hK' => ?_) AllReadyH.nil
      go_simp
      clear hHeld
      refine hK'.out _ _ (Kind.two_of L1 L2 hlt) (fun hHeld => ?_)
      clear hK' KK
      try simp only [List.setIfInBounds_toArray, List.set_cons_zero, List.set_cons_succ]
      clear hHeld L1 L2
      refine wpAnyH_done (by kernel_rfl) ?_ _
      go_wp2
      exact ⟨⟨k + 1, by omega, by go_num, B⟩, by simp [intOf]; omega⟩
    · have hlt' : ¬ (k : Int) < (n : Int) := by omega
      go_wp2
      go_ret
      exact ⟨rfl, B⟩
set_option maxRecDepth 100000 in
set_option maxHeartbeats 3200000 in
theorem markKindS_any {w : World} {g n c : Nat} (l : Int) (hl : 0 ≤ l ∧ l ≤ 100000000) (h : RoomK 4 36 w g n) (hn : n ≤ 1048576) :
    Calls Tryz.prog 20 #[.slice (some ⟨g, 0, none⟩) n c, .int .i64 l] w fun e w' => e = .returned (.int .i64 (l + 4 * (n : Int))) ∧ Kept g w w' := by
  have hn' : (n : Int) ≤ 1048576 := by omega
  go_enter Tryz.func20, Tryz.ntmps20
  go_wp2
  go_loopw [1, 5] (fun s t wr => ∃ k : Nat, k ≤ n ∧ s = .int .i64 (l + 4 * (k : Int)) ∧ t = .int .i64 (k : Int) ∧ RoomK 4 36 wr g n ∧ Kept g w wr) (fun _ t _ => n - (intOf t).toNat)
  case atStart => exact ⟨0, Nat.zero_le _, by simp, rfl, h, Kept.refl _ _⟩
  case round =>
    clear h
    obtain ⟨k, hk', rfl, rfl, h, hK⟩ := hrel
    by_cases hk : k < n
    · have hklt : (k : Int) < (n : Int) := by omega
      obtain ⟨X, hX⟩ : ∃ X : Int, l + 4 * (k : Int) = X := ⟨_, rfl⟩
      have hX1 : 0 ≤ X ∧ X ≤ 200000000 := by omega
      obtain ⟨c0, f0⟩ := h.cell (i := k * 4) (by omega)
      obtain ⟨V1, hV1⟩ : ∃ V, wr.setCell ⟨g, k * 4, none⟩ (.int .i64 (X)) = V := ⟨_, rfl⟩
      have h1 : RoomK 4 36 V1 g n := by rw [← hV1]; exact h.set _ _
      have K1 : Kept g w V1 := by rw [← hV1]; exact hK.set _
      obtain ⟨c1, f1⟩ := h1.cell (i := k * 4 + 1) (by omega)
      obtain ⟨V2, hV2⟩ : ∃ V, V1.setCell ⟨g, k * 4 + 1, none⟩ (.int .i64 (X + 1)) = V := ⟨_, rfl⟩
      have h2 : RoomK 4 36 V2 g n := by rw [← hV2]; exact h1.set _ _
      have K2 : Kept g w V2 := by rw [← hV2]; exact K1.set _
      obtain ⟨c2, f2⟩ := h2.cell (i := k * 4 + 2) (by omega)
      obtain ⟨V3, hV3⟩ : ∃ V, V2.setCell ⟨g, k * 4 + 2, none⟩ (.int .i64 (X + 2)) = V := ⟨_, rfl⟩
      have h3 : RoomK 4 36 V3 g n := by rw [← hV3]; exact h2.set _ _
      have K3 : Kept g w V3 := by rw [← hV3]; exact K2.set _
      obtain ⟨c3, f3⟩ := h3.cell (i := k * 4 + 3) (by omega)
      have w1 : IntKind.i64.wrap (X + 1) = X + 1 := by rw [IntKind.wrap_i64]; omega
      have w2 : IntKind.i64.wrap (X + 1 + 1) = X + 2 := by rw [IntKind.wrap_i64]; omega
      have w3 : IntKind.i64.wrap (X + 2 + 1) = X + 3 := by rw [IntKind.wrap_i64]; omega
      have w4 : IntKind.i64.wrap (X + 3 + 1) = X + 4 := by rw [IntKind.wrap_i64]; omega
      rw [hX]
      go_wp2
      refine ⟨⟨k + 1, by omega, ?_, by go_num, h3.set _ _, K3.set _⟩, by simp [intOf]; omega⟩
      rw [show l + 4 * ((k + 1 : Nat) : Int) = X + 4 by omega]
    · have hklt : ¬ (k : Int) < (n : Int) := by omega
      obtain rfl : k = n := by omega
      go_wp2
      go_ret
      exact ⟨rfl, hK⟩
end Go.Proofs.YtfmbljmcdidocaaGreat
/-
  The library's sort at kinds: its contract laid over this program.
-/
namespace Go.Proofs.YtfmbljmcdidocaaGreat
open Go.RowKit Go.Shelf Go.Sort Go.Lib

/-- Kinds lie in block g. -/
def C4 (w : World) (g c : Nat) (d : Array Q4Kn) : Prop := ∃ cur, At 36 w g cur ∧ cur.size = c * 4 ∧ ∀ i, i < d.size → cur[i * 4]? = some (.int .i64 d[i]!.1) ∧ cur[i * 4 + 1]? = some (.int .i64 d[i]!.2.1) ∧ cur[i * 4 + 2]? = some (.int .i64 d[i]!.2.2.1) ∧ cur[i * 4 + 3]? = some (.int .i64 d[i]!.2.2.2)
def sortRK : Go.Shelf.Ren := ⟨fun | 6 => 34 | 15 => 59 | 14 => 58 | 28 => 91 | 29 => 92 | 20 => 83 | 21 => 84 | 22 => 85 | 23 => 86 | 24 => 87 | 25 => 88 | 26 => 89 | 27 => 90 | 46 => 108 | 47 => 109 | 48 => 110 | 49 => 111 | 50 => 112 | 57 => 119 | n => n, fun | 22 => 33 | 24 => 36 | 25 => 65 | 3 => 3 | 39 => 88 | 0 => 0 | 53 => 119 | 55 => 121 | 4 => 4 | 46 => 112 | 45 => 111 | 50 => 116 | 5 => 5 | 9 => 9 | 66 => 139 | 70 => 143 | 76 => 151 | 77 => 152 | n => n, fun | n => n⟩
theorem sortLK : Go.Proofs.SlLaysF0.n6 Tryz.prog sortRK := {
  mixed := by kernel_rfl,
  f6 := ⟨Tryz.f34.name, by decide, Tryz.func34.trans (congrArg some (by kernel_rfl))⟩,
  f14 := ⟨Tryz.f58.name, by decide, Tryz.func58.trans (congrArg some (by kernel_rfl))⟩,
  f15 := Tryz.func59.trans (congrArg some (by kernel_rfl)),
  f20 := ⟨Tryz.f83.name, by decide, Tryz.func83.trans (congrArg some (by kernel_rfl))⟩,
  f21 := ⟨Tryz.f84.name, by decide, Tryz.func84.trans (congrArg some (by kernel_rfl))⟩,
  f22 := ⟨Tryz.f85.name, by decide, Tryz.func85.trans (congrArg some (by kernel_rfl))⟩,
  f23 := ⟨Tryz.f86.name, by decide, Tryz.func86.trans (congrArg some (by kernel_rfl))⟩,
  f24 := ⟨Tryz.f87.name, by decide, Tryz.func87.trans (congrArg some (by kernel_rfl))⟩,
  f25 := ⟨Tryz.f88.name, by decide, Tryz.func88.trans (congrArg some (by kernel_rfl))⟩,
  f26 := ⟨Tryz.f89.name, by decide, Tryz.func89.trans (congrArg some (by kernel_rfl))⟩,
  f27 := ⟨Tryz.f90.name, by decide, Tryz.func90.trans (congrArg some (by kernel_rfl))⟩,
  f28 := Tryz.func91.trans (congrArg some (by kernel_rfl)),
  f29 := Tryz.func92.trans (congrArg some (by kernel_rfl)),
  f46 := ⟨Tryz.f108.name, by decide, Tryz.func108.trans (congrArg some (by kernel_rfl))⟩,
  f47 := Tryz.func109.trans (congrArg some (by kernel_rfl)),
  f48 := Tryz.func110.trans (congrArg some (by kernel_rfl)),
  f49 := ⟨Tryz.f111.name, by decide, Tryz.func111.trans (congrArg some (by kernel_rfl))⟩,
  f50 := ⟨Tryz.f112.name, by decide, Tryz.func112.trans (congrArg some (by kernel_rfl))⟩,
  f57 := ⟨Tryz.f119.name, by decide, Tryz.func119.trans (congrArg some (by kernel_rfl))⟩,
  t0 := Tryz.underlying0,
  a0 := Tryz.isAgg0,
  z0 := Tryz.sizeOf0,
  v0 := Tryz.zeroValue0,
  t3 := Tryz.underlying3,
  a3 := Tryz.isAgg3,
  z3 := Tryz.sizeOf3,
  v3 := Tryz.zeroValue3,
  t4 := Tryz.underlying4,
  a4 := Tryz.isAgg4,
  z4 := Tryz.sizeOf4,
  v4 := Tryz.zeroValue4,
  t5 := Tryz.underlying5,
  a5 := Tryz.isAgg5,
  z5 := Tryz.sizeOf5,
  v5 := Tryz.zeroValue5,
  t9 := Tryz.underlying9,
  a9 := Tryz.isAgg9,
  z9 := Tryz.sizeOf9,
  v9 := Tryz.zeroValue9,
  t22 := Tryz.underlying33,
  a22 := Tryz.isAgg33,
  z22 := Tryz.sizeOf33,
  v22 := Tryz.zeroValue33,
  t25 := Tryz.underlying65,
  a25 := Tryz.isAgg65,
  z25 := Tryz.sizeOf65,
  v25 := Tryz.zeroValue65,
  t39 := Tryz.underlying88,
  a39 := Tryz.isAgg88,
  z39 := Tryz.sizeOf88,
  v39 := Tryz.zeroValue88,
  t45 := Tryz.underlying111,
  a45 := Tryz.isAgg111,
  z45 := Tryz.sizeOf111,
  v45 := Tryz.zeroValue111,
  t46 := Tryz.underlying112,
  a46 := Tryz.isAgg112,
  z46 := Tryz.sizeOf112,
  v46 := Tryz.zeroValue112,
  t50 := Tryz.underlying116,
  a50 := Tryz.isAgg116,
  z50 := Tryz.sizeOf116,
  v50 := Tryz.zeroValue116,
  t53 := Tryz.underlying119,
  a53 := Tryz.isAgg119,
  z53 := Tryz.sizeOf119,
  v53 := Tryz.zeroValue119,
  t55 := Tryz.underlying121,
  a55 := Tryz.isAgg121,
  z55 := Tryz.sizeOf121,
  v55 := Tryz.zeroValue121,
  t66 := Tryz.underlying139,
  a66 := Tryz.isAgg139,
  z66 := Tryz.sizeOf139,
  v66 := Tryz.zeroValue139,
  t70 := Tryz.underlying143,
  a70 := Tryz.isAgg143,
  z70 := Tryz.sizeOf143,
  v70 := Tryz.zeroValue143,
  t76 := Tryz.underlying151,
  a76 := Tryz.isAgg151,
  z76 := Tryz.sizeOf151,
  v76 := Tryz.zeroValue151,
  t77 := Tryz.underlying152,
  a77 := Tryz.isAgg152,
  z77 := Tryz.sizeOf152,
  v77 := Tryz.zeroValue152 }
theorem C4.cellT {w : World} {g c : Nat} {d : Array Q4Kn} (h : C4 w g c d) {t : Nat} (ht : t < d.size * 4) : w.cell? ⟨g, t, none⟩ = some (.int .i64 (t4f d[t / 4]! (t % 4))) := by
  obtain ⟨cur, a, hs, hd⟩ := h
  have hi : t / 4 < d.size := by omega
  obtain ⟨p0, p1, p2, p3⟩ := hd (t / 4) hi
  rcases (by omega : t % 4 = 0 ∨ t % 4 = 1 ∨ t % 4 = 2 ∨ t % 4 = 3) with e | e | e | e <;> rw [e]
  · have := a.cell _ p0
    rwa [show t / 4 * 4 = t by omega] at this
  · have := a.cell _ p1
    rwa [show t / 4 * 4 + 1 = t by omega] at this
  · have := a.cell _ p2
    rwa [show t / 4 * 4 + 2 = t by omega] at this
  · have := a.cell _ p3
    rwa [show t / 4 * 4 + 3 = t by omega] at this
theorem holdsK4 {w : World} {g c : Nat} {d : Array Q4Kn} (h : C4 w g c d) : HoldsK e4 4 w g 0 d := by
  intro t ht
  rw [size_flatK] at ht
  rw [get_flatK _ _ _ _ ht, e4_get _ _ (by omega)]
  have h1 := h.cellT ht
  obtain ⟨cur, a, -⟩ := h
  exact ⟨by rw [Nat.zero_add]; exact h1, a.frozen _⟩
theorem sortedK4 {w : World} {g c m : Nat} {d d' : Array Q4Kn} {os : Array Obj} (h : C4 w g c d) (hs : d'.size = d.size) (hc : d.size ≤ c) : C4 (sortWorldK e4 4 w g 0 m d' os) g c d' ∧ Kept g w (sortWorldK e4 4 w g 0 m d' os) := by
  obtain ⟨cur, hh, hsz, hd⟩ := h
  have hlt : g < w.heap.size := hh.lt
  have hg : (sortWorldK e4 4 w g 0 m d' os).heap[g]? = some (.cells (putCells id 0 (flatK e4 4 d') cur) 36 (0, 0)) := by
    unfold sortWorldK grow putRowK putRow mapBlock Go.Sort.ahead
    dsimp only
    rw [Array.getElem?_append_left (by simpa using hlt), Array.getElem?_modify, hh]
    simp [onCells]
  have hc3 : d.size * 4 ≤ c * 4 := Nat.mul_le_mul_right 4 hc
  refine ⟨⟨_, hg, by simpa [putCells] using hsz, fun i hi => ?_⟩, ?_⟩
  · have hsf : (flatK e4 4 d').size = d'.size * 4 := by rw [size_flatK]
    have get : ∀ t, t < d'.size * 4 → (putCells id 0 (flatK e4 4 d') cur)[t]? = some (.int .i64 (t4f d'[t / 4]! (t % 4))) := fun t ht => by
      have hl : t < cur.size := by omega
      have hfl := get_flatK e4 4 d' t ht
      simp only [putCells, Array.getElem?_mapIdx, Array.getElem?_eq_getElem hl, Option.map_some]
      rw [if_pos ⟨Nat.zero_le _, by omega⟩, Nat.sub_zero, hfl, e4_get _ _ (by omega)]
      rfl
    have g0 := get (i * 4) (by omega)
    have g1 := get (i * 4 + 1) (by omega)
    have g2 := get (i * 4 + 2) (by omega)
    have g3 := get (i * 4 + 3) (by omega)
    rw [show i * 4 / 4 = i by omega, show i * 4 % 4 = 0 by omega] at g0
    rw [show (i * 4 + 1) / 4 = i by omega, show (i * 4 + 1) % 4 = 1 by omega] at g1
    rw [show (i * 4 + 2) / 4 = i by omega, show (i * 4 + 2) % 4 = 2 by omega] at g2
    rw [show (i * 4 + 3) / 4 = i by omega, show (i * 4 + 3) % 4 = 3 by omega] at g3
    exact ⟨g0, g1, g2, g3⟩
  · refine ⟨rfl, rfl, rfl, ?_, fun k hk hne => ?_⟩
    · unfold sortWorldK grow putRowK putRow mapBlock Go.Sort.ahead
      simp
    · unfold sortWorldK grow putRowK putRow mapBlock Go.Sort.ahead
      dsimp only
      rw [Array.getElem?_append_left (by simpa using hk), Array.getElem?_modify, if_neg (fun e => hne (by rw [e]))]
theorem cmpLaysK4 (blk off size : Nat) (w : World) : CmpLays Tryz.prog 35 #[] e4 4 c4 blk off size w := by
  intro m os dk _ x y
  exact cmpK_any x y (sortWorldK e4 4 w blk off m dk os)
theorem sortK4_any {w : World} {g c n : Nat} {d : Array Q4Kn} (h : C4 w g c d) (hd : d.size = n) (hn : n ≤ 1000) (hc : n ≤ c) :
    Calls Tryz.prog 34 #[.slice (some ⟨g, 0, none⟩) n c, .func (.func 35) #[] #[]] w fun e w' => e = .returned (.tuple #[]) ∧ (∃ d' : Array Q4Kn, d'.size = n ∧ d'.toList.Perm d.toList ∧ (∀ i j, i < j → j < n → ¬ c4 d'[j]! d'[i]! < 0) ∧ C4 w' g c d') ∧ Kept g w w' := by
  obtain ⟨cur, a, -⟩ := id h
  have hlt := a.lt
  have eg : ∀ args w, (callFunc 35 args).run Tryz.prog w = .ok (.enter 35 args) w := enters_of Tryz.func35 (by kernel_rfl) rfl
  have hr := AnyQ.slices_SortFunc sortLK 4 Tryz.isAgg36 Tryz.sizeOf36 e4 (fun _ => rfl) e4_one c4 c4_swo 35 #[] g 0 c d w eg (cmpLaysK4 g 0 d.size w) (holdsK4 h) hlt (by omega)
  rw [hd] at hr
  refine hr.mono ?_
  rintro e w' ⟨rfl, d', m, os, hp, hso, rfl⟩
  have hd' : d'.size = n := hp.1.trans hd
  obtain ⟨h1, h2⟩ := sortedK4 (m := m) (os := os) h (hd'.trans hd.symm) (by omega)
  refine ⟨rfl, ⟨d', hd', ?_, fun i j hij hj hlt => ?_, h1⟩, h2⟩
  · have e1 : ∀ x : Array Q4Kn, x.size = n → (x.extract 0 n).toList = x.toList := fun x hx => by
      have := Array.extract_size (xs := x)
      rw [hx] at this
      rw [this]
    have := hp.2.2
    rwa [e1 d' hd', e1 d hd] at this
  · have := hso i j (Nat.zero_le _) hij hj
    unfold ltOf at this
    rw [decide_eq_false_iff_not] at this
    exact this hlt
end Go.Proofs.YtfmbljmcdidocaaGreat
