/-
  A map whose keys are texts and whose values are numbers; the range over it. No function of the program.
-/
import Derived.Test.YtnkmiljnilmicaaRows
import Derived.Test.YtnkmiljnilmicaaKit
import Derived.Maps.Own
import Derived.Maps.OwnOps
import Derived.Maps.RangeRun
import Derived.Maps.RangeWalk
import Derived.DeepKeys4
import Derived.StringKeys
namespace Go.Proofs.Ytnkmiljnilmicaa
open Go.RowKit Go.ChangeShapes Go.WideShapes Go.MapKept
open Go.ChangeMaps (setBlock heap_setBlock_same heap_setBlock_other)
open Go.WideElems (Fit rd rg pl rd_mk)

abbrev QI := ByteArray
/-- A key as a value. -/
def aVI (x : QI) : Value := .string x
theorem aVI_inj {x y : QI} : aVI x = aVI y ↔ x = y := by simp [aVI]
theorem keyedI : Go.Maps.Keyed Try.prog 9 := Go.Maps.string_keyed Try.underlying9
def smI (x : QI) : Prop := x.size ≤ 1000000
theorem keyI {x : QI} (h : smI x) : ∃ l, keyOf Try.prog 9 (aVI x) = some l := ⟨_, Go.WideMaps.keyOf_string_mk Try.underlying9 (Nat.le_trans h (by unfold maxLen; omega))⟩
/-- How a value of the map reads. -/
noncomputable def REI : Value → Option (DataW Unit × List MemPlace) := plainElem Try.prog 2
theorem reI {n : Int} (h : (Lit.int .i64 n).wf = true) : REI (.int .i64 n) = some (.lit (.int .i64 n), []) := by
  unfold REI plainElem
  rw [Try.underlying2]
  simp [h]
/-- Key and value of an entry. -/
def kvI (F : QI → Int) (x : QI) : Value × Value := (aVI x, .int .i64 (F x))
/-- Block b is a map with these keys and values. -/
def MapI (w : World) (b : Nat) (ks : List QI) (F : QI → Int) : Prop :=
  ∃ es clock, w.heap[b]? = some (.map es clock) ∧ Fit Try.prog 9 REI es clock ∧ es.toList.map (fun e => (e.key, e.val)) = ks.map (kvI F) ∧ ∀ y, y ∉ ks → F y = 0
theorem MapI.lt {w : World} {b : Nat} {ks : List QI} {F : QI → Int} (h : MapI w b ks F) : b < w.heap.size := by
  obtain ⟨es, clock, hb, -⟩ := h
  exact (Array.getElem?_eq_some_iff.1 hb).1
theorem MapI.of_block {w w' : World} {b : Nat} {ks : List QI} {F : QI → Int} (h : MapI w b ks F) (hb : w'.heap[b]? = w.heap[b]?) : MapI w' b ks F := by
  obtain ⟨es, clock, h1, h2⟩ := h
  exact ⟨es, clock, hb.trans h1, h2⟩
theorem MapI.below {w w' : World} {b : Nat} {ks : List QI} {F : QI → Int} (h : MapI w b ks F) (hb : Below w.heap.size w w') : MapI w' b ks F := h.of_block (hb.block b h.lt)
theorem MapI.ne_at {t : TypeId} {w : World} {b q : Nat} {ks : List QI} {F : QI → Int} {vs : Array Value} (h : MapI w b ks F) (a : At t w q vs) : q ≠ b := by
  rintro rfl
  obtain ⟨es, clock, hb, -⟩ := h
  have := hb.symm.trans a
  simp at this
theorem keysI {es : Array MapEntry} {ks : List QI} {F : QI → Int} (h : es.toList.map (fun e => (e.key, e.val)) = ks.map (kvI F)) : es.toList.map (·.key) = ks.map aVI := by
  have := congrArg (List.map Prod.fst) h
  simpa [List.map_map, Function.comp_def, kvI] using this
theorem MapI.nodup {w : World} {b : Nat} {ks : List QI} {F : QI → Int} (h : MapI w b ks F) : ks.Nodup := by
  obtain ⟨es, clock, h1, h2, h3, -⟩ := h
  have h4 := h2.stamped.2.2
  rw [keysI h3] at h4
  exact List.Pairwise.of_map aVI (fun a b hne e => hne (by rw [e])) h4
theorem undI : Try.prog.underlying 40 = some (.map 9 2) := by kernel_rfl
set_option maxRecDepth 100000 in
/-- What stands at a key; nought where it is not there. -/
theorem MapI.look {w : World} {b : Nat} {ks : List QI} {F : QI → Int} {x : QI} (h : MapI w b ks F) (hk : smI x) :
    (Instr.lookup 40 (.map (some b)) (aVI x) false).run Try.prog w = .ok (.int .i64 (F x)) w := by
  obtain ⟨l, hl⟩ := keyI hk
  obtain ⟨es, clock, h1, h2, h3, h4⟩ := h
  have hz : (zeroValue 2).run Try.prog w = .ok (.int .i64 0) w := by kernel_rfl
  rcases Go.Maps.fit_look false keyedI undI hz h1 h2 hl with ⟨hr, hn, -⟩ | ⟨e0, y, hm0, he, hr, -⟩
  · have : x ∉ ks := fun hx => by
      have h5 : aVI x ∈ es.toList.map (·.key) := by rw [keysI h3]; exact List.mem_map_of_mem hx
      obtain ⟨e, hm, hke⟩ := List.mem_map.1 h5
      exact hn e hm hke
    rw [hr, h4 x this]
    rfl
  · have h5 : (e0.key, e0.val) ∈ ks.map (kvI F) := by rw [← h3]; exact List.mem_map.2 ⟨e0, hm0, rfl⟩
    obtain ⟨y', -, ep⟩ := List.mem_map.1 h5
    simp only [kvI, Prod.mk.injEq] at ep
    have : y' = x := aVI_inj.1 (ep.1.trans he)
    subst this
    rw [hr, ← ep.2]
    rfl
def setI (F : QI → Int) (x : QI) (n : Int) (y : QI) : Int := if y = x then n else F y
theorem mem_modI {l : List MapEntry} {j : Nat} {f : MapEntry → MapEntry} {x : MapEntry} (hx : x ∈ l.modify j f) : x ∈ l ∨ ∃ e, l[j]? = some e ∧ x = f e := by
  obtain ⟨i, hi⟩ := List.getElem?_of_mem hx
  rw [List.getElem?_modify] at hi
  by_cases e : j = i
  · subst e
    simp only [if_true, Option.map_eq_map] at hi
    cases hl : l[j]? with
    | none => rw [hl] at hi; cases hi
    | some e0 =>
      rw [hl] at hi
      exact .inr ⟨e0, rfl, by simpa using hi.symm⟩
  · simp only [if_neg e, Option.map_eq_map, Option.map_id'] at hi
    exact .inl (List.mem_of_getElem? (by simpa using hi))
set_option maxRecDepth 100000 in
/-- A value is laid at a key. -/
theorem MapI.put {w : World} {b : Nat} {ks : List QI} {F : QI → Int} {x : QI} {n : Int} (h : MapI w b ks F) (hk : smI x) (hn : (Lit.int .i64 n).wf = true) (hroom : ks.length < maxLen) :
    ∃ w' ks', (Instr.mapUpdate 40 (.map (some b)) (aVI x) (.int .i64 n)).run Try.prog w = .ok () w' ∧ MapI w' b ks' (setI F x n) ∧ (∀ y, y ∈ ks' ↔ y ∈ ks ∨ y = x) ∧ ks'.length ≤ ks.length + 1 ∧ w.grownBy w' (some b) ∧ w'.heap.size = w.heap.size := by
  have hnd := h.nodup
  obtain ⟨l, hl⟩ := keyI hk
  obtain ⟨es, clock, h1, h2, h3, h4⟩ := h
  have hv := reI hn
  have hes : es.size = ks.length := by have := congrArg List.length h3; simpa using this
  rcases keyedI.find w hl es.toList h2.keys with ⟨f1, f2⟩ | ⟨j, e0, f1, f2, f3⟩
  · have hno : ∀ y ∈ es.toList, y.key ≠ aVI x := fun y hy e => f2 y hy (by rw [e])
    have hnew : x ∉ ks := fun hx => by
      have h5 : aVI x ∈ es.toList.map (·.key) := by rw [keysI h3]; exact List.mem_map_of_mem hx
      obtain ⟨e, hm, hke⟩ := List.mem_map.1 h5
      exact hno e hm hke
    refine ⟨setBlock w b (.map (es.push ⟨aVI x, .int .i64 n, clock⟩) (clock + 1)), ks ++ [x], ?_, ⟨_, _, heap_setBlock_same h1 _, ⟨by simp; omega, stamped_push h2.stamped hno, ?_⟩, ?_, ?_⟩, fun y => by simp, by simp, ⟨rfl, rfl, rfl, by simp [setBlock], fun i _ hi => heap_setBlock_other h1 _ (fun e => hi (by rw [e]))⟩, by simp [setBlock]⟩
    · simp [Instr.mapUpdate, run_underlying undI, MapKept.run_getObj_map h1, keyedI.check w false hl, f1, MapKept.run_setObj_map _ h1, Result.andThen, setBlock]
    · intro y hy
      simp only [Array.toList_push, List.mem_append, List.mem_singleton] at hy
      rcases hy with hy | rfl
      · exact h2.reads y hy
      · exact ⟨_, rd_mk hl hv⟩
    · rw [Array.toList_push, List.map_append, h3, List.map_append]
      congr 1
      · exact List.map_congr_left (fun y hy => by
        have hyx : y ≠ x := by rintro rfl; exact hnew hy
        simp [kvI, setI, hyx])
      · simp [kvI, setI]
    · intro y hy
      have hy2 : y ∉ ks ∧ y ≠ x := by simpa [not_or] using hy
      unfold setI
      rw [if_neg hy2.2]
      exact h4 y hy2.1
  · have hj : es[j]? = some e0 := by simpa using f2
    have hkeyf : ∀ e', es[j]? = some e' → ({ e' with key := aVI x, val := .int .i64 n } : MapEntry).key = e'.key := fun e' he' => by rw [hj] at he'; cases he'; exact f3.symm
    have hat : ∀ i : Nat, (es.toList[i]?).map (fun e => (e.key, e.val)) = (ks[i]?).map (kvI F) := fun i => by
      have := congrArg (fun l => l[i]?) h3
      simpa [List.getElem?_map] using this
    have hks : ks[j]? = some x := by
      have h5 := hat j
      rw [f2] at h5
      cases hq : ks[j]? with
      | none => rw [hq] at h5; cases h5
      | some y =>
        rw [hq] at h5
        simp only [Option.map_some, Option.some.injEq, kvI, Prod.mk.injEq] at h5
        rw [aVI_inj.1 (h5.1.symm.trans f3)]
    refine ⟨setBlock w b (.map (es.modify j (fun e' => { e' with key := aVI x, val := .int .i64 n })) clock), ks, ?_, ⟨_, _, heap_setBlock_same h1 _, ⟨by simpa using h2.size, stamped_modify h2.stamped _ _ (fun _ _ => rfl) (fun e' _ he' => hkeyf e' he'), fun y hy => ?_⟩, ?_, ?_⟩, fun y => ⟨.inl, fun e => by rcases e with e | e; exact e; exact e ▸ List.mem_of_getElem? hks⟩, by omega, ⟨rfl, rfl, rfl, by simp [setBlock], fun i _ hi => heap_setBlock_other h1 _ (fun e => hi (by rw [e]))⟩, by simp [setBlock]⟩
    · simp [Instr.mapUpdate, run_underlying undI, MapKept.run_getObj_map h1, keyedI.check w false hl, f1, hj, f3, keyedI.stays w hl, MapKept.run_setObj_map _ h1, Result.andThen, setBlock]
    · rw [Array.toList_modify] at hy
      rcases mem_modI hy with hy | ⟨e, -, rfl⟩
      · exact h2.reads y hy
      · exact ⟨_, rd_mk hl hv⟩
    · rw [Array.toList_modify]
      refine List.ext_getElem? fun i => ?_
      rw [List.getElem?_map, List.getElem?_modify, List.getElem?_map]
      by_cases e : j = i
      · subst e
        rw [f2, hks]
        simp [kvI, setI]
      · have h5 := hat i
        simp only [if_neg e, Option.map_eq_map, Option.map_id']
        rw [h5]
        cases hq : ks[i]? with
        | none => rfl
        | some y =>
          have hyx : y ≠ x := by
            rintro rfl
            obtain ⟨a1, a2⟩ := List.getElem?_eq_some_iff.1 hks
            obtain ⟨b1, b2⟩ := List.getElem?_eq_some_iff.1 hq
            exact e ((List.getElem_inj hnd).1 (a2.trans b2.symm))
          simp [kvI, setI, hyx]
    · intro y hy
      have hyx : y ≠ x := by rintro rfl; exact hy (List.mem_of_getElem? hks)
      unfold setI
      rw [if_neg hyx]
      exact h4 y hy
set_option maxRecDepth 100000 in
/-- A key is taken out. -/
theorem MapI.drop {ty : TypeId} {w : World} {b : Nat} {ks : List QI} {F : QI → Int} {x : QI} (h : MapI w b ks F) (hk : smI x) :
    ∃ w' ks', (Builtin.delete_ #[40, 9] ty #[.map (some b), aVI x]).run Try.prog w = .ok (.tuple #[]) w' ∧ MapI w' b ks' (setI F x 0) ∧ (∀ y, y ∈ ks' → y ∈ ks) ∧ ks'.length ≤ ks.length ∧ w.grownBy w' (some b) ∧ w'.heap.size = w.heap.size := by
  have hnd := h.nodup
  obtain ⟨l, hl⟩ := keyI hk
  obtain ⟨es, clock, h1, h2, h3, h4⟩ := h
  rcases keyedI.find w hl es.toList h2.keys with ⟨f1, f2⟩ | ⟨j, e0, f1, f2, f3⟩
  · have hno : x ∉ ks := fun hx => by
      have h5 : aVI x ∈ es.toList.map (·.key) := by rw [keysI h3]; exact List.mem_map_of_mem hx
      obtain ⟨e, hm, hke⟩ := List.mem_map.1 h5
      exact f2 e hm (by rw [hke])
    have hF : setI F x 0 = F := by
      funext y
      unfold setI
      split
      · rename_i e
        rw [e, h4 x hno]
      · rfl
    refine ⟨setBlock w b (.map es clock), ks, ?_, ?_, fun y hy => hy, Nat.le_refl _, ⟨rfl, rfl, rfl, by simp [setBlock], fun i _ hi => heap_setBlock_other h1 _ (fun e => hi (by rw [e]))⟩, by simp [setBlock]⟩
    · simp [Builtin.delete_, run_underlying undI, MapKept.run_getObj_map h1, keyedI.check w _ hl, f1, MapKept.run_setObj_map _ h1, Result.andThen, setBlock]
    · rw [hF]
      exact ⟨es, clock, heap_setBlock_same h1 _, h2, h3, h4⟩
  · have hjl : j < es.toList.length := (List.getElem?_eq_some_iff.1 f2).1
    have hjs : j < es.size := by simpa using hjl
    have hsub : (es.eraseIdxIfInBounds j).toList = es.toList.eraseIdx j := by
      unfold Array.eraseIdxIfInBounds
      rw [dif_pos hjs]
      simp
    have hks : ks[j]? = some x := by
      have h5 := congrArg (fun l => l[j]?) h3
      simp only [List.getElem?_map] at h5
      rw [f2] at h5
      cases hq : ks[j]? with
      | none => rw [hq] at h5; cases h5
      | some y =>
        rw [hq] at h5
        simp only [Option.map_some, Option.some.injEq, kvI, Prod.mk.injEq] at h5
        rw [aVI_inj.1 (h5.1.symm.trans f3)]
    obtain ⟨hkl, hkj⟩ := List.getElem?_eq_some_iff.1 hks
    have hmem : ∀ y, y ∈ ks.eraseIdx j → y ∈ ks ∧ y ≠ x := fun y hy => by
      refine ⟨(List.eraseIdx_sublist _ _).subset hy, ?_⟩
      rintro rfl
      obtain ⟨i, hi1, hi2, e⟩ := List.mem_eraseIdx_iff_getElem.1 hy
      exact hi2 ((List.getElem_inj hnd).1 (e.trans hkj.symm))
    refine ⟨setBlock w b (.map (es.eraseIdxIfInBounds j) clock), ks.eraseIdx j, ?_, ⟨_, _, heap_setBlock_same h1 _, ⟨Nat.le_trans (MapFrom.size_erase es j) h2.size, stamped_erase h2.stamped j, ?_⟩, ?_, ?_⟩, fun y hy => (hmem y hy).1, (List.eraseIdx_sublist _ _).length_le, ⟨rfl, rfl, rfl, by simp [setBlock], fun i _ hi => heap_setBlock_other h1 _ (fun e => hi (by rw [e]))⟩, by simp [setBlock]⟩
    · simp [Builtin.delete_, run_underlying undI, MapKept.run_getObj_map h1, keyedI.check w _ hl, f1, MapKept.run_setObj_map _ h1, Result.andThen, setBlock]
    · intro y hy
      rw [hsub] at hy
      exact h2.reads y ((List.eraseIdx_sublist _ _).subset hy)
    · rw [hsub]
      refine List.ext_getElem? fun i => ?_
      have hat : ∀ i : Nat, (es.toList[i]?).map (fun e => (e.key, e.val)) = (ks[i]?).map (kvI F) := fun i => by
        have := congrArg (fun l => l[i]?) h3
        simpa [List.getElem?_map] using this
      rw [List.getElem?_map, List.getElem?_map, List.getElem?_eraseIdx, List.getElem?_eraseIdx]
      have hap : ∀ m : Nat, m ≠ j → (ks[m]?).map (kvI F) = (ks[m]?).map (kvI (setI F x 0)) := fun m hm => by
        cases hq : ks[m]? with
        | none => rfl
        | some y =>
          have hyx : y ≠ x := by
            rintro rfl
            obtain ⟨b1, b2⟩ := List.getElem?_eq_some_iff.1 hq
            exact hm ((List.getElem_inj hnd).1 (b2.trans hkj.symm))
          simp [kvI, setI, hyx]
      split
      · rename_i hi
        rw [hat i, hap i (by omega)]
      · rename_i hi
        rw [hat (i + 1), hap (i + 1) (by omega)]
    · intro y hy
      unfold setI
      split
      · rfl
      · rename_i hyx
        refine h4 y (fun hyk => hy ?_)
        obtain ⟨i, hi, e⟩ := List.getElem_of_mem hyk
        refine List.mem_eraseIdx_iff_getElem.2 ⟨i, hi, fun e2 => hyx ?_, e⟩
        subst e2
        exact e.symm.trans hkj
theorem mapI_new (w : World) : MapI (w.alloc (.map #[] 0)) w.heap.size [] (fun _ => 0) := by
  refine ⟨#[], 0, heap_alloc_new _ _, ⟨by simp, ⟨by simp, by simp, by simp⟩, by simp⟩, rfl, fun _ _ => rfl⟩
theorem makeMapI (w : World) : (Instr.makeMap 40 none).run Try.prog w = .ok (.map (some w.heap.size)) (w.alloc (.map #[] 0)) := by kernel_rfl
/-- An iterator over the map, these keys still to come. -/
def ItI (w : World) (b r : Nat) (ks : List QI) (F : QI → Int) (left : List QI) : Prop :=
  ∃ es clock since seen c0, w.heap[b]? = some (.map es clock) ∧ w.heap[r]? = some (.mapIter (some b) since seen c0) ∧ (∀ x ∈ es.toList, x.born < since) ∧ since ≤ c0 ∧ since ≤ clock ∧ (es.toList.map (·.born)).Nodup ∧ (es.toList.map (·.key)).Nodup ∧ es.toList.map (fun e => (e.key, e.val)) = ks.map (kvI F) ∧ (leftOf es seen).toList.map (fun e => (e.key, e.val)) = left.map (kvI F)
theorem ItI.map {w : World} {b r : Nat} {ks left : List QI} {F : QI → Int} (h : ItI w b r ks F left) : b < w.heap.size ∧ r < w.heap.size := by
  obtain ⟨es, clock, since, seen, c0, h1, h2, -⟩ := h
  exact ⟨(Array.getElem?_eq_some_iff.1 h1).1, (Array.getElem?_eq_some_iff.1 h2).1⟩
theorem ItI.of_blocks {w w' : World} {b r : Nat} {ks left : List QI} {F : QI → Int} (h : ItI w b r ks F left) (hb : w'.heap[b]? = w.heap[b]?) (hr : w'.heap[r]? = w.heap[r]?) : ItI w' b r ks F left := by
  obtain ⟨es, clock, since, seen, c0, h1, h2, h3⟩ := h
  exact ⟨es, clock, since, seen, c0, hb.trans h1, hr.trans h2, h3⟩
theorem ItI.below {w w' : World} {b r : Nat} {ks left : List QI} {F : QI → Int} (h : ItI w b r ks F left) (hb : Below w.heap.size w w') : ItI w' b r ks F left := h.of_blocks (hb.block b h.map.1) (hb.block r h.map.2)
theorem ItI.ne_at {t : TypeId} {w : World} {b r q : Nat} {ks left : List QI} {F : QI → Int} {vs : Array Value} (h : ItI w b r ks F left) (a : At t w q vs) : q ≠ b ∧ q ≠ r := by
  obtain ⟨es, clock, since, seen, c0, h1, h2, -⟩ := h
  constructor
  · rintro rfl
    have := h1.symm.trans a
    simp at this
  · rintro rfl
    have := h2.symm.trans a
    simp at this
/-- The range begins. -/
theorem MapI.range {w : World} {b : Nat} {ks : List QI} {F : QI → Int} (h : MapI w b ks F) :
    ∃ w', (Instr.range 40 (.map (some b))).run Try.prog w = .ok (.pointer (some ⟨w.heap.size, 0, none⟩)) w' ∧ ItI w' b w.heap.size ks F ks ∧ Below w.heap.size w w' ∧ w'.heap.size = w.heap.size + 1 := by
  have hlt := h.lt
  obtain ⟨es, clock, h1, h2, h3, -⟩ := h
  refine ⟨_, run_range_map w 40 _ _ b es clock undI h1, ⟨es, clock, clock, #[], clock, ?_, heap_alloc_new _ _, h2.stamped.1, Nat.le_refl _, Nat.le_refl _, h2.stamped.2.1, h2.stamped.2.2, h3, ?_⟩, below_alloc _ _, by simp⟩
  · rw [heap_alloc_old w _ hlt, h1]
  · rw [← h3]
    congr 1
    unfold leftOf
    simp
theorem sb_sameI {w : World} {r : Nat} {o0 : Obj} (h : w.heap[r]? = some o0) (o : Obj) : (setBlock w r o).heap[r]? = some o := by
  have hlt := (Array.getElem?_eq_some_iff.1 h).1
  simp [setBlock, hlt]
theorem sb_otherI (w : World) {r i : Nat} (o : Obj) (hi : i ≠ r) : (setBlock w r o).heap[i]? = w.heap[i]? := by
  simp only [setBlock, Array.getElem?_setIfInBounds, if_neg (fun e => hi (Eq.symm e))]
theorem subI {F : QI → Int} {ks : List QI} : ∀ (l : List MapEntry), (∀ e ∈ l, (e.key, e.val) ∈ ks.map (kvI F)) → ∃ ys : List QI, l.map (fun e => (e.key, e.val)) = ys.map (kvI F)
  | [], _ => ⟨[], rfl⟩
  | e :: l, h => by
    obtain ⟨ys, h1⟩ := subI l (fun x hx => h x (List.mem_cons_of_mem _ hx))
    obtain ⟨y, -, hy⟩ := List.mem_map.1 (h e (List.mem_cons_self ..))
    exact ⟨y :: ys, by rw [List.map_cons, List.map_cons, h1, hy]⟩
set_option maxRecDepth 100000 in
/-- A step of the range: nothing is left, or one that is left comes out. -/
theorem ItI.next {w : World} {b r : Nat} {ks left : List QI} {F : QI → Int} (h : ItI w b r ks F left) (ty : TypeId) :
    (left = [] ∧ (Instr.next (.pointer (some ⟨r, 0, none⟩)) false ty).run Try.prog w = .ok (.tuple #[.bool false]) w) ∨
    ∃ x w' left', (Instr.next (.pointer (some ⟨r, 0, none⟩)) false ty).run Try.prog w = .ok (.tuple #[.bool true, aVI x, .int .i64 (F x)]) w' ∧ (Instr.entry (.pointer (some ⟨r, 0, none⟩))).run Try.prog w' = .ok (.tuple #[aVI x, .int .i64 (F x)]) w' ∧ ItI w' b r ks F left' ∧ x ∈ left ∧ (∀ y, y ∈ left' ↔ y ∈ left ∧ y ≠ x) ∧ left'.length < left.length ∧ w.grownBy w' (some r) ∧ w'.heap.size = w.heap.size := by
  obtain ⟨es, clock, since, seen, c0, h1, h2, h3, h4, h4', h5, h6, h7, h8⟩ := h
  have hne : r ≠ b := by
    rintro rfl
    have := h1.symm.trans h2
    simp at this
  rcases run_next_at (P := Try.prog) w ty r b since c0 seen es clock h2 h1 h3 h4 with ⟨hz, hrun⟩ | ⟨e, he, w1, hw1, hrun⟩
  · refine .inl ⟨?_, hrun⟩
    have : (left.map (kvI F)).length = 0 := by rw [← h8]; simpa using hz
    simpa using this
  · right
    have hme := mem_left he
    have hl := left_shrinks es seen e he
    obtain ⟨x, hxm, hx⟩ : ∃ x, x ∈ left ∧ kvI F x = (e.key, e.val) := by
      have : (e.key, e.val) ∈ left.map (kvI F) := by rw [← h8]; exact List.mem_map.2 ⟨e, he, rfl⟩
      obtain ⟨x, h9, h10⟩ := List.mem_map.1 this
      exact ⟨x, h9, h10⟩
    simp only [kvI, Prod.mk.injEq] at hx
    have hw1h : w1.heap = w.heap := by rcases hw1 with rfl | rfl <;> rfl
    have hr1 : w1.heap[r]? = some (.mapIter (some b) since seen c0) := by rw [hw1h]; exact h2
    obtain ⟨left', hL⟩ := subI (F := F) (ks := ks) (leftOf es (seen.push e.born)).toList (fun y hy => by rw [← h7]; exact List.mem_map.2 ⟨y, (mem_left hy).1, rfl⟩)
    have hb' : (setBlock w1 r (.mapIter (some b) since (seen.push e.born) clock)).heap[b]? = some (.map es clock) := by
      rw [sb_otherI _ _ (fun e => hne e.symm), hw1h]; exact h1
    have hr' := sb_sameI hr1 (.mapIter (some b) since (seen.push e.born) clock)
    have inj : ∀ e1 ∈ es.toList, ∀ e2 ∈ es.toList, e1.key = e2.key → e1 = e2 := fun e1 m1 e2 m2 he12 => by
      obtain ⟨i1, q1⟩ := List.getElem?_of_mem m1
      obtain ⟨i2, q2⟩ := List.getElem?_of_mem m2
      obtain ⟨a1, a2⟩ := List.getElem?_eq_some_iff.1 q1
      obtain ⟨b1, b2⟩ := List.getElem?_eq_some_iff.1 q2
      have hi : i1 = i2 := (List.getElem_inj (i := i1) (j := i2) (h₀ := by simpa using a1) (h₁ := by simpa using b1) h6).1 (by simp only [List.getElem_map, a2, b2]; exact he12)
      subst hi
      exact a2.symm.trans b2
    have memL : ∀ (sn : Array Nat) (lf : List QI), (leftOf es sn).toList.map (fun e => (e.key, e.val)) = lf.map (kvI F) → ∀ y, y ∈ lf ↔ ∃ e', e' ∈ (leftOf es sn).toList ∧ e'.key = aVI y := fun sn lf hlf y => by
      constructor
      · intro hy
        have : kvI F y ∈ lf.map (kvI F) := List.mem_map_of_mem hy
        rw [← hlf] at this
        obtain ⟨e', q1, q2⟩ := List.mem_map.1 this
        simp only [kvI, Prod.mk.injEq] at q2
        exact ⟨e', q1, q2.1⟩
      · rintro ⟨e', q1, q2⟩
        have : (e'.key, e'.val) ∈ lf.map (kvI F) := by rw [← hlf]; exact List.mem_map.2 ⟨e', q1, rfl⟩
        obtain ⟨z, z1, z2⟩ := List.mem_map.1 this
        simp only [kvI, Prod.mk.injEq] at z2
        rw [← aVI_inj.1 (z2.1.trans q2)]
        exact z1
    have inLeft : ∀ (sn : Array Nat) (e' : MapEntry), e' ∈ (leftOf es sn).toList ↔ e' ∈ es.toList ∧ sn.contains e'.born = false := fun sn e' => by
      constructor
      · exact mem_left
      · rintro ⟨q1, q2⟩
        exact Array.mem_toList_iff.2 (Array.mem_filter.2 ⟨Array.mem_toList_iff.1 q1, by rw [q2]; rfl⟩)
    refine ⟨x, _, left', by rw [hx.1, hx.2]; exact hrun, ?_, ⟨es, clock, since, seen.push e.born, clock, hb', hr', h3, h4', h4', h5, h6, h7, hL⟩, hxm, fun y => ?_, ?_, ?_, ?_⟩
    · rw [hx.1, hx.2]
      exact run_entry_at _ r b since seen es clock e hr' hb' hme.1 h5
    · rw [memL _ _ hL y, memL _ _ h8 y]
      constructor
      · rintro ⟨e', q1, q2⟩
        have q3 := (inLeft _ e').1 q1
        rw [contains_push] at q3
        have q4 : seen.contains e'.born = false ∧ (e'.born == e.born) = false := by simpa using q3.2
        refine ⟨⟨e', (inLeft _ e').2 ⟨q3.1, q4.1⟩, q2⟩, ?_⟩
        rintro rfl
        have : e' = e := inj e' q3.1 e hme.1 (q2.trans hx.1)
        rw [this] at q4
        simp at q4
      · rintro ⟨⟨e', q1, q2⟩, q3⟩
        have q4 := (inLeft _ e').1 q1
        refine ⟨e', (inLeft _ e').2 ⟨q4.1, ?_⟩, q2⟩
        rw [contains_push, q4.2, Bool.false_or]
        cases hc : e'.born == e.born with
        | false => rfl
        | true =>
          exfalso
          have hbb : e'.born = e.born := beq_iff_eq.1 hc
          have : e' = e := by
            obtain ⟨i1, u1⟩ := List.getElem?_of_mem q4.1
            obtain ⟨i2, u2⟩ := List.getElem?_of_mem hme.1
            obtain ⟨a1, a2⟩ := List.getElem?_eq_some_iff.1 u1
            obtain ⟨b1, b2⟩ := List.getElem?_eq_some_iff.1 u2
            have hi : i1 = i2 := (List.getElem_inj (i := i1) (j := i2) (h₀ := by simpa using a1) (h₁ := by simpa using b1) h5).1 (by simp only [List.getElem_map, a2, b2]; exact hbb)
            subst hi
            exact a2.symm.trans b2
          rw [this] at q2
          exact q3 (aVI_inj.1 (q2.symm.trans hx.1.symm))
    · have e1 := congrArg List.length hL
      have e2 := congrArg List.length h8
      simp only [List.length_map, Array.length_toList] at e1 e2
      omega
    · have hs : (setBlock w1 r (.mapIter (some b) since (seen.push e.born) clock)).heap.size = w1.heap.size := by simp [setBlock]
      refine ⟨?_, ?_, ?_, by rw [hs, hw1h]; exact Nat.le_refl _, fun i _ hi => ?_⟩
      · rcases hw1 with rfl | rfl <;> rfl
      · rcases hw1 with rfl | rfl <;> rfl
      · rcases hw1 with rfl | rfl <;> rfl
      · rw [sb_otherI _ _ (fun e => hi (by rw [e])), hw1h]
    · simp [setBlock, hw1h]
end Go.Proofs.Ytnkmiljnilmicaa
