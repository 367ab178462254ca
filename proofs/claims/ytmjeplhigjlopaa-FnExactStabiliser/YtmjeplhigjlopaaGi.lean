/-
  A map whose keys are operators: what it holds. No function of the program.
-/
import Derived.Test.YtmjeplhigjlopaaGh
namespace Go.Proofs.Ytmjeplhigjlopaa
open Go.RowKit Go.ChangeShapes Go.WideShapes Go.MapKept
open Go.ChangeMaps (setBlock heap_setBlock_same heap_setBlock_other)
open Go.WideElems (Fit rd rg pl rd_mk)

/-- How a value of the map reads. -/
noncomputable def RE : Value → Option (DataW Unit × List MemPlace) := plainElem Try.prog 2
theorem re_int {n : Int} (h : (Lit.int .i64 n).wf = true) : RE (.int .i64 n) = some (.lit (.int .i64 n), []) := by
  unfold RE plainElem
  rw [Try.underlying2]
  simp [h]
/-- Block b is a map with these keys, in the order in which they came. -/
def MapV (w : World) (b : Nat) (ks : List (Nat → Int)) : Prop :=
  ∃ es clock, w.heap[b]? = some (.map es clock) ∧ Fit Try.prog 77 RE es clock ∧ es.toList.map (·.key) = ks.map kV
theorem MapV.lt {w : World} {b : Nat} {ks : List (Nat → Int)} (h : MapV w b ks) : b < w.heap.size := by
  obtain ⟨es, clock, hb, -⟩ := h
  exact (Array.getElem?_eq_some_iff.1 hb).1
theorem MapV.of_block {w w' : World} {b : Nat} {ks : List (Nat → Int)} (h : MapV w b ks) (hb : w'.heap[b]? = w.heap[b]?) : MapV w' b ks := by
  obtain ⟨es, clock, h1, h2⟩ := h
  exact ⟨es, clock, hb.trans h1, h2⟩
theorem MapV.below {w w' : World} {b : Nat} {ks : List (Nat → Int)} (h : MapV w b ks) (hb : Below w.heap.size w w') : MapV w' b ks := h.of_block (hb.block b h.lt)
theorem MapV.nodup {w : World} {b : Nat} {ks : List (Nat → Int)} (h : MapV w b ks) : (ks.map kV).Nodup := by
  obtain ⟨es, clock, h1, h2, h3⟩ := h
  rw [← h3]
  exact h2.stamped.2.2
theorem MapV.size {w : World} {b : Nat} {ks : List (Nat → Int)} (h : MapV w b ks) : ∃ es clock, w.heap[b]? = some (.map es clock) ∧ es.size = ks.length := by
  obtain ⟨es, clock, h1, h2, h3⟩ := h
  have := congrArg List.length h3
  simp at this
  exact ⟨es, clock, h1, this⟩
theorem und75 : Try.prog.underlying 83 = some (.map 77 2) := by kernel_rfl
/-- Is the key there? -/
theorem MapV.look {w : World} {b : Nat} {ks : List (Nat → Int)} {k : Nat → Int} (h : MapV w b ks) (hk : small k) :
    ∃ z r, (Instr.lookup 83 (.map (some b)) (kV k) true).run Try.prog w = .ok (.tuple #[z, .bool r]) w ∧ (r = true ↔ kV k ∈ ks.map kV) := by
  obtain ⟨l, hl⟩ := key_kV hk
  obtain ⟨es, clock, h1, h2, h3⟩ := h
  have hz : (zeroValue 2).run Try.prog w = .ok (.int .i64 0) w := by kernel_rfl
  rcases Go.Maps.fit_look true keyed65 und75 hz h1 h2 hl with ⟨hr, hn, -⟩ | ⟨e0, y, hm, he, hr, -⟩
  · refine ⟨_, false, hr, ⟨fun x => absurd x (by decide), fun x => ?_⟩⟩
    rw [← h3] at x
    obtain ⟨e, hm, hke⟩ := List.mem_map.1 x
    exact absurd hke (hn e hm)
  · refine ⟨_, true, hr, ⟨fun _ => ?_, fun _ => rfl⟩⟩
    rw [← h3]
    exact List.mem_map.2 ⟨e0, hm, he⟩
/-- A new key. -/
theorem MapV.store {w : World} {b : Nat} {ks : List (Nat → Int)} {k : Nat → Int} {n : Int} (h : MapV w b ks) (hk : small k) (hn : (Lit.int .i64 n).wf = true) (hnew : kV k ∉ ks.map kV) (hroom : ks.length < maxLen) :
    ∃ w', (Instr.mapUpdate 83 (.map (some b)) (kV k) (.int .i64 n)).run Try.prog w = .ok () w' ∧ MapV w' b (ks ++ [k]) ∧ w.grownBy w' (some b) ∧ w'.heap.size = w.heap.size := by
  obtain ⟨l, hl⟩ := key_kV hk
  obtain ⟨es, clock, h1, h2, h3⟩ := h
  have hes : es.size = ks.length := by have := congrArg List.length h3; simpa using this
  have hv := re_int hn
  have hno : ∀ x ∈ es.toList, x.key ≠ kV k := fun x hx e => hnew (by rw [← h3]; exact List.mem_map.2 ⟨x, hx, e⟩)
  rcases keyed65.find w hl es.toList h2.keys with ⟨f1, f2⟩ | ⟨j, e0, f1, f2, f3⟩
  · refine ⟨setBlock w b (.map (es.push ⟨kV k, .int .i64 n, clock⟩) (clock + 1)), ?_, ⟨_, _, heap_setBlock_same h1 _, ⟨by simp; omega, stamped_push h2.stamped hno, ?_⟩, ?_⟩, ⟨rfl, rfl, rfl, by simp [setBlock], fun i _ hi => heap_setBlock_other h1 _ (fun e => hi (by rw [e]))⟩, by simp [setBlock]⟩
    · simp [Instr.mapUpdate, run_underlying und75, MapKept.run_getObj_map h1, keyed65.check w false hl, f1, MapKept.run_setObj_map _ h1, Result.andThen, setBlock]
    · intro x hx
      simp only [Array.toList_push, List.mem_append, List.mem_singleton] at hx
      rcases hx with hx | rfl
      · exact h2.reads x hx
      · exact ⟨_, rd_mk hl hv⟩
    · simp [h3]
  · exact absurd f3 (hno e0 (List.mem_of_getElem? f2))
theorem mapV_new (w : World) : MapV (w.alloc (.map #[] 0)) w.heap.size [] := by
  refine ⟨#[], 0, heap_alloc_new _ _, ⟨by simp, ⟨by simp, by simp, by simp⟩, by simp⟩, rfl⟩
theorem makeMap75 (w : World) : (Instr.makeMap 83 none).run Try.prog w = .ok (.map (some w.heap.size)) (w.alloc (.map #[] 0)) := by kernel_rfl
theorem kV_inj {k k' : Nat → Int} : kV k = kV k' ↔ lexC 12 k k' = 0 := by
  rw [lexC_zero]
  constructor
  · intro h
    have h1 : kc k = kc k' := by simpa [kV] using h
    intro j hj
    have h2 := kc_get k j hj
    rw [h1, kc_get k' j hj] at h2
    simpa using h2.symm
  · intro h
    unfold kV kc
    rw [h 0 (by omega), h 1 (by omega), h 2 (by omega), h 3 (by omega), h 4 (by omega), h 5 (by omega), h 6 (by omega), h 7 (by omega), h 8 (by omega), h 9 (by omega), h 10 (by omega), h 11 (by omega)]
end Go.Proofs.Ytmjeplhigjlopaa
