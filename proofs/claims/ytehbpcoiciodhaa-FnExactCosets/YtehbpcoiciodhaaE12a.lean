/-
  A map of operators is written at a key that is there; the keys of a map of places. No function of the program.
-/
import Derived.Test.YtehbpcoiciodhaaNC
namespace Go.Proofs.Ytehbpcoiciodhaa
open Go.RowKit Go.ChangeShapes Go.WideShapes Go.MapKept
open Go.ChangeMaps (setBlock heap_setBlock_same heap_setBlock_other)
open Go.WideElems (Fit rd rg pl rd_mk)

theorem MapN.keys {w : World} {b : Nat} {ks : List (Nat → Int)} (h : MapN w b ks) : MapV w b ks := by
  obtain ⟨es, clock, h1, h2, h3⟩ := h
  refine ⟨es, clock, h1, h2, ?_⟩
  have := congrArg (List.map Prod.fst) h3
  simp only [List.map_map] at this
  have e1 : es.toList.map (·.key) = es.toList.map (Prod.fst ∘ fun e => (e.key, e.val)) := rfl
  rw [e1, this]
  refine List.ext_getElem? fun i => ?_
  simp only [List.getElem?_map, List.getElem?_zipIdx]
  cases ks[i]? <;> simp
theorem mem_modify {l : List MapEntry} {j : Nat} {f : MapEntry → MapEntry} {x : MapEntry} (hx : x ∈ l.modify j f) : x ∈ l ∨ ∃ e, l[j]? = some e ∧ x = f e := by
  obtain ⟨i, hi⟩ := List.getElem?_of_mem hx
  rw [List.getElem?_modify] at hi
  by_cases e : j = i
  · subst e
    simp only [if_true, Option.map_eq_map] at hi
    cases hl : l[j]? with
    | none => rw [hl] at hi; cases hi
    | some e0 =>
      rw [hl] at hi
      exact .inr ⟨e0, rfl, by simpa using hi.symm⟩
  · simp only [if_neg e, Option.map_eq_map, Option.map_id'] at hi
    exact .inl (List.mem_of_getElem? (by simpa using hi))
/-- A key that is there. -/
theorem MapV.put {w : World} {b : Nat} {ks : List (Nat → Int)} {k : Nat → Int} {n : Int} (h : MapV w b ks) (hk : small k) (hn : (Lit.int .i64 n).wf = true) (hold : kV k ∈ ks.map kV) :
    ∃ w', (Instr.mapUpdate 68 (.map (some b)) (kV k) (.int .i64 n)).run Try.prog w = .ok () w' ∧ MapV w' b ks ∧ w.grownBy w' (some b) ∧ w'.heap.size = w.heap.size := by
  obtain ⟨l, hl⟩ := key_kV hk
  obtain ⟨es, clock, h1, h2, h3⟩ := h
  have hv := re_int hn
  rcases keyed65.find w hl es.toList h2.keys with ⟨f1, f2⟩ | ⟨j, e0, f1, f2, f3⟩
  · exfalso
    rw [← h3] at hold
    obtain ⟨e, hm, hke⟩ := List.mem_map.1 hold
    exact f2 e hm hke
  · have hj : es[j]? = some e0 := by simpa using f2
    have hkeyf : ∀ e', es[j]? = some e' → ({ e' with key := kV k, val := .int .i64 n } : MapEntry).key = e'.key := fun e' he' => by rw [hj] at he'; cases he'; exact f3.symm
    refine ⟨setBlock w b (.map (es.modify j (fun e' => { e' with key := kV k, val := .int .i64 n })) clock), ?_, ⟨_, _, heap_setBlock_same h1 _, ⟨by simpa using h2.size, stamped_modify h2.stamped _ _ (fun _ _ => rfl) (fun e' _ he' => hkeyf e' he'), fun x hx => ?_⟩, ?_⟩, ⟨rfl, rfl, rfl, by simp [setBlock], fun i _ hi => heap_setBlock_other h1 _ (fun e => hi (by rw [e]))⟩, by simp [setBlock]⟩
    · simp [Instr.mapUpdate, run_underlying und75, MapKept.run_getObj_map h1, keyed65.check w false hl, f1, hj, f3, keyed65.stays w hl, MapKept.run_setObj_map _ h1, Result.andThen, setBlock]
    · rw [Array.toList_modify] at hx
      rcases mem_modify hx with hx | ⟨e, -, rfl⟩
      · exact h2.reads x hx
      · exact ⟨_, rd_mk hl hv⟩
    · rw [← h3, Array.toList_modify]
      refine List.ext_getElem? fun i => ?_
      simp only [List.getElem?_map, List.getElem?_modify]
      by_cases e : j = i
      · subst e
        rw [f2]
        simp [f3]
      · simp [e]
/-- One key more, or one that is there. -/
theorem MapV.any {w : World} {b : Nat} {ks : List (Nat → Int)} {k : Nat → Int} {n : Int} (h : MapV w b ks) (hk : small k) (hn : (Lit.int .i64 n).wf = true) (hroom : ks.length < maxLen) :
    ∃ w' ks', (Instr.mapUpdate 68 (.map (some b)) (kV k) (.int .i64 n)).run Try.prog w = .ok () w' ∧ MapV w' b ks' ∧ (∀ v, v ∈ ks'.map kV ↔ v ∈ ks.map kV ∨ v = kV k) ∧ ks'.length ≤ ks.length + 1 ∧ w.grownBy w' (some b) ∧ w'.heap.size = w.heap.size := by
  by_cases hold : kV k ∈ ks.map kV
  · obtain ⟨w', h1, h2, h3, h4⟩ := h.put hk hn hold
    exact ⟨w', ks, h1, h2, fun v => ⟨.inl, fun e => by rcases e with e | e; exact e; rw [e]; exact hold⟩, by omega, h3, h4⟩
  · obtain ⟨w', h1, h2, h3, h4⟩ := h.store hk hn hold hroom
    exact ⟨w', ks ++ [k], h1, h2, fun v => by simp, by simp, h3, h4⟩
end Go.Proofs.Ytehbpcoiciodhaa
