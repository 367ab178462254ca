/-
  A number of a map is raised in its place. No function of the program.
-/
import Derived.Test.YtnkmiljnilmicaaMpT
import Derived.WideKeyEntry
import Derived.Maps.Keyed
namespace Go.Proofs.Ytnkmiljnilmicaa
open Go.RowKit Go.ChangeShapes Go.WideShapes Go.MapKept
open Go.ChangeMaps (setBlock heap_setBlock_same heap_setBlock_other)

/-- A place told and written through, where the keys are of any sort that is told apart. -/
theorem place_write {P : Program} {w : World} {t k e : TypeId} {R : Value → Option (DataW Unit × List MemPlace)} {b : Nat} {es : Array MapEntry} {clock : Nat} (K : Go.Maps.Keyed P k) (ht : P.underlying t = some (.map k e)) {z : Value} (hz : ∀ u : World, (zeroValue e).run P u = .ok z u) (hb : w.heap[b]? = some (.map es clock)) (F : Go.WideElems.Fit P k R es clock)
    {key : Value} {kl : Lit} (hkey : keyOf P k key = some kl) :
    ∃ (v0 : Value) (st : Nat) (es1 : Array MapEntry) (clock1 : Nat), (Instr.mapEntry t (.map (some b)) key).run P w = .ok (.tuple #[v0, goInt st]) (setBlock w b (.map es1 clock1)) ∧
      ∀ (w2 : World) (val : Value), w2.heap[b]? = some (.map es1 clock1) → ∃ es' clock', (Instr.entryStore t (.map (some b)) (goInt st) val).run P w2 = .ok () (setBlock w2 b (.map es' clock')) ∧
        (Instr.mapUpdate t (.map (some b)) key val).run P w = .ok () (setBlock w b (.map es' clock')) := by
  obtain ⟨s1, s2, _⟩ := F.stamped
  rcases K.find w hkey es.toList F.keys with ⟨h1, h2⟩ | ⟨j, e0, h1, h2, h3⟩
  · refine ⟨z, clock, es.push ⟨key, z, clock⟩, clock + 1, ?_, fun w2 val hw2 => ⟨es.push ⟨key, val, clock⟩, clock + 1, ?_, ?_⟩⟩
    · simp [Instr.mapEntry, run_underlying ht, MapKept.run_getObj_map hb, K.check w false hkey, h1, hz, MapKept.run_setObj_map _ hb, Result.andThen, setBlock]
    · have hidx : (es.push ⟨key, z, clock⟩).findIdx? (fun e => ((e.born : Nat) : Int) == ((clock : Nat) : Int)) = some es.size := by
        rw [Go.WideElems.findIdx_arr]
        refine Go.WideElems.findIdx_born (l := (es.push ⟨key, z, clock⟩).toList) (j := es.size) (e0 := ⟨key, z, clock⟩) ?_ (by simp)
        simp only [Array.toList_push, List.map_append, List.map_cons, List.map_nil]
        refine List.nodup_append.2 ⟨s2, by simp, fun a ha c hc e1 => ?_⟩
        simp only [List.mem_singleton] at hc
        obtain ⟨x, hx, rfl⟩ := List.mem_map.1 ha
        have := s1 x hx
        omega
      have hmod : (es.push ⟨key, z, clock⟩).modify es.size (fun e => { e with val := val }) = es.push ⟨key, val, clock⟩ := by
        apply Array.ext'
        rw [Array.toList_modify, Array.toList_push, Array.toList_push, ← Array.length_toList, Go.WideElems.modify_last]
      simp [Instr.entryStore, MapKept.run_getObj_map hw2, asInt, asIntOf, goInt, hidx, hmod, MapKept.run_setObj_map _ hw2, Result.andThen, setBlock]
    · simp [Instr.mapUpdate, run_underlying ht, MapKept.run_getObj_map hb, K.check w false hkey, h1, MapKept.run_setObj_map _ hb, Result.andThen, setBlock]
  · have hj : es[j]? = some e0 := by simpa using h2
    have hsame : es.modify j (fun e => { e with key := key }) = es := by
      apply Array.ext'
      rw [Array.toList_modify, Go.ChangeMaps.modify_eq_set _ _ _ _ h2]
      have : ({ e0 with key := key } : MapEntry) = e0 := by rw [← h3]
      rw [this]
      exact Go.WideElems.set_self _ _ _ h2
    refine ⟨e0.val, e0.born, es, clock, ?_, fun w2 val hw2 => ⟨es.modify j (fun e' => { e' with key := key, val := val }), clock, ?_, ?_⟩⟩
    · simp [Instr.mapEntry, run_underlying ht, MapKept.run_getObj_map hb, K.check w false hkey, h1, hj, h3, K.stays w hkey, hsame, MapKept.run_setObj_map _ hb, Result.andThen, setBlock]
    · have hidx : es.findIdx? (fun e => ((e.born : Nat) : Int) == ((e0.born : Nat) : Int)) = some j := by
        rw [Go.WideElems.findIdx_arr]
        exact Go.WideElems.findIdx_born s2 h2
      have hmod : es.modify j (fun e => { e with val := val }) = es.modify j (fun e' => { e' with key := key, val := val }) := by
        apply Array.ext'
        rw [Array.toList_modify, Array.toList_modify, Go.ChangeMaps.modify_eq_set _ _ _ _ h2, Go.ChangeMaps.modify_eq_set _ _ _ _ h2, ← h3]
      simp [Instr.entryStore, MapKept.run_getObj_map hw2, asInt, asIntOf, goInt, hidx, hmod, MapKept.run_setObj_map _ hw2, Result.andThen, setBlock]
    · simp [Instr.mapUpdate, run_underlying ht, MapKept.run_getObj_map hb, K.check w false hkey, h1, hj, h3, K.stays w hkey, MapKept.run_setObj_map _ hb, Result.andThen, setBlock]
theorem setBlock_twice (w : World) (b : Nat) (o1 o2 : Obj) : setBlock (setBlock w b o1) b o2 = setBlock w b o2 := by
  simp only [setBlock, Array.setIfInBounds_setIfInBounds]
set_option maxRecDepth 100000 in
/-- Behind the place's telling the map is as it was. -/
theorem MapI.entry {w : World} {b : Nat} {ks : List QI} {F : QI → Int} {x : QI} (h : MapI w b ks F) (hk : smI x) (hroom : ks.length < maxLen) {v : Value} {w1 : World}
    (e : (Instr.mapEntry 40 (.map (some b)) (aVI x)).run Try.prog w = .ok v w1) : ∃ ks1, MapI w1 b ks1 F := by
  have h0 := h
  obtain ⟨l, hl⟩ := keyI hk
  obtain ⟨es, clock, h1, h2, h3, h4⟩ := h
  have hz : ∀ u : World, (zeroValue 2).run Try.prog u = .ok (.int .i64 0) u := fun u => by kernel_rfl
  rcases keyedI.find w hl es.toList h2.keys with ⟨f1, f2⟩ | ⟨j, e0, f1, f2, f3⟩
  · have hr : (Instr.mapEntry 40 (.map (some b)) (aVI x)).run Try.prog w = .ok (.tuple #[.int .i64 0, goInt clock]) (setBlock w b (.map (es.push ⟨aVI x, .int .i64 0, clock⟩) (clock + 1))) := by
      simp [Instr.mapEntry, run_underlying undI, MapKept.run_getObj_map h1, keyedI.check w false hl, f1, hz, MapKept.run_setObj_map _ h1, Result.andThen, setBlock]
    have hu : (Instr.mapUpdate 40 (.map (some b)) (aVI x) (.int .i64 0)).run Try.prog w = .ok () (setBlock w b (.map (es.push ⟨aVI x, .int .i64 0, clock⟩) (clock + 1))) := by
      simp [Instr.mapUpdate, run_underlying undI, MapKept.run_getObj_map h1, keyedI.check w false hl, f1, MapKept.run_setObj_map _ h1, Result.andThen, setBlock]
    rw [hr] at e
    obtain ⟨w', ks', p1, p2, -⟩ := h0.put hk (n := 0) (by decide) hroom
    rw [hu] at p1
    cases e
    cases p1
    have hF : setI F x 0 = F := by
      funext y
      unfold setI
      split
      · rename_i e
        have : x ∉ ks := fun hx => by
          have h5 : aVI x ∈ es.toList.map (·.key) := by rw [keysI h3]; exact List.mem_map_of_mem hx
          obtain ⟨e, hm, hke⟩ := List.mem_map.1 h5
          exact f2 e hm (by rw [hke])
        rw [e, h4 x this]
      · rfl
    rw [hF] at p2
    exact ⟨ks', p2⟩
  · have hj : es[j]? = some e0 := by simpa using f2
    have hsame : es.modify j (fun e => { e with key := aVI x }) = es := by
      apply Array.ext'
      rw [Array.toList_modify]
      refine List.ext_getElem? fun i => ?_
      rw [List.getElem?_modify]
      by_cases c : j = i
      · subst c
        rw [f2]
        simp [← f3]
      · simp [c]
    have hr : (Instr.mapEntry 40 (.map (some b)) (aVI x)).run Try.prog w = .ok (.tuple #[e0.val, goInt e0.born]) (setBlock w b (.map es clock)) := by
      simp [Instr.mapEntry, run_underlying undI, MapKept.run_getObj_map h1, keyedI.check w false hl, f1, hj, f3, keyedI.stays w hl, hsame, MapKept.run_setObj_map _ h1, Result.andThen, setBlock]
    rw [hr] at e
    cases e
    exact ⟨ks, h0.of_block ((heap_setBlock_same h1 _).trans h1.symm)⟩
set_option maxRecDepth 100000 in
/-- An entry's place is told, and a number is laid there; in between the map's number is told as before. -/
theorem MapI.bump {w : World} {b : Nat} {ks : List QI} {F : QI → Int} {x : QI} (h : MapI w b ks F) (hk : smI x) (hroom : ks.length < maxLen) :
    ∃ (v0 : Value) (st : Nat) (w1 : World), (Instr.mapEntry 40 (.map (some b)) (aVI x)).run Try.prog w = .ok (.tuple #[v0, .int .i64 (st : Int)]) w1 ∧ w.grownBy w1 (some b) ∧ w1.heap.size = w.heap.size ∧
      (Instr.lookup 40 (.map (some b)) (aVI x) false).run Try.prog w1 = .ok (.int .i64 (F x)) w1 ∧
      ∀ n : Int, (Lit.int .i64 n).wf = true → ∃ w2 ks', (Instr.entryStore 40 (.map (some b)) (.int .i64 (st : Int)) (.int .i64 n)).run Try.prog w1 = .ok () w2 ∧ MapI w2 b ks' (setI F x n) ∧ (∀ y, y ∈ ks' ↔ y ∈ ks ∨ y = x) ∧ ks'.length ≤ ks.length + 1 ∧ w.grownBy w2 (some b) ∧ w2.heap.size = w.heap.size := by
  have h0 := h
  obtain ⟨l, hl⟩ := keyI hk
  obtain ⟨es, clock, h1, h2, h3, h4⟩ := h
  have hz : ∀ u : World, (zeroValue 2).run Try.prog u = .ok (.int .i64 0) u := fun u => by kernel_rfl
  obtain ⟨v0, st, es1, clock1, e1, e2⟩ := place_write keyedI undI hz h1 h2 hl
  have hs1 := heap_setBlock_same h1 (.map es1 clock1)
  refine ⟨v0, st, _, e1, ⟨rfl, rfl, rfl, by simp [setBlock], fun i _ hi => heap_setBlock_other h1 _ (fun e => hi (by rw [e]))⟩, by simp [setBlock], ?_, fun n hn => ?_⟩
  · obtain ⟨ks1, h5⟩ := h0.entry hk hroom e1
    exact h5.look hk
  obtain ⟨es', clock', e3, e4⟩ := e2 _ (.int .i64 n) hs1
  obtain ⟨w', ks', p1, p2, p3, p4, p5, p6⟩ := h0.put hk hn hroom
  rw [setBlock_twice] at e3
  rw [p1] at e4
  cases e4
  exact ⟨_, ks', e3, p2, p3, p4, p5, p6⟩
/-- How many are left in a range over a map. -/
def lfI (w : World) (r : Nat) : Nat :=
  match w.heap[r]? with
  | some (.mapIter (some b) _ seen _) => match w.heap[b]? with
    | some (.map es _) => (leftOf es seen).size
    | _ => 0
  | _ => 0
theorem lfI_is {w : World} {b r : Nat} {ks left : List QI} {F : QI → Int} (h : ItI w b r ks F left) : lfI w r = left.length := by
  obtain ⟨es, clock, since, seen, c0, h1, h2, -, -, -, -, -, -, h8⟩ := h
  have := congrArg List.length h8
  simp only [List.length_map, Array.length_toList] at this
  simp only [lfI, h2, h1, this]
end Go.Proofs.Ytnkmiljnilmicaa
