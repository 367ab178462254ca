/-
  A number of a map is raised in its place. No function of the program.
-/
import Derived.Test.YtfmbljmcdidocaaGreatNX
import Derived.WideKeyEntry
namespace Go.Proofs.YtfmbljmcdidocaaGreat
open Go.RowKit Go.ChangeShapes Go.WideShapes Go.MapKept
open Go.ChangeMaps (setBlock heap_setBlock_same heap_setBlock_other)

theorem setBlock_twice (w : World) (b : Nat) (o1 o2 : Obj) : setBlock (setBlock w b o1) b o2 = setBlock w b o2 := by
  simp only [setBlock, Array.setIfInBounds_setIfInBounds]
set_option maxRecDepth 100000 in
/-- Behind the place's telling the map is as it was. -/
theorem MapKn.entry {w : World} {b : Nat} {ks : List Q4Kn} {F : Q4Kn → Int} {x : Q4Kn} (h : MapKn w b ks F) (hk : smKn x) (hroom : ks.length < maxLen) {v : Value} {w1 : World}
    (e : (Instr.mapEntry 56 (.map (some b)) (aVKn x)).run Tryz.prog w = .ok v w1) : ∃ ks1, MapKn w1 b ks1 F := by
  have h0 := h
  obtain ⟨l, hl⟩ := keyKn hk
  obtain ⟨es, clock, h1, h2, h3, h4⟩ := h
  have hz : ∀ u : World, (zeroValue 2).run Tryz.prog u = .ok (.int .i64 0) u := fun u => by kernel_rfl
  rcases keyedKn.find w hl es.toList h2.keys with ⟨f1, f2⟩ | ⟨j, e0, f1, f2, f3⟩
  · have hr : (Instr.mapEntry 56 (.map (some b)) (aVKn x)).run Tryz.prog w = .ok (.tuple #[.int .i64 0, goInt clock]) (setBlock w b (.map (es.push ⟨aVKn x, .int .i64 0, clock⟩) (clock + 1))) := by
      simp [Instr.mapEntry, run_underlying undKn, MapKept.run_getObj_map h1, keyedKn.check w false hl, f1, hz, MapKept.run_setObj_map _ h1, Result.andThen, setBlock]
    have hu : (Instr.mapUpdate 56 (.map (some b)) (aVKn x) (.int .i64 0)).run Tryz.prog w = .ok () (setBlock w b (.map (es.push ⟨aVKn x, .int .i64 0, clock⟩) (clock + 1))) := by
      simp [Instr.mapUpdate, run_underlying undKn, MapKept.run_getObj_map h1, keyedKn.check w false hl, f1, MapKept.run_setObj_map _ h1, Result.andThen, setBlock]
    rw [hr] at e
    obtain ⟨w', ks', p1, p2, -⟩ := h0.put hk (n := 0) (by decide) hroom
    rw [hu] at p1
    cases e
    cases p1
    have hF : setKn F x 0 = F := by
      funext y
      unfold setKn
      split
      · rename_i e
        have : x ∉ ks := fun hx => by
          have h5 : aVKn x ∈ es.toList.map (·.key) := by rw [keysKn h3]; exact List.mem_map_of_mem hx
          obtain ⟨e, hm, hke⟩ := List.mem_map.1 h5
          exact f2 e hm (by rw [hke])
        rw [e, h4 x this]
      · rfl
    rw [hF] at p2
    exact ⟨ks', p2⟩
  · have hj : es[j]? = some e0 := by simpa using f2
    have hsame : es.modify j (fun e => { e with key := aVKn x }) = es := by
      apply Array.ext'
      rw [Array.toList_modify]
      refine List.ext_getElem? fun i => ?_
      rw [List.getElem?_modify]
      by_cases c : j = i
      · subst c
        rw [f2]
        simp [← f3]
      · simp [c]
    have hr : (Instr.mapEntry 56 (.map (some b)) (aVKn x)).run Tryz.prog w = .ok (.tuple #[e0.val, goInt e0.born]) (setBlock w b (.map es clock)) := by
      simp [Instr.mapEntry, run_underlying undKn, MapKept.run_getObj_map h1, keyedKn.check w false hl, f1, hj, f3, keyedKn.stays w hl, hsame, MapKept.run_setObj_map _ h1, Result.andThen, setBlock]
    rw [hr] at e
    cases e
    exact ⟨ks, h0.of_block ((heap_setBlock_same h1 _).trans h1.symm)⟩
set_option maxRecDepth 100000 in
/-- An entry's place is told, and a number is laid there; in between the map's number is told as before. -/
theorem MapKn.bump {w : World} {b : Nat} {ks : List Q4Kn} {F : Q4Kn → Int} {x : Q4Kn} (h : MapKn w b ks F) (hk : smKn x) (hroom : ks.length < maxLen) :
    ∃ (v0 : Value) (st : Nat) (w1 : World), (Instr.mapEntry 56 (.map (some b)) (aVKn x)).run Tryz.prog w = .ok (.tuple #[v0, .int .i64 (st : Int)]) w1 ∧ w.grownBy w1 (some b) ∧ w1.heap.size = w.heap.size ∧
      (Instr.lookup 56 (.map (some b)) (aVKn x) false).run Tryz.prog w1 = .ok (.int .i64 (F x)) w1 ∧
      ∀ n : Int, (Lit.int .i64 n).wf = true → ∃ w2 ks', (Instr.entryStore 56 (.map (some b)) (.int .i64 (st : Int)) (.int .i64 n)).run Tryz.prog w1 = .ok () w2 ∧ MapKn w2 b ks' (setKn F x n) ∧ (∀ y, y ∈ ks' ↔ y ∈ ks ∨ y = x) ∧ ks'.length ≤ ks.length + 1 ∧ w.grownBy w2 (some b) ∧ w2.heap.size = w.heap.size := by
  have h0 := h
  obtain ⟨l, hl⟩ := keyKn hk
  obtain ⟨es, clock, h1, h2, h3, h4⟩ := h
  have hz : ∀ u : World, (zeroValue 2).run Tryz.prog u = .ok (.int .i64 0) u := fun u => by kernel_rfl
  obtain ⟨v0, st, es1, clock1, e1, -, e2⟩ := Go.WideElems.entry_then_store (deep_law_laid laidOutKn (m := 4) (by omega) (of_decide_eq_true (by kernel_rfl)) (by kernel_rfl) (by kernel_rfl)) undKn hz h1 h2 hl
  have hs1 := heap_setBlock_same h1 (.map es1 clock1)
  refine ⟨v0, st, _, e1, ⟨rfl, rfl, rfl, by simp [setBlock], fun i _ hi => heap_setBlock_other h1 _ (fun e => hi (by rw [e]))⟩, by simp [setBlock], ?_, fun n hn => ?_⟩
  · obtain ⟨ks1, h5⟩ := h0.entry hk hroom e1
    exact h5.look hk
  obtain ⟨es', clock', e3, e4⟩ := e2 _ (.int .i64 n) hs1
  obtain ⟨w', ks', p1, p2, p3, p4, p5, p6⟩ := h0.put hk hn hroom
  rw [setBlock_twice] at e3
  rw [p1] at e4
  cases e4
  exact ⟨_, ks', e3, p2, p3, p4, p5, p6⟩
/-- How many are left in a range over a map. -/
def lfKn (w : World) (r : Nat) : Nat :=
  match w.heap[r]? with
  | some (.mapIter (some b) _ seen _) => match w.heap[b]? with
    | some (.map es _) => (leftOf es seen).size
    | _ => 0
  | _ => 0
theorem lfKn_is {w : World} {b r : Nat} {ks left : List Q4Kn} {F : Q4Kn → Int} (h : ItKn w b r ks F left) : lfKn w r = left.length := by
  obtain ⟨es, clock, since, seen, c0, h1, h2, -, -, -, -, -, -, h8⟩ := h
  have := congrArg List.length h8
  simp only [List.length_map, Array.length_toList] at this
  simp only [lfKn, h2, h1, this]
end Go.Proofs.YtfmbljmcdidocaaGreat
