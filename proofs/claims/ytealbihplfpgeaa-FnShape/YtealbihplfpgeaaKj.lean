/-
  slices.Compact at corners: what it computes, and how a list of triples lies.
-/
import Derived.Test.YtealbihplfpgeaaKi
import Derived.Lib.SlicesCompact
import Derived.Lib.SliceRun
namespace Go.Proofs.Ytealbihplfpgeaa
open Go.RowKit Go.Shelf Go.Sort Go.Lib

abbrev T3 := Int × Int × Int
/-- The list d of triples lies at the head of block g, whose cells are c times three. -/
def C3 (w : World) (g c : Nat) (d : Array T3) : Prop := ∃ cur, At 33 w g cur ∧ cur.size = c * 3 ∧ ∀ i, i < d.size → cur[i * 3]? = some (.int .i64 d[i]!.1) ∧ cur[i * 3 + 1]? = some (.int .i64 d[i]!.2.1) ∧ cur[i * 3 + 2]? = some (.int .i64 d[i]!.2.2)
theorem C3.drew {w : World} {g c : Nat} {d : Array T3} (h : C3 w g c d) : C3 w.drew g c d := by
  obtain ⟨cur, h1, h2, h3⟩ := h
  exact ⟨cur, h1, h2, h3⟩
theorem C3.lt {w : World} {g c : Nat} {d : Array T3} (h : C3 w g c d) : g < w.heap.size := by
  obtain ⟨cur, h1, -⟩ := h
  exact h1.lt
theorem C3.at {w : World} {g c : Nat} {d : Array T3} (h : C3 w g c d) {i : Nat} (hi : i < d.size) : w.cell? ⟨g, i * 3, none⟩ = some (.int .i64 d[i]!.1) ∧ w.cell? ⟨g, i * 3 + 1, none⟩ = some (.int .i64 d[i]!.2.1) ∧ w.cell? ⟨g, i * 3 + 2, none⟩ = some (.int .i64 d[i]!.2.2) := by
  obtain ⟨cur, h1, h2, h3⟩ := h
  obtain ⟨a, b, c⟩ := h3 i hi
  exact ⟨h1.cell _ a, h1.cell _ b, h1.cell _ c⟩
theorem C3.warm {w : World} {g c : Nat} {d : Array T3} (h : C3 w g c d) (i : Nat) : w.frozen? ⟨g, i, none⟩ = false := by
  obtain ⟨cur, h1, -⟩ := h
  exact h1.frozen i
theorem C3.any {w : World} {g c : Nat} {d : Array T3} (h : C3 w g c d) {i : Nat} (hi : i < c * 3) : (w.cell? ⟨g, i, none⟩).isSome = true := by
  obtain ⟨cur, h1, h2, -⟩ := h
  rw [h1.cell i (v := cur[i]) (Array.getElem?_eq_getElem (by omega))]
  rfl
theorem C3.put {w : World} {g c : Nat} {d : Array T3} (h : C3 w g c d) {i : Nat} (hi : i < d.size) (x : T3) : C3 (((w.setCell ⟨g, i * 3, none⟩ (.int .i64 x.1)).setCell ⟨g, i * 3 + 1, none⟩ (.int .i64 x.2.1)).setCell ⟨g, i * 3 + 2, none⟩ (.int .i64 x.2.2)) g c (d.setIfInBounds i x) := by
  obtain ⟨cur, h1, h2, h3⟩ := h
  refine ⟨_, ((h1.set (i * 3) _).set (i * 3 + 1) _).set (i * 3 + 2) _, by simpa using h2, fun j hj => ?_⟩
  have hj' : j < d.size := by simpa using hj
  obtain ⟨a, b, e⟩ := h3 j hj'
  have q0 := (Array.getElem?_eq_some_iff.1 (h3 i hi).1).1
  have q1 := (Array.getElem?_eq_some_iff.1 (h3 i hi).2.1).1
  have q2 := (Array.getElem?_eq_some_iff.1 (h3 i hi).2.2).1
  by_cases e0 : i = j
  · subst e0
    rw [getElem!_pos _ i hj]
    simp only [Array.getElem_setIfInBounds_self, Array.getElem?_setIfInBounds, Array.size_setIfInBounds]
    refine ⟨?_, ?_, ?_⟩ <;> simp <;> omega
  · rw [show (d.setIfInBounds i x)[j]! = d[j]! by rw [getElem!_pos _ j hj, getElem!_pos _ j hj']; first | exact Array.getElem_setIfInBounds_ne hj' e0 | grind]
    simp only [Array.getElem?_setIfInBounds, Array.size_setIfInBounds]
    refine ⟨?_, ?_, ?_⟩
    · rw [if_neg (by omega), if_neg (by omega), if_neg (by omega)]; exact a
    · rw [if_neg (by omega), if_neg (by omega), if_neg (by omega)]; exact b
    · rw [if_neg (by omega), if_neg (by omega), if_neg (by omega)]; exact e
theorem run_clear3 (w : World) (ty : TypeId) (g o n c : Nat) (hn : 0 < n) (hc : ∀ j, j < n * 3 → (w.cell? ⟨g, o + j, none⟩).isSome = true) (hf : ∀ j, j < n * 3 → w.frozen? ⟨g, o + j, none⟩ = false) :
    (Builtin.clear_ #[30] ty #[.slice (some ⟨g, o, none⟩) n c]).run Try.prog w = .ok (.tuple #[]) (w.setCells g o (List.replicate (n * 3) (.int .i64 0))) := by
  have hzc : (Builtin.zeroCells (Value.agg #[.int .i64 0, .int .i64 0, .int .i64 0]).cells n).toList = List.replicate (n * 3) (.int .i64 0) := by
    apply List.ext_getElem
    · simp [Builtin.zeroCells, Value.cells]
    · intro i h1 h2
      simp [Builtin.zeroCells, Value.cells]
      rcases (by omega : i % 3 = 0 ∨ i % 3 = 1 ∨ i % 3 = 2) with e | e | e <;> simp [e]
  have hst := run_storeCells_cells (P := Try.prog) g o (List.replicate (n * 3) (.int .i64 0)) 0 w (by simpa using hc) (by simpa using hf) (by intro v hv'; rw [List.eq_of_mem_replicate hv']; rfl)
  simp only [Nat.add_zero] at hst
  have ht := Try.underlying30
  have hv := Try.zeroValue33
  obtain ⟨m, rfl⟩ : ∃ m, n = m + 1 := ⟨n - 1, by omega⟩
  simp [Builtin.clear_, run_underlying ht, hv, hzc, hst]
theorem C3.clear {w : World} {g c : Nat} {d : Array T3} (h : C3 w g c d) {k : Nat} (hk : k ≤ d.size) (n : Nat) : C3 (w.setCells g (k * 3) (List.replicate n (.int .i64 0))) g c (d.extract 0 k) := by
  have gen : ∀ (n o : Nat) (w : World) (cur : Array Value), k * 3 ≤ o → At 33 w g cur → ∃ cur', At 33 (w.setCells g o (List.replicate n (.int .i64 0))) g cur' ∧ cur'.size = cur.size ∧ ∀ i, i < k * 3 → cur'[i]? = cur[i]? := by
    intro n
    induction n with
    | zero => exact fun o w cur _ h => ⟨cur, by simpa [World.setCells] using h, rfl, fun _ _ => rfl⟩
    | succ n ih =>
      intro o w cur ho h
      obtain ⟨cur', h1, h2, h3⟩ := ih (o + 1) _ _ (by omega) (h.set o (.int .i64 0))
      refine ⟨cur', by simpa [List.replicate_succ, World.setCells] using h1, by rw [h2]; simp, fun i hi => ?_⟩
      rw [h3 i hi, Array.getElem?_setIfInBounds, if_neg (by omega)]
  obtain ⟨cur, h1, h2, h3⟩ := h
  obtain ⟨cur', q1, q2, q3⟩ := gen n (k * 3) w cur (Nat.le_refl _) h1
  refine ⟨cur', q1, by rw [q2, h2], fun i hi => ?_⟩
  have hi' : i < k := by simp at hi; omega
  obtain ⟨a, b, e⟩ := h3 i (by omega)
  rw [q3 _ (by omega), q3 _ (by omega), q3 _ (by omega), show (d.extract 0 k)[i]! = d[i]! by rw [getElem!_pos _ i hi, getElem!_pos _ i (by omega)]; simp]
  exact ⟨a, b, e⟩
end Go.Proofs.Ytealbihplfpgeaa
