/-
  Cosets: which operators open a part, and lists in order that hold the same. No function of the program.
-/
import Derived.Test.YtehbpcoiciodhaaMN
namespace Go.Proofs.Ytehbpcoiciodhaa
open Go.RowKit

/-- Two lists in order that hold the same values are the same. -/
theorem sorted_same {n : Nat} {G H : Nat → Nat → Int} (hp : ((List.range n).map (fun t => kV (G t))).Perm ((List.range n).map (fun t => kV (H t)))) (hG : ∀ i j, i < j → j < n → ¬ lexC 12 (G j) (G i) < 0) (hH : ∀ i j, i < j → j < n → ¬ lexC 12 (H j) (H i) < 0) : ∀ i, i < n → kV (G i) = kV (H i) := by
  have heq : (List.range n).map (fun t => kV (G t)) = (List.range n).map (fun t => kV (H t)) := by
    refine List.Perm.eq_of_pairwise (le := leV) ?_ ?_ ?_ hp
    · intro a b ha hb h1 h2
      obtain ⟨x, y, rfl, rfl, h⟩ := h1
      rw [leV_iff] at h2
      refine kV_inj.2 ?_
      rcases lexC_range 12 x y with e | e | e
      · exact absurd (by omega : lexC 12 x y < 0) h2
      · exact e
      · exact absurd (lexC_pos.1 (by omega : 0 < lexC 12 x y)) h
    · rw [List.pairwise_iff_getElem]
      intro i j hi hj hij
      simp only [List.getElem_map, List.getElem_range]
      simp at hj
      exact leV_iff.2 (hG i j hij hj)
    · rw [List.pairwise_iff_getElem]
      intro i j hi hj hij
      simp only [List.getElem_map, List.getElem_range]
      simp at hj
      exact leV_iff.2 (hH i j hij hj)
  intro i hi
  have : ((List.range n).map (fun t => kV (G t)))[i]'(by simp; omega) = ((List.range n).map (fun t => kV (H t)))[i]'(by simp; omega) := by simp only [heq]
  simpa only [List.getElem_map, List.getElem_range] using this
/-- The operator at place j stands in the part that i opens. -/
def inPart (A : Nat → OpD) (m : Nat) (C : Nat → OpD) (i j : Nat) : Prop := ∃ k, k < m ∧ kV (A j).key = kV (mulQ (A i).key (C k).key)
/-- Those of the first i that open a part, in their order. -/
noncomputable def opens (A : Nat → OpD) (m : Nat) (C : Nat → OpD) : Nat → List Nat
  | 0 => []
  | i + 1 => @ite _ (∃ t ∈ opens A m C i, inPart A m C t i) (Classical.propDecidable _) (opens A m C i) (opens A m C i ++ [i])
theorem opens_old {A : Nat → OpD} {m : Nat} {C : Nat → OpD} {i : Nat} (h : ∃ t ∈ opens A m C i, inPart A m C t i) : opens A m C (i + 1) = opens A m C i := by
  conv => lhs; unfold opens
  rw [if_pos h]
theorem opens_new {A : Nat → OpD} {m : Nat} {C : Nat → OpD} {i : Nat} (h : ¬ ∃ t ∈ opens A m C i, inPart A m C t i) : opens A m C (i + 1) = opens A m C i ++ [i] := by
  conv => lhs; unfold opens
  rw [if_neg h]
theorem opens_lt {A : Nat → OpD} {m : Nat} {C : Nat → OpD} : ∀ {i t : Nat}, t ∈ opens A m C i → t < i
  | 0, t, h => by simp [opens] at h
  | i + 1, t, h => by
    by_cases e : ∃ t ∈ opens A m C i, inPart A m C t i
    · rw [opens_old e] at h
      have := opens_lt h
      omega
    · rw [opens_new e] at h
      rcases List.mem_append.1 h with h | h
      · have := opens_lt h
        omega
      · have := List.mem_singleton.1 h
        omega
theorem opens_len {A : Nat → OpD} {m : Nat} {C : Nat → OpD} : ∀ i, (opens A m C i).length ≤ i
  | 0 => by simp [opens]
  | i + 1 => by
    by_cases e : ∃ t ∈ opens A m C i, inPart A m C t i
    · rw [opens_old e]; have := opens_len (A := A) (m := m) (C := C) i; omega
    · rw [opens_new e]; have := opens_len (A := A) (m := m) (C := C) i; simp; omega
end Go.Proofs.Ytehbpcoiciodhaa
