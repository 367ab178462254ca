/-
  A list of yeses and noes, its own. No function of the program.
-/
import Derived.Test.YtgjhbkpocbihbaaGreatMA
namespace Go.Proofs.YtgjhbkpocbihbaaGreat
open Go.RowKit

/-- A list of n yeses and noes. -/
def BlN (w : World) (g n : Nat) (P : Nat → Bool) : Prop := ∃ cur : Array Value, At 4 w g cur ∧ cur.size = n ∧ ∀ i, i < n → cur[i]? = some (.bool (P i))
theorem BlN.below {w w' : World} {g n : Nat} {P : Nat → Bool} (h : BlN w g n P) (hb : Below w.heap.size w w') : BlN w' g n P := by
  obtain ⟨cur, h1, h2, h3⟩ := h
  exact ⟨cur, h1.below hb, h2, h3⟩
theorem BlN.lt {w : World} {g n : Nat} {P : Nat → Bool} (h : BlN w g n P) : g < w.heap.size := by
  obtain ⟨cur, h1, -⟩ := h
  exact h1.lt
theorem BlN.cell {w : World} {g n i : Nat} {P : Nat → Bool} (h : BlN w g n P) (hi : i < n) : w.cell? ⟨g, i, none⟩ = some (.bool (P i)) ∧ w.frozen? ⟨g, i, none⟩ = false := by
  obtain ⟨cur, h1, h2, h3⟩ := h
  exact ⟨h1.cell i (h3 i hi), h1.frozen i⟩
theorem BlN.other {w : World} {g q i n : Nat} {P : Nat → Bool} (h : BlN w g n P) (hq : g ≠ q) (v : Value) : BlN (w.setCell ⟨q, i, none⟩ v) g n P := by
  obtain ⟨cur, h1, h2⟩ := h
  exact ⟨cur, h1.setOther hq v, h2⟩
theorem BlN.yes {w : World} {g n j : Nat} {P Q : Nat → Bool} (h : BlN w g n P) (hj : j < n) (e : ∀ i, i < n → Q i = (P i || decide (i = j))) : BlN (w.setCell ⟨g, j, none⟩ (.bool true)) g n Q := by
  obtain ⟨cur, h1, h2, h3⟩ := h
  refine ⟨_, h1.set j (.bool true), by simp [h2], fun i hi => ?_⟩
  rw [Array.getElem?_setIfInBounds, e i hi]
  by_cases c : j = i
  · subst c; rw [if_pos rfl, if_pos (by omega)]; simp
  · rw [if_neg c, h3 i hi]; simp [show ¬ i = j by omega]
theorem infoBo : (Tryz.prog.info? 4).map (fun i => (i.zero, i.size, i.bytes)) = some (some (.bool false), 1, 1) := by kernel_rfl
end Go.Proofs.YtgjhbkpocbihbaaGreat
