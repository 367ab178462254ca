/-
  Rows of cyclotomic numbers: compared, marked, held. Walked.
-/
import Derived.Test.YtbninbeccgdemaaDoorRb
namespace Go.Proofs.YtbninbeccgdemaaDoor
open Go.RowKit

/-- n structs of four numbers lie in block g. -/
def Quads (w : World) (g n : Nat) (f : Nat → Int) : Prop := g < w.heap.size ∧ ∀ i, i < n * 4 → w.cell? ⟨g, i, none⟩ = some (.int .i64 (f i))
theorem Quads.below {w w' : World} {g n : Nat} {f : Nat → Int} (h : Quads w g n f) (hb : Below w.heap.size w w') : Quads w' g n f :=
  ⟨Nat.lt_of_lt_of_le h.1 hb.size, fun i hi => (hb.cell (p := ⟨g, i, none⟩) h.1).trans (h.2 i hi)⟩
theorem Quads.open {w : World} {g n : Nat} {f : Nat → Int} (h : Quads w g n f) (k : Nat) (hk : k < n) : w.cell? ⟨g, k * 4, none⟩ = some (.int .i64 (f (k * 4))) ∧ w.cell? ⟨g, k * 4 + 1, none⟩ = some (.int .i64 (f (k * 4 + 1))) ∧ w.cell? ⟨g, k * 4 + 2, none⟩ = some (.int .i64 (f (k * 4 + 2))) ∧ w.cell? ⟨g, k * 4 + 3, none⟩ = some (.int .i64 (f (k * 4 + 3))) :=
  ⟨h.2 _ (by omega), h.2 _ (by omega), h.2 _ (by omega), h.2 _ (by omega)⟩
theorem Ints.open4 {w : World} {g off n : Nat} {f : Nat → Int} (h : Ints w g off (n * 4) f) (k : Nat) (hk : k < n) : w.cell? ⟨g, off + k * 4, none⟩ = some (.int .i64 (f (k * 4))) ∧ w.cell? ⟨g, off + k * 4 + 1, none⟩ = some (.int .i64 (f (k * 4 + 1))) ∧ w.cell? ⟨g, off + k * 4 + 2, none⟩ = some (.int .i64 (f (k * 4 + 2))) ∧ w.cell? ⟨g, off + k * 4 + 3, none⟩ = some (.int .i64 (f (k * 4 + 3))) :=
  ⟨h _ (by omega), h (k * 4 + 1) (by omega), h (k * 4 + 2) (by omega), h (k * 4 + 3) (by omega)⟩
/-- A block of n structs of four, of which the first k are laid. -/
def Laid4 (w : World) (g n k : Nat) (f : Nat → Int) : Prop :=
  ∃ cur : Array Value, At 33 w g cur ∧ cur.size = n * 4 ∧ ∀ i, i < k * 4 → cur[i]? = some (.int .i64 (f i))
theorem Laid4.below {w w' : World} {g n k : Nat} {f : Nat → Int} (h : Laid4 w g n k f) (hb : Below w.heap.size w w') : Laid4 w' g n k f := by
  obtain ⟨cur, h1, h2, h3⟩ := h
  exact ⟨cur, h1.below hb, h2, h3⟩
theorem Laid4.put {w : World} {g n k : Nat} {f : Nat → Int} (h : Laid4 w g n k f) :
    Laid4 ((((w.setCell ⟨g, k * 4, none⟩ (.int .i64 (f (k * 4)))).setCell ⟨g, k * 4 + 1, none⟩ (.int .i64 (f (k * 4 + 1)))).setCell ⟨g, k * 4 + 2, none⟩ (.int .i64 (f (k * 4 + 2)))).setCell ⟨g, k * 4 + 3, none⟩ (.int .i64 (f (k * 4 + 3)))) g n (k + 1) f ∨ n ≤ k := by
  by_cases hk : k < n
  · refine .inl ?_
    obtain ⟨cur, h1, h2, h3⟩ := h
    refine ⟨_, (((h1.set (k * 4) _).set (k * 4 + 1) _).set (k * 4 + 2) _).set (k * 4 + 3) _, by simpa using h2, fun i hi => ?_⟩
    by_cases e3 : i = k * 4 + 3
    · subst e3
      rw [Array.getElem?_setIfInBounds, if_pos rfl, if_pos (by simp; omega)]
    · rw [Array.getElem?_setIfInBounds, if_neg (by omega)]
      by_cases e2 : i = k * 4 + 2
      · subst e2
        rw [Array.getElem?_setIfInBounds, if_pos rfl, if_pos (by simp; omega)]
      · rw [Array.getElem?_setIfInBounds, if_neg (by omega)]
        by_cases e1 : i = k * 4 + 1
        · subst e1
          rw [Array.getElem?_setIfInBounds, if_pos rfl, if_pos (by simp; omega)]
        · rw [Array.getElem?_setIfInBounds, if_neg (by omega)]
          by_cases e0 : i = k * 4
          · subst e0
            rw [Array.getElem?_setIfInBounds, if_pos rfl, if_pos (by omega)]
          · rw [Array.getElem?_setIfInBounds, if_neg (by omega)]
            exact h3 i (by omega)
  · exact .inr (by omega)
theorem Laid4.cells {w : World} {g n k j : Nat} {f : Nat → Int} (h : Laid4 w g n k f) (hj : j < n * 4) : w.cell? ⟨g, j, none⟩ = some (cv w g j) ∧ w.frozen? ⟨g, j, none⟩ = false := by
  obtain ⟨cur, h1, h2, h3⟩ := h
  have hl : j < cur.size := by omega
  have := h1.cell j (Array.getElem?_eq_getElem hl)
  exact ⟨by rw [cv, this]; rfl, h1.frozen j⟩
theorem Laid4.quads {w : World} {g n : Nat} {f : Nat → Int} (h : Laid4 w g n n f) : Quads w g n f := by
  obtain ⟨cur, h1, h2, h3⟩ := h
  exact ⟨h1.lt, fun i hi => h1.cell _ (h3 i hi)⟩
/-- The cells of the numbers k of two lists. -/
def Two (g1 g2 k : Nat) (f : Nat → Int) (w : World) : Prop :=
  (w.cell? ⟨g1, k * 4, none⟩ = some (.int .i64 (f (k * 4))) ∧ w.cell? ⟨g1, k * 4 + 1, none⟩ = some (.int .i64 (f (k * 4 + 1))) ∧ w.cell? ⟨g1, k * 4 + 2, none⟩ = some (.int .i64 (f (k * 4 + 2))) ∧ w.cell? ⟨g1, k * 4 + 3, none⟩ = some (.int .i64 (f (k * 4 + 3)))) ∧
  (w.cell? ⟨g2, k * 4, none⟩ = some (.int .i64 (f (k * 4))) ∧ w.cell? ⟨g2, k * 4 + 1, none⟩ = some (.int .i64 (f (k * 4 + 1))) ∧ w.cell? ⟨g2, k * 4 + 2, none⟩ = some (.int .i64 (f (k * 4 + 2))) ∧ w.cell? ⟨g2, k * 4 + 3, none⟩ = some (.int .i64 (f (k * 4 + 3))))
theorem two_of {w : World} {g1 g2 n k : Nat} {f : Nat → Int} (h1 : Quads w g1 n f) (h2 : Quads w g2 n f) (hk : k < n) : Two g1 g2 k f w := ⟨h1.open k hk, h2.open k hk⟩
theorem Laid4.lt {w : World} {g n k : Nat} {f : Nat → Int} (h : Laid4 w g n k f) : g < w.heap.size := by
  obtain ⟨cur, h1, -⟩ := h
  exact h1.lt
theorem Laid4.part {w : World} {g c n : Nat} {f : Nat → Int} (h : Laid4 w g c n f) : Quads w g n f := by
  obtain ⟨cur, h1, h2, h3⟩ := h
  exact ⟨h1.lt, fun i hi => h1.cell i (h3 i hi)⟩
theorem Laid4.turn {w w' : World} {lo hi g n k : Nat} {f : Nat → Int} (h : Laid4 w g n k f) (t : Turn lo hi w w') (hd : g < lo ∨ hi ≤ g) : Laid4 w' g n k f := by
  obtain ⟨cur, h1, h2, h3⟩ := h
  exact ⟨cur, h1.turn t hd, h2, h3⟩
end Go.Proofs.YtbninbeccgdemaaDoor
