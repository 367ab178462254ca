/-
  The order of operators: twelve numbers, compared from the front. No function of the program.
-/
import Derived.Test.YtmjeplhigjlopaaCat
namespace Go.Proofs.Ytmjeplhigjlopaa
open Go.RowKit

/-- Two rows of n numbers held against each other from place i on. -/
theorem cmpF_cases (f h : Nat → Int) (n : Nat) : ∀ k i, i + k = n → (cmpF f h n n k i = 0 ∧ ∀ j, i ≤ j → j < n → f j = h j) ∨ ∃ p, i ≤ p ∧ p < n ∧ (∀ j, i ≤ j → j < p → f j = h j) ∧ ((f p < h p ∧ cmpF f h n n k i = -1) ∨ (h p < f p ∧ cmpF f h n n k i = 1)) := by
  intro k
  induction k with
  | zero =>
    intro i hi
    refine .inl ⟨?_, fun j h1 h2 => by omega⟩
    obtain rfl : i = n := by omega
    have := cmpF_end (f := f) (h := h) (n := i) (m := i)
    rw [Nat.sub_self] at this
    rw [this, if_neg (by omega)]
  | succ k ih =>
    intro i hi
    have hlt : i < n := by omega
    have hs := cmpF_step (f := f) (h := h) (n := n) (m := n) hlt
    have e1 : n - i = k + 1 := by omega
    have e2 : n - (i + 1) = k := by omega
    rw [e1, e2, if_neg (by omega)] at hs
    by_cases h1 : f i < h i
    · rw [if_pos h1] at hs
      exact .inr ⟨i, Nat.le_refl _, hlt, fun j a b => by omega, .inl ⟨h1, hs⟩⟩
    · rw [if_neg h1] at hs
      by_cases h2 : h i < f i
      · rw [if_pos h2] at hs
        exact .inr ⟨i, Nat.le_refl _, hlt, fun j a b => by omega, .inr ⟨h2, hs⟩⟩
      · rw [if_neg h2] at hs
        have he : f i = h i := by omega
        rcases ih (i + 1) (by omega) with ⟨a, b⟩ | ⟨p, a, b, c, d⟩
        · refine .inl ⟨by rw [hs, a], fun j h3 h4 => ?_⟩
          by_cases e : j = i
          · rw [e, he]
          · exact b j (by omega) h4
        · refine .inr ⟨p, by omega, b, fun j h3 h4 => ?_, by rw [hs]; exact d⟩
          by_cases e : j = i
          · rw [e, he]
          · exact c j (by omega) h4
/-- Two rows of n numbers held against each other. -/
def lexC (n : Nat) (f h : Nat → Int) : Int := cmpF f h n n n 0
theorem lexC_cases (n : Nat) (f h : Nat → Int) : (lexC n f h = 0 ∧ ∀ j, j < n → f j = h j) ∨ ∃ p, p < n ∧ (∀ j, j < p → f j = h j) ∧ ((f p < h p ∧ lexC n f h = -1) ∨ (h p < f p ∧ lexC n f h = 1)) := by
  rcases cmpF_cases f h n n 0 (by omega) with ⟨a, b⟩ | ⟨p, -, b, c, d⟩
  · exact .inl ⟨a, fun j hj => b j (Nat.zero_le _) hj⟩
  · exact .inr ⟨p, b, fun j hj => c j (Nat.zero_le _) hj, d⟩
theorem lexC_zero {n : Nat} {f h : Nat → Int} : lexC n f h = 0 ↔ ∀ j, j < n → f j = h j := by
  rcases lexC_cases n f h with ⟨a, b⟩ | ⟨p, hp, c, d⟩
  · exact ⟨fun _ => b, fun _ => a⟩
  · constructor
    · intro e
      rcases d with ⟨_, d⟩ | ⟨_, d⟩ <;> omega
    · intro e
      have := e p hp
      rcases d with ⟨d, _⟩ | ⟨d, _⟩ <;> omega
theorem lexC_range (n : Nat) (f h : Nat → Int) : lexC n f h = -1 ∨ lexC n f h = 0 ∨ lexC n f h = 1 := by
  rcases lexC_cases n f h with ⟨a, -⟩ | ⟨p, -, -, ⟨-, d⟩ | ⟨-, d⟩⟩
  · exact .inr (.inl a)
  · exact .inl d
  · exact .inr (.inr d)
theorem lexC_neg {n : Nat} {f h : Nat → Int} : lexC n f h < 0 ↔ ∃ p, p < n ∧ (∀ j, j < p → f j = h j) ∧ f p < h p := by
  rcases lexC_cases n f h with ⟨a, b⟩ | ⟨p, hp, c, d⟩
  · constructor
    · intro h1; omega
    · rintro ⟨p, hp, -, hlt⟩
      have := b p hp
      omega
  · constructor
    · intro h1
      rcases d with ⟨d, _⟩ | ⟨_, d⟩
      · exact ⟨p, hp, c, d⟩
      · omega
    · rintro ⟨p', hp', c', hlt⟩
      rcases d with ⟨_, d⟩ | ⟨d, _⟩
      · omega
      · exfalso
        rcases Nat.lt_trichotomy p p' with hh | hh | hh
        · have := c' p hh; omega
        · subst hh; omega
        · have := c p' hh; omega
theorem lexC_trans {n : Nat} {f g h : Nat → Int} (h1 : lexC n f g < 0) (h2 : lexC n g h < 0) : lexC n f h < 0 := by
  obtain ⟨p, hp, a, b⟩ := lexC_neg.1 h1
  obtain ⟨q, hq, c, d⟩ := lexC_neg.1 h2
  rcases Nat.lt_trichotomy p q with hh | hh | hh
  · exact lexC_neg.2 ⟨p, hp, fun j hj => (a j hj).trans (c j (by omega)), by rw [← c p hh]; exact b⟩
  · subst hh
    exact lexC_neg.2 ⟨p, hp, fun j hj => (a j hj).trans (c j hj), by omega⟩
  · exact lexC_neg.2 ⟨q, hq, fun j hj => (a j (by omega)).trans (c j hj), by rw [a q hh]; exact d⟩
theorem lexC_irrefl (n : Nat) (f : Nat → Int) : ¬ lexC n f f < 0 := by
  intro h1
  obtain ⟨p, _, _, h⟩ := lexC_neg.1 h1
  omega
theorem lexC_pos {n : Nat} {f h : Nat → Int} : 0 < lexC n f h ↔ lexC n h f < 0 := by
  rw [lexC_neg]
  rcases lexC_cases n f h with ⟨a, b⟩ | ⟨p, hp, c, d⟩
  · constructor
    · intro h1; omega
    · rintro ⟨p, hp, -, hlt⟩
      have := b p hp
      omega
  · constructor
    · intro h1
      rcases d with ⟨_, d⟩ | ⟨d, _⟩
      · omega
      · exact ⟨p, hp, fun j hj => (c j hj).symm, d⟩
    · rintro ⟨p', hp', c', hlt⟩
      rcases d with ⟨d, _⟩ | ⟨_, d⟩
      · exfalso
        rcases Nat.lt_trichotomy p p' with hh | hh | hh
        · have := c' p hh; omega
        · subst hh; omega
        · have := c p' hh; omega
      · omega
theorem lexC_congr {n : Nat} {f f' h h' : Nat → Int} (h1 : ∀ j, j < n → f j = f' j) (h2 : ∀ j, j < n → h j = h' j) : lexC n f h < 0 ↔ lexC n f' h' < 0 := by
  rw [lexC_neg, lexC_neg]
  constructor
  · rintro ⟨p, hp, a, b⟩
    exact ⟨p, hp, fun j hj => by rw [← h1 j (by omega), ← h2 j (by omega)]; exact a j hj, by rw [← h1 p hp, ← h2 p hp]; exact b⟩
  · rintro ⟨p, hp, a, b⟩
    exact ⟨p, hp, fun j hj => by rw [h1 j (by omega), h2 j (by omega)]; exact a j hj, by rw [h1 p hp, h2 p hp]; exact b⟩
end Go.Proofs.Ytmjeplhigjlopaa
