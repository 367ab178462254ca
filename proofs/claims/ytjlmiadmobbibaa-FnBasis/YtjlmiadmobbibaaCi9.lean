/-
  The votes' counts together are the pairs of unlike places. Mathematics alone.
-/
import Derived.Test.YtjlmiadmobbibaaBn
namespace Go.Proofs.Ytjlmiadmobbibaa
open Go.RowKit

theorem sm_congr {g h : Nat → Nat} {k : Nat} (e : ∀ i, i < k → g i = h i) : sm g k = sm h k := by
  induction k with
  | zero => rfl
  | succ k ih => rw [sm, sm, ih (fun i hi => e i (by omega)), e k (by omega)]
theorem sm_none {g : Nat → Nat} {k : Nat} (e : ∀ i, i < k → g i = 0) : sm g k = 0 := by rw [sm_congr e, sm_zero]
/-- Of things that are all apart one at most is q. -/
theorem sm_one {T : Type} (p : Nat → T) (q : T) {m : Nat} (hp : ∀ a b, a < m → b < m → p a = p b → a = b) : sm (fun t => @ite _ (q = p t) (Classical.propDecidable _) 1 0) m = @ite _ (∃ t, t < m ∧ p t = q) (Classical.propDecidable _) 1 0 := by
  induction m with
  | zero => rw [if_neg (by rintro ⟨t, ht, -⟩; omega)]; rfl
  | succ m ih =>
    rw [sm, ih (fun a b h1 h2 => hp a b (by omega) (by omega))]
    by_cases e : q = p m
    · rw [if_pos e, if_neg, if_pos ⟨m, by omega, e.symm⟩]
      rintro ⟨t, ht, e2⟩
      have := hp t m (by omega) (by omega) (e2.trans e)
      omega
    · rw [if_neg e]
      by_cases h : ∃ t, t < m ∧ p t = q
      · obtain ⟨t, ht, e2⟩ := h
        rw [if_pos ⟨t, ht, e2⟩, if_pos ⟨t, by omega, e2⟩]
      · rw [if_neg h, if_neg]
        rintro ⟨t, ht, e2⟩
        by_cases e3 : t = m
        · subst e3; exact e e2.symm
        · exact h ⟨t, by omega, e2⟩
/-- A square is its two halves and what lies between. -/
theorem sm_half (h : Nat → Nat → Nat) (n : Nat) : sm (fun a => sm (fun b => h a b) n) n = sm (fun i => sm (fun j => h i j + h j i) i) n + sm (fun i => h i i) n := by
  induction n with
  | zero => rfl
  | succ n ih =>
    have e1 : sm (fun a => sm (fun b => h a b) (n + 1)) n = sm (fun a => sm (fun b => h a b) n) n + sm (fun a => h a n) n := by
      simp only [sm]
      exact sm_add _ _ n
    have e2 : sm (fun j => h n j + h j n) n = sm (fun j => h n j) n + sm (fun j => h j n) n := sm_add _ _ n
    show sm (fun a => sm (fun b => h a b) (n + 1)) n + sm (fun b => h n b) (n + 1) = _
    rw [e1, ih]
    simp only [sm]
    rw [e2]
    omega
noncomputable def ahN (f : Nat → Int) (a b : Nat) : Nat := @ite _ (Ah (lpp f a b).1 (lpp f a b).2) (Classical.propDecidable _) 1 0
/-- Two spots lie at unlike places. -/
noncomputable def dfN (f : Nat → Int) (i j : Nat) : Nat := @ite _ (f (i * 3) ≠ f (j * 3) ∨ f (i * 3 + 1) ≠ f (j * 3 + 1)) (Classical.propDecidable _) 1 0
theorem ah_df (f : Nat → Int) (i j : Nat) : ahN f i j + ahN f j i = dfN f i j := by
  unfold ahN dfN Ah lpp
  simp only
  by_cases h1 : f (i * 3) = f (j * 3)
  · by_cases h2 : f (i * 3 + 1) = f (j * 3 + 1)
    · rw [if_neg (by omega), if_neg (by omega), if_neg (by omega)]
    · rw [if_pos (c := f (i * 3) ≠ f (j * 3) ∨ f (i * 3 + 1) ≠ f (j * 3 + 1)) (by omega)]
      by_cases h3 : f (i * 3 + 1) < f (j * 3 + 1)
      · rw [if_pos (by omega), if_neg (by omega)]
      · rw [if_neg (by omega), if_pos (by omega)]
  · rw [if_pos (c := f (i * 3) ≠ f (j * 3) ∨ f (i * 3 + 1) ≠ f (j * 3 + 1)) (by omega)]
    by_cases h3 : f (i * 3) < f (j * 3)
    · rw [if_pos (by omega), if_neg (by omega)]
    · rw [if_neg (by omega), if_pos (by omega)]
theorem ah_self (f : Nat → Int) (i : Nat) : ahN f i i = 0 := by
  unfold ahN Ah lpp
  rw [if_neg (by simp)]
/-- The counts of all votes together. -/
theorem votes_sum {n : Nat} {f : Nat → Int} {m : Nat} {F : Nat → Vt} (h : VsT n f m F) : sm (fun t => cN n f ((F t).x, (F t).y)) m = sm (fun i => sm (fun j => dfN f i j) i) n := by
  have hin : ∀ t, t < m → Ah (F t).x (F t).y ∧ (F t).c = (cN n f ((F t).x, (F t).y) : Int) ∧ 0 < cN n f ((F t).x, (F t).y) := fun t ht => (h.2 (F t)).1 ⟨t, ht, rfl⟩
  have huni : ∀ a b, a < m → b < m → ((F a).x, (F a).y) = ((F b).x, (F b).y) → a = b := fun a b ha hb e => by
    have h1 := (hin a ha).2.1
    have h2 := (hin b hb).2.1
    rw [e] at h1
    have e3 : (F a).c = (F b).c := h1.trans h2.symm
    injection e with e1 e2
    have hv : F a = F b := by
      cases hA : F a
      cases hB : F b
      rw [hA, hB] at e1 e2 e3
      simp only at e1 e2 e3
      rw [e1, e2, e3]
    rcases Nat.lt_trichotomy a b with hl | hl | hl
    · have := h.1 a b hl hb; rw [hv] at this; exact absurd this (vlt_swo.irr _)
    · exact hl
    · have := h.1 b a hl ha; rw [hv] at this; exact absurd this (vlt_swo.irr _)
  have e1 : sm (fun t => cN n f ((F t).x, (F t).y)) m = sm (fun a => sm (fun b => sm (fun t => ind f ((F t).x, (F t).y) a b) m) n) n := by
    unfold cN
    rw [sm_swap (fun t a => sm (fun b => ind f ((F t).x, (F t).y) a b) n) m n]
    exact sm_congr fun a _ => sm_swap (fun t b => ind f ((F t).x, (F t).y) a b) m n
  have e2 : ∀ a b, a < n → b < n → sm (fun t => ind f ((F t).x, (F t).y) a b) m = ahN f a b := fun a b ha hb => by
    have := sm_one (fun t => ((F t).x, (F t).y)) (lpp f a b) (m := m) huni
    have e3 : sm (fun t => ind f ((F t).x, (F t).y) a b) m = sm (fun t => @ite _ (lpp f a b = ((F t).x, (F t).y)) (Classical.propDecidable _) 1 0) m := sm_congr fun t _ => by
      unfold ind
      by_cases e : lpp f a b = ((F t).x, (F t).y)
      · rw [if_pos e, if_pos e]
      · rw [if_neg e, if_neg e]
    rw [e3, this]
    unfold ahN
    by_cases hA : Ah (lpp f a b).1 (lpp f a b).2
    · rw [if_pos hA, if_pos]
      have hpos : 0 < cN n f ((lpp f a b).1, (lpp f a b).2) := by
        rw [← mem_lpR n f hA.ne]
        rw [← List.count_pos_iff, lpR_count f hA.ne]
        refine Nat.lt_of_lt_of_le (show 0 < ind f ((lpp f a b).1, (lpp f a b).2) a b by unfold ind; rw [if_pos rfl]; omega) ?_
        have key : ∀ (g : Nat → Nat) (k i : Nat), i < k → g i ≤ sm g k := fun g k i hi => by
          induction k with
          | zero => omega
          | succ k ih =>
            rw [sm]
            by_cases e : i = k
            · subst e; omega
            · have := ih (by omega); omega
        exact Nat.le_trans (key (fun b => ind f ((lpp f a b).1, (lpp f a b).2) a b) n b hb |> fun h => by
          have : ∀ c, (fun b => ind f (lpp f a b) a b) c = (fun b => ind f (lpp f a b) a b) c := fun _ => rfl
          exact key (fun c => ind f ((lpp f a b).1, (lpp f a b).2) a c) n b hb) (key (fun a' => sm (fun c => ind f ((lpp f a b).1, (lpp f a b).2) a' c) n) n a ha)
      obtain ⟨t, ht, e⟩ := (h.2 ⟨(lpp f a b).1, (lpp f a b).2, (cN n f ((lpp f a b).1, (lpp f a b).2) : Int)⟩).2 ⟨hA, rfl, hpos⟩
      exact ⟨t, ht, by rw [e]⟩
    · rw [if_neg hA, if_neg]
      rintro ⟨t, ht, e⟩
      have := (hin t ht).1
      rw [← e] at hA
      exact hA this
  rw [e1, sm_congr (h := fun a => sm (fun b => ahN f a b) n) (fun a ha => sm_congr fun b hb => e2 a b ha hb), sm_half, sm_none (fun i _ => ah_self f i), Nat.add_zero]
  exact sm_congr fun i _ => sm_congr fun j _ => ah_df f i j
end Go.Proofs.Ytjlmiadmobbibaa
