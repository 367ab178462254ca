/-
  Lists of rows of K numbers in order: what stays of one when neighbours that are alike go, and when two are the same. No function of the program.
-/
import Derived.Test.YtiocneailhplkaaGreatNB
import Derived.Test.YtiocneailhplkaaGreatMF
import Derived.Test.YtiocneailhplkaaGreatMK
namespace Go.Proofs.YtiocneailhplkaaGreat
open Go.RowKit

/-- This one is not as the one ahead of it. -/
def dupK (K : Nat) (F : Nat → Nat → Int) (i : Nat) : Bool := decide (i = 0 ∨ ¬ lexC K (F i) (F (i - 1)) = 0)
theorem lexC_symm0 {K : Nat} {x y : Nat → Int} (h : lexC K x y = 0) : lexC K y x = 0 := lexC_zero.2 (fun l hl => (lexC_zero.1 h l hl).symm)
theorem lexC_left {K : Nat} {x y z : Nat → Int} (h : lexC K x y = 0) : lexC K x z = lexC K y z := lexC_eq (lexC_zero.1 h) (fun _ _ => rfl)
theorem lexC_right {K : Nat} {x y z : Nat → Int} (h : lexC K y z = 0) : lexC K x y = lexC K x z := lexC_eq (fun _ _ => rfl) (lexC_zero.1 h)
/-- What stays: it rises, its last is as the last one looked at, and it has all that was there. -/
structure Stay (K : Nat) (F : Nat → Nat → Int) (n : Nat) : Prop where
  up : ∀ t, t + 1 < kN (dupK K F) n → lexC K (F (kI (dupK K F) n t)) (F (kI (dupK K F) n (t + 1))) < 0
  last : 0 < n → 0 < kN (dupK K F) n ∧ lexC K (F (kI (dupK K F) n (kN (dupK K F) n - 1))) (F (n - 1)) = 0
  all : ∀ i, i < n → ∃ t, t < kN (dupK K F) n ∧ lexC K (F (kI (dupK K F) n t)) (F i) = 0
theorem stay_of {K : Nat} {F : Nat → Nat → Int} : ∀ {n : Nat}, (∀ i j, i < j → j < n → ¬ lexC K (F j) (F i) < 0) → Stay K F n
  | 0, _ => ⟨fun t ht => absurd ht (Nat.not_lt_zero _), fun h => absurd h (Nat.lt_irrefl _), fun i hi => absurd hi (Nat.not_lt_zero _)⟩
  | n + 1, hs => by
    have S := stay_of (n := n) (fun i j h1 h2 => hs i j h1 (by omega))
    cases hd : dupK K F n
    · have hN := kN_no hd
      have h1 : ¬ (n = 0 ∨ ¬ lexC K (F n) (F (n - 1)) = 0) := of_decide_eq_false hd
      have h0 : 0 < n := Nat.pos_of_ne_zero fun e => h1 (.inl e)
      have he : lexC K (F n) (F (n - 1)) = 0 := Decidable.byContradiction fun e => h1 (.inr e)
      obtain ⟨l1, l2⟩ := S.last h0
      have l3 : lexC K (F (kI (dupK K F) n (kN (dupK K F) n - 1))) (F n) = 0 := by rw [lexC_right he]; exact l2
      refine ⟨fun t ht => ?_, fun _ => ⟨by omega, ?_⟩, fun i hi => ?_⟩
      · rw [kI_no hd, kI_no hd]; exact S.up t (by omega)
      · rw [kI_no hd, hN, Nat.add_sub_cancel]; exact l3
      · by_cases e : i = n
        · subst e; exact ⟨kN (dupK K F) i - 1, by omega, by rw [kI_no hd]; exact l3⟩
        · obtain ⟨t, ht, h⟩ := S.all i (by omega)
          exact ⟨t, by omega, by rw [kI_no hd]; exact h⟩
    · have hN := kN_yes hd
      have hnew := kI_new hd
      have less : ∀ t, t + 1 = kN (dupK K F) n → lexC K (F (kI (dupK K F) n t)) (F n) < 0 := fun t ht => by
        have h0 : 0 < n := by
          have := kN_le (dupK K F) n
          omega
        obtain ⟨l1, l2⟩ := S.last h0
        rw [show kN (dupK K F) n - 1 = t by omega] at l2
        have h1 : n = 0 ∨ ¬ lexC K (F n) (F (n - 1)) = 0 := of_decide_eq_true hd
        have h2 : ¬ lexC K (F n) (F (n - 1)) = 0 := by rcases h1 with h1 | h1; omega; exact h1
        have h3 := hs (n - 1) n (by omega) (by omega)
        have h4 : lexC K (F (n - 1)) (F n) < 0 := by
          rcases lexC_range K (F (n - 1)) (F n) with e | e | e
          · omega
          · exact absurd (lexC_symm0 e) h2
          · exact absurd (lexC_pos.1 (by omega : 0 < lexC K (F (n - 1)) (F n))) h3
        rw [lexC_left l2]
        exact h4
      refine ⟨fun t ht => ?_, fun _ => ⟨by omega, ?_⟩, fun i hi => ?_⟩
      · by_cases e : t + 1 = kN (dupK K F) n
        · rw [e, hnew, kI_old hd (by omega)]; exact less t e
        · rw [kI_old hd (by omega), kI_old hd (by omega)]; exact S.up t (by omega)
      · rw [hN, Nat.add_sub_cancel, hnew, Nat.add_sub_cancel]; exact lexC_zero.2 (fun _ _ => rfl)
      · by_cases e : i = n
        · subst e; exact ⟨kN (dupK K F) i, by omega, by rw [hnew]; exact lexC_zero.2 (fun _ _ => rfl)⟩
        · obtain ⟨t, ht, h⟩ := S.all i (by omega)
          exact ⟨t, by omega, by rw [kI_old hd ht]; exact h⟩
theorem up_lt {K n : Nat} {G : Nat → Nat → Int} (hG : ∀ t, t + 1 < n → lexC K (G t) (G (t + 1)) < 0) {i j : Nat} (hij : i < j) (hj : j < n) : lexC K (G i) (G j) < 0 := by
  obtain ⟨d, rfl⟩ : ∃ d, j = i + 1 + d := ⟨j - i - 1, by omega⟩
  induction d with
  | zero => exact hG i (by omega)
  | succ d ih => exact lexC_trans (ih (by omega) (by omega)) (hG (i + 1 + d) (by omega))
/-- Two lists that rise and hold the same are the same. -/
theorem rising_same {K : Nat} {G H : Nat → Nat → Int} : ∀ {n m : Nat}, (∀ t, t + 1 < n → lexC K (G t) (G (t + 1)) < 0) → (∀ t, t + 1 < m → lexC K (H t) (H (t + 1)) < 0) → (∀ i, i < n → ∃ j, j < m ∧ lexC K (G i) (H j) = 0) → (∀ j, j < m → ∃ i, i < n ∧ lexC K (G i) (H j) = 0) → n = m ∧ ∀ i, i < n → lexC K (G i) (H i) = 0
  | 0, m, _, _, _, h4 => ⟨by
      rcases Nat.eq_zero_or_pos m with e | e
      · exact e.symm
      · obtain ⟨i, hi, -⟩ := h4 0 e
        omega, fun i hi => absurd hi (Nat.not_lt_zero _)⟩
  | n + 1, 0, _, _, h3, _ => by obtain ⟨j, hj, -⟩ := h3 n (by omega); omega
  | n + 1, m + 1, h1, h2, h3, h4 => by
    have top : lexC K (G n) (H m) = 0 := by
      obtain ⟨j, hj, ej⟩ := h3 n (by omega)
      obtain ⟨i, hi, ei⟩ := h4 m (by omega)
      by_cases e : j = m
      · rw [← e]; exact ej
      · have a1 := up_lt h2 (show j < m by omega) (by omega)
        by_cases e' : i = n
        · rw [← e']; exact ei
        · have a2 := up_lt h1 (show i < n by omega) (by omega)
          rw [lexC_left ei] at a2
          rw [lexC_left (lexC_symm0 ej)] at a1
          exact absurd (lexC_trans a1 a2) (lexC_irrefl K _)
    obtain ⟨e1, e2⟩ := rising_same (n := n) (m := m) (fun t ht => h1 t (by omega)) (fun t ht => h2 t (by omega)) (fun i hi => by
      obtain ⟨j, hj, ej⟩ := h3 i (by omega)
      refine ⟨j, ?_, ej⟩
      by_cases e : j = m
      · exfalso
        subst e
        have a := up_lt h1 (show i < n by omega) (by omega)
        rw [lexC_left ej, lexC_left (lexC_symm0 top)] at a
        exact lexC_irrefl K _ a
      · omega) (fun j hj => by
      obtain ⟨i, hi, ei⟩ := h4 j (by omega)
      refine ⟨i, ?_, ei⟩
      by_cases e : i = n
      · exfalso
        subst e
        have a := up_lt h2 (show j < m by omega) (by omega)
        rw [lexC_left (lexC_symm0 ei), lexC_left top] at a
        exact lexC_irrefl K _ a
      · omega)
    refine ⟨by omega, fun i hi => ?_⟩
    by_cases e : i = n
    · subst e; rw [e1]; rw [e1] at top; exact top
    · exact e2 i (by omega)
end Go.Proofs.YtiocneailhplkaaGreat
