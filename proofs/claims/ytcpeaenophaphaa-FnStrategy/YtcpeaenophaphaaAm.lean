/-
  The best plan by trying all: each number below 2^n tells a rising list. Mathematics alone: no function of the program.
-/
import Derived.Test.YtcpeaenophaphaaAl
namespace Go.Proofs.Ytcpeaenophaphaa
open Go.RowKit

/-- The places below k where N has a one. -/
def mk (N : Nat) : Nat → List Nat
  | 0 => []
  | k + 1 => if N / 2 ^ k % 2 = 1 then mk N k ++ [k] else mk N k
theorem mk_yes {N k : Nat} (h : N / 2 ^ k % 2 = 1) : mk N (k + 1) = mk N k ++ [k] := if_pos h
theorem mk_no {N k : Nat} (h : ¬ N / 2 ^ k % 2 = 1) : mk N (k + 1) = mk N k := if_neg h
theorem rsg_up {n m : Nat} {l : List Nat} (h : rsg n l) (hm : n ≤ m) : rsg m l := ⟨h.1, fun x hx => Nat.lt_of_lt_of_le (h.2 x hx) hm⟩
theorem mk_rsg (N k : Nat) : rsg k (mk N k) := by
  induction k with
  | zero => exact ⟨.nil, fun x hx => by cases hx⟩
  | succ k ih =>
    by_cases h : N / 2 ^ k % 2 = 1
    · rw [mk_yes h]
      exact rsg_add.2 ⟨rsg_up ih (Nat.le_succ _), endOf_le ih, Nat.lt_succ_self _⟩
    · rw [mk_no h]
      exact rsg_up ih (Nat.le_succ _)
theorem mk_len (N k : Nat) : (mk N k).length ≤ k := by
  induction k with
  | zero => exact Nat.le_refl _
  | succ k ih =>
    by_cases h : N / 2 ^ k % 2 = 1
    · rw [mk_yes h, List.length_append]; simp only [List.length_cons, List.length_nil]; omega
    · rw [mk_no h]; omega
theorem bit_more (N : Nat) {k i : Nat} (hi : i < k) : (N + 2 ^ k) / 2 ^ i % 2 = N / 2 ^ i % 2 := by
  obtain ⟨d, rfl⟩ : ∃ d, k = i + (d + 1) := ⟨k - i - 1, by omega⟩
  have hp : 0 < 2 ^ i := Nat.two_pow_pos i
  rw [Nat.pow_add, Nat.add_mul_div_left _ _ hp, Nat.pow_succ, Nat.add_mul_mod_self_right]
theorem mk_more (N : Nat) {k j : Nat} (hj : j ≤ k) : mk (N + 2 ^ k) j = mk N j := by
  induction j with
  | zero => rfl
  | succ j ih => simp only [mk, bit_more N (show j < k by omega), ih (by omega)]
theorem mk_onto : ∀ (k : Nat) (l : List Nat), rsg k l → ∃ N, N < 2 ^ k ∧ mk N k = l := by
  intro k
  induction k with
  | zero =>
    intro l h
    cases l with
    | nil => exact ⟨0, by simp, rfl⟩
    | cons a l => exact absurd (h.2 a (by simp)) (by omega)
  | succ k ih =>
    intro l h
    have hp : 0 < 2 ^ k := Nat.two_pow_pos k
    have low : ∀ s, rsg k s → ∃ N, N < 2 ^ (k + 1) ∧ mk N (k + 1) = s := fun s hs => by
      obtain ⟨N, h1, h2⟩ := ih s hs
      refine ⟨N, by rw [Nat.pow_succ]; omega, ?_⟩
      rw [mk_no (by rw [Nat.div_eq_of_lt h1]; omega), h2]
    rcases List.eq_nil_or_concat l with rfl | ⟨s, x, rfl⟩
    · exact low [] ⟨.nil, fun x hx => by cases hx⟩
    · rw [List.concat_eq_append] at h ⊢
      obtain ⟨h1, h2, h3⟩ := rsg_add.1 h
      have hs : rsg x s := ⟨h1.1, fun y hy => by have := below_end h1 y hy; omega⟩
      by_cases e : x = k
      · subst e
        obtain ⟨N, h4, h5⟩ := ih s hs
        refine ⟨N + 2 ^ x, by rw [Nat.pow_succ]; omega, ?_⟩
        rw [mk_yes (by rw [Nat.add_div_right _ hp, Nat.div_eq_of_lt h4]), mk_more N (Nat.le_refl _), h5]
      · exact low _ (rsg_add.2 ⟨rsg_up hs (by omega), h2, by omega⟩)
/-- The best so far: of the numbers below t none tells a better plan that shows everything. -/
def BestT (n : Nat) (cov : List Nat → Prop) (t : Nat) (b : List Nat) : Prop := rsg n b ∧ cov b ∧ ∀ N, N < t → cov (mk N n) → ¬ plt (mk N n) b
theorem BestT.start {n : Nat} {cov : List Nat → Prop} {b : List Nat} (h : rsg n b) (hc : cov b) : BestT n cov 0 b := ⟨h, hc, fun _ hN => absurd hN (Nat.not_lt_zero _)⟩
theorem BestT.stay {n t : Nat} {cov : List Nat → Prop} {b : List Nat} (h : BestT n cov t b) (hn : ¬ (cov (mk t n) ∧ plt (mk t n) b)) : BestT n cov (t + 1) b := by
  refine ⟨h.1, h.2.1, fun N hN hc hp => ?_⟩
  by_cases e : N = t
  · subst e; exact hn ⟨hc, hp⟩
  · exact h.2.2 N (by omega) hc hp
theorem BestT.take {n t : Nat} {cov : List Nat → Prop} {b : List Nat} (h : BestT n cov t b) (hc : cov (mk t n)) (hp : plt (mk t n) b) : BestT n cov (t + 1) (mk t n) := by
  refine ⟨mk_rsg t n, hc, fun N hN hcN hpN => ?_⟩
  by_cases e : N = t
  · subst e; exact plt_irr _ hpN
  · exact h.2.2 N (by omega) hcN (plt_tr hpN hp)
theorem BestT.done {n : Nat} {cov : List Nat → Prop} {b : List Nat} (h : BestT n cov (2 ^ n) b) : BestP n cov b := by
  refine ⟨h.1, h.2.1, fun p hp hc hlt => ?_⟩
  obtain ⟨N, h1, rfl⟩ := mk_onto n p hp
  exact h.2.2 N h1 hc hlt
end Go.Proofs.Ytcpeaenophaphaa
