/-
  A deed loses no sample and no job, and what is left and used is kept: the mathematics of FnLabKept.
-/
import Derived.Test.YtnjnffemidaopaaL17v
import Derived.Test.YtnjnffemidaopaaL17r
namespace Go.Proofs.Ytnjnffemidaopaa
open Go.RowKit

/-- What is left of the first k samples. -/
def lft (f : Nat → Int) : Nat → Int
  | 0 => 0
  | k + 1 => lft f k + f (k * 3 + 2)
theorem lft_congr {f h : Nat → Int} : ∀ n, (∀ i, i < n → f (i * 3 + 2) = h (i * 3 + 2)) → lft f n = lft h n
  | 0, _ => rfl
  | n + 1, e => by rw [lft, lft, lft_congr n (fun i hi => e i (by omega)), e n (by omega)]
theorem lft_ins {f : Nat → Int} {p : Nat} {x y z : Int} : ∀ n, p ≤ n → lft (ins f p x y z) (n + 1) = lft f n + z
  | n, hp => by
    by_cases e : p = n
    · subst e
      rw [lft, ins_2, lft_congr p (fun i hi => ins_lo (by omega))]
    · cases n with
      | zero => omega
      | succ n =>
        rw [lft, lft_ins n (by omega), lft, show (n + 1) * 3 + 2 = (n * 3 + 2) + 3 by omega, ins_hi (by omega)]
        omega
theorem lft_upd {f : Nat → Int} {p : Nat} {v : Int} : ∀ n, p < n → lft (upd f (p * 3 + 2) v) n = lft f n - f (p * 3 + 2) + v
  | 0, h => by omega
  | n + 1, h => by
    by_cases e : p = n
    · subst e
      rw [lft, lft, upd_eq, lft_congr p (fun i hi => upd_ne (by omega))]
      omega
    · rw [lft, lft, lft_upd n (by omega), upd_ne (by omega)]
      omega
theorem lft_keep {f : Nat → Int} {p : Nat} {v : Int} (n : Nat) : lft (upd f (p * 3 + 1) v) n = lft f n := lft_congr n (fun i _ => upd_ne (by omega))
/-- No sample is lost and no job, what is done stays done, and the book grows by what is used. -/
def Kpt (n : Nat) (f : Nat → Int) (m : Nat) (g : Nat → Int) (T K a : Int) (x : Int × LS) : Prop :=
  m ≤ x.2.m ∧ (∀ i, i < n → ∃ k, k < x.2.n ∧ x.2.f (k * 3) = f (i * 3)) ∧ (∀ i, i < m → x.2.g (i * 4) = g (i * 4) ∧ x.2.g (i * 4 + 1) = g (i * 4 + 1) ∧ x.2.g (i * 4 + 2) = g (i * 4 + 2) ∧ (g (i * 4 + 3) ≠ 1 → x.2.g (i * 4 + 3) = g (i * 4 + 3))) ∧ x.2.T + (lft x.2.f x.2.n - (if K = 1 ∧ x.1 = 0 then a else 0)) = T + lft f n
theorem kpt_same {n m : Nat} {f g : Nat → Int} {T K a c : Int} (hc : c ≠ 0) : Kpt n f m g T K a (c, ⟨n, f, m, g, T⟩) := by
  refine ⟨Nat.le_refl _, fun i hi => ⟨i, hi, rfl⟩, fun i _ => ⟨rfl, rfl, rfl, fun _ => rfl⟩, ?_⟩
  rw [if_neg (fun h => hc h.2)]
  show T + (lft f n - 0) = T + lft f n
  omega
theorem kpt_nxt {n m p j : Nat} {f g : Nat → Int} {T K s o a : Int} {ys yj : Bool} (H : LbOk n f m g T) (F : Fnd n f m g s o p ys j yj) (D : dOk K s o a) (hc : codeR n f m g K p ys j yj = 0) : Kpt n f m g T K a (0, nxt n f m g T K s o a p j) := by
  have hK := D.1
  obtain ⟨hp1, -⟩ := F.pl
  rcases (by omega : K = 1 ∨ K = 2 ∨ K = 3 ∨ K = 4 ∨ K = 5 ∨ K = 6 ∨ K = 7 ∨ K = 8) with rfl | rfl | rfl | rfl | rfl | rfl | rfl | rfl
  · have e : nxt n f m g T 1 s o a p j = ⟨n + 1, ins f p s 1 a, m, g, T⟩ := by unfold nxt; rw [if_pos rfl]
    rw [e]
    refine ⟨Nat.le_refl _, fun i hi => ?_, fun i _ => ⟨rfl, rfl, rfl, fun _ => rfl⟩, ?_⟩
    · by_cases h : i < p
      · exact ⟨i, Nat.lt_succ_of_lt hi, ins_lo (by omega)⟩
      · refine ⟨i + 1, Nat.succ_lt_succ hi, ?_⟩
        show ins f p s 1 a ((i + 1) * 3) = _
        rw [show (i + 1) * 3 = i * 3 + 3 by omega, ins_hi (by omega)]
    · rw [if_pos ⟨rfl, rfl⟩]
      show T + (lft (ins f p s 1 a) (n + 1) - a) = _
      rw [lft_ins n hp1]
      omega
  · have e : nxt n f m g T 2 s o a p j = ⟨n, f, m + 1, cat g (m * 4) (four s o a 1), T⟩ := by unfold nxt; rw [if_neg (by decide), if_pos rfl]
    rw [e]
    have c (k : Nat) (h : k < m * 4) : cat g (m * 4) (four s o a 1) k = g k := by unfold cat; rw [if_pos h]
    refine ⟨Nat.le_succ _, fun i hi => ⟨i, hi, rfl⟩, fun i hi => ⟨c _ (by omega), c _ (by omega), c _ (by omega), fun _ => c _ (by omega)⟩, ?_⟩
    rw [if_neg (fun h => by cases h.1)]
    show T + (lft f n - 0) = _
    omega
  · have e : nxt n f m g T 3 s o a p j = ⟨n, upd f (p * 3 + 1) 2, m, g, T⟩ := by
      unfold nxt
      rw [if_neg (by decide), if_neg (by decide), if_pos rfl]
    rw [e]
    refine ⟨Nat.le_refl _, fun i hi => ⟨i, hi, upd_ne (by omega)⟩, fun i _ => ⟨rfl, rfl, rfl, fun _ => rfl⟩, ?_⟩
    rw [if_neg (fun h => by cases h.1)]
    show T + (lft (upd f (p * 3 + 1) 2) n - 0) = _
    rw [lft_keep]
    omega
  · have e : nxt n f m g T 4 s o a p j = ⟨n, upd f (p * 3 + 1) 3, m, g, T⟩ := by
      unfold nxt
      rw [if_neg (by decide), if_neg (by decide), if_neg (by decide), if_pos rfl]
    rw [e]
    refine ⟨Nat.le_refl _, fun i hi => ⟨i, hi, upd_ne (by omega)⟩, fun i _ => ⟨rfl, rfl, rfl, fun _ => rfl⟩, ?_⟩
    rw [if_neg (fun h => by cases h.1)]
    show T + (lft (upd f (p * 3 + 1) 3) n - 0) = _
    rw [lft_keep]
    omega
  · have e : nxt n f m g T 5 s o a p j = ⟨n, upd f (p * 3 + 1) 1, m, g, T⟩ := by
      unfold nxt
      rw [if_neg (by decide), if_neg (by decide), if_neg (by decide), if_neg (by decide), if_pos rfl]
    rw [e]
    refine ⟨Nat.le_refl _, fun i hi => ⟨i, hi, upd_ne (by omega)⟩, fun i _ => ⟨rfl, rfl, rfl, fun _ => rfl⟩, ?_⟩
    rw [if_neg (fun h => by cases h.1)]
    show T + (lft (upd f (p * 3 + 1) 1) n - 0) = _
    rw [lft_keep]
    omega
  · have e : nxt n f m g T 6 s o a p j = ⟨n, upd f (p * 3 + 2) (f (p * 3 + 2) - g (j * 4 + 2)), m, upd g (j * 4 + 3) 2, T + g (j * 4 + 2)⟩ := by
      unfold nxt
      rw [if_neg (by decide), if_neg (by decide), if_neg (by decide), if_neg (by decide), if_neg (by decide), if_pos rfl]
    rw [e]
    unfold codeR at hc
    rw [if_neg (by decide), if_neg (by decide), if_neg (by decide), if_neg (by decide), if_neg (by decide), if_pos rfl] at hc
    cases yj
    · simp at hc
    obtain ⟨j1, j2, j3, j4⟩ := F.jy rfl
    have hg1 : g (j * 4 + 3) = 1 := by
      by_cases hp3 : f (p * 3 + 1) ≠ 3
      · simp [hp3] at hc
      by_cases hg1 : g (j * 4 + 3) ≠ 1
      · simp [hp3, hg1] at hc
      · omega
    have hpn : p < n := by
      obtain ⟨k, hk, ek⟩ := (H.2.1.2 j j1).2.1
      obtain ⟨-, h2, h3⟩ := F.pl
      have := Nat.lt_or_ge k p
      rcases this with h | h
      · have := h2 k h
        omega
      · omega
    refine ⟨Nat.le_refl _, fun i hi => ⟨i, hi, upd_ne (by omega)⟩, fun i hi => ⟨upd_ne (by omega), upd_ne (by omega), upd_ne (by omega), fun h => ?_⟩, ?_⟩
    · by_cases ij : i = j
      · subst ij; exact absurd hg1 h
      · exact upd_ne (by omega)
    · rw [if_neg (fun h => by cases h.1)]
      show T + g (j * 4 + 2) + (lft (upd f (p * 3 + 2) (f (p * 3 + 2) - g (j * 4 + 2))) n - 0) = _
      rw [lft_upd n hpn]
      omega
  · have e : nxt n f m g T 7 s o a p j = ⟨n, f, m, upd g (j * 4 + 3) 3, T⟩ := by
      unfold nxt
      rw [if_neg (by decide), if_neg (by decide), if_neg (by decide), if_neg (by decide), if_neg (by decide), if_neg (by decide), if_pos rfl]
    rw [e]
    unfold codeR at hc
    rw [if_neg (by decide), if_neg (by decide), if_neg (by decide), if_neg (by decide), if_neg (by decide), if_neg (by decide), if_pos rfl] at hc
    cases yj
    · simp at hc
    have hg1 : g (j * 4 + 3) = 1 := by
      by_cases hg1 : g (j * 4 + 3) ≠ 1
      · simp [hg1] at hc
      · omega
    refine ⟨Nat.le_refl _, fun i hi => ⟨i, hi, rfl⟩, fun i hi => ⟨upd_ne (by omega), upd_ne (by omega), upd_ne (by omega), fun h => ?_⟩, ?_⟩
    · by_cases ij : i = j
      · subst ij; exact absurd hg1 h
      · exact upd_ne (by omega)
    · rw [if_neg (fun h => by cases h.1)]
      show T + (lft f n - 0) = _
      omega
  · have e : nxt n f m g T 8 s o a p j = ⟨n, upd f (p * 3 + 1) 4, m, offK g s m, T⟩ := by
      unfold nxt
      rw [if_neg (by decide), if_neg (by decide), if_neg (by decide), if_neg (by decide), if_neg (by decide), if_neg (by decide), if_neg (by decide)]
    rw [e]
    have c (i : Nat) (h : i % 4 ≠ 3 ∨ g i ≠ 1) : offK g s m i = g i := by
      unfold offK
      rw [if_neg (fun h' => by rcases h with h | h; exact h h'.2.1; exact h h'.2.2.2)]
    refine ⟨Nat.le_refl _, fun i hi => ⟨i, hi, upd_ne (by omega)⟩, fun i hi => ⟨c _ (.inl (by omega)), c _ (.inl (by omega)), c _ (.inl (by omega)), fun h => c _ (.inr h)⟩, ?_⟩
    rw [if_neg (fun h => by cases h.1)]
    show T + (lft (upd f (p * 3 + 1) 4) n - 0) = _
    rw [lft_keep]
    omega
theorem kpt_told {n m p j : Nat} {f g : Nat → Int} {T K s o a : Int} {ys yj : Bool} {x : Int × LS} (H : LbOk n f m g T) (hx : ToldD n f m g T K s o a p ys j yj x) : Kpt n f m g T K a x ∧ LbOk x.2.n x.2.f x.2.m x.2.g x.2.T := by
  rcases hx with ⟨-, F, rfl⟩ | ⟨h, -⟩
  case inr => exact absurd H h
  refine ⟨?_, outc_ok H F⟩
  by_cases hd : dOk K s o a
  case neg => rw [outc_bad hd]; exact kpt_same (by decide)
  by_cases hc : codeR n f m g K p ys j yj = 0
  case neg => rw [outc_no hd rfl hc]; exact kpt_same hc
  rw [outc_yes hd hc]
  exact kpt_nxt H F hd hc
end Go.Proofs.Ytnjnffemidaopaa
