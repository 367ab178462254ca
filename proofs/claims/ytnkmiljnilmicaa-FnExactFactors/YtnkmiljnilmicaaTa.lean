/-
  Golden, by the program and by the specification: walked. The root by halving and the root by Newton's steps are one.
-/
import Derived.Test.YtnkmiljnilmicaaRows
import Derived.Test.YtnkmiljnilmicaaKit
namespace Go.Proofs.Ytnkmiljnilmicaa
open Go.RowKit

def IsRoot (n r : Int) : Prop := 0 ≤ r ∧ r * r ≤ n ∧ n < (r + 1) * (r + 1)
theorem lt_of_sq {a b : Int} (hb : 0 ≤ b) (h : a * a < b * b) : a < b := by
  refine Int.lt_of_not_ge fun hc => ?_
  have := Int.mul_le_mul hc hc hb (Int.le_trans hb hc)
  omega
theorem IsRoot.eq {n r s : Int} (h : IsRoot n r) (k : IsRoot n s) : r = s := by
  have h1 := lt_of_sq (a := r) (b := s + 1) (by have := k.1; omega) (Int.lt_of_le_of_lt h.2.1 k.2.2)
  have h2 := lt_of_sq (a := s) (b := r + 1) (by have := h.1; omega) (Int.lt_of_le_of_lt k.2.1 h.2.2)
  omega
theorem newton {n r q : Int} (hr : 0 < r) (hq : 0 ≤ q) (h1 : n < r * (q + 1)) : n < ((r + q) / 2 + 1) * ((r + q) / 2 + 1) := by
  obtain ⟨m, hm⟩ : ∃ m, (r + q) / 2 = m := ⟨_, rfl⟩
  rw [hm]
  have h2 : r + q + 1 ≤ 2 * m + 2 := by omega
  have h3 : (r + q + 1) * (r + q + 1) ≤ (2 * m + 2) * (2 * m + 2) := Int.mul_le_mul h2 h2 (by omega) (by omega)
  have h4 : 0 ≤ (r - q - 1) * (r - q - 1) := by
    rcases Int.le_total 0 (r - q - 1) with h | h
    · exact Int.mul_nonneg h h
    · exact Int.mul_nonneg_of_nonpos_of_nonpos h h
  grind
theorem tdiv_lt {n r : Int} (hn : 0 ≤ n) (hr : 0 < r) : n < r * (n.tdiv r + 1) ∧ r * n.tdiv r ≤ n := by
  rw [Int.tdiv_eq_ediv_of_nonneg hn]
  have h := Int.mul_ediv_add_emod n r
  have h1 := Int.emod_nonneg n (b := r) (by omega)
  have h2 := Int.emod_lt_of_pos n hr
  rw [Int.mul_add]
  omega
theorem in64_any (x lo hi : Int) (w : World) : Calls Try.prog 25 #[.int .i64 x, .int .i64 lo, .int .i64 hi] w fun e w' => e = .returned (.bool (decide (lo ≤ x ∧ x ≤ hi))) ∧ w = w' := by
  by_cases h1 : lo ≤ x <;> by_cases h2 : x ≤ hi
  all_goals
    go_enter Try.func25, Try.ntmps25
    go_wp2
    go_ret
    exact ⟨by simp [h1, h2], rfl⟩

theorem sq_le {a b : Int} (h0 : 0 ≤ a) (h : a ≤ b) : a * a ≤ b * b := Int.mul_le_mul h h h0 (by omega)
theorem root_le {n r : Int} (h1 : n ≤ 5000000000000000000) (h : IsRoot n r) : 0 ≤ r ∧ r ≤ 3000000000 := by
  refine ⟨h.1, ?_⟩
  refine Int.le_of_lt (lt_of_sq (by decide) (Int.lt_of_le_of_lt h.2.1 ?_))
  omega
theorem told_root {n r : Int} {w : World} (h1 : n ≤ 5000000000000000000) (h : IsRoot n r) : ∃ s, Hid (IsRoot n s) ∧ 0 ≤ s ∧ s ≤ 3000000000 ∧ Ending.returned (.int .i64 r) = Ending.returned (.int .i64 s) ∧ w = w := ⟨r, h, (root_le h1 h).1, (root_le h1 h).2, rfl, rfl⟩
set_option maxHeartbeats 1000000 in
theorem implRoot_any (n : Int) (w : World) (h0 : 0 ≤ n) (h1 : n ≤ 5000000000000000000) : Calls Try.prog 28 #[.int .i64 n] w fun e w' => ∃ r, Hid (IsRoot n r) ∧ 0 ≤ r ∧ r ≤ 3000000000 ∧ e = .returned (.int .i64 r) ∧ w = w' := by
  go_enter Try.func28, Try.ntmps28
  go_wp2
  go_loopw [3] (fun s wr => ∃ r : Int, 0 ≤ r ∧ r ≤ n ∧ n < (r + 1) * (r + 1) ∧ s = .int .i64 r ∧ w = wr) (fun s _ => (intOf s).toNat)
  case atStart => exact ⟨n, h0, by omega, by have := Int.mul_le_mul (show n + 1 ≤ n + 1 by omega) (show (1 : Int) ≤ n + 1 by omega) (by decide) (by omega); omega, rfl, rfl⟩
  case round =>
    obtain ⟨r, a1, a2, a3, rfl, rfl⟩ := hrel
    have H3 : Hid (n < (r + 1) * (r + 1)) := a3
    clear a3
    by_cases hz : 0 < r
    · have hd := tdiv_lt h0 hz
      obtain ⟨q, hq⟩ : ∃ q, Int.tdiv n r = q := ⟨_, rfl⟩
      rw [hq] at hd
      have q0 : 0 ≤ q := by rw [← hq]; exact Int.tdiv_nonneg h0 a1
      have hne : r ≠ 0 := by omega
      have hne1 : r ≠ -1 := by omega
      obtain ⟨d1, d2⟩ := hd
      have hrq : r + q ≤ n + 1 := by
        by_cases h : 0 < q
        · have := Int.mul_nonneg (show 0 ≤ r - 1 by omega) (show 0 ≤ q - 1 by omega)
          rw [Int.sub_mul, Int.mul_sub] at this
          omega
        · omega
      have D1 : Hid (n < r * (q + 1)) := d1
      have D2 : Hid (r * q ≤ n) := d2
      clear d1 d2
      by_cases hc : q < r
      · obtain ⟨m, hm⟩ : ∃ m, Int.tdiv (r + q) 2 = m := ⟨_, rfl⟩
        have hm' := hm
        rw [Int.tdiv_eq_ediv_of_nonneg (by omega)] at hm'
        have hm1 : 0 ≤ m ∧ m ≤ 5000000000000000001 := by omega
        obtain ⟨hm1, hm2⟩ := hm1
        have HM : Hid ((r + q) / 2 = m) := hm'
        clear hm'
        go_wp2
        have hm' := HM.out
        refine ⟨⟨m, by omega, by omega, by rw [← hm']; exact newton hz q0 D1.out, rfl, by trivial⟩, by simp [intOf]; omega⟩
      · go_wp2
        go_ret
        refine told_root h1 ⟨a1, ?_, H3.out⟩
        exact Int.le_trans (Int.mul_le_mul_of_nonneg_left (by omega) a1) D2.out
    · obtain rfl : r = 0 := by omega
      go_wp2
      go_ret
      exact told_root h1 ⟨by decide, by simpa using h0, H3.out⟩
/-- What Golden tells. -/
def golden (k v : Int) : Prop := (¬ (0 ≤ k ∧ k ≤ 1000000000) ∧ v = 0) ∨ (0 ≤ k ∧ k ≤ 1000000000 ∧ ∃ r, IsRoot (5 * k * k) r ∧ 0 ≤ r ∧ r ≤ 3000000000 ∧ v = (k + r) / 2)
theorem golden_eq {k u v : Int} (h : golden k u) (g : golden k v) : u = v := by
  rcases h with ⟨h1, rfl⟩ | ⟨h1, h2, r, h3, -, -, rfl⟩ <;> rcases g with ⟨g1, rfl⟩ | ⟨g1, g2, s, g3, -, -, rfl⟩
  · rfl
  · exact absurd ⟨g1, g2⟩ h1
  · exact absurd ⟨h1, h2⟩ g1
  · rw [h3.eq g3]
set_option maxHeartbeats 1000000 in
theorem implGolden_any (k : Int) (w : World) : Calls Try.prog 17 #[.int .i64 k] w fun e w' => ∃ v, golden k v ∧ e = .returned (.int .i64 v) ∧ w = w' := by
  by_cases hk0 : 0 ≤ k
  · by_cases hk1 : k ≤ 1000000000
    · have b1 := sq_le hk0 hk1
      have b0 : 0 ≤ k * k := Int.mul_nonneg hk0 hk0
      obtain ⟨y, hy⟩ : ∃ y, 5 * k * k = y := ⟨_, rfl⟩
      have hy1 : 0 ≤ y ∧ y ≤ 5000000000000000000 := by rw [Int.mul_assoc] at hy; omega
      obtain ⟨hy1, hy2⟩ := hy1
      clear b1 b0
      go_enter Try.func17, Try.ntmps17
      go_wp2_with (go_at_call 28; refine (implRoot_any _ _ hy1 hy2).mono ?_; rintro e w2 ⟨r, hr, r0, r1, rfl, rfl⟩)
      go_ret
      exact ⟨_, .inr ⟨hk0, hk1, r, by rw [hy]; exact hr.out, r0, r1, rfl⟩, rfl, rfl⟩
    · go_enter Try.func17, Try.ntmps17
      go_wp2
      go_ret
      exact ⟨0, .inl ⟨by omega, rfl⟩, rfl, rfl⟩
  · go_enter Try.func17, Try.ntmps17
    go_wp2
    go_ret
    exact ⟨0, .inl ⟨by omega, rfl⟩, rfl, rfl⟩
/-- The whole root. -/
def rt : Nat → Nat
  | 0 => 0
  | n + 1 => if (rt n + 1) * (rt n + 1) ≤ n + 1 then rt n + 1 else rt n
theorem rt_is (n : Nat) : rt n * rt n ≤ n ∧ n < (rt n + 1) * (rt n + 1) := by
  induction n with
  | zero => exact ⟨Nat.le_refl _, by decide⟩
  | succ n ih =>
    unfold rt
    by_cases h : (rt n + 1) * (rt n + 1) ≤ n + 1
    · rw [if_pos h]
      refine ⟨h, ?_⟩
      have : (rt n + 1 + 1) * (rt n + 1 + 1) = (rt n + 1) * (rt n + 1) + 2 * (rt n + 1) + 1 := by grind
      omega
    · rw [if_neg h]
      omega
theorem rt_root (n : Int) (h : 0 ≤ n) : IsRoot n (rt n.toNat) := by
  have := rt_is n.toNat
  refine ⟨by omega, ?_, ?_⟩
  · rw [← Int.natCast_mul]; omega
  · have h2 : ((rt n.toNat : Int) + 1) * ((rt n.toNat : Int) + 1) = ((rt n.toNat + 1) * (rt n.toNat + 1) : Nat) := by simp
    rw [h2]; omega
/-- What Golden tells. -/
def gol (k : Int) : Int := if 0 ≤ k ∧ k ≤ 1000000000 then (k + rt (5 * k * k).toNat) / 2 else 0
theorem golden_gol {k v : Int} (h : golden k v) : v = gol k := by
  unfold gol
  rcases h with ⟨h1, rfl⟩ | ⟨h1, h2, r, h3, -, -, rfl⟩
  · rw [if_neg h1]
  · rw [if_pos ⟨h1, h2⟩, h3.eq (rt_root _ (by rw [Int.mul_assoc]; have := Int.mul_nonneg h1 h1; omega))]
theorem gol_bound (k : Int) : 0 ≤ gol k ∧ gol k ≤ 2000000000 := by
  unfold gol
  by_cases h : 0 ≤ k ∧ k ≤ 1000000000
  · rw [if_pos h]
    have h1 := sq_le h.1 h.2
    have h0 := Int.mul_nonneg h.1 h.1
    have := root_le (n := 5 * k * k) (by rw [Int.mul_assoc]; omega) (rt_root _ (by rw [Int.mul_assoc]; omega))
    omega
  · rw [if_neg h]; omega
theorem implGol_any (k : Int) (w : World) : Calls Try.prog 17 #[.int .i64 k] w fun e w' => e = .returned (.int .i64 (gol k)) ∧ w = w' :=
  (implGolden_any k w).mono fun e w' ⟨v, hv, he, hw⟩ => ⟨by rw [he, golden_gol hv], hw⟩
end Go.Proofs.Ytnkmiljnilmicaa
