/-
  What the greatest divisors of a matrix' entries and minors have to do with its determinant. No function of the program.
-/
import Derived.Test.YtlgkohiempcbhaaWalkN
namespace Go.Proofs.Ytlgkohiempcbhaa
open Go.RowKit

theorem gAll_dvd (f : Nat → Int) : ∀ (k i : Nat), i < k → gAll f k ∣ f i
  | 0, i, hi => by omega
  | k + 1, i, hi => by
    show (Int.gcd (gAll f k) (f k) : Int) ∣ f i
    by_cases e : i = k
    · rw [e]; exact Int.gcd_dvd_right ..
    · exact Int.dvd_trans (Int.gcd_dvd_left ..) (gAll_dvd f k i (by omega))
theorem dvd_gAll {f : Nat → Int} {d : Int} : ∀ (k : Nat), (∀ i, i < k → d ∣ f i) → d ∣ gAll f k
  | 0, _ => ⟨0, by simp [gAll]⟩
  | k + 1, h => by
    show d ∣ (Int.gcd (gAll f k) (f k) : Int)
    exact Int.dvd_coe_gcd (dvd_gAll k fun i hi => h i (by omega)) (h k (by omega))
theorem gAll_perm {f g : Nat → Int} {k : Nat} (h1 : ∀ i, i < k → ∃ j, j < k ∧ f i = g j) (h2 : ∀ i, i < k → ∃ j, j < k ∧ g i = f j) : gAll f k = gAll g k := by
  refine Int.dvd_antisymm (gAll_nonneg _ _) (gAll_nonneg _ _) (dvd_gAll k fun i hi => ?_) (dvd_gAll k fun i hi => ?_)
  · obtain ⟨j, hj, e⟩ := h2 i hi
    rw [e]; exact gAll_dvd f k j hj
  · obtain ⟨j, hj, e⟩ := h1 i hi
    rw [e]; exact gAll_dvd g k j hj
/-- The rows as columns. -/
def tr (m : Nat → Int) (i : Nat) : Int :=
  match i with
  | 0 => m 0
  | 1 => m 3
  | 2 => m 6
  | 3 => m 1
  | 4 => m 4
  | 5 => m 7
  | 6 => m 2
  | 7 => m 5
  | _ => m 8
theorem det_tr (m : Nat → Int) : det3 (tr m) = det3 m := by
  show m 0 * (m 4 * m 8 - m 7 * m 5) - m 3 * (m 1 * m 8 - m 7 * m 2) + m 6 * (m 1 * m 5 - m 4 * m 2) = _
  unfold det3
  grind
theorem adj_tr (m : Nat → Int) : ∀ i, i < 9 → adj (tr m) i = tr (adj m) i := by
  intro i hi
  rcases (by omega : i = 0 ∨ i = 1 ∨ i = 2 ∨ i = 3 ∨ i = 4 ∨ i = 5 ∨ i = 6 ∨ i = 7 ∨ i = 8) with rfl | rfl | rfl | rfl | rfl | rfl | rfl | rfl | rfl
  · show m 4 * m 8 - m 7 * m 5 = m 4 * m 8 - m 5 * m 7; grind
  · show m 6 * m 5 - m 3 * m 8 = m 5 * m 6 - m 3 * m 8; grind
  · show m 3 * m 7 - m 6 * m 4 = m 3 * m 7 - m 4 * m 6; grind
  · show m 7 * m 2 - m 1 * m 8 = m 2 * m 7 - m 1 * m 8; grind
  · show m 0 * m 8 - m 6 * m 2 = m 0 * m 8 - m 2 * m 6; grind
  · show m 6 * m 1 - m 0 * m 7 = m 1 * m 6 - m 0 * m 7; grind
  · show m 1 * m 5 - m 4 * m 2 = m 1 * m 5 - m 2 * m 4; grind
  · show m 3 * m 2 - m 0 * m 5 = m 2 * m 3 - m 0 * m 5; grind
  · show m 0 * m 4 - m 3 * m 1 = m 0 * m 4 - m 1 * m 3; grind
theorem gAll_tr (m : Nat → Int) : gAll (tr m) 9 = gAll m 9 := by
  refine gAll_perm (fun i hi => ?_) (fun i hi => ?_)
  · rcases (by omega : i = 0 ∨ i = 1 ∨ i = 2 ∨ i = 3 ∨ i = 4 ∨ i = 5 ∨ i = 6 ∨ i = 7 ∨ i = 8) with rfl | rfl | rfl | rfl | rfl | rfl | rfl | rfl | rfl
    · exact ⟨0, by decide, rfl⟩
    · exact ⟨3, by decide, rfl⟩
    · exact ⟨6, by decide, rfl⟩
    · exact ⟨1, by decide, rfl⟩
    · exact ⟨4, by decide, rfl⟩
    · exact ⟨7, by decide, rfl⟩
    · exact ⟨2, by decide, rfl⟩
    · exact ⟨5, by decide, rfl⟩
    · exact ⟨8, by decide, rfl⟩
  · rcases (by omega : i = 0 ∨ i = 1 ∨ i = 2 ∨ i = 3 ∨ i = 4 ∨ i = 5 ∨ i = 6 ∨ i = 7 ∨ i = 8) with rfl | rfl | rfl | rfl | rfl | rfl | rfl | rfl | rfl
    · exact ⟨0, by decide, rfl⟩
    · exact ⟨3, by decide, rfl⟩
    · exact ⟨6, by decide, rfl⟩
    · exact ⟨1, by decide, rfl⟩
    · exact ⟨4, by decide, rfl⟩
    · exact ⟨7, by decide, rfl⟩
    · exact ⟨2, by decide, rfl⟩
    · exact ⟨5, by decide, rfl⟩
    · exact ⟨8, by decide, rfl⟩
theorem gAll_congr {f g : Nat → Int} : ∀ (k : Nat), (∀ i, i < k → f i = g i) → gAll f k = gAll g k
  | 0, _ => rfl
  | k + 1, h => by
    show (Int.gcd (gAll f k) (f k) : Int) = (Int.gcd (gAll g k) (g k) : Int)
    rw [gAll_congr k fun i hi => h i (by omega), h k (by omega)]
theorem smf_tr (m : Nat → Int) (i : Nat) : smf (tr m) i = smf m i := by
  have h2 : gAll (adj (tr m)) 9 = gAll (adj m) 9 := (gAll_congr 9 (adj_tr m)).trans (gAll_tr _)
  unfold smf
  rw [gAll_tr, h2, det_tr]
/-- The minors of the minors. -/
theorem adj_adj (m : Nat → Int) : ∀ i, i < 9 → ∃ a b c d, det3 m * m i = adj m a * adj m b - adj m c * adj m d := by
  intro i hi
  rcases (by omega : i = 0 ∨ i = 1 ∨ i = 2 ∨ i = 3 ∨ i = 4 ∨ i = 5 ∨ i = 6 ∨ i = 7 ∨ i = 8) with rfl | rfl | rfl | rfl | rfl | rfl | rfl | rfl | rfl
  · exact ⟨4, 8, 5, 7, by unfold det3 adj; grind⟩
  · exact ⟨2, 7, 1, 8, by unfold det3 adj; grind⟩
  · exact ⟨1, 5, 2, 4, by unfold det3 adj; grind⟩
  · exact ⟨5, 6, 3, 8, by unfold det3 adj; grind⟩
  · exact ⟨0, 8, 2, 6, by unfold det3 adj; grind⟩
  · exact ⟨2, 3, 0, 5, by unfold det3 adj; grind⟩
  · exact ⟨3, 7, 4, 6, by unfold det3 adj; grind⟩
  · exact ⟨1, 6, 0, 7, by unfold det3 adj; grind⟩
  · exact ⟨0, 4, 1, 3, by unfold det3 adj; grind⟩
theorem adj_form (m : Nat → Int) : ∀ i, i < 9 → ∃ a b c d, (a < 9 ∧ b < 9 ∧ c < 9 ∧ d < 9) ∧ adj m i = m a * m b - m c * m d := by
  intro i hi
  rcases (by omega : i = 0 ∨ i = 1 ∨ i = 2 ∨ i = 3 ∨ i = 4 ∨ i = 5 ∨ i = 6 ∨ i = 7 ∨ i = 8) with rfl | rfl | rfl | rfl | rfl | rfl | rfl | rfl | rfl
  · exact ⟨4, 8, 5, 7, by decide, rfl⟩
  · exact ⟨2, 7, 1, 8, by decide, rfl⟩
  · exact ⟨1, 5, 2, 4, by decide, rfl⟩
  · exact ⟨5, 6, 3, 8, by decide, rfl⟩
  · exact ⟨0, 8, 2, 6, by decide, rfl⟩
  · exact ⟨2, 3, 0, 5, by decide, rfl⟩
  · exact ⟨3, 7, 4, 6, by decide, rfl⟩
  · exact ⟨1, 6, 0, 7, by decide, rfl⟩
  · exact ⟨0, 4, 1, 3, by decide, rfl⟩
theorem adj_dvd (m : Nat → Int) : ∀ k, gAll (adj m) 9 ∣ adj m k := by
  intro k
  by_cases h : k < 9
  · exact gAll_dvd _ 9 k h
  · have : adj m k = adj m 8 := by
      unfold adj
      split <;> first | omega | rfl
    rw [this]
    exact gAll_dvd _ 9 8 (by decide)
theorem gAll_mul (c : Int) (f : Nat → Int) : ∀ k, gAll (fun i => c * f i) k = (c.natAbs : Int) * gAll f k
  | 0 => by simp [gAll]
  | k + 1 => by
    show (Int.gcd (gAll (fun i => c * f i) k) (c * f k) : Int) = (c.natAbs : Int) * (Int.gcd (gAll f k) (f k) : Int)
    rw [gAll_mul c f k]
    have : Int.gcd ((c.natAbs : Int) * gAll f k) (c * f k) = c.natAbs * Int.gcd (gAll f k) (f k) := by
      show Nat.gcd _ _ = _ * Nat.gcd _ _
      rw [Int.natAbs_mul, Int.natAbs_mul, Int.natAbs_natCast, Nat.gcd_mul_left]
    rw [this]
    exact Int.natCast_mul _ _
theorem smith_math {m : Nat → Int} (h : det3 m ≠ 0) : 1 ≤ smf m 0 ∧ (0 ≤ smf m 1 ∧ smf m 0 ∣ smf m 1) ∧ (0 ≤ smf m 2 ∧ smf m 1 ∣ smf m 2) ∧ smf m 0 * smf m 1 * smf m 2 = mag (det3 m) ∧ smf m 0 * smf m 1 = gAll (adj m) 9 ∧ 1 ≤ smf m 1 := by
  obtain ⟨p1, p2⟩ := two_pos h
  have n1 := gAll_nonneg m 9
  have n2 := gAll_nonneg (adj m) 9
  have H1 : gAll m 9 * gAll m 9 ∣ gAll (adj m) 9 := by
    refine dvd_gAll 9 fun i hi => ?_
    obtain ⟨a, b, c, d, ⟨ha, hb, hc, hd⟩, e⟩ := adj_form m i hi
    rw [e]
    exact Int.dvd_sub (Int.mul_dvd_mul (gAll_dvd m 9 a ha) (gAll_dvd m 9 b hb)) (Int.mul_dvd_mul (gAll_dvd m 9 c hc) (gAll_dvd m 9 d hd))
  have H2 : gAll (adj m) 9 ∣ det3 m := by
    rw [← det_adj]
    exact Int.dvd_add (Int.dvd_add (Int.dvd_trans (adj_dvd m 0) (Int.dvd_mul_left _ _)) (Int.dvd_trans (adj_dvd m 3) (Int.dvd_mul_left _ _))) (Int.dvd_trans (adj_dvd m 6) (Int.dvd_mul_left _ _))
  have H3 : gAll (adj m) 9 * gAll (adj m) 9 ∣ (det3 m).natAbs * gAll m 9 := by
    rw [← gAll_mul]
    refine dvd_gAll 9 fun i hi => ?_
    obtain ⟨a, b, c, d, e⟩ := adj_adj m i hi
    rw [e]
    exact Int.dvd_sub (Int.mul_dvd_mul (adj_dvd m a) (adj_dvd m b)) (Int.mul_dvd_mul (adj_dvd m c) (adj_dvd m d))
  have H2' : gAll (adj m) 9 ∣ ((det3 m).natAbs : Int) := Int.dvd_natAbs.2 H2
  have hg : gAll m 9 ∣ gAll (adj m) 9 := Int.dvd_trans (Int.dvd_mul_right _ _) H1
  show 1 ≤ gAll m 9 ∧ (0 ≤ gAll (adj m) 9 / gAll m 9 ∧ gAll m 9 ∣ gAll (adj m) 9 / gAll m 9) ∧ (0 ≤ mag (det3 m) / gAll (adj m) 9 ∧ gAll (adj m) 9 / gAll m 9 ∣ mag (det3 m) / gAll (adj m) 9) ∧ gAll m 9 * (gAll (adj m) 9 / gAll m 9) * (mag (det3 m) / gAll (adj m) 9) = mag (det3 m) ∧ gAll m 9 * (gAll (adj m) 9 / gAll m 9) = gAll (adj m) 9 ∧ 1 ≤ gAll (adj m) 9 / gAll m 9
  rw [mag_eq]
  have hD : 0 ≤ ((det3 m).natAbs : Int) := Int.natCast_nonneg _
  generalize gAll m 9 = g1 at *
  generalize gAll (adj m) 9 = g2 at *
  generalize ((det3 m).natAbs : Int) = D at *
  obtain ⟨s1, rfl⟩ := hg
  obtain ⟨s2, rfl⟩ := H2'
  have g1p : 0 < g1 := by omega
  have s1p : 0 < s1 := by
    rcases Int.lt_or_le 0 s1 with h' | h'
    · exact h'
    · have := Int.mul_nonpos_of_nonneg_of_nonpos (Int.le_of_lt g1p) h'
      omega
  have gsp : 0 < g1 * s1 := Int.mul_pos g1p s1p
  rw [Int.mul_ediv_cancel_left _ p1, Int.mul_ediv_cancel_left _ p2]
  have s2n : 0 ≤ s2 := by
    rcases Int.lt_or_le s2 0 with h' | h'
    · have := Int.mul_neg_of_pos_of_neg gsp h'
      omega
    · exact h'
  refine ⟨by omega, ⟨by omega, Int.dvd_of_mul_dvd_mul_left p1 H1⟩, ⟨s2n, ?_⟩, rfl, rfl, by omega⟩
  have e1 : g1 * s1 * s2 * g1 = g1 * s1 * (s2 * g1) := Int.mul_assoc _ _ _
  rw [e1] at H3
  have h4 := Int.dvd_of_mul_dvd_mul_left p2 H3
  rw [Int.mul_comm s2 g1] at h4
  exact Int.dvd_of_mul_dvd_mul_left p1 h4
end Go.Proofs.Ytlgkohiempcbhaa
