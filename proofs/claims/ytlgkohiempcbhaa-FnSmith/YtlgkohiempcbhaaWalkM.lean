/-
  Greatest divisors, the program's and the specification's, walked.
-/
import Derived.Test.YtlgkohiempcbhaaWalkP
namespace Go.Proofs.Ytlgkohiempcbhaa
open Go.RowKit

theorem isM_of_det {n : Nat} {f : Nat → Int} (h : detOf n f ≠ 0) : isM n f := by
  by_cases hM : isM n f
  · exact hM
  · exact absurd (show detOf n f = 0 by rw [detOf, if_neg hM]) h
/-- The size of a number. -/
def mag (x : Int) : Int := if x < 0 then -x else x
theorem mag_any (x : Int) (w : World) (hx : -1000000000000000 ≤ x ∧ x ≤ 1000000000000000) : Calls Try.prog 45 #[.int .i64 x] w fun e w' => e = .returned (.int .i64 (mag x)) ∧ w = w' := by
  unfold mag
  go_enter Try.func45, Try.ntmps45
  go_wp2
  all_goals
    go_ret
    exact ⟨rfl, rfl⟩
theorem mag_eq (x : Int) : mag x = (x.natAbs : Int) := by
  unfold mag
  split <;> omega
theorem gcd_step (x y : Int) : Int.gcd y (x.tmod y) = Int.gcd x y := by
  show Nat.gcd y.natAbs (x.tmod y).natAbs = Nat.gcd x.natAbs y.natAbs
  rw [Int.natAbs_tmod, Nat.gcd_comm, ← Nat.gcd_rec, Nat.gcd_comm]
theorem tmod_small (x : Int) {y : Int} (hy : y ≠ 0) : (x.tmod y).natAbs < y.natAbs := by
  rw [Int.natAbs_tmod]
  exact Nat.mod_lt _ (by omega)
theorem tmod_range {x y : Int} (hx : -1000000000000000 ≤ x ∧ x ≤ 1000000000000000) : -1000000000000000 ≤ x.tmod y ∧ x.tmod y ≤ 1000000000000000 := by
  have : (x.tmod y).natAbs ≤ x.natAbs := by rw [Int.natAbs_tmod]; exact Nat.mod_le _ _
  omega
theorem implGcd_any (x y : Int) (w : World) (hx : -1000000000000000 ≤ x ∧ x ≤ 1000000000000000) (hy : -1000000000000000 ≤ y ∧ y ≤ 1000000000000000) :
    Calls Try.prog 66 #[.int .i64 x, .int .i64 y] w fun e w' => e = .returned (.int .i64 (Int.gcd x y)) ∧ Below w.heap.size w w' := by
  obtain ⟨G, hG⟩ : ∃ G, Int.gcd x y = G := ⟨_, rfl⟩
  rw [hG]
  go_enter Try.func66, Try.ntmps66
  go_wp2
  go_loopw [0, 1] (fun s t wr => ∃ a b : Int, s = .int .i64 a ∧ t = .int .i64 b ∧ Int.gcd a b = G ∧ (-1000000000000000 ≤ a ∧ a ≤ 1000000000000000) ∧ (-1000000000000000 ≤ b ∧ b ≤ 1000000000000000) ∧ Below w.heap.size w wr) (fun _ t _ => (intOf t).natAbs)
  case atStart => exact ⟨x, y, rfl, rfl, hG, hx, hy, Below.refl _ _⟩
  case round =>
    clear hG hx hy
    obtain ⟨a, b, rfl, rfl, hg, ha, hb, bW⟩ := hrel
    by_cases h0 : b = 0
    · subst h0
      have hG : mag a = (G : Int) := by rw [mag_eq, ← hg, Int.gcd_zero_right]
      clear hg
      go_wp2_with (go_at_call 45; refine (mag_any _ _ ha).mono ?_; rintro e w2 ⟨rfl, rfl⟩; rw [hG])
      go_ret
      exact ⟨rfl, bW⟩
    · have hs := gcd_step a b
      rw [hg] at hs
      have hr := tmod_range (y := b) ha
      have hm := tmod_small a h0
      have HS : Hid (Int.gcd b (a.tmod b) = G ∧ (a.tmod b).natAbs < b.natAbs) := ⟨hs, hm⟩
      clear hs hm hg
      go_wp2
      go_region
      all_goals
        go_wp2
        go_roundw
        case rel => exact ⟨b, a.tmod b, rfl, rfl, HS.out.1, hb, hr, bW.drew⟩
        case measure => simpa [intOf] using HS.out.2
/-- The greatest divisor of the first k numbers. -/
def gAll (f : Nat → Int) : Nat → Int
  | 0 => 0
  | k + 1 => (Int.gcd (gAll f k) (f k) : Int)
theorem gAll_nonneg (f : Nat → Int) (k : Nat) : 0 ≤ gAll f k := by
  cases k with
  | zero => exact Int.le_refl _
  | succ k => exact Int.natCast_nonneg _
theorem gAll_zero {f : Nat → Int} : ∀ {k : Nat}, gAll f k = 0 → ∀ i, i < k → f i = 0
  | 0, _, i, hi => by omega
  | k + 1, h, i, hi => by
    have h' : Int.gcd (gAll f k) (f k) = 0 := by simpa [gAll] using h
    rw [Int.gcd_eq_zero_iff] at h'
    by_cases e : i = k
    · rw [e]; exact h'.2
    · exact gAll_zero h'.1 i (by omega)
theorem gAll_le {f : Nat → Int} {M : Int} (hM : 0 ≤ M) (n : Nat) (hf : ∀ i, i < n → -M ≤ f i ∧ f i ≤ M) : ∀ k, k ≤ n → gAll f k ≤ M
  | 0, _ => hM
  | k + 1, hk => by
    have h1 := gAll_le hM n hf k (by omega)
    have h0 := gAll_nonneg f k
    have h2 := hf k (by omega)
    show (Int.gcd (gAll f k) (f k) : Int) ≤ M
    by_cases h : f k = 0
    · rw [h, Int.gcd_zero_right]
      omega
    · have : Int.gcd (gAll f k) (f k) ≤ (f k).natAbs := Nat.gcd_le_right _ (by omega)
      omega
theorem gcdAll_any {w : World} {b off cap : Nat} {f : Nat → Int} {M : Int} (hM : 0 ≤ M ∧ M ≤ 1000000000000000) (hf : ∀ i, i < 9 → -M ≤ f i ∧ f i ≤ M) (hr : Ints w b off 9 f) (hb : b < w.heap.size) :
    Calls Try.prog 50 #[.slice (some ⟨b, off, none⟩) 9 cap] w fun e w' => e = .returned (.int .i64 (gAll f 9)) ∧ Below w.heap.size w w' := by
  go_enter Try.func50, Try.ntmps50
  go_wp2
  go_loopw [3, 8] (fun s t wr => ∃ k : Nat, k ≤ 9 ∧ s = .int .i64 (gAll f k) ∧ t = .int .i64 k ∧ Below w.heap.size w wr) (fun _ t _ => 9 - (intOf t).toNat)
  case atStart => exact ⟨0, Nat.zero_le _, rfl, rfl, Below.refl _ _⟩
  case round =>
    obtain ⟨k, hk, rfl, rfl, bW⟩ := hrel
    by_cases hlt : k < 9
    · have hlt' : (k : Int) < 9 := by omega
      have g0 := (bW.cell (p := ⟨b, off + k, none⟩) hb).trans (hr k hlt)
      have hg1 := gAll_le hM.1 9 hf k hk
      have hg0 := gAll_nonneg f k
      have hfk := hf k hlt
      have hstep : gAll f (k + 1) = (Int.gcd (gAll f k) (f k) : Int) := rfl
      obtain ⟨G, hG⟩ : ∃ G, gAll f k = G := ⟨_, rfl⟩
      rw [hG] at hg1 hg0 hstep ⊢
      have HS : Hid (gAll f (k + 1) = (Int.gcd G (f k) : Int)) := hstep
      clear hstep hG
      go_wp2_with (go_at_call 66; refine (implGcd_any _ _ _ (by omega) (by omega)).mono ?_; rintro e w2 ⟨rfl, hb2⟩)
      refine ⟨⟨k + 1, by omega, ?_, by go_num, bW.trans (hb2.mono bW.size)⟩, by simp [intOf]; omega⟩
      rw [HS.out]
    · have hlt' : ¬ (k : Int) < 9 := by omega
      obtain rfl : k = 9 := by omega
      go_wp2
      go_ret
      exact ⟨rfl, bW⟩
theorem two_pos {f : Nat → Int} (h : det3 f ≠ 0) : gAll f 9 ≠ 0 ∧ gAll (adj f) 9 ≠ 0 := by
  constructor
  · intro h0
    have hz := gAll_zero h0
    apply h
    unfold det3
    rw [hz 0 (by decide), hz 1 (by decide), hz 2 (by decide)]
    omega
  · intro h0
    have hz := gAll_zero h0
    apply h
    rw [← det_adj, hz 0 (by decide), hz 3 (by decide), hz 6 (by decide)]
    omega
end Go.Proofs.Ytlgkohiempcbhaa
