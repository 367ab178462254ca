/-
  Greatest divisors, ranges, turns between normals; which facets are right, by the program and by the specification: walked.
-/
import Derived.Test.YtealbihplfpgeaaFa
namespace Go.Proofs.Ytealbihplfpgeaa
open Go.RowKit

theorem in_any (x lo hi : Int) (w : World) : Calls Try.prog 49 #[.int .i64 x, .int .i64 lo, .int .i64 hi] w fun e w' => e = .returned (.bool (decide (lo ≤ x ∧ x ≤ hi))) ∧ w = w' := by
  by_cases h1 : lo ≤ x <;> by_cases h2 : x ≤ hi
  all_goals
    go_enter Try.func49, Try.ntmps49
    go_wp2
    go_ret
    exact ⟨by simp [h1, h2], rfl⟩
theorem within_any (x hi : Int) (w : World) (h0 : 0 ≤ hi) (h : hi ≤ 1000000000000) : Calls Try.prog 51 #[.int .i64 x, .int .i64 hi] w fun e w' => e = .returned (.bool (decide (-hi ≤ x ∧ x ≤ hi))) ∧ w = w' := by
  by_cases h1 : -hi ≤ x <;> by_cases h2 : x ≤ hi
  all_goals
    go_enter Try.func51, Try.ntmps51
    go_wp2
    go_ret
    exact ⟨by simp [h1, h2], rfl⟩
/-- The size of a number. -/
def mag (x : Int) : Int := if x < 0 then -x else x
theorem mag_any (x : Int) (w : World) (hx : -1000000000000000 ≤ x ∧ x ≤ 1000000000000000) : Calls Try.prog 77 #[.int .i64 x] w fun e w' => e = .returned (.int .i64 (mag x)) ∧ w = w' := by
  unfold mag
  go_enter Try.func77, Try.ntmps77
  go_wp2
  all_goals
    go_ret
    exact ⟨rfl, rfl⟩
theorem abs_any (x : Int) (w : World) (hx : -1000000000000000 ≤ x ∧ x ≤ 1000000000000000) : Calls Try.prog 76 #[.int .i64 x] w fun e w' => e = .returned (.int .i64 (mag x)) ∧ w = w' := by
  unfold mag
  go_enter Try.func76, Try.ntmps76
  go_wp2
  all_goals
    go_ret
    exact ⟨rfl, rfl⟩
theorem mag_eq (x : Int) : mag x = (x.natAbs : Int) := by
  unfold mag
  split <;> omega
theorem gcd_step (x y : Int) : Int.gcd y (x.tmod y) = Int.gcd x y := by
  show Nat.gcd y.natAbs (x.tmod y).natAbs = Nat.gcd x.natAbs y.natAbs
  rw [Int.natAbs_tmod, Nat.gcd_comm, ← Nat.gcd_rec, Nat.gcd_comm]
theorem tmod_small (x : Int) {y : Int} (hy : y ≠ 0) : (x.tmod y).natAbs < y.natAbs := by
  rw [Int.natAbs_tmod]
  exact Nat.mod_lt _ (by omega)
theorem tmod_range {x y : Int} (hx : -1000000000000000 ≤ x ∧ x ≤ 1000000000000000) : -1000000000000000 ≤ x.tmod y ∧ x.tmod y ≤ 1000000000000000 := by
  have : (x.tmod y).natAbs ≤ x.natAbs := by rw [Int.natAbs_tmod]; exact Nat.mod_le _ _
  omega
theorem implGcd_any (x y : Int) (w : World) (hx : -1000000000000000 ≤ x ∧ x ≤ 1000000000000000) (hy : -1000000000000000 ≤ y ∧ y ≤ 1000000000000000) :
    Calls Try.prog 53 #[.int .i64 x, .int .i64 y] w fun e w' => e = .returned (.int .i64 (Int.gcd x y)) ∧ Below w.heap.size w w' := by
  obtain ⟨G, hG⟩ : ∃ G, Int.gcd x y = G := ⟨_, rfl⟩
  rw [hG]
  go_enter Try.func53, Try.ntmps53
  go_wp2
  go_loopw [0, 1] (fun s t wr => ∃ a b : Int, s = .int .i64 a ∧ t = .int .i64 b ∧ Int.gcd a b = G ∧ (-1000000000000000 ≤ a ∧ a ≤ 1000000000000000) ∧ (-1000000000000000 ≤ b ∧ b ≤ 1000000000000000) ∧ Below w.heap.size w wr) (fun _ t _ => (intOf t).natAbs)
  case atStart => exact ⟨x, y, rfl, rfl, hG, hx, hy, Below.refl _ _⟩
  case round =>
    clear hG hx hy
    obtain ⟨a, b, rfl, rfl, hg, ha, hb, bW⟩ := hrel
    by_cases h0 : b = 0
    · subst h0
      have hG : mag a = (G : Int) := by rw [mag_eq, ← hg, Int.gcd_zero_right]
      clear hg
      go_wp2_with (go_at_call 77; refine (mag_any _ _ ha).mono ?_; rintro e w2 ⟨rfl, rfl⟩; rw [hG])
      go_ret
      exact ⟨rfl, bW⟩
    · have hs := gcd_step a b
      rw [hg] at hs
      have hr := tmod_range (y := b) ha
      have hm := tmod_small a h0
      have HS : Hid (Int.gcd b (a.tmod b) = G ∧ (a.tmod b).natAbs < b.natAbs) := ⟨hs, hm⟩
      clear hs hm hg
      go_wp2
      go_region
      all_goals
        go_wp2
        go_roundw
        case rel => exact ⟨b, a.tmod b, rfl, rfl, HS.out.1, hb, hr, bW.drew⟩
        case measure => simpa [intOf] using HS.out.2
theorem specGcd_any (x y : Int) (w : World) (hx : -1000000000000000 ≤ x ∧ x ≤ 1000000000000000) (hy : -1000000000000000 ≤ y ∧ y ≤ 1000000000000000) :
    Calls Try.prog 50 #[.int .i64 x, .int .i64 y] w fun e w' => e = .returned (.int .i64 (Int.gcd x y)) ∧ w = w' := by
  have hg : Int.gcd (mag x) (mag y) = Int.gcd x y := by rw [mag_eq, mag_eq]; simp [Int.gcd]
  have h1 : 0 ≤ mag x ∧ mag x ≤ 1000000000000000 := by rw [mag_eq]; omega
  have h2 : 0 ≤ mag y ∧ mag y ≤ 1000000000000000 := by rw [mag_eq]; omega
  rw [← hg]
  obtain ⟨p, hp⟩ : ∃ p, mag x = p := ⟨_, rfl⟩
  obtain ⟨q, hq⟩ : ∃ q, mag y = q := ⟨_, rfl⟩
  rw [hp] at h1
  rw [hq] at h2
  rw [hp, hq]
  obtain ⟨G, hG⟩ : ∃ G, Int.gcd p q = G := ⟨_, rfl⟩
  rw [hG]
  clear hg
  go_enter Try.func50, Try.ntmps50
  go_wp2_with fail
  refine (abs_any _ _ hx).mono ?_
  rintro e w1 ⟨rfl, rfl⟩
  rw [hp]
  go_wp2_with fail
  refine (abs_any _ _ hy).mono ?_
  rintro e w1 ⟨rfl, rfl⟩
  rw [hq]
  go_wp2
  clear hp hq hx hy
  go_loopw [0, 1] (fun s t wr => ∃ a b : Int, s = .int .i64 a ∧ t = .int .i64 b ∧ Int.gcd a b = G ∧ (0 ≤ a ∧ a ≤ 1000000000000000) ∧ (0 ≤ b ∧ b ≤ 1000000000000000) ∧ w = wr) (fun _ t _ => (intOf t).natAbs)
  case atStart => exact ⟨p, q, rfl, rfl, hG, h1, h2, rfl⟩
  case round =>
    clear hG h1 h2
    obtain ⟨a, b, rfl, rfl, hg, ha, hb, rfl⟩ := hrel
    by_cases h0 : b = 0
    · subst h0
      have hG : a = (G : Int) := by rw [← hg, Int.gcd_zero_right]; omega
      subst hG
      go_wp2
      go_ret
      exact ⟨rfl, rfl⟩
    · have hs := gcd_step a b
      rw [hg, Int.tmod_eq_emod_of_nonneg ha.1] at hs
      have hr : 0 ≤ a % b ∧ a % b < b := ⟨Int.emod_nonneg _ h0, Int.emod_lt_of_pos _ (by omega)⟩
      have HS : Hid (Int.gcd b (a % b) = G) := hs
      clear hs hg
      go_wp2
      exact ⟨⟨b, a % b, rfl, rfl, HS.out, hb, ⟨hr.1, by omega⟩, by trivial⟩, by simp [intOf]; omega⟩

/-- In a normal's range. -/
def inN (x : Int) : Prop := -50 ≤ x ∧ x ≤ 50
/-- Which facets are right. -/
def fOk (x y g : Int) : Bool := decide (-50 ≤ x ∧ x ≤ 50) && (decide (-50 ≤ y ∧ y ≤ 50) && (decide (Int.gcd x y = 1) && decide (1 ≤ g ∧ g ≤ 1000)))
theorem fOk_in {x y g : Int} (h : fOk x y g = true) : (-50 ≤ x ∧ x ≤ 50) ∧ (-50 ≤ y ∧ y ≤ 50) ∧ Int.gcd x y = 1 ∧ (1 ≤ g ∧ g ≤ 1000) := by
  simpa [fOk] using h
/-- The turn from one normal to another. -/
def cr (a b c d : Int) : Int := a * d - b * c
theorem mul_bound {x y X Y : Int} (hx : -X ≤ x ∧ x ≤ X) (hy : -Y ≤ y ∧ y ≤ Y) : -(X * Y) ≤ x * y ∧ x * y ≤ X * Y := by
  have h1 : x.natAbs ≤ X.natAbs := by omega
  have h2 : y.natAbs ≤ Y.natAbs := by omega
  have h3 := Nat.mul_le_mul h1 h2
  rw [← Int.natAbs_mul, ← Int.natAbs_mul] at h3
  have hX : 0 ≤ X := by omega
  have hY : 0 ≤ Y := by omega
  have hp := Int.mul_nonneg hX hY
  omega
theorem turnTo_any (a b g c d h : Int) (w : World) (ha : -50 ≤ a ∧ a ≤ 50) (hb : -50 ≤ b ∧ b ≤ 50) (hc : -50 ≤ c ∧ c ≤ 50) (hd : -50 ≤ d ∧ d ≤ 50) :
    Calls Try.prog 63 #[fV a b g, fV c d h] w fun e w' => e = .returned (.int .i64 (cr a b c d)) ∧ Below w.heap.size w w' := by
  have m1 := mul_bound ha hd
  have m2 := mul_bound hb hc
  obtain ⟨W, hW, b0, b1, bW, -⟩ := boxed2 w 35 35 #[.int .i64 a, .int .i64 b, .int .i64 g] #[.int .i64 c, .int .i64 d, .int .i64 h]
  obtain ⟨c0, c1, c2, -⟩ := b0.open3
  obtain ⟨d0, d1, d2, -⟩ := b1.open3
  go_enter Try.func63, Try.ntmps63
  go_wp2
  go_ret
  exact ⟨rfl, bW⟩
theorem cross_any (a b g c d h : Int) (w : World) (ha : -50 ≤ a ∧ a ≤ 50) (hb : -50 ≤ b ∧ b ≤ 50) (hc : -50 ≤ c ∧ c ≤ 50) (hd : -50 ≤ d ∧ d ≤ 50) :
    Calls Try.prog 33 #[fV a b g, fV c d h] w fun e w' => e = .returned (.int .i64 (cr a b c d)) ∧ Below w.heap.size w w' := by
  have m1 := mul_bound ha hd
  have m2 := mul_bound hb hc
  obtain ⟨W, hW, b0, b1, bW, -⟩ := boxed2 w 35 35 #[.int .i64 a, .int .i64 b, .int .i64 g] #[.int .i64 c, .int .i64 d, .int .i64 h]
  obtain ⟨c0, c1, c2, -⟩ := b0.open3
  obtain ⟨d0, d1, d2, -⟩ := b1.open3
  go_enter Try.func33, Try.ntmps33
  go_wp2
  go_ret
  exact ⟨rfl, bW⟩
theorem right_any (x y g : Int) (w : World) : Calls Try.prog 60 #[fV x y g] w fun e w' => e = .returned (.bool (fOk x y g)) ∧ Below w.heap.size w w' := by
  obtain ⟨W, hW, b0, bW, -⟩ := boxed w 35 #[.int .i64 x, .int .i64 y, .int .i64 g]
  obtain ⟨c0, c1, c2, -⟩ := b0.open3
  by_cases hx : -50 ≤ x ∧ x ≤ 50
  · by_cases hy : -50 ≤ y ∧ y ≤ 50
    · by_cases hg : 1 ≤ g ∧ g ≤ 1000
      · go_enter Try.func60, Try.ntmps60
        go_wp2_with (first | (go_at_call 51; refine (within_any _ _ _ (by decide) (by decide)).mono ?_; rintro e w3 ⟨rfl, rfl⟩) | (go_at_call 53; refine (implGcd_any x y _ (by omega) (by omega)).mono ?_; rintro e w3 ⟨rfl, b3⟩))
        go_ret
        exact ⟨congrArg (fun b => Ending.returned (Value.bool b)) (by rw [Bool.eq_iff_iff]; simp [fOk, hx, hy, hg]; omega), bW.trans (b3.mono bW.size)⟩
      · go_enter Try.func60, Try.ntmps60
        go_wp2_with (go_at_call 51; refine (within_any _ _ _ (by decide) (by decide)).mono ?_; rintro e w3 ⟨rfl, rfl⟩)
        all_goals
          go_ret
          exact ⟨by simp [fOk, hg], bW⟩
    · go_enter Try.func60, Try.ntmps60
      go_wp2_with (go_at_call 51; refine (within_any _ _ _ (by decide) (by decide)).mono ?_; rintro e w3 ⟨rfl, rfl⟩)
      go_ret
      exact ⟨by simp [fOk, hy], bW⟩
  · go_enter Try.func60, Try.ntmps60
    go_wp2_with (go_at_call 51; refine (within_any _ _ _ (by decide) (by decide)).mono ?_; rintro e w3 ⟨rfl, rfl⟩)
    go_ret
    exact ⟨by simp [fOk, hx], bW⟩
theorem facet_any (x y g : Int) (w : World) : Calls Try.prog 32 #[fV x y g] w fun e w' => e = .returned (.bool (fOk x y g)) ∧ Below w.heap.size w w' := by
  obtain ⟨W, hW, b0, bW, -⟩ := boxed w 35 #[.int .i64 x, .int .i64 y, .int .i64 g]
  obtain ⟨c0, c1, c2, -⟩ := b0.open3
  by_cases hx : -50 ≤ x ∧ x ≤ 50
  · by_cases hy : -50 ≤ y ∧ y ≤ 50
    · by_cases hg : Int.gcd x y = 1
      · have hg' : ((Int.gcd x y : Nat) : Int) = 1 := by omega
        go_enter Try.func32, Try.ntmps32
        go_wp2_with (first | (go_at_call 49; refine (in_any _ _ _ _).mono ?_; rintro e w3 ⟨rfl, rfl⟩) | (go_at_call 50; refine (specGcd_any x y _ (by omega) (by omega)).mono ?_; rintro e w3 ⟨rfl, rfl⟩))
        go_ret
        exact ⟨congrArg (fun b => Ending.returned (Value.bool b)) (by rw [Bool.eq_iff_iff]; simp [fOk, hx, hy, hg]), bW⟩
      · have hg' : ¬ ((Int.gcd x y : Nat) : Int) = 1 := by omega
        go_enter Try.func32, Try.ntmps32
        go_wp2_with (first | (go_at_call 49; refine (in_any _ _ _ _).mono ?_; rintro e w3 ⟨rfl, rfl⟩) | (go_at_call 50; refine (specGcd_any x y _ (by omega) (by omega)).mono ?_; rintro e w3 ⟨rfl, rfl⟩))
        go_ret
        exact ⟨by simp [fOk, hg], bW⟩
    · go_enter Try.func32, Try.ntmps32
      go_wp2_with (go_at_call 49; refine (in_any _ _ _ _).mono ?_; rintro e w3 ⟨rfl, rfl⟩)
      go_ret
      exact ⟨by simp [fOk, hy], bW⟩
  · go_enter Try.func32, Try.ntmps32
    go_wp2_with (go_at_call 49; refine (in_any _ _ _ _).mono ?_; rintro e w3 ⟨rfl, rfl⟩)
    go_ret
    exact ⟨by simp [fOk, hx], bW⟩
end Go.Proofs.Ytealbihplfpgeaa
