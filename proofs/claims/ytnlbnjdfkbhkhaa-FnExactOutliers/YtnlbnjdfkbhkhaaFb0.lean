/-
  Greatest divisors, ranges, sizes, by the program and by the specification: walked.
-/
import Derived.Test.YtnlbnjdfkbhkhaaRows
import Derived.Test.YtnlbnjdfkbhkhaaKit
namespace Go.Proofs.Ytnlbnjdfkbhkhaa
open Go.RowKit

theorem in_any (x lo hi : Int) (w : World) : Calls Try.prog 19 #[.int .i64 x, .int .i64 lo, .int .i64 hi] w fun e w' => e = .returned (.bool (decide (lo ≤ x ∧ x ≤ hi))) ∧ w = w' := by
  by_cases h1 : lo ≤ x <;> by_cases h2 : x ≤ hi
  all_goals
    go_enter Try.func19, Try.ntmps19
    go_wp2
    go_ret
    exact ⟨by simp [h1, h2], rfl⟩
theorem within_any (x hi : Int) (w : World) (h0 : 0 ≤ hi) (h : hi ≤ 1000000000000) : Calls Try.prog 35 #[.int .i64 x, .int .i64 hi] w fun e w' => e = .returned (.bool (decide (-hi ≤ x ∧ x ≤ hi))) ∧ w = w' := by
  by_cases h1 : -hi ≤ x <;> by_cases h2 : x ≤ hi
  all_goals
    go_enter Try.func35, Try.ntmps35
    go_wp2
    go_ret
    exact ⟨by simp [h1, h2], rfl⟩
/-- The size of a number. -/
def mag (x : Int) : Int := if x < 0 then -x else x
theorem mag_any (x : Int) (w : World) (hx : -1000000000000000 ≤ x ∧ x ≤ 1000000000000000) : Calls Try.prog 24 #[.int .i64 x] w fun e w' => e = .returned (.int .i64 (mag x)) ∧ w = w' := by
  unfold mag
  go_enter Try.func24, Try.ntmps24
  go_wp2
  all_goals
    go_ret
    exact ⟨rfl, rfl⟩
theorem abs_any (x : Int) (w : World) (hx : -1000000000000000 ≤ x ∧ x ≤ 1000000000000000) : Calls Try.prog 20 #[.int .i64 x] w fun e w' => e = .returned (.int .i64 (mag x)) ∧ w = w' := by
  unfold mag
  go_enter Try.func20, Try.ntmps20
  go_wp2
  all_goals
    go_ret
    exact ⟨rfl, rfl⟩
theorem mag_eq (x : Int) : mag x = (x.natAbs : Int) := by
  unfold mag
  split <;> omega
theorem gcd_step (x y : Int) : Int.gcd y (x.tmod y) = Int.gcd x y := by
  show Nat.gcd y.natAbs (x.tmod y).natAbs = Nat.gcd x.natAbs y.natAbs
  rw [Int.natAbs_tmod, Nat.gcd_comm, ← Nat.gcd_rec, Nat.gcd_comm]
theorem tmod_small (x : Int) {y : Int} (hy : y ≠ 0) : (x.tmod y).natAbs < y.natAbs := by
  rw [Int.natAbs_tmod]
  exact Nat.mod_lt _ (by omega)
theorem tmod_range {x y : Int} (hx : -1000000000000000 ≤ x ∧ x ≤ 1000000000000000) : -1000000000000000 ≤ x.tmod y ∧ x.tmod y ≤ 1000000000000000 := by
  have : (x.tmod y).natAbs ≤ x.natAbs := by rw [Int.natAbs_tmod]; exact Nat.mod_le _ _
  omega
theorem implGcd_any (x y : Int) (w : World) (hx : -1000000000000000 ≤ x ∧ x ≤ 1000000000000000) (hy : -1000000000000000 ≤ y ∧ y ≤ 1000000000000000) :
    Calls Try.prog 25 #[.int .i64 x, .int .i64 y] w fun e w' => e = .returned (.int .i64 (Int.gcd x y)) ∧ Below w.heap.size w w' := by
  obtain ⟨G, hG⟩ : ∃ G, Int.gcd x y = G := ⟨_, rfl⟩
  rw [hG]
  go_enter Try.func25, Try.ntmps25
  go_wp2
  go_loopw [0, 1] (fun s t wr => ∃ a b : Int, s = .int .i64 a ∧ t = .int .i64 b ∧ Int.gcd a b = G ∧ (-1000000000000000 ≤ a ∧ a ≤ 1000000000000000) ∧ (-1000000000000000 ≤ b ∧ b ≤ 1000000000000000) ∧ Below w.heap.size w wr) (fun _ t _ => (intOf t).natAbs)
  case atStart => exact ⟨x, y, rfl, rfl, hG, hx, hy, Below.refl _ _⟩
  case round =>
    clear hG hx hy
    obtain ⟨a, b, rfl, rfl, hg, ha, hb, bW⟩ := hrel
    by_cases h0 : b = 0
    · subst h0
      have hG : mag a = (G : Int) := by rw [mag_eq, ← hg, Int.gcd_zero_right]
      clear hg
      go_wp2_with (go_at_call 24; refine (mag_any _ _ ha).mono ?_; rintro e w2 ⟨rfl, rfl⟩; rw [hG])
      go_ret
      exact ⟨rfl, bW⟩
    · have hs := gcd_step a b
      rw [hg] at hs
      have hr := tmod_range (y := b) ha
      have hm := tmod_small a h0
      have HS : Hid (Int.gcd b (a.tmod b) = G ∧ (a.tmod b).natAbs < b.natAbs) := ⟨hs, hm⟩
      clear hs hm hg
      go_wp2
      go_region
      all_goals
        go_wp2
        go_roundw
        case rel => exact ⟨b, a.tmod b, rfl, rfl, HS.out.1, hb, hr, bW.drew⟩
        case measure => simpa [intOf] using HS.out.2
theorem specGcd_any (x y : Int) (w : World) (hx : -1000000000000000 ≤ x ∧ x ≤ 1000000000000000) (hy : -1000000000000000 ≤ y ∧ y ≤ 1000000000000000) :
    Calls Try.prog 21 #[.int .i64 x, .int .i64 y] w fun e w' => e = .returned (.int .i64 (Int.gcd x y)) ∧ w = w' := by
  have hg : Int.gcd (mag x) (mag y) = Int.gcd x y := by rw [mag_eq, mag_eq]; simp [Int.gcd]
  have h1 : 0 ≤ mag x ∧ mag x ≤ 1000000000000000 := by rw [mag_eq]; omega
  have h2 : 0 ≤ mag y ∧ mag y ≤ 1000000000000000 := by rw [mag_eq]; omega
  rw [← hg]
  obtain ⟨p, hp⟩ : ∃ p, mag x = p := ⟨_, rfl⟩
  obtain ⟨q, hq⟩ : ∃ q, mag y = q := ⟨_, rfl⟩
  rw [hp] at h1
  rw [hq] at h2
  rw [hp, hq]
  obtain ⟨G, hG⟩ : ∃ G, Int.gcd p q = G := ⟨_, rfl⟩
  rw [hG]
  clear hg
  go_enter Try.func21, Try.ntmps21
  go_wp2_with fail
  refine (abs_any _ _ hx).mono ?_
  rintro e w1 ⟨rfl, rfl⟩
  rw [hp]
  go_wp2_with fail
  refine (abs_any _ _ hy).mono ?_
  rintro e w1 ⟨rfl, rfl⟩
  rw [hq]
  go_wp2
  clear hp hq hx hy
  go_loopw [0, 1] (fun s t wr => ∃ a b : Int, s = .int .i64 a ∧ t = .int .i64 b ∧ Int.gcd a b = G ∧ (0 ≤ a ∧ a ≤ 1000000000000000) ∧ (0 ≤ b ∧ b ≤ 1000000000000000) ∧ w = wr) (fun _ t _ => (intOf t).natAbs)
  case atStart => exact ⟨p, q, rfl, rfl, hG, h1, h2, rfl⟩
  case round =>
    clear hG h1 h2
    obtain ⟨a, b, rfl, rfl, hg, ha, hb, rfl⟩ := hrel
    by_cases h0 : b = 0
    · subst h0
      have hG : a = (G : Int) := by rw [← hg, Int.gcd_zero_right]; omega
      subst hG
      go_wp2
      go_ret
      exact ⟨rfl, rfl⟩
    · have hs := gcd_step a b
      rw [hg, Int.tmod_eq_emod_of_nonneg ha.1] at hs
      have hr : 0 ≤ a % b ∧ a % b < b := ⟨Int.emod_nonneg _ h0, Int.emod_lt_of_pos _ (by omega)⟩
      have HS : Hid (Int.gcd b (a % b) = G) := hs
      clear hs hg
      go_wp2
      exact ⟨⟨b, a % b, rfl, rfl, HS.out, hb, ⟨hr.1, by omega⟩, by trivial⟩, by simp [intOf]; omega⟩
end Go.Proofs.Ytnlbnjdfkbhkhaa
