/-
  Signs of numbers p and q roots of 3, by the program: walked.
-/
import Derived.Test.YtpelbbkkdmlmiaaCa
import Derived.Test.YtpelbbkkdmlmiaaSm
import Derived.Lib.Mul64
import Derived.Laws.Bits64b
namespace Go.Proofs.Ytpelbbkkdmlmiaa
open Go.RowKit

def mag (x : Int) : Int := if x < 0 then -x else x
theorem mag_any (x : Int) (w : World) (hx : -1000000000000 ≤ x ∧ x ≤ 1000000000000) : Calls Try.prog 58 #[.int .i64 x] w fun e w' => e = .returned (.int .i64 (mag x)) ∧ w = w' := by
  unfold mag
  by_cases h : x < 0
  · rw [if_pos h]
    go_enter Try.func58, Try.ntmps58
    go_wp2
    all_goals
      go_ret
      exact ⟨rfl, rfl⟩
  · rw [if_neg h]
    go_enter Try.func58, Try.ntmps58
    go_wp2
    all_goals
      go_ret
      exact ⟨rfl, rfl⟩
theorem isNaN_any (x : Int) (w : World) : Calls Try.prog 69 #[.int .i64 x] w fun e w' => e = .returned (.bool false) ∧ w = w' := by
  have h : (x != x) = false := by simp
  go_enter Try.func69, Try.ntmps69
  go_wp2
  go_ret
  exact ⟨rfl, rfl⟩
theorem isNaNu_any (x : Int) (w : World) : Calls Try.prog 70 #[.int .u64 x] w fun e w' => e = .returned (.bool false) ∧ w = w' := by
  have h : (x != x) = false := by simp
  go_enter Try.func70, Try.ntmps70
  go_wp2
  go_ret
  exact ⟨rfl, rfl⟩
theorem cmp_any (x y : Int) (w : World) : Calls Try.prog 59 #[.int .i64 x, .int .i64 y] w fun e w' => e = .returned (.int .i64 (cmp3 x y)) ∧ w = w' := by
  unfold cmp3
  rcases (by omega : x < y ∨ (¬ x < y ∧ y < x) ∨ (¬ x < y ∧ ¬ y < x)) with h | ⟨h, h'⟩ | ⟨h, h'⟩
  · rw [if_pos h]
    go_enter Try.func59, Try.ntmps59
    go_wp2_with (go_at_call 69; refine (isNaN_any _ _).mono ?_; rintro e w2 ⟨rfl, rfl⟩)
    go_ret
    exact ⟨rfl, rfl⟩
  · rw [if_neg h, if_pos h']
    go_enter Try.func59, Try.ntmps59
    go_wp2_with (go_at_call 69; refine (isNaN_any _ _).mono ?_; rintro e w2 ⟨rfl, rfl⟩)
    go_ret
    exact ⟨rfl, rfl⟩
  · rw [if_neg h, if_neg h']
    go_enter Try.func59, Try.ntmps59
    go_wp2_with (go_at_call 69; refine (isNaN_any _ _).mono ?_; rintro e w2 ⟨rfl, rfl⟩)
    go_ret
    exact ⟨rfl, rfl⟩
theorem cmpu_any (x y : Int) (w : World) : Calls Try.prog 68 #[.int .u64 x, .int .u64 y] w fun e w' => e = .returned (.int .i64 (cmp3 x y)) ∧ w = w' := by
  unfold cmp3
  rcases (by omega : x < y ∨ (¬ x < y ∧ y < x) ∨ (¬ x < y ∧ ¬ y < x)) with h | ⟨h, h'⟩ | ⟨h, h'⟩
  · rw [if_pos h]
    go_enter Try.func68, Try.ntmps68
    go_wp2_with (go_at_call 70; refine (isNaNu_any _ _).mono ?_; rintro e w2 ⟨rfl, rfl⟩)
    go_ret
    exact ⟨rfl, rfl⟩
  · rw [if_neg h, if_pos h']
    go_enter Try.func68, Try.ntmps68
    go_wp2_with (go_at_call 70; refine (isNaNu_any _ _).mono ?_; rintro e w2 ⟨rfl, rfl⟩)
    go_ret
    exact ⟨rfl, rfl⟩
  · rw [if_neg h, if_neg h']
    go_enter Try.func68, Try.ntmps68
    go_wp2_with (go_at_call 70; refine (isNaNu_any _ _).mono ?_; rintro e w2 ⟨rfl, rfl⟩)
    go_ret
    exact ⟨rfl, rfl⟩
theorem or_any (x y : Int) (g cap : Nat) (w : World) (h0 : w.cell? ⟨g, 0, none⟩ = some (.int .i64 x)) (h1 : w.cell? ⟨g, 1, none⟩ = some (.int .i64 y)) :
    Calls Try.prog 67 #[.slice (some ⟨g, 0, none⟩) 2 cap] w fun e w' => e = .returned (.int .i64 (if x = 0 then y else x)) ∧ w = w' := by
  obtain ⟨R, hR⟩ : ∃ R, (if x = 0 then y else x) = R := ⟨_, rfl⟩
  have HR : Hid ((if x = 0 then y else x) = R) := hR
  rw [hR]
  clear hR
  go_enter Try.func67, Try.ntmps67
  go_wp2
  go_loopw [8] (fun s wr => ∃ k : Nat, k ≤ 2 ∧ s = .int .i64 k ∧ w = wr ∧ (1 ≤ k → x = 0) ∧ (2 ≤ k → y = 0)) (fun s _ => 2 - (intOf s).toNat)
  case atStart => exact ⟨0, Nat.zero_le _, rfl, rfl, fun h => by omega, fun h => by omega⟩
  case round =>
    obtain ⟨k, hk, rfl, rfl, hx, hy⟩ := hrel
    rcases (by omega : k = 0 ∨ k = 1 ∨ k = 2) with rfl | rfl | rfl
    · clear hx hy
      by_cases hz : x = 0
      · have hz' : (x != 0) = false := by simp [hz]
        have HZ : Hid (x = 0) := hz
        clear hz
        go_wp2
        exact ⟨⟨1, by omega, by go_num, by trivial, fun _ => HZ.out, fun h => by omega⟩, by simp [intOf]⟩
      · have hz' : (x != 0) = true := by simp [hz]
        go_wp2
        go_ret
        exact ⟨by rw [← HR.out, if_neg hz]; rfl, rfl⟩
    · have HX : Hid (x = 0) := hx (by omega)
      clear hx hy
      by_cases hz : y = 0
      · have hz' : (y != 0) = false := by simp [hz]
        have HZ : Hid (y = 0) := hz
        clear hz
        go_wp2
        exact ⟨⟨2, by omega, by go_num, by trivial, fun _ => HX.out, fun _ => HZ.out⟩, by simp [intOf]⟩
      · have hz' : (y != 0) = true := by simp [hz]
        go_wp2
        go_ret
        exact ⟨by rw [← HR.out, if_pos HX.out]; rfl, rfl⟩
    · have HX : Hid (x = 0) := hx (by omega)
      have HY : Hid (y = 0) := hy (by omega)
      clear hx hy
      go_wp2
      go_ret
      exact ⟨by rw [← HR.out, if_pos HX.out, HY.out]; rfl, rfl⟩
theorem and_half (a : Nat) (ha : a < 18446744073709551616) : bits .and .u64 (a : Int) 4294967295 = ((a % 4294967296 : Nat) : Int) := by
  have h := bits_and_u64_nat a 4294967295 ha (by omega)
  rw [show a &&& 4294967295 = a % 4294967296 from Nat.and_two_pow_sub_one_eq_mod a 32] at h
  exact h
theorem wrap_nat {a : Nat} (ha : a < 18446744073709551616) : IntKind.u64.wrap (a : Int) = (a : Int) := by rw [IntKind.wrap_u64]; omega
theorem mul64_any (x y : Nat) (hx : x < 18446744073709551616) (hy : y < 18446744073709551616) (w : World) :
    Calls Try.prog 66 #[.int .u64 x, .int .u64 y] w fun e w' => e = .returned (.tuple #[.int .u64 ((x * y / 18446744073709551616 : Nat) : Int), .int .u64 ((x * y % 18446744073709551616 : Nat) : Int)]) ∧ w = w' := by
  obtain ⟨m1, m2, m3, m4⟩ := Lib.mul64_hi x y hx hy
  have ra := and_half x hx
  have rc := and_half y hy
  obtain ⟨a, ha⟩ : ∃ a, x / 4294967296 = a := ⟨_, rfl⟩
  obtain ⟨b, hb⟩ : ∃ b, x % 4294967296 = b := ⟨_, rfl⟩
  obtain ⟨c, hc⟩ : ∃ c, y / 4294967296 = c := ⟨_, rfl⟩
  obtain ⟨d, hd⟩ : ∃ d, y % 4294967296 = d := ⟨_, rfl⟩
  have ra1 : (x : Int) / 4294967296 = (a : Int) := by omega
  have rc1 : (y : Int) / 4294967296 = (c : Int) := by omega
  rw [ha, hb, hc, hd] at m4
  rw [hb, hd] at m1
  rw [ha, hb, hd] at m2
  rw [ha, hb, hc, hd] at m3
  rw [hb] at ra
  rw [hd] at rc
  have q1 := Lib.half_mul_le (a := a) (b := c) (by omega) (by omega)
  have q2 := Lib.half_mul_le (a := a) (b := d) (by omega) (by omega)
  have q3 := Lib.half_mul_le (a := b) (b := c) (by omega) (by omega)
  have q4 : x * y / 18446744073709551616 < 18446744073709551616 := by
    rw [Nat.div_lt_iff_lt_mul (by decide)]
    exact Nat.mul_lt_mul'' hx hy
  have w1 : IntKind.u64.wrap ((b : Int) * (d : Int)) = ((b * d : Nat) : Int) := by rw [← Int.natCast_mul]; exact wrap_nat m1
  have w2 : IntKind.u64.wrap ((a : Int) * (d : Int)) = ((a * d : Nat) : Int) := by rw [← Int.natCast_mul]; exact wrap_nat (by omega)
  have w3 : IntKind.u64.wrap ((b : Int) * (c : Int)) = ((b * c : Nat) : Int) := by rw [← Int.natCast_mul]; exact wrap_nat (by omega)
  have w4 : IntKind.u64.wrap ((a : Int) * (c : Int)) = ((a * c : Nat) : Int) := by rw [← Int.natCast_mul]; exact wrap_nat (by omega)
  have w5 : IntKind.u64.wrap ((x : Int) * (y : Int)) = ((x * y % 18446744073709551616 : Nat) : Int) := by rw [← Int.natCast_mul, IntKind.wrap_u64]; omega
  obtain ⟨p, hp⟩ : ∃ p, b * d = p := ⟨_, rfl⟩
  obtain ⟨q, hq⟩ : ∃ q, a * d = q := ⟨_, rfl⟩
  obtain ⟨r, hr⟩ : ∃ r, b * c = r := ⟨_, rfl⟩
  obtain ⟨n, hn⟩ : ∃ n, a * c = n := ⟨_, rfl⟩
  obtain ⟨H, hH⟩ : ∃ H, x * y / 18446744073709551616 = H := ⟨_, rfl⟩
  obtain ⟨L, hL⟩ : ∃ L, x * y % 18446744073709551616 = L := ⟨_, rfl⟩
  rw [hp] at w1 m1 m2 m3 m4
  rw [hq] at w2 m2 m3 m4 q2
  rw [hr] at w3 m3 m4 q3
  rw [hn] at w4 m4 q1
  rw [hL] at w5
  rw [hH] at m4 q4
  rw [hH, hL]
  obtain ⟨t, ht⟩ : ∃ t, q + p / 4294967296 = t := ⟨_, rfl⟩
  rw [ht] at m2 m3 m4
  have rt := and_half t m2
  have u1 : IntKind.u64.wrap ((q : Int) + (p : Int) / 4294967296) = (t : Int) := by rw [show (q : Int) + (p : Int) / 4294967296 = (t : Int) by omega]; exact wrap_nat m2
  have u2 : IntKind.u64.wrap (((t % 4294967296 : Nat) : Int) + (r : Int)) = ((t % 4294967296 + r : Nat) : Int) := by rw [← Int.natCast_add]; exact wrap_nat m3
  obtain ⟨t0, ht0⟩ : ∃ t0, t % 4294967296 = t0 := ⟨_, rfl⟩
  rw [ht0] at rt u2 m3 m4
  obtain ⟨v, hv⟩ : ∃ v, t0 + r = v := ⟨_, rfl⟩
  rw [hv] at u2 m3 m4
  have u3 : IntKind.u64.wrap ((n : Int) + (t : Int) / 4294967296) = (n : Int) + (t : Int) / 4294967296 := by rw [IntKind.wrap_u64]; omega
  have u4 : IntKind.u64.wrap ((n : Int) + (t : Int) / 4294967296 + (v : Int) / 4294967296) = (H : Int) := by rw [show (n : Int) + (t : Int) / 4294967296 + (v : Int) / 4294967296 = (H : Int) by omega]; exact wrap_nat q4
  clear m1 m2 m3 m4 q1 q2 q3 q4 ha hb hc hd hp hq hr hn hH hL ht ht0 hv hx hy
  go_enter Try.func66, Try.ntmps66
  go_wp2
  go_ret2
  exact ⟨rfl, rfl⟩
end Go.Proofs.Ytpelbbkkdmlmiaa
