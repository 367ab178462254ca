/-
  The program's own order of floats and complex numbers, walked.
-/
import Derived.Test.YteaeolilgdnodaaWalkF
namespace Go.Proofs.Yteaeolilgdnodaa
open Go.RowKit Fl

/-- The rank that puts floats in order. -/
def key (x : Nat) : Int :=
  if isn Ieee.double x then 9223372036854775807
  else if sgn Ieee.double x then -1 - (rung Ieee.double x : Int) else (rung Ieee.double x : Int)

@[go_sem] theorem run_fbits (x : Nat) (w : World) : (callFunc 44 #[.float .f64 x]).run Try.prog w = .ok (.value (.int .u64 x)) w := by
  rw [run_callFunc_extern (e := Extern.MathFloatBits.float64bits) Try.func44 (by kernel_rfl) (by kernel_rfl) (by kernel_rfl) (by kernel_rfl)]
  rfl

theorem sgn_iff {x : Nat} (h : x < 2 ^ 64) : sgn Ieee.double x = decide (2 ^ 63 ≤ x) := by
  have e : Ieee.double.signWeight = 2 ^ 63 := rfl
  unfold sgn
  rw [e]
  by_cases hx : 2 ^ 63 ≤ x
  · have : x / 2 ^ 63 = 1 := by omega
    rw [this]; simp; omega
  · have : x / 2 ^ 63 = 0 := by omega
    rw [this]; simp; omega

theorem signbit_any {x : Nat} (hx : x < 2 ^ 64) (w : World) : Calls Try.prog 45 #[.float .f64 x] w fun e w' => e = .returned (.bool (sgn Ieee.double x)) ∧ w = w' := by
  rw [sgn_iff hx]
  by_cases h : 2 ^ 63 ≤ x
  · have hw : wrap64 (x : Int) = (x : Int) - 2 ^ 64 := by unfold wrap64; omega
    have e : decide (2 ^ 63 ≤ x) = true := by simpa using h
    have hlt : wrap64 (x : Int) < 0 := by omega
    rw [e]
    clear hw
    go_enter Try.func45, Try.ntmps45
    go_wp2
    go_ret
    exact ⟨rfl, rfl⟩
  · have hw : wrap64 (x : Int) = (x : Int) := by unfold wrap64; omega
    have e : decide (2 ^ 63 ≤ x) = false := by simpa using h
    have hlt : ¬ (x : Int) < 0 := by omega
    rw [e]
    go_enter Try.func45, Try.ntmps45
    go_wp2
    go_ret
    exact ⟨rfl, rfl⟩

theorem isNaN_any (x : Nat) (w : World) : Calls Try.prog 43 #[.float .f64 x] w fun e w' => e = .returned (.bool (isn Ieee.double x)) ∧ w = w' := by
  by_cases h : isn Ieee.double x = true
  · have h1 := ord_nan (y := x) (.inl h)
    rw [h]
    go_enter Try.func43, Try.ntmps43
    go_wp2
    go_ret
    exact ⟨rfl, rfl⟩
  · have h : isn Ieee.double x = false := by simpa using h
    have h1 := ord_self h
    rw [h]
    go_enter Try.func43, Try.ntmps43
    go_wp2
    go_ret
    exact ⟨rfl, rfl⟩

theorem and_rung {x : Nat} (hx : x < 2 ^ 64) : bits .and .u64 (x : Int) 9223372036854775807 = (rung Ieee.double x : Int) := by
  have h := u64_and_nat x 9223372036854775807 hx (by decide)
  have e : Ieee.double.signWeight = 2 ^ 63 := rfl
  unfold rung
  rw [e]
  have h2 : x &&& 9223372036854775807 = x % 2 ^ 63 := Nat.and_two_pow_sub_one_eq_mod x 63
  rw [h2] at h
  exact h

theorem rung_lt (x : Nat) : rung Ieee.double x < 2 ^ 63 := Nat.mod_lt _ (by decide)

theorem floatRank_any {x : Nat} (hx : x < 2 ^ 64) (w : World) : Calls Try.prog 31 #[.float .f64 x] w fun e w' => e = .returned (.int .i64 (key x)) ∧ w = w' := by
  have ha := and_rung hx
  have hl := rung_lt x
  have hn := fun w => isNaN_any x w
  have hs := fun w => signbit_any hx w
  by_cases h : isn Ieee.double x = true
  · rw [h] at hn
    have e : key x = 9223372036854775807 := by unfold key; rw [if_pos h]
    rw [e]
    go_enter Try.func31, Try.ntmps31
    go_wp2_with (go_at_call 43; refine (hn _).mono ?_; rintro e w1 ⟨rfl, rfl⟩)
    go_ret
    exact ⟨rfl, rfl⟩
  · have h : isn Ieee.double x = false := by simpa using h
    rw [h] at hn
    by_cases hg : sgn Ieee.double x = true
    · rw [hg] at hs
      have e : key x = -1 - (rung Ieee.double x : Int) := by unfold key; simp [h, hg]
      rw [e]
      clear hx h hg
      generalize rung Ieee.double x = r at *
      go_enter Try.func31, Try.ntmps31
      go_wp2_with (first | (go_at_call 43; refine (hn _).mono ?_; rintro e w1 ⟨rfl, rfl⟩) | (go_at_call 45; refine (hs _).mono ?_; rintro e w1 ⟨rfl, rfl⟩))
      go_ret
      exact ⟨rfl, rfl⟩
    · have hg : sgn Ieee.double x = false := by simpa using hg
      rw [hg] at hs
      have e : key x = (rung Ieee.double x : Int) := by unfold key; simp [h, hg]
      rw [e]
      clear hx h hg
      generalize rung Ieee.double x = r at *
      go_enter Try.func31, Try.ntmps31
      go_wp2_with (first | (go_at_call 43; refine (hn _).mono ?_; rintro e w1 ⟨rfl, rfl⟩) | (go_at_call 45; refine (hs _).mono ?_; rintro e w1 ⟨rfl, rfl⟩))
      go_ret
      exact ⟨rfl, rfl⟩

end Go.Proofs.Yteaeolilgdnodaa
