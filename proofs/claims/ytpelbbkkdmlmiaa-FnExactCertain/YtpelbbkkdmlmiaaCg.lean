/-
  Signs of numbers p and q roots of 3, by the program: walked whole.
-/
import Derived.Test.YtpelbbkkdmlmiaaCf
namespace Go.Proofs.Ytpelbbkkdmlmiaa
open Go.RowKit

/-- Two numbers of two words each, compared. -/
theorem two_words (X Y : Nat) : decide (0 < (if cmp3 ((X / 18446744073709551616 : Nat) : Int) ((Y / 18446744073709551616 : Nat) : Int) = 0 then cmp3 ((X % 18446744073709551616 : Nat) : Int) ((Y % 18446744073709551616 : Nat) : Int) else cmp3 ((X / 18446744073709551616 : Nat) : Int) ((Y / 18446744073709551616 : Nat) : Int))) = decide (Y < X) := by
  rw [Bool.eq_iff_iff, decide_eq_true_eq, decide_eq_true_eq]
  unfold cmp3
  split <;> split <;> (try split) <;> (try split) <;> (try split) <;> omega
theorem above_any (p q : Nat) (hp : p ≤ 1000000000000) (hq : q ≤ 1000000000000) (w : World) :
    Calls Try.prog 57 #[.int .i64 p, .int .i64 q] w fun e w' => e = .returned (.bool (decide (3 * q * q < p * p))) ∧ Below w.heap.size w w' := by
  have k1 : IntKind.u64.wrap (p : Int) = (p : Int) := wrap_nat (by omega)
  have k2 : IntKind.u64.wrap (q : Int) = (q : Int) := wrap_nat (by omega)
  have k3 : IntKind.u64.wrap (3 * (q : Int)) = ((3 * q : Nat) : Int) := by rw [IntKind.wrap_u64]; omega
  have T := two_words (p * p) (3 * q * q)
  obtain ⟨x, hx⟩ : ∃ x, cmp3 ((p * p / 18446744073709551616 : Nat) : Int) ((3 * q * q / 18446744073709551616 : Nat) : Int) = x := ⟨_, rfl⟩
  obtain ⟨y, hy⟩ : ∃ y, cmp3 ((p * p % 18446744073709551616 : Nat) : Int) ((3 * q * q % 18446744073709551616 : Nat) : Int) = y := ⟨_, rfl⟩
  rw [hx, hy] at T
  rw [← T]
  have M1 := fun w => mul64_any p p (by omega) (by omega) w
  have M2 := fun w => mul64_any (3 * q) q (by omega) (by omega) w
  have C1 := fun w => cmpu_any ((p * p / 18446744073709551616 : Nat) : Int) ((3 * q * q / 18446744073709551616 : Nat) : Int) w
  have C2 := fun w => cmpu_any ((p * p % 18446744073709551616 : Nat) : Int) ((3 * q * q % 18446744073709551616 : Nat) : Int) w
  rw [hx] at C1
  rw [hy] at C2
  clear T hx hy
  obtain ⟨h1, e1⟩ : ∃ h1 : Int, ((p * p / 18446744073709551616 : Nat) : Int) = h1 := ⟨_, rfl⟩
  obtain ⟨l1, e2⟩ : ∃ l1 : Int, ((p * p % 18446744073709551616 : Nat) : Int) = l1 := ⟨_, rfl⟩
  obtain ⟨h2, e3⟩ : ∃ h2 : Int, ((3 * q * q / 18446744073709551616 : Nat) : Int) = h2 := ⟨_, rfl⟩
  obtain ⟨l2, e4⟩ : ∃ l2 : Int, ((3 * q * q % 18446744073709551616 : Nat) : Int) = l2 := ⟨_, rfl⟩
  rw [e1, e2] at M1
  rw [e3, e4] at M2
  rw [e1, e3] at C1
  rw [e2, e4] at C2
  clear e1 e2 e3 e4
  obtain ⟨q3, hq3⟩ : ∃ q3, 3 * q = q3 := ⟨_, rfl⟩
  rw [hq3] at M2 k3
  clear hq3
  go_enter Try.func57, Try.ntmps57
  go_wp2_with (first | (go_at_call_of 66 (Value.int IntKind.u64 (q3 : Int)); refine (M2 _).mono ?_; rintro e w2 ⟨rfl, rfl⟩) | (go_at_call 66; refine (M1 _).mono ?_; rintro e w2 ⟨rfl, rfl⟩))
  refine (C1 _).mono ?_
  rintro e w2 ⟨rfl, rfl⟩
  go_wp2_with (first | (go_at_call_of 68 (Value.int IntKind.u64 l1); refine (C2 _).mono ?_; rintro e w2 ⟨rfl, rfl⟩) | (go_at_call 67; refine (or_any x y _ _ _ ((at_new 3 _ _).cell 0 rfl) ((at_new 3 _ _).cell 1 rfl)).mono ?_; rintro e w2 ⟨rfl, rfl⟩))
  all_goals
    go_ret
    exact ⟨rfl, below_alloc _ _⟩
theorem mag_nat (x : Int) : mag x = ((x.natAbs : Nat) : Int) := by unfold mag; split <;> omega
theorem cmp_num (x : Int) : -1 ≤ cmp3 x 0 ∧ cmp3 x 0 ≤ 1 := by unfold cmp3; split <;> (try split) <;> omega
/-- The sign that is told. -/
def sg (p q : Int) : Int := if inC p ∧ inC q then rs p q else 0
theorem implSign_any (p q : Int) (w : World) : Calls Try.prog 42 #[.int .i64 p, .int .i64 q] w fun e w' => e = .returned (.int .i64 (sg p q)) ∧ Below w.heap.size w w' := by
  by_cases hp : inC p
  · by_cases hq : inC q
    · have hp' : -1000000000000 ≤ p ∧ p ≤ 1000000000000 := hp
      have hq' : -1000000000000 ≤ q ∧ q ≤ 1000000000000 := hq
      rw [show sg p q = rs p q from if_pos ⟨hp, hq⟩]
      have A := fun w => above_any p.natAbs q.natAbs (by omega) (by omega) w
      have e1 : (3 * (q * q) < p * p) ↔ (3 * q.natAbs * q.natAbs < p.natAbs * p.natAbs) := by
        have s1 : ((p.natAbs * p.natAbs : Nat) : Int) = p * p := Int.natAbs_mul_self
        have s2 : ((q.natAbs * q.natAbs : Nat) : Int) = q * q := Int.natAbs_mul_self
        have s3 : 3 * q.natAbs * q.natAbs = 3 * (q.natAbs * q.natAbs) := Nat.mul_assoc _ _ _
        omega
      have hrs : rs p q = if 3 * q.natAbs * q.natAbs < p.natAbs * p.natAbs then cmp3 p 0 else cmp3 q 0 := by
        unfold rs
        by_cases h : 3 * (q * q) < p * p
        · rw [if_pos h, if_pos (e1.1 h)]
        · rw [if_neg h, if_neg (fun h' => h (e1.2 h'))]
      rw [hrs]
      clear e1 hrs
      obtain ⟨c1, c2⟩ := cmp_num p
      obtain ⟨d1, d2⟩ := cmp_num q
      have P := fun w => cmp_any p 0 w
      have Q := fun w => cmp_any q 0 w
      have m1 := mag_nat p
      have m2 := mag_nat q
      obtain ⟨a, ha⟩ : ∃ a, p.natAbs = a := ⟨_, rfl⟩
      obtain ⟨b, hb⟩ : ∃ b, q.natAbs = b := ⟨_, rfl⟩
      rw [ha, hb] at A ⊢
      rw [ha] at m1
      rw [hb] at m2
      clear ha hb
      have MP := fun w => mag_any p w hp'
      have MQ := fun w => mag_any q w hq'
      rw [m1] at MP
      rw [m2] at MQ
      clear m1 m2
      obtain ⟨x, hx⟩ : ∃ x, cmp3 p 0 = x := ⟨_, rfl⟩
      obtain ⟨y, hy⟩ : ∃ y, cmp3 q 0 = y := ⟨_, rfl⟩
      rw [hx] at c1 c2 P ⊢
      rw [hy] at d1 d2 Q ⊢
      clear hx hy
      by_cases h : 3 * b * b < a * a
      · rw [if_pos h]
        simp only [h, decide_true] at A
        clear h
        go_enter Try.func42, Try.ntmps42
        go_wp2_with (first
          | (go_at_call 53; refine (within_any _ _ _ (by decide) (by decide)).mono ?_; rintro e w2 ⟨rfl, rfl⟩)
          | (go_at_call 58; (first | refine (MP _).mono ?_ | refine (MQ _).mono ?_); rintro e w2 ⟨rfl, rfl⟩)
          | (go_at_call 57; refine (A _).mono ?_; rintro e w2 ⟨rfl, hb2⟩)
          | (go_at_call 59; refine (P _).mono ?_; rintro e w3 ⟨rfl, rfl⟩))
        go_ret
        exact ⟨rfl, hb2⟩
      · rw [if_neg h]
        simp only [h, decide_false] at A
        clear h
        go_enter Try.func42, Try.ntmps42
        go_wp2_with (first
          | (go_at_call 53; refine (within_any _ _ _ (by decide) (by decide)).mono ?_; rintro e w2 ⟨rfl, rfl⟩)
          | (go_at_call 58; (first | refine (MP _).mono ?_ | refine (MQ _).mono ?_); rintro e w2 ⟨rfl, rfl⟩)
          | (go_at_call 57; refine (A _).mono ?_; rintro e w2 ⟨rfl, hb2⟩)
          | (go_at_call 59; refine (Q _).mono ?_; rintro e w3 ⟨rfl, rfl⟩))
        go_ret
        exact ⟨rfl, hb2⟩
    · have hp' : -1000000000000 ≤ p ∧ p ≤ 1000000000000 := hp
      have hq' : ¬ (-1000000000000 ≤ q ∧ q ≤ 1000000000000) := hq
      rw [show sg p q = 0 from if_neg (fun h => hq h.2)]
      go_enter Try.func42, Try.ntmps42
      go_wp2_with (go_at_call 53; refine (within_any _ _ _ (by decide) (by decide)).mono ?_; rintro e w2 ⟨rfl, rfl⟩)
      go_ret
      exact ⟨rfl, Below.refl _ _⟩
  · have hp' : ¬ (-1000000000000 ≤ p ∧ p ≤ 1000000000000) := hp
    rw [show sg p q = 0 from if_neg (fun h => hp h.1)]
    go_enter Try.func42, Try.ntmps42
    go_wp2_with (go_at_call 53; refine (within_any _ _ _ (by decide) (by decide)).mono ?_; rintro e w2 ⟨rfl, rfl⟩)
    go_ret
    exact ⟨rfl, Below.refl _ _⟩
end Go.Proofs.Ytpelbbkkdmlmiaa
