/-
  The law of signs: walked.
-/
import Derived.Test.YtgoegaiglfifdaaDs
namespace Go.Proofs.Ytgoegaiglfifdaa
open Go.RowKit

theorem mul_bound {x y M N : Int} (hx : -M ≤ x ∧ x ≤ M) (hy : -N ≤ y ∧ y ≤ N) : -(M * N) ≤ x * y ∧ x * y ≤ M * N := by
  have h1 : x.natAbs ≤ M.natAbs := by omega
  have h2 : y.natAbs ≤ N.natAbs := by omega
  have h3 := Nat.mul_le_mul h1 h2
  rw [← Int.natAbs_mul, ← Int.natAbs_mul] at h3
  have : 0 ≤ M * N := Int.mul_nonneg (by omega) (by omega)
  omega
/-- The size that the law reckons with. -/
def sz (p : Int) : Int := if p < 0 then wrap64 (-p) else p
theorem sz_any (p : Int) (w : World) : Calls Try.prog 9 #[.int .i64 p] w fun e w' => e = .returned (.int .i64 (sz p)) ∧ w = w' := by
  unfold sz
  by_cases h : p < 0
  · rw [if_pos h]
    go_enter Try.func9, Try.ntmps9
    go_wp2
    go_ret
    exact ⟨rfl, rfl⟩
  · rw [if_neg h]
    go_enter Try.func9, Try.ntmps9
    go_wp2
    go_ret
    exact ⟨rfl, rfl⟩
/-- A number that is not too great. -/
theorem sz_small {p : Int} (h : is64 p) (h1 : ¬ 500000 < sz p) (h2 : ¬ p = -9223372036854775808) : -500000 ≤ p ∧ p ≤ 500000 := by
  obtain ⟨a, b⟩ := h
  unfold sz at h1
  by_cases hp : p < 0
  · rw [if_pos hp] at h1
    unfold wrap64 at h1
    omega
  · rw [if_neg hp] at h1
    omega
theorem sg_small {p q : Int} (hp : -1000000000000 ≤ p ∧ p ≤ 1000000000000) (hq : -1000000000000 ≤ q ∧ q ≤ 1000000000000) : sg p q = rs p q := if_pos ⟨hp, hq⟩
theorem rs_num (p q : Int) : -1 ≤ rs p q ∧ rs p q ≤ 1 := by
  unfold rs
  split
  · exact cmp_num p
  · exact cmp_num q
theorem Row.later {w w' : World} {a : Option Addr} {len : Nat} (h : Row w w.heap.size a len) (hb : Below w.heap.size w w') : Row w' w'.heap.size a len := by
  refine ⟨h.1, h.2.imp id ?_⟩
  rintro ⟨b, off, e, hlt, hc⟩
  refine ⟨b, off, e, Nat.lt_of_lt_of_le hlt hb.size, fun j hj => ?_⟩
  obtain ⟨n, h0, h1, h2⟩ := hc j hj
  exact ⟨n, h0, h1, (hb.cell (p := ⟨b, off + j, none⟩) hlt).trans h2⟩
set_option maxHeartbeats 6000000 in
theorem realSign_walk {w : World} {a b : Option Addr} {len cap len' cap' : Nat} (hr : Row w w.heap.size a len) (hr' : Row w w.heap.size b len') :
    Calls Try.prog 3 #[.slice a len cap, .slice b len' cap'] w fun e w' => e = .returned (.bool true) ∧ Below w.heap.size w w' := by
  have B1 := fun w => big_any a len cap w hr.1
  have B2 := fun w => big_any b len' cap' w hr'.1
  by_cases h1 : 1048576 < len
  · simp only [h1, decide_true] at B1
    go_enter Try.func3, Try.ntmps3
    go_wp2_with (go_at_call 6; refine (B1 _).mono ?_; rintro e w2 ⟨rfl, rfl⟩)
    go_ret
    exact ⟨rfl, Below.refl _ _⟩
  simp only [h1, decide_false] at B1
  by_cases h2 : 1048576 < len'
  · simp only [h2, decide_true] at B2
    go_enter Try.func3, Try.ntmps3
    go_wp2_with (fail)
    refine (B1 _).mono ?_
    rintro e w2 ⟨rfl, rfl⟩
    go_wp2_with (fail)
    refine (B2 _).mono ?_
    rintro e w2 ⟨rfl, rfl⟩
    go_wp2
    go_ret
    exact ⟨rfl, Below.refl _ _⟩
  simp only [h2, decide_false] at B2
  go_enter Try.func3, Try.ntmps3
  go_wp2_with (fail)
  refine (B1 _).mono ?_
  rintro e w2 ⟨rfl, rfl⟩
  go_wp2_with (fail)
  refine (B2 _).mono ?_
  rintro e w2 ⟨rfl, rfl⟩
  go_wp2_with (fail)
  refine (drawSign_any hr).mono ?_
  rintro e w2 ⟨p, q, rfl, p6, q6, hb2⟩
  go_wp2_with (fail)
  refine (drawSign_any (hr'.later hb2)).mono ?_
  rintro e w3 ⟨s, t, rfl, s6, t6, hb3⟩
  have bW := hb2.trans (hb3.mono hb2.size)
  clear hb2 hb3 hr hr' B1 B2 h1 h2
  have N1 := fun w => implSign_any (-1) 1 w
  rw [show sg (-1) 1 = 1 from by decide] at N1
  have N2 := fun w => implSign_any (-2) 1 w
  rw [show sg (-2) 1 = -1 from by decide] at N2
  go_wp2_with (fail)
  refine (N1 _).mono ?_
  rintro e w4 ⟨rfl, hb4⟩
  replace bW := bW.trans (hb4.mono bW.size)
  go_wp2_with (fail)
  refine (N2 _).mono ?_
  rintro e w5 ⟨rfl, hb5⟩
  replace bW := bW.trans (hb5.mono bW.size)
  clear hb4 hb5 N1 N2
  have A1 := fun w => sz_any p w
  have A2 := fun w => sz_any q w
  have A3 := fun w => sz_any s w
  have A4 := fun w => sz_any t w
  have F1 : Hid (¬ 500000 < sz p → ¬ p = -9223372036854775808 → -500000 ≤ p ∧ p ≤ 500000) := sz_small p6
  have F2 : Hid (¬ 500000 < sz q → ¬ q = -9223372036854775808 → -500000 ≤ q ∧ q ≤ 500000) := sz_small q6
  have F3 : Hid (¬ 500000 < sz s → ¬ s = -9223372036854775808 → -500000 ≤ s ∧ s ≤ 500000) := sz_small s6
  have F4 : Hid (¬ 500000 < sz t → ¬ t = -9223372036854775808 → -500000 ≤ t ∧ t ≤ 500000) := sz_small t6
  obtain ⟨P, hP⟩ : ∃ x, sz p = x := ⟨_, rfl⟩
  obtain ⟨Q, hQ⟩ : ∃ x, sz q = x := ⟨_, rfl⟩
  obtain ⟨S, hS⟩ : ∃ x, sz s = x := ⟨_, rfl⟩
  obtain ⟨T, hT⟩ : ∃ x, sz t = x := ⟨_, rfl⟩
  rw [hP] at A1 F1
  rw [hQ] at A2 F2
  rw [hS] at A3 F3
  rw [hT] at A4 F4
  clear hP hQ hS hT p6 q6 s6 t6
  by_cases x1 : 500000 < P
  · go_wp2_with (fail)
    go_wp2_with (first | (go_at_call_of 9 (Value.int IntKind.i64 p); refine (A1 _).mono ?_; rintro e w6 ⟨rfl, rfl⟩) | (go_at_call_of 9 (Value.int IntKind.i64 q); refine (A2 _).mono ?_; rintro e w6 ⟨rfl, rfl⟩) | (go_at_call_of 9 (Value.int IntKind.i64 s); refine (A3 _).mono ?_; rintro e w6 ⟨rfl, rfl⟩) | (go_at_call_of 9 (Value.int IntKind.i64 t); refine (A4 _).mono ?_; rintro e w6 ⟨rfl, rfl⟩))
    go_ret
    exact ⟨rfl, bW⟩
  by_cases x2 : 500000 < Q
  · go_wp2_with (fail)
    go_wp2_with (first | (go_at_call_of 9 (Value.int IntKind.i64 p); refine (A1 _).mono ?_; rintro e w6 ⟨rfl, rfl⟩) | (go_at_call_of 9 (Value.int IntKind.i64 q); refine (A2 _).mono ?_; rintro e w6 ⟨rfl, rfl⟩) | (go_at_call_of 9 (Value.int IntKind.i64 s); refine (A3 _).mono ?_; rintro e w6 ⟨rfl, rfl⟩) | (go_at_call_of 9 (Value.int IntKind.i64 t); refine (A4 _).mono ?_; rintro e w6 ⟨rfl, rfl⟩))
    go_ret
    exact ⟨rfl, bW⟩
  by_cases x3 : 500000 < S
  · go_wp2_with (fail)
    go_wp2_with (first | (go_at_call_of 9 (Value.int IntKind.i64 p); refine (A1 _).mono ?_; rintro e w6 ⟨rfl, rfl⟩) | (go_at_call_of 9 (Value.int IntKind.i64 q); refine (A2 _).mono ?_; rintro e w6 ⟨rfl, rfl⟩) | (go_at_call_of 9 (Value.int IntKind.i64 s); refine (A3 _).mono ?_; rintro e w6 ⟨rfl, rfl⟩) | (go_at_call_of 9 (Value.int IntKind.i64 t); refine (A4 _).mono ?_; rintro e w6 ⟨rfl, rfl⟩))
    go_ret
    exact ⟨rfl, bW⟩
  by_cases x4 : 500000 < T
  · go_wp2_with (fail)
    go_wp2_with (first | (go_at_call_of 9 (Value.int IntKind.i64 p); refine (A1 _).mono ?_; rintro e w6 ⟨rfl, rfl⟩) | (go_at_call_of 9 (Value.int IntKind.i64 q); refine (A2 _).mono ?_; rintro e w6 ⟨rfl, rfl⟩) | (go_at_call_of 9 (Value.int IntKind.i64 s); refine (A3 _).mono ?_; rintro e w6 ⟨rfl, rfl⟩) | (go_at_call_of 9 (Value.int IntKind.i64 t); refine (A4 _).mono ?_; rintro e w6 ⟨rfl, rfl⟩))
    go_ret
    exact ⟨rfl, bW⟩
  go_wp2_with (fail)
  refine (A1 _).mono ?_
  rintro e w6 ⟨rfl, rfl⟩
  go_wp2_with (fail)
  refine (A2 _).mono ?_
  rintro e w6 ⟨rfl, rfl⟩
  go_wp2_with (fail)
  refine (A3 _).mono ?_
  rintro e w6 ⟨rfl, rfl⟩
  go_wp2_with (fail)
  refine (A4 _).mono ?_
  rintro e w6 ⟨rfl, rfl⟩
  clear A1 A2 A3 A4
  by_cases y1 : p = -9223372036854775808
  · clear F1 F2 F3 F4
    go_wp2
    go_ret
    exact ⟨rfl, bW⟩
  by_cases y2 : q = -9223372036854775808
  · clear F1 F2 F3 F4
    go_wp2
    go_ret
    exact ⟨rfl, bW⟩
  by_cases y3 : s = -9223372036854775808
  · clear F1 F2 F3 F4
    go_wp2
    go_ret
    exact ⟨rfl, bW⟩
  by_cases y4 : t = -9223372036854775808
  · clear F1 F2 F3 F4
    go_wp2
    go_ret
    exact ⟨rfl, bW⟩
  obtain ⟨p1, p2⟩ := F1.out x1 y1
  obtain ⟨q1, q2⟩ := F2.out x2 y2
  obtain ⟨s1, s2⟩ := F3.out x3 y3
  obtain ⟨t1, t2⟩ := F4.out x4 y4
  have m1 := mul_bound (x := p) (y := s) (M := 500000) (N := 500000) ⟨p1, p2⟩ ⟨s1, s2⟩
  have m2 := mul_bound (x := 3 * q) (y := t) (M := 1500000) (N := 500000) (by omega) ⟨t1, t2⟩
  have m3 := mul_bound (x := p) (y := t) (M := 500000) (N := 500000) ⟨p1, p2⟩ ⟨t1, t2⟩
  have m4 := mul_bound (x := q) (y := s) (M := 500000) (N := 500000) ⟨q1, q2⟩ ⟨s1, s2⟩
  have I1 := fun w => implSign_any p q w
  have I2 := fun w => implSign_any s t w
  have I3 := fun w => implSign_any (p * s + 3 * q * t) (p * t + q * s) w
  have I4 := fun w => implSign_any (-p) (-q) w
  rw [sg_small (by omega) (by omega)] at I1 I2
  rw [sg_small (by omega) (by omega), rs_mul] at I3
  rw [sg_small (by omega) (by omega), rs_opp] at I4
  have rz := rs_zero (p := p) (q := q)
  have n1 := rs_num p q
  have n2 := rs_num s t
  obtain ⟨A, hA⟩ : ∃ x, rs p q = x := ⟨_, rfl⟩
  obtain ⟨B, hB⟩ : ∃ x, rs s t = x := ⟨_, rfl⟩
  rw [hA] at I1 I3 I4 rz n1
  rw [hB] at I2 I3 n2
  clear hA hB F1 F2 F3 F4
  have n3 : -1 ≤ A * B ∧ A * B ≤ 1 := mul_bound (M := 1) (N := 1) n1 n2
  obtain ⟨X, hX⟩ : ∃ x, p * s + 3 * q * t = x := ⟨_, rfl⟩
  obtain ⟨Y, hY⟩ : ∃ x, p * t + q * s = x := ⟨_, rfl⟩
  rw [hX, hY] at I3
  have RZ : Hid (A = 0 ↔ p = 0 ∧ q = 0) := rz
  clear rz
  by_cases a0 : A = 0
  · have g1 : (A == 0) = true := by simp [a0]
    have g2 : (p == 0) = true := by simp [(RZ.out.1 a0).1]
    have g3 : (q == 0) = true := by simp [(RZ.out.1 a0).2]
    clear a0
    go_wp2_with (first
      | (go_at_call_of 8 (Value.int IntKind.i64 X); refine (I3 _).mono ?_; rintro e w7 ⟨rfl, hb7⟩; replace bW := bW.trans (hb7.mono bW.size); clear hb7)
      | (go_at_call_of 8 (Value.int IntKind.i64 (-p)); refine (I4 _).mono ?_; rintro e w7 ⟨rfl, hb7⟩; replace bW := bW.trans (hb7.mono bW.size); clear hb7)
      | (go_at_call_of 8 (Value.int IntKind.i64 s); refine (I2 _).mono ?_; rintro e w7 ⟨rfl, hb7⟩; replace bW := bW.trans (hb7.mono bW.size); clear hb7)
      | (go_at_call_of 8 (Value.int IntKind.i64 p); refine (I1 _).mono ?_; rintro e w7 ⟨rfl, hb7⟩; replace bW := bW.trans (hb7.mono bW.size); clear hb7))
    all_goals
      go_ret
      exact ⟨rfl, bW⟩
  have g1 : (A == 0) = false := by simp [a0]
  by_cases b0 : p = 0
  · have g2 : (p == 0) = true := by simp [b0]
    have g3 : (q == 0) = false := by simp; exact fun h => a0 (RZ.out.2 ⟨b0, h⟩)
    clear a0 b0
    go_wp2_with (first
      | (go_at_call_of 8 (Value.int IntKind.i64 X); refine (I3 _).mono ?_; rintro e w7 ⟨rfl, hb7⟩; replace bW := bW.trans (hb7.mono bW.size); clear hb7)
      | (go_at_call_of 8 (Value.int IntKind.i64 (-p)); refine (I4 _).mono ?_; rintro e w7 ⟨rfl, hb7⟩; replace bW := bW.trans (hb7.mono bW.size); clear hb7)
      | (go_at_call_of 8 (Value.int IntKind.i64 s); refine (I2 _).mono ?_; rintro e w7 ⟨rfl, hb7⟩; replace bW := bW.trans (hb7.mono bW.size); clear hb7)
      | (go_at_call_of 8 (Value.int IntKind.i64 p); refine (I1 _).mono ?_; rintro e w7 ⟨rfl, hb7⟩; replace bW := bW.trans (hb7.mono bW.size); clear hb7))
    all_goals
      go_ret
      exact ⟨rfl, bW⟩
  · have g2 : (p == 0) = false := by simp [b0]
    clear a0 b0
    go_wp2_with (first
      | (go_at_call_of 8 (Value.int IntKind.i64 X); refine (I3 _).mono ?_; rintro e w7 ⟨rfl, hb7⟩; replace bW := bW.trans (hb7.mono bW.size); clear hb7)
      | (go_at_call_of 8 (Value.int IntKind.i64 (-p)); refine (I4 _).mono ?_; rintro e w7 ⟨rfl, hb7⟩; replace bW := bW.trans (hb7.mono bW.size); clear hb7)
      | (go_at_call_of 8 (Value.int IntKind.i64 s); refine (I2 _).mono ?_; rintro e w7 ⟨rfl, hb7⟩; replace bW := bW.trans (hb7.mono bW.size); clear hb7)
      | (go_at_call_of 8 (Value.int IntKind.i64 p); refine (I1 _).mono ?_; rintro e w7 ⟨rfl, hb7⟩; replace bW := bW.trans (hb7.mono bW.size); clear hb7))
    all_goals
      go_ret
      exact ⟨rfl, bW⟩
end Go.Proofs.Ytgoegaiglfifdaa
