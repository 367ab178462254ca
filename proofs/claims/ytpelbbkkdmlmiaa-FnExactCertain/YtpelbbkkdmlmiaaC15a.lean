/-
  Certain signs, by the program and by the specification: walked whole, and the law over them.
-/
import Derived.Test.YtpelbbkkdmlmiaaCi
namespace Go.Proofs.Ytpelbbkkdmlmiaa
open Go.RowKit

abbrev r10 (x : Int) : Prop := -10000 ≤ x ∧ x ≤ 10000
def cF (f0 p q p2 : Int) : Int := 2 * (p * p + 3 * q * q) - f0 * (f0 - p2)
def cG (f0 p q q2 : Int) : Int := 4 * p * q + f0 * q2
/-- What both sides tell. -/
def cert (f0 p q p2 q2 : Int) : Bool := decide ((0 ≤ f0 ∧ r10 f0 ∧ r10 p ∧ r10 q ∧ r10 p2 ∧ r10 q2) ∧ ¬ sg p2 q2 < 0 ∧ 0 < sg (cF f0 p q p2) (cG f0 p q q2))
theorem real_any (x : Int) (w : World) : Calls Try.prog 39 #[.int .i64 x] w fun e w' => e = .returned (.bool (decide (r10 x))) ∧ w = w' := by
  have I := fun w => in_any x (-10000) 10000 w
  obtain ⟨b, hb⟩ : ∃ b, decide (r10 x) = b := ⟨_, rfl⟩
  rw [show decide (-10000 ≤ x ∧ x ≤ 10000) = b from hb] at I
  rw [hb]
  clear hb
  go_enter Try.func39, Try.ntmps39
  go_wp2_with (go_at_call 34; refine (I _).mono ?_; rintro e w2 ⟨rfl, rfl⟩)
  go_ret
  exact ⟨rfl, rfl⟩
theorem areReal_any {w : World} {g n cap : Nat} {f : Nat → Int} (h : Ints w g 0 n f) (hn : n ≤ 5) (b : Bool) (hb : Hid (b = true ↔ ∀ i, i < n → r10 (f i))) : Calls Try.prog 41 #[.slice (some ⟨g, 0, none⟩) n cap] w fun e w' => e = .returned (.bool b) ∧ w = w' := by
  have hn' : (n : Int) ≤ 5 := by omega
  go_enter Try.func41, Try.ntmps41
  go_wp2
  go_loopw [7] (fun s wr => ∃ k : Nat, k ≤ n ∧ s = .int .i64 k ∧ w = wr ∧ ∀ i, i < k → r10 (f i)) (fun s _ => n - (intOf s).toNat)
  case atStart => exact ⟨0, Nat.zero_le _, rfl, rfl, fun i hi => by omega⟩
  case round =>
    obtain ⟨k, hk, rfl, rfl, ha⟩ := hrel
    by_cases hlt : k < n
    · have hlt' : (k : Int) < (n : Int) := by omega
      have c0 := h k hlt
      simp only [Nat.zero_add] at c0
      by_cases hr : r10 (f k)
      · have W := fun w => within_any (f k) 10000 w (by omega) (by omega)
        rw [show decide (-10000 ≤ f k ∧ f k ≤ 10000) = true from decide_eq_true hr] at W
        have HR : Hid (r10 (f k)) := hr
        clear hr
        go_wp2_with (go_at_call 53; refine (W _).mono ?_; rintro e w2 ⟨rfl, rfl⟩)
        refine ⟨⟨k + 1, by omega, by go_num, by trivial, fun i hi => ?_⟩, by simp [intOf]; omega⟩
        by_cases e : i = k
        · subst e; exact HR.out
        · exact ha i (by omega)
      · have W := fun w => within_any (f k) 10000 w (by omega) (by omega)
        rw [show decide (-10000 ≤ f k ∧ f k ≤ 10000) = false from decide_eq_false hr] at W
        have HR : Hid (¬ r10 (f k)) := hr
        clear hr
        go_wp2_with (go_at_call 53; refine (W _).mono ?_; rintro e w2 ⟨rfl, rfl⟩)
        go_ret
        cases b with
        | false => exact ⟨rfl, rfl⟩
        | true => exact absurd (hb.out.1 rfl k hlt) HR.out
    · have hlt' : ¬ (k : Int) < (n : Int) := by omega
      obtain rfl : k = n := by omega
      go_wp2
      go_ret
      rw [hb.out.2 ha]
      exact ⟨rfl, rfl⟩
def n5 (a b c d e : Int) (i : Nat) : Int := match i with | 0 => a | 1 => b | 2 => c | 3 => d | _ => e
theorem n5_all (a b c d e : Int) (P : Int → Prop) : (∀ i, i < 5 → P (n5 a b c d e i)) ↔ P a ∧ P b ∧ P c ∧ P d ∧ P e := by
  constructor
  · intro h
    exact ⟨h 0 (by omega), h 1 (by omega), h 2 (by omega), h 3 (by omega), h 4 (by omega)⟩
  · rintro ⟨h0, h1, h2, h3, h4⟩ i hi
    rcases (by omega : i = 0 ∨ i = 1 ∨ i = 2 ∨ i = 3 ∨ i = 4) with rfl | rfl | rfl | rfl | rfl <;> assumption
theorem ints5 {t : TypeId} {w : World} {g : Nat} {a b c d e : Int} (h : At t w g #[.int .i64 a, .int .i64 b, .int .i64 c, .int .i64 d, .int .i64 e]) : Ints w g 0 5 (n5 a b c d e) := by
  intro i hi
  rcases (by omega : i = 0 ∨ i = 1 ∨ i = 2 ∨ i = 3 ∨ i = 4) with rfl | rfl | rfl | rfl | rfl <;> exact h.cell _ rfl
theorem cert_bounds {f0 p q p2 q2 : Int} (h0 : 0 ≤ f0) (k0 : r10 f0) (k1 : r10 p) (k2 : r10 q) (k3 : r10 p2) (k4 : r10 q2) :
    (0 ≤ p * p ∧ p * p ≤ 100000000) ∧ (-300000000 ≤ 3 * q * q ∧ 3 * q * q ≤ 300000000) ∧ (-200000000 ≤ f0 * (f0 - p2) ∧ f0 * (f0 - p2) ≤ 200000000) ∧ (-400000000 ≤ 4 * p * q ∧ 4 * p * q ≤ 400000000) ∧ (-100000000 ≤ f0 * q2 ∧ f0 * q2 ≤ 100000000) ∧ (-100000000 ≤ f0 * f0 ∧ f0 * f0 ≤ 100000000) ∧ (-100000000 ≤ f0 * p2 ∧ f0 * p2 ≤ 100000000) := by
  unfold r10 at *
  have a1 := mul_bound k1 k1
  have a2 := mul_bound (x := 3 * q) (y := q) (M := 30000) (N := 10000) (by omega) k2
  have a3 := mul_bound (x := f0) (y := f0 - p2) (M := 10000) (N := 20000) k0 (by omega)
  have a4 := mul_bound (x := 4 * p) (y := q) (M := 40000) (N := 10000) (by omega) k2
  have a5 := mul_bound k0 k4
  have a6 := mul_bound k0 k0
  have a7 := mul_bound k0 k3
  have a8 := sq_nonneg p
  omega
set_option maxHeartbeats 1600000 in
theorem implCertain_any (f0 p q p2 q2 : Int) (w : World) : Calls Try.prog 22 #[.int .i64 f0, .int .i64 p, .int .i64 q, .int .i64 p2, .int .i64 q2] w fun e w' => e = .returned (.bool (cert f0 p q p2 q2)) ∧ Below w.heap.size w w' := by
  by_cases h0 : f0 < 0
  · rw [show cert f0 p q p2 q2 = false from decide_eq_false (by omega)]
    go_enter Try.func22, Try.ntmps22
    go_wp2
    go_ret
    exact ⟨rfl, Below.refl _ _⟩
  obtain ⟨W1, hW1, a1, B1, -⟩ := boxed w 2 #[.int .i64 f0, .int .i64 p, .int .i64 q, .int .i64 p2, .int .i64 q2]
  have R := fun b hb => areReal_any (cap := 5) (ints5 a1) (Nat.le_refl 5) b hb
  rw [n5_all] at R
  by_cases h1 : r10 f0 ∧ r10 p ∧ r10 q ∧ r10 p2 ∧ r10 q2
  case neg =>
    rw [show cert f0 p q p2 q2 = false from decide_eq_false (fun h => h1 h.1.2)]
    replace R := R false (show (false = true ↔ _) from ⟨by simp, fun h => absurd h h1⟩)
    clear h1 a1
    go_enter Try.func22, Try.ntmps22
    go_wp2_with (go_at_call 41; refine R.mono ?_; rintro e w2 ⟨rfl, rfl⟩)
    go_ret
    exact ⟨rfl, B1⟩
  have S := fun w => implSign_any p2 q2 w
  by_cases h2 : sg p2 q2 < 0
  · rw [show cert f0 p q p2 q2 = false from decide_eq_false (fun h => h.2.1 h2)]
    replace R := R true (show (true = true ↔ _) from ⟨fun _ => h1, fun _ => rfl⟩)
    obtain ⟨z, hz⟩ : ∃ z, sg p2 q2 = z := ⟨_, rfl⟩
    rw [hz] at S h2
    clear h1 a1 hz
    go_enter Try.func22, Try.ntmps22
    go_wp2_with (first
      | (go_at_call 41; refine R.mono ?_; rintro e w2 ⟨rfl, rfl⟩)
      | (go_at_call 42; refine (S _).mono ?_; rintro e w3 ⟨rfl, hb3⟩))
    go_ret
    exact ⟨rfl, B1.trans (hb3.mono B1.size)⟩
  · have T := fun w => implSign_any (cF f0 p q p2) (cG f0 p q q2) w
    rw [show cert f0 p q p2 q2 = decide (0 < sg (cF f0 p q p2) (cG f0 p q q2)) from decide_eq_decide.2 ⟨fun h => h.2.2, fun h => ⟨⟨by omega, h1⟩, h2, h⟩⟩]
    obtain ⟨k0, k1, k2, k3, k4⟩ := cert_bounds (by omega : 0 ≤ f0) h1.1 h1.2.1 h1.2.2.1 h1.2.2.2.1 h1.2.2.2.2
    have b0 : -10000 ≤ f0 ∧ f0 ≤ 10000 := h1.1
    have b1 : -10000 ≤ p ∧ p ≤ 10000 := h1.2.1
    have b2 : -10000 ≤ q ∧ q ≤ 10000 := h1.2.2.1
    have b3 : -10000 ≤ p2 ∧ p2 ≤ 10000 := h1.2.2.2.1
    replace R := R true (show (true = true ↔ _) from ⟨fun _ => h1, fun _ => rfl⟩)
    obtain ⟨z, hz⟩ : ∃ z, sg p2 q2 = z := ⟨_, rfl⟩
    obtain ⟨y, hy⟩ : ∃ y, sg (cF f0 p q p2) (cG f0 p q q2) = y := ⟨_, rfl⟩
    rw [hz] at S h2
    rw [hy] at T ⊢
    unfold cF cG at T
    clear h1 a1 hz hy
    go_enter Try.func22, Try.ntmps22
    go_wp2_with (first
      | (go_at_call 41; refine R.mono ?_; rintro e w2 ⟨rfl, rfl⟩)
      | (go_at_call_of 42 (Value.int IntKind.i64 p2); refine (S _).mono ?_; rintro e w3 ⟨rfl, hb3⟩)
      | (go_at_call 42; refine (T _).mono ?_; rintro e w4 ⟨rfl, hb4⟩))
    go_ret
    exact ⟨rfl, (B1.trans (hb3.mono B1.size)).trans (hb4.mono (Nat.le_trans B1.size hb3.size))⟩
set_option maxHeartbeats 1600000 in
theorem specCertain_any (f0 p q p2 q2 : Int) (w : World) : Calls Try.prog 21 #[.int .i64 f0, .int .i64 p, .int .i64 q, .int .i64 p2, .int .i64 q2] w fun e w' => e = .returned (.bool (cert f0 p q p2 q2)) ∧ Below w.heap.size w w' := by
  have I := fun w => in_any f0 0 10000 w
  have P1 := fun w => real_any p w
  have P2 := fun w => real_any q w
  have P3 := fun w => real_any p2 w
  have P4 := fun w => real_any q2 w
  have S := fun w => specSign_any p2 q2 w
  by_cases h0 : 0 ≤ f0 ∧ f0 ≤ 10000
  case neg =>
    rw [show cert f0 p q p2 q2 = false from decide_eq_false (fun h => h0 ⟨h.1.1, h.1.2.1.2⟩)]
    rw [decide_eq_false h0] at I
    clear h0
    go_enter Try.func21, Try.ntmps21
    go_wp2_with (go_at_call 34; refine (I _).mono ?_; rintro e w2 ⟨rfl, rfl⟩)
    go_ret
    exact ⟨rfl, Below.refl _ _⟩
  rw [decide_eq_true h0] at I
  by_cases h1 : r10 p
  case neg =>
    rw [show cert f0 p q p2 q2 = false from decide_eq_false (fun h => h1 h.1.2.2.1)]
    rw [decide_eq_false h1] at P1
    clear h0 h1
    go_enter Try.func21, Try.ntmps21
    go_wp2_with (first
      | (go_at_call 34; refine (I _).mono ?_; rintro e w2 ⟨rfl, rfl⟩)
      | (go_at_call 39; refine (P1 _).mono ?_; rintro e w2 ⟨rfl, rfl⟩))
    go_ret
    exact ⟨rfl, Below.refl _ _⟩
  rw [decide_eq_true h1] at P1
  by_cases h2 : r10 q
  case neg =>
    rw [show cert f0 p q p2 q2 = false from decide_eq_false (fun h => h2 h.1.2.2.2.1)]
    rw [decide_eq_false h2] at P2
    clear h0 h1 h2
    go_enter Try.func21, Try.ntmps21
    go_wp2_with (first
      | (go_at_call 34; refine (I _).mono ?_; rintro e w2 ⟨rfl, rfl⟩)
      | (go_at_call_of 39 (Value.int IntKind.i64 q); refine (P2 _).mono ?_; rintro e w2 ⟨rfl, rfl⟩)
      | (go_at_call_of 39 (Value.int IntKind.i64 p); refine (P1 _).mono ?_; rintro e w2 ⟨rfl, rfl⟩))
    go_ret
    exact ⟨rfl, Below.refl _ _⟩
  rw [decide_eq_true h2] at P2
  by_cases h3 : r10 p2
  case neg =>
    rw [show cert f0 p q p2 q2 = false from decide_eq_false (fun h => h3 h.1.2.2.2.2.1)]
    rw [decide_eq_false h3] at P3
    clear h0 h1 h2 h3
    go_enter Try.func21, Try.ntmps21
    go_wp2_with (first
      | (go_at_call 34; refine (I _).mono ?_; rintro e w2 ⟨rfl, rfl⟩)
      | (go_at_call_of 39 (Value.int IntKind.i64 p2); refine (P3 _).mono ?_; rintro e w2 ⟨rfl, rfl⟩)
      | (go_at_call_of 39 (Value.int IntKind.i64 q); refine (P2 _).mono ?_; rintro e w2 ⟨rfl, rfl⟩)
      | (go_at_call_of 39 (Value.int IntKind.i64 p); refine (P1 _).mono ?_; rintro e w2 ⟨rfl, rfl⟩))
    go_ret
    exact ⟨rfl, Below.refl _ _⟩
  rw [decide_eq_true h3] at P3
  by_cases h4 : r10 q2
  case neg =>
    rw [show cert f0 p q p2 q2 = false from decide_eq_false (fun h => h4 h.1.2.2.2.2.2)]
    rw [decide_eq_false h4] at P4
    clear h0 h1 h2 h3 h4
    go_enter Try.func21, Try.ntmps21
    go_wp2_with (first
      | (go_at_call 34; refine (I _).mono ?_; rintro e w2 ⟨rfl, rfl⟩)
      | (go_at_call_of 39 (Value.int IntKind.i64 q2); refine (P4 _).mono ?_; rintro e w2 ⟨rfl, rfl⟩)
      | (go_at_call_of 39 (Value.int IntKind.i64 p2); refine (P3 _).mono ?_; rintro e w2 ⟨rfl, rfl⟩)
      | (go_at_call_of 39 (Value.int IntKind.i64 q); refine (P2 _).mono ?_; rintro e w2 ⟨rfl, rfl⟩)
      | (go_at_call_of 39 (Value.int IntKind.i64 p); refine (P1 _).mono ?_; rintro e w2 ⟨rfl, rfl⟩))
    go_ret
    exact ⟨rfl, Below.refl _ _⟩
  rw [decide_eq_true h4] at P4
  by_cases h5 : sg p2 q2 < 0
  · rw [show cert f0 p q p2 q2 = false from decide_eq_false (fun h => h.2.1 h5)]
    obtain ⟨z, hz⟩ : ∃ z, sg p2 q2 = z := ⟨_, rfl⟩
    rw [hz] at S h5
    clear h0 h1 h2 h3 h4 hz
    go_enter Try.func21, Try.ntmps21
    go_wp2_with (first
      | (go_at_call 34; refine (I _).mono ?_; rintro e w2 ⟨rfl, rfl⟩)
      | (go_at_call_of 39 (Value.int IntKind.i64 q2); refine (P4 _).mono ?_; rintro e w2 ⟨rfl, rfl⟩)
      | (go_at_call_of 39 (Value.int IntKind.i64 p2); refine (P3 _).mono ?_; rintro e w2 ⟨rfl, rfl⟩)
      | (go_at_call_of 39 (Value.int IntKind.i64 q); refine (P2 _).mono ?_; rintro e w2 ⟨rfl, rfl⟩)
      | (go_at_call_of 39 (Value.int IntKind.i64 p); refine (P1 _).mono ?_; rintro e w2 ⟨rfl, rfl⟩)
      | (go_at_call 40; refine (S _).mono ?_; rintro e w3 ⟨rfl, hb3⟩))
    go_ret
    exact ⟨rfl, hb3⟩
  have T := fun w => specSign_any (2 * (p * p + 3 * q * q) - f0 * f0 + f0 * p2) (cG f0 p q q2) w
  rw [show cert f0 p q p2 q2 = decide (0 < sg (cF f0 p q p2) (cG f0 p q q2)) from decide_eq_decide.2 ⟨fun h => h.2.2, fun h => ⟨⟨h0.1, ⟨by omega, h0.2⟩, h1, h2, h3, h4⟩, h5, h⟩⟩]
  rw [show cF f0 p q p2 = 2 * (p * p + 3 * q * q) - f0 * f0 + f0 * p2 by unfold cF; rw [Int.mul_sub]; omega]
  obtain ⟨k0, k1, k2, k3, k4, k5, k6⟩ := cert_bounds h0.1 ⟨by omega, h0.2⟩ h1 h2 h3 h4
  have b1 : -10000 ≤ p ∧ p ≤ 10000 := h1
  have b2 : -10000 ≤ q ∧ q ≤ 10000 := h2
  obtain ⟨z, hz⟩ : ∃ z, sg p2 q2 = z := ⟨_, rfl⟩
  obtain ⟨y, hy⟩ : ∃ y, sg (2 * (p * p + 3 * q * q) - f0 * f0 + f0 * p2) (cG f0 p q q2) = y := ⟨_, rfl⟩
  rw [hz] at S h5
  rw [hy] at T ⊢
  unfold cG at T
  clear h1 h2 h3 h4 hz hy
  go_enter Try.func21, Try.ntmps21
  go_wp2_with (first
    | (go_at_call 34; refine (I _).mono ?_; rintro e w2 ⟨rfl, rfl⟩)
    | (go_at_call_of 39 (Value.int IntKind.i64 q2); refine (P4 _).mono ?_; rintro e w2 ⟨rfl, rfl⟩)
    | (go_at_call_of 39 (Value.int IntKind.i64 p2); refine (P3 _).mono ?_; rintro e w2 ⟨rfl, rfl⟩)
    | (go_at_call_of 39 (Value.int IntKind.i64 q); refine (P2 _).mono ?_; rintro e w2 ⟨rfl, rfl⟩)
    | (go_at_call_of 39 (Value.int IntKind.i64 p); refine (P1 _).mono ?_; rintro e w2 ⟨rfl, rfl⟩)
    | (go_at_call_of 40 (Value.int IntKind.i64 p2); refine (S _).mono ?_; rintro e w3 ⟨rfl, hb3⟩)
    | (go_at_call 40; refine (T _).mono ?_; rintro e w4 ⟨rfl, hb4⟩))
  go_ret
  exact ⟨rfl, hb3.trans (hb4.mono hb3.size)⟩
theorem exactCertain_walk (f0 p q p2 q2 : Int) (w : World) : Calls Try.prog 6 #[.int .i64 f0, .int .i64 p, .int .i64 q, .int .i64 p2, .int .i64 q2] w fun e w' => e = .returned (.bool true) ∧ Below w.heap.size w w' := by
  have S := fun w => specCertain_any f0 p q p2 q2 w
  have I := fun w => implCertain_any f0 p q p2 q2 w
  obtain ⟨z, hz⟩ : ∃ z, cert f0 p q p2 q2 = z := ⟨_, rfl⟩
  rw [hz] at S I
  clear hz
  go_enter Try.func6, Try.ntmps6
  go_wp2_with (first
    | (go_at_call 21; refine (S _).mono ?_; rintro e w2 ⟨rfl, hb2⟩)
    | (go_at_call 22; refine (I _).mono ?_; rintro e w3 ⟨rfl, hb3⟩))
  go_ret
  exact ⟨rfl, hb2.trans (hb3.mono hb2.size)⟩
end Go.Proofs.Ytpelbbkkdmlmiaa
