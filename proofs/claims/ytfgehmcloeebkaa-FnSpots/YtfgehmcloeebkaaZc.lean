/-
  A step ahead, by the program, walked.
-/
import Derived.Test.YtfgehmcloeebkaaZb
import Derived.Deep.CutRange
namespace Go.Proofs.Ytfgehmcloeebkaa
open Go.RowKit

def acc (G : Nat → Int) : Nat → Int
  | 0 => 0
  | 1 => G 0 - 128
  | 2 => G 0 - 128 + 128 * (G 1 - 128)
  | _ => G 0 - 128 + 128 * (G 1 - 128) + 16384 * (G 2 - 128)
def sV (o : Option (Int × Nat)) : Int := match o with | none => 0 | some (s, _) => s
def sC (o : Option (Int × Nat)) : Nat := match o with | none => 0 | some (_, c) => c
theorem st_shift (F : Nat → Int) (n p : Nat) : st (fun i => F (p + i)) (n - p) 0 = st F n p := by
  unfold st
  simp only [Nat.add_zero, Nat.zero_add]
  by_cases h0 : p < n
  · have a0 : 0 < n - p := by omega
    have a1 : (1 < n - p) = (p + 1 < n) := by rw [eq_iff_iff]; omega
    have a2 : (2 < n - p) = (p + 2 < n) := by rw [eq_iff_iff]; omega
    simp only [h0, a0, a1, a2, if_true]
  · have a0 : ¬ 0 < n - p := by omega
    simp only [h0, a0, if_false]
theorem and127 (x : Int) (h : 0 ≤ x ∧ x ≤ 255) : bits .and .u8 x 127 = x % 128 := by
  obtain ⟨X, rfl⟩ := Int.eq_ofNat_of_zero_le h.1
  have := u8_and_nat X 127 (by omega) (by omega)
  rw [show ((127 : Nat) : Int) = 127 from rfl] at this
  rw [this, show (127 : Nat) = 2 ^ 7 - 1 from rfl, Nat.and_two_pow_sub_one_eq_mod]
  omega
theorem orJ (i : Nat) (A B : Int) (hA : 0 ≤ A) (hA2 : A < (2 ^ i : Nat)) (hB : 0 ≤ B) (hBm : B % (2 ^ i : Nat) = 0) (h1 : A ≤ 3000000) (h2 : B ≤ 3000000) : bits .or .i64 A B = A + B := by
  obtain ⟨a, rfl⟩ := Int.eq_ofNat_of_zero_le hA
  obtain ⟨b, rfl⟩ := Int.eq_ofNat_of_zero_le hB
  have := i64_or_nat a b (by omega) (by omega)
  rw [this, Nat.or_comm, nat_join i b a (by exact_mod_cast hBm) (by exact_mod_cast hA2)]
  omega
theorem st1 {G : Nat → Int} {m : Nat} (h : 0 < m) (h0 : G 0 < 128) : st G m 0 = some (unf (G 0), 1) := by simp [st, h, h0]
theorem st2 {G : Nat → Int} {m : Nat} (h : 1 < m) (h0 : 128 ≤ G 0) (h1 : G 1 < 128) (hz : G 1 ≠ 0) : st G m 0 = some (unf (G 0 - 128 + 128 * G 1), 2) := by
  have a0 : ¬ G 0 < 128 := by omega
  have a1 : 0 < m := by omega
  simp [st, h, a0, a1, h1, hz]
theorem st2z {G : Nat → Int} {m : Nat} (h0 : 128 ≤ G 0) (hz : G 1 = 0) : st G m 0 = none := by
  have a0 : ¬ G 0 < 128 := by omega
  simp [st, a0, hz]
theorem st3 {G : Nat → Int} {m : Nat} (h : 2 < m) (h0 : 128 ≤ G 0) (h1 : 128 ≤ G 1) (h2 : G 2 < 128) (hz : G 2 ≠ 0) : st G m 0 = some (unf (G 0 - 128 + 128 * (G 1 - 128) + 16384 * G 2), 3) := by
  have a0 : ¬ G 0 < 128 := by omega
  have a1 : ¬ G 1 < 128 := by omega
  have b0 : 0 < m := by omega
  have b1 : 1 < m := by omega
  simp [st, h, a0, a1, b0, b1, h2, hz]
theorem st3z {G : Nat → Int} {m : Nat} (h0 : 128 ≤ G 0) (h1 : 128 ≤ G 1) (hz : G 2 = 0) : st G m 0 = none := by
  have a0 : ¬ G 0 < 128 := by omega
  have a1 : ¬ G 1 < 128 := by omega
  simp [st, a0, a1, hz]
theorem st_end {G : Nat → Int} {m q : Nat} (hq : q = if 3 < m then 3 else m) (hall : ∀ j, j < q → 128 ≤ G j) : st G m 0 = none := by
  unfold st
  by_cases b0 : 0 < m
  · have a0 : ¬ G 0 < 128 := by have := hall 0 (by rw [hq]; split <;> omega); omega
    rw [if_pos b0, if_neg a0]
    by_cases b1 : 0 + 1 < m
    · have a1 : ¬ G (0 + 1) < 128 := by have := hall 1 (by rw [hq]; split <;> omega); simpa using this
      rw [if_pos b1, if_neg a1]
      by_cases b2 : 0 + 2 < m
      · have a2 : ¬ G (0 + 2) < 128 := by have := hall 2 (by rw [hq]; split <;> omega); simpa using this
        rw [if_pos b2, if_neg a2]
      · rw [if_neg b2]
    · rw [if_neg b1]
  · rw [if_neg b0]
set_option maxRecDepth 100000 in
set_option maxHeartbeats 8000000 in
theorem stepAhead_any {w : World} {a : Option Addr} {m c : Nat} {G : Nat → Int} (hs : SrcB w a m G) (hm : m ≤ 1048576) (hc : m ≤ c) (hG : ∀ i, i < m → 0 ≤ G i ∧ G i ≤ 255) :
    Calls Try.prog 45 #[.slice a m c] w fun e w' => e = .returned (.tuple #[.int .i64 (sV (st G m 0)), .int .i64 (sC (st G m 0) : Int)]) ∧ w = w' := by
  have hm' : (m : Int) ≤ 1048576 := by omega
  obtain ⟨q, hq, hqm⟩ : ∃ q : Nat, q = (if 3 < m then 3 else m) ∧ q ≤ m := ⟨_, rfl, by split <;> omega⟩
  have hq3 : q ≤ 3 := by rw [hq]; split <;> omega
  have HQ : Hid (q = (if 3 < m then 3 else m)) := hq
  go_enter Try.func45, Try.ntmps45
  go_upto_region 2 with (fail)
  clear hq
  go_cut [11, 12, 13] from 7 to 10 (fun s11 s12 s13 wc => s11 = .slice a q c ∧ s12 = .int .i64 (q : Int) ∧ s13 = .int .i64 0 ∧ w = wc)
  case first =>
    have hq := HQ.out
    by_cases h3 : 3 < m
    · rw [if_pos h3] at hq
      subst hq
      have h3' : (3 : Int) < (m : Int) := by omega
      have hc' : (3 : Int) ≤ (c : Int) := by omega
      go_wp2
      all_goals
        go_meet
        case rel => exact ⟨rfl, rfl, rfl, rfl⟩
    · rw [if_neg h3] at hq
      subst hq
      have h3' : (q : Int) ≤ 3 := by omega
      have hc' : (q : Int) ≤ (c : Int) := by omega
      go_wp2
      all_goals
        go_meet
        case rel => exact ⟨rfl, rfl, rfl, rfl⟩
  case rest =>
    obtain ⟨rfl, rfl, rfl, rfl⟩ := hcut
    go_wp2_with fail
    go_loopw [4, 13] (fun s4 s13 wr => ∃ i : Nat, s13 = .int .i64 (i : Int) ∧ i ≤ q ∧ s4 = .int .i64 (acc G i) ∧ (∀ j, j < i → 128 ≤ G j) ∧ w = wr) (fun _ s13 _ => q - (intOf s13).toNat)
    case atStart => exact ⟨0, rfl, Nat.zero_le _, rfl, fun j hj => absurd hj (Nat.not_lt_zero _), rfl⟩
    case round =>
      obtain ⟨i, rfl, hi, rfl, hall, rfl⟩ := hrel
      by_cases hlt : i < q
      · have hlt' : (i : Int) < (q : Int) := by omega
        rcases hs with h0 | ⟨b, off, rfl, hb, hr⟩
        · omega
        have g0 := hr i (by omega)
        have hGi := hG i (by omega)
        have a7 := and127 (G i) hGi
        obtain ⟨X, hX⟩ : ∃ X, G i = X := ⟨_, rfl⟩
        rw [hX] at g0 hGi a7
        rcases (by omega : i = 0 ∨ i = 1 ∨ i = 2) with rfl | rfl | rfl
        · rw [Nat.add_zero] at g0
          have hacc : acc G 0 = 0 := rfl
          rw [hacc]
          clear hacc
          obtain ⟨V9, hV9⟩ : ∃ V9, 0 + X % 128 = V9 := ⟨_, rfl⟩
          have o1 : bits .or .i64 0 (X % 128) = V9 := (orJ 0 0 (X % 128) (by omega) (by decide) (by omega) (by simp) (by omega) (by omega)).trans hV9
          by_cases q1 : 128 ≤ X
          · have q1' : ¬ X < 128 := by omega
            go_wp2
            refine ⟨⟨1, by go_num, by omega, ?_, fun j hj => ?_, trivial⟩, by simp [intOf]; omega⟩
            · show Value.int .i64 V9 = Value.int .i64 (G 0 - 128)
              congr 1; omega
            · rcases (by omega : j = 0 ∨ j < 0) with rfl | h9
              · omega
              · exact hall j h9
          · have hst : st G m 0 = some (unf X, 1) := by rw [← hX]; exact st1 (by omega) (by omega)
            have hve : V9 = X := by omega
            rw [← hve] at hst
            have HST : Hid (st G m 0 = some (unf V9, 1)) := hst
            clear hst hve
            have hV1 : 0 ≤ V9 ∧ V9 ≤ 3000000 := by omega
            go_wp2_with (go_at_call 67; refine (unfolded_any _ _ hV1).mono ?_; rintro e w2 ⟨rfl, rfl⟩)
            all_goals
              go_ret2
              exact ⟨by rw [HST.out]; rfl, rfl⟩
        · have k0 := hall 0 (by omega)
          have r0 := hG 0 (by omega)
          have hacc : acc G 1 = G 0 - 128 := rfl
          rw [hacc]
          clear hacc
          obtain ⟨AA, hAA⟩ : ∃ AA, G 0 - 128 = AA := ⟨_, rfl⟩
          rw [hAA]
          obtain ⟨V9, hV9⟩ : ∃ V9, AA + X % 128 * 128 = V9 := ⟨_, rfl⟩
          have o1 : bits .or .i64 AA (X % 128 * 128) = V9 := (orJ 7 AA (X % 128 * 128) (by omega) (by omega) (by omega) (by omega) (by omega) (by omega)).trans hV9
          by_cases q1 : 128 ≤ X
          · have q1' : ¬ X < 128 := by omega
            go_wp2
            refine ⟨⟨2, by go_num, by omega, ?_, fun j hj => ?_, trivial⟩, by simp [intOf]; omega⟩
            · show Value.int .i64 V9 = Value.int .i64 (G 0 - 128 + 128 * (G 1 - 128))
              congr 1; omega
            · rcases (by omega : j = 1 ∨ j < 1) with rfl | h9
              · omega
              · exact hall j h9
          · by_cases q2 : X = 0
            · have hst : st G m 0 = none := st2z k0 (by omega)
              have HST : Hid (st G m 0 = none) := hst
              clear hst
              subst q2
              go_wp2
              go_ret2
              exact ⟨by rw [HST.out]; rfl, rfl⟩
            · have hst : st G m 0 = some (unf (G 0 - 128 + 128 * X), 2) := by rw [← hX]; exact st2 (by omega) k0 (by omega) (by omega)
              have hve : V9 = (G 0 - 128 + 128 * X) := by omega
              rw [← hve] at hst
              have HST : Hid (st G m 0 = some (unf V9, 2)) := hst
              clear hst hve
              have hV1 : 0 ≤ V9 ∧ V9 ≤ 3000000 := by omega
              have q2' : (X == 0) = false := by simpa using q2
              go_wp2_with (go_at_call 67; refine (unfolded_any _ _ hV1).mono ?_; rintro e w2 ⟨rfl, rfl⟩)
              all_goals
                go_ret2
                exact ⟨by rw [HST.out]; rfl, rfl⟩
        · have k0 := hall 0 (by omega)
          have r0 := hG 0 (by omega)
          have k1 := hall 1 (by omega)
          have r1 := hG 1 (by omega)
          have hacc : acc G 2 = G 0 - 128 + 128 * (G 1 - 128) := rfl
          rw [hacc]
          clear hacc
          obtain ⟨AA, hAA⟩ : ∃ AA, G 0 - 128 + 128 * (G 1 - 128) = AA := ⟨_, rfl⟩
          rw [hAA]
          obtain ⟨V9, hV9⟩ : ∃ V9, AA + X % 128 * 16384 = V9 := ⟨_, rfl⟩
          have o1 : bits .or .i64 AA (X % 128 * 16384) = V9 := (orJ 14 AA (X % 128 * 16384) (by omega) (by omega) (by omega) (by omega) (by omega) (by omega)).trans hV9
          by_cases q1 : 128 ≤ X
          · have q1' : ¬ X < 128 := by omega
            go_wp2
            refine ⟨⟨3, by go_num, by omega, ?_, fun j hj => ?_, trivial⟩, by simp [intOf]; omega⟩
            · show Value.int .i64 V9 = Value.int .i64 (G 0 - 128 + 128 * (G 1 - 128) + 16384 * (G 2 - 128))
              congr 1; omega
            · rcases (by omega : j = 2 ∨ j < 2) with rfl | h9
              · omega
              · exact hall j h9
          · by_cases q2 : X = 0
            · have hst : st G m 0 = none := st3z k0 k1 (by omega)
              have HST : Hid (st G m 0 = none) := hst
              clear hst
              subst q2
              go_wp2
              go_ret2
              exact ⟨by rw [HST.out]; rfl, rfl⟩
            · have hst : st G m 0 = some (unf (G 0 - 128 + 128 * (G 1 - 128) + 16384 * X), 3) := by rw [← hX]; exact st3 (by omega) k0 k1 (by omega) (by omega)
              have hve : V9 = (G 0 - 128 + 128 * (G 1 - 128) + 16384 * X) := by omega
              rw [← hve] at hst
              have HST : Hid (st G m 0 = some (unf V9, 3)) := hst
              clear hst hve
              have hV1 : 0 ≤ V9 ∧ V9 ≤ 3000000 := by omega
              have q2' : (X == 0) = false := by simpa using q2
              go_wp2_with (go_at_call 67; refine (unfolded_any _ _ hV1).mono ?_; rintro e w2 ⟨rfl, rfl⟩)
              all_goals
                go_ret2
                exact ⟨by rw [HST.out]; rfl, rfl⟩
      · have hlt' : ¬ (i : Int) < (q : Int) := by omega
        obtain rfl : i = q := by omega
        have HST : Hid (st G m 0 = none) := st_end HQ.out hall
        go_wp2
        go_ret2
        exact ⟨by rw [HST.out]; rfl, rfl⟩
end Go.Proofs.Ytfgehmcloeebkaa
