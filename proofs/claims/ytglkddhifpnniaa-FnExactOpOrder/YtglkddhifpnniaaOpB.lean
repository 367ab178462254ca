/-
  Which operators are right, by the program, walked.
-/
import Derived.Test.YtglkddhifpnniaaOpA
import Derived.Test.YtglkddhifpnniaaWalkF
namespace Go.Proofs.Ytglkddhifpnniaa
open Go.RowKit

def opA (f h : Nat → Int) : Array Value := #[.int .i64 (f 0), .int .i64 (f 1), .int .i64 (f 2), .int .i64 (f 3), .int .i64 (f 4), .int .i64 (f 5), .int .i64 (f 6), .int .i64 (f 7), .int .i64 (f 8), .int .i64 (h 0), .int .i64 (h 1), .int .i64 (h 2)]
/-- Is it right? -/
def isR (f h : Nat → Int) : Prop := (∀ i, i < 9 → -1 ≤ f i ∧ f i ≤ 1) ∧ (∀ i, i < 3 → 0 ≤ h i ∧ h i < 24) ∧ (det3 f = 1 ∨ det3 f = -1)
instance (f h : Nat → Int) : Decidable (isR f h) := by unfold isR; infer_instance
theorem opA_get (f h : Nat → Int) (i : Nat) (hi : i < 12) : (opA f h)[i]? = some (.int .i64 (if i < 9 then f i else h (i - 9))) := by
  rcases (by omega : i = 0 ∨ i = 1 ∨ i = 2 ∨ i = 3 ∨ i = 4 ∨ i = 5 ∨ i = 6 ∨ i = 7 ∨ i = 8 ∨ i = 9 ∨ i = 10 ∨ i = 11) with rfl | rfl | rfl | rfl | rfl | rfl | rfl | rfl | rfl | rfl | rfl | rfl <;> rfl
theorem At.open12 {t : TypeId} {w : World} {q : Nat} {f h : Nat → Int} (x : At t w q (opA f h)) : (w.cell? ⟨q, 0, none⟩ = some (.int .i64 (f 0)) ∧ w.cell? ⟨q, 1, none⟩ = some (.int .i64 (f 1)) ∧ w.cell? ⟨q, 2, none⟩ = some (.int .i64 (f 2)) ∧ w.cell? ⟨q, 3, none⟩ = some (.int .i64 (f 3)) ∧ w.cell? ⟨q, 4, none⟩ = some (.int .i64 (f 4)) ∧ w.cell? ⟨q, 5, none⟩ = some (.int .i64 (f 5)) ∧ w.cell? ⟨q, 6, none⟩ = some (.int .i64 (f 6)) ∧ w.cell? ⟨q, 7, none⟩ = some (.int .i64 (f 7)) ∧ w.cell? ⟨q, 8, none⟩ = some (.int .i64 (f 8))) ∧ w.cell? ⟨q, 9, none⟩ = some (.int .i64 (h 0)) ∧ w.cell? ⟨q, 10, none⟩ = some (.int .i64 (h 1)) ∧ w.cell? ⟨q, 11, none⟩ = some (.int .i64 (h 2)) :=
  ⟨⟨x.cell 0 rfl, x.cell 1 rfl, x.cell 2 rfl, x.cell 3 rfl, x.cell 4 rfl, x.cell 5 rfl, x.cell 6 rfl, x.cell 7 rfl, x.cell 8 rfl⟩, x.cell 9 rfl, x.cell 10 rfl, x.cell 11 rfl⟩
theorem ix53 (f : Nat → Int) (k : Nat) (hk : k < 9) (w : World) : (Instr.index 41 (.agg #[.int .i64 (f 0), .int .i64 (f 1), .int .i64 (f 2), .int .i64 (f 3), .int .i64 (f 4), .int .i64 (f 5), .int .i64 (f 6), .int .i64 (f 7), .int .i64 (f 8)]) (.int .i64 k)).run Try.prog w = .ok (.int .i64 (f k)) w := by
  rcases (by omega : k = 0 ∨ k = 1 ∨ k = 2 ∨ k = 3 ∨ k = 4 ∨ k = 5 ∨ k = 6 ∨ k = 7 ∨ k = 8) with rfl | rfl | rfl | rfl | rfl | rfl | rfl | rfl | rfl <;> kernel_rfl
theorem ix55 (h : Nat → Int) (k : Nat) (hk : k < 3) (w : World) : (Instr.index 43 (.agg #[.int .i64 (h 0), .int .i64 (h 1), .int .i64 (h 2)]) (.int .i64 k)).run Try.prog w = .ok (.int .i64 (h k)) w := by
  rcases (by omega : k = 0 ∨ k = 1 ∨ k = 2) with rfl | rfl | rfl <;> kernel_rfl
/-- The size of a number. -/
def mag (x : Int) : Int := if x < 0 then -x else x
theorem mag_any (x : Int) (w : World) (hx : -1000000000000000 ≤ x ∧ x ≤ 1000000000000000) : Calls Try.prog 47 #[.int .i64 x] w fun e w' => e = .returned (.int .i64 (mag x)) ∧ w = w' := by
  unfold mag
  go_enter Try.func47, Try.ntmps47
  go_wp2
  all_goals
    go_ret
    exact ⟨rfl, rfl⟩
theorem mag_one (x : Int) : (mag x == 1) = decide (x = 1 ∨ x = -1) := by
  unfold mag
  by_cases h : x < 0
  · rw [if_pos h]
    rw [Bool.eq_iff_iff]
    simp
    omega
  · rw [if_neg h]
    rw [Bool.eq_iff_iff]
    simp
    omega
theorem right_any (f h : Nat → Int) (w : World) : Calls Try.prog 36 #[.agg (opA f h)] w fun e w' => e = .returned (.bool (decide (isR f h))) ∧ Below w.heap.size w w' := by
  obtain ⟨W1, hW1, a1, bW1, -⟩ := boxed w 45 (opA f h)
  unfold opA at hW1 ⊢
  obtain ⟨⟨c0, c1, c2, c3, c4, c5, c6, c7, c8⟩, c9, c10, c11⟩ := a1.open12
  go_enter Try.func36, Try.ntmps36
  go_wp2
  go_loopw [9] (fun s wr => ∃ k : Nat, k ≤ 9 ∧ s = .int .i64 k ∧ W1 = wr ∧ ∀ i, i < k → -1 ≤ f i ∧ f i ≤ 1) (fun s _ => 9 - (intOf s).toNat)
  case atStart => exact ⟨0, Nat.zero_le _, rfl, rfl, fun i hi => by omega⟩
  case round =>
    obtain ⟨k, hk, rfl, rfl, hall⟩ := hrel
    by_cases hlt : k < 9
    · have hlt' : (k : Int) < 9 := by omega
      have hix := ix53 f k hlt
      have HA : Hid (∀ i, i < k → -1 ≤ f i ∧ f i ≤ 1) := hall
      clear hall
      by_cases hin : -1 ≤ f k ∧ f k ≤ 1
      · go_wp2_with (go_at_call 46; refine (within_any _ _ _ (by decide) (by decide)).mono ?_; rintro e w2 ⟨rfl, rfl⟩)
        refine ⟨⟨k + 1, by omega, by go_num, by trivial, fun i hi => ?_⟩, by simp [intOf]; omega⟩
        by_cases e : i = k
        · rw [e]; exact hin
        · exact HA.out i (by omega)
      · go_wp2_with (go_at_call 46; refine (within_any _ _ _ (by decide) (by decide)).mono ?_; rintro e w2 ⟨rfl, rfl⟩)
        go_ret
        refine ⟨?_, bW1⟩
        rw [decide_eq_false (show ¬ isR f h from fun h => hin (h.1 k hlt))]
        rfl
    · have hlt' : ¬ (k : Int) < 9 := by omega
      obtain rfl : k = 9 := by omega
      have HA : Hid (∀ i, i < 9 → -1 ≤ f i ∧ f i ≤ 1) := hall
      clear hall hk
      go_wp2
      go_loopw [18] (fun s wr => ∃ k : Nat, k ≤ 3 ∧ s = .int .i64 k ∧ W1 = wr ∧ ∀ i, i < k → 0 ≤ h i ∧ h i < 24) (fun s _ => 3 - (intOf s).toNat)
      case atStart => exact ⟨0, Nat.zero_le _, rfl, rfl, fun i hi => by omega⟩
      case round =>
        obtain ⟨k, hk, rfl, rfl, hall⟩ := hrel
        by_cases hlt : k < 3
        · have hlt' : (k : Int) < 3 := by omega
          have hix := ix55 h k hlt
          have HB : Hid (∀ i, i < k → 0 ≤ h i ∧ h i < 24) := hall
          clear hall
          by_cases hin0 : h k < 0
          · go_wp2
            go_ret
            refine ⟨?_, bW1⟩
            rw [decide_eq_false (show ¬ isR f h from fun x => by have := x.2.1 k hlt; omega)]
            rfl
          by_cases hin1 : 24 ≤ h k
          · go_wp2
            go_ret
            refine ⟨?_, bW1⟩
            rw [decide_eq_false (show ¬ isR f h from fun x => by have := x.2.1 k hlt; omega)]
            rfl
          · go_wp2
            refine ⟨⟨k + 1, by omega, by go_num, by trivial, fun i hi => ?_⟩, by simp [intOf]; omega⟩
            by_cases e : i = k
            · rw [e]; omega
            · exact HB.out i (by omega)
        · have hlt' : ¬ (k : Int) < 3 := by omega
          obtain rfl : k = 3 := by omega
          have hf : ∀ i, i < 9 → -1000 ≤ f i ∧ f i ≤ 1000 := fun i hi => by have := HA.out i hi; omega
          have hdet : ∀ w, Calls Try.prog 41 #[.agg (matA f)] w fun e w' => e = .returned (.int .i64 (det3 f)) ∧ Below w.heap.size w w' := det_any hf
          have hd := det_bound hf
          have hR : decide (isR f h) = (mag (det3 f) == 1) := by
            rw [mag_one, Bool.eq_iff_iff]
            simp only [decide_eq_true_eq]
            exact ⟨fun x => x.2.2, fun x => ⟨HA.out, hall, x⟩⟩
          have HR : Hid (decide (isR f h) = (mag (det3 f) == 1)) := hR
          unfold matA at hdet
          clear hall hR hf
          generalize det3 f = D at *
          go_wp2_with (first
            | (go_at_call 41; refine (hdet _).mono ?_; rintro e w2 ⟨rfl, b2⟩)
            | (go_at_call 47; refine (mag_any _ _ (by omega)).mono ?_; rintro e w3 ⟨rfl, rfl⟩))
          go_ret
          refine ⟨?_, bW1.trans (b2.mono bW1.size)⟩
          rw [HR.out]
          try rfl
end Go.Proofs.Ytglkddhifpnniaa
