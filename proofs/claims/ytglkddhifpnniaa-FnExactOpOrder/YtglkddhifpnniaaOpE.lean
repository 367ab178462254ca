/-
  Which operators are right, by the specification, walked.
-/
import Derived.Test.YtglkddhifpnniaaOpB
namespace Go.Proofs.Ytglkddhifpnniaa
open Go.RowKit

def isOp (n : Nat) (f : Nat → Int) (k : Nat) (h : Nat → Int) : Prop := n = 9 ∧ k = 3 ∧ isR f h
instance (n : Nat) (f : Nat → Int) (k : Nat) (h : Nat → Int) : Decidable (isOp n f k h) := by unfold isOp; infer_instance
theorem specRight_any {w : World} {a b : Option Addr} {n k : Nat} {f h : Nat → Int} (cap cap' : Nat) (hs : Src w a n f) (ht : Src w b k h) :
    Calls Try.prog 35 #[.slice a n cap, .slice b k cap'] w fun e w' => e = .returned (.bool (decide (isOp n f k h))) ∧ Below w.heap.size w w' := by
  by_cases h9 : n = 9
  rotate_left
  · have h9' : ¬ (n : Int) = 9 := by omega
    go_enter Try.func35, Try.ntmps35
    go_wp2
    go_ret
    exact ⟨by rw [decide_eq_false (show ¬ isOp n f k h from fun h => h9 h.1)]; rfl, Below.refl _ _⟩
  by_cases h3 : k = 3
  rotate_left
  · have h9' : (n : Int) = 9 := by omega
    have h3' : ¬ (k : Int) = 3 := by omega
    go_enter Try.func35, Try.ntmps35
    go_wp2
    go_ret
    exact ⟨by rw [decide_eq_false (show ¬ isOp n f k h from fun h => h3 h.2.1)]; rfl, Below.refl _ _⟩
  subst h9 h3
  rcases hs with h0 | ⟨b1, o1, rfl, l1, r1⟩
  · omega
  rcases ht with h0 | ⟨b2, o2, rfl, l2, r2⟩
  · omega
  go_enter Try.func35, Try.ntmps35
  go_wp2
  go_loopw [5] (fun s wr => ∃ k : Nat, k ≤ 9 ∧ s = .int .i64 k ∧ w = wr ∧ ∀ i, i < k → -1 ≤ f i ∧ f i ≤ 1) (fun s _ => 9 - (intOf s).toNat)
  case atStart => exact ⟨0, Nat.zero_le _, rfl, rfl, fun i hi => by omega⟩
  case round =>
    obtain ⟨k, hk, rfl, rfl, hall⟩ := hrel
    by_cases hlt : k < 9
    · have hlt' : (k : Int) < 9 := by omega
      have g0 := r1 k hlt
      have HA : Hid (∀ i, i < k → -1 ≤ f i ∧ f i ≤ 1) := hall
      clear hall
      by_cases hin : -1 ≤ f k ∧ f k ≤ 1
      · go_wp2_with (go_at_call 45; refine (in_any _ _ _ _).mono ?_; rintro e w2 ⟨rfl, rfl⟩)
        refine ⟨⟨k + 1, by omega, by go_num, by trivial, fun i hi => ?_⟩, by simp [intOf]; omega⟩
        by_cases e : i = k
        · rw [e]; exact hin
        · exact HA.out i (by omega)
      · go_wp2_with (go_at_call 45; refine (in_any _ _ _ _).mono ?_; rintro e w2 ⟨rfl, rfl⟩)
        go_ret
        refine ⟨?_, Below.refl _ _⟩
        rw [decide_eq_false (show ¬ isOp 9 f 3 h from fun h => hin (h.2.2.1 k hlt))]
        rfl
    · have hlt' : ¬ (k : Int) < 9 := by omega
      obtain rfl : k = 9 := by omega
      have HA : Hid (∀ i, i < 9 → -1 ≤ f i ∧ f i ≤ 1) := hall
      clear hall hk
      go_wp2
      go_loopw [6] (fun s wr => ∃ k : Nat, k ≤ 3 ∧ s = .int .i64 k ∧ w = wr ∧ ∀ i, i < k → 0 ≤ h i ∧ h i ≤ 23) (fun s _ => 3 - (intOf s).toNat)
      case atStart => exact ⟨0, Nat.zero_le _, rfl, rfl, fun i hi => by omega⟩
      case round =>
        obtain ⟨k, hk, rfl, rfl, hall⟩ := hrel
        by_cases hlt : k < 3
        · have hlt' : (k : Int) < 3 := by omega
          have g0 := r2 k hlt
          have HB : Hid (∀ i, i < k → 0 ≤ h i ∧ h i ≤ 23) := hall
          clear hall
          by_cases hin : 0 ≤ h k ∧ h k ≤ 23
          · go_wp2_with (go_at_call 45; refine (in_any _ _ _ _).mono ?_; rintro e w2 ⟨rfl, rfl⟩)
            refine ⟨⟨k + 1, by omega, by go_num, by trivial, fun i hi => ?_⟩, by simp [intOf]; omega⟩
            by_cases e : i = k
            · rw [e]; omega
            · exact HB.out i (by omega)
          · go_wp2_with (go_at_call 45; refine (in_any _ _ _ _).mono ?_; rintro e w2 ⟨rfl, rfl⟩)
            go_ret
            refine ⟨?_, Below.refl _ _⟩
            rw [decide_eq_false (show ¬ isOp 9 f 3 h from fun x => by have := x.2.2.2.1 k hlt; omega)]
            rfl
        · have hlt' : ¬ (k : Int) < 3 := by omega
          obtain rfl : k = 3 := by omega
          have hf : ∀ i, i < 9 → -1000 ≤ f i ∧ f i ≤ 1000 := fun i hi => by have := HA.out i hi; omega
          have hdet := specDet0_any (cap := cap) r1 hf
          have hR : ∀ D, det3 f = D → decide (isOp 9 f 3 h) = decide (D = 1 ∨ D = -1) := by
            intro D hD
            rw [Bool.eq_iff_iff]
            simp only [decide_eq_true_eq]
            exact ⟨fun x => hD ▸ x.2.2.2.2, fun x => ⟨rfl, rfl, HA.out, fun i hi => by have := hall i hi; omega, hD ▸ x⟩⟩
          obtain ⟨D, hD⟩ : ∃ D, det3 f = D := ⟨_, rfl⟩
          have HR : Hid (decide (isOp 9 f 3 h) = decide (D = 1 ∨ D = -1)) := hR D hD
          rw [hD] at hdet
          clear hall hR hf hD
          by_cases d1 : D = 1
          · go_wp2_with (go_at_call 27; refine hdet.mono ?_; rintro e w2 ⟨rfl, b2⟩)
            go_ret
            exact ⟨by rw [HR.out, d1]; rfl, b2⟩
          by_cases d2 : D = -1
          · go_wp2_with (go_at_call 27; refine hdet.mono ?_; rintro e w2 ⟨rfl, b2⟩)
            go_ret
            exact ⟨by rw [HR.out, d2]; rfl, b2⟩
          · go_wp2_with (go_at_call 27; refine hdet.mono ?_; rintro e w2 ⟨rfl, b2⟩)
            go_ret
            exact ⟨by rw [HR.out, decide_eq_false (by omega)]; simp [d1, d2], b2⟩
theorem specOk_any {w : World} {a b : Option Addr} {n k : Nat} {f h : Nat → Int} (cap cap' : Nat) (hs : Src w a n f) (ht : Src w b k h) :
    Calls Try.prog 18 #[.agg #[.slice a n cap, .slice b k cap']] w fun e w' => e = .returned (.bool (decide (isOp n f k h))) ∧ Below w.heap.size w w' := by
  obtain ⟨W1, hW1, a1, bW1, -⟩ := boxed w 26 #[.slice a n cap, .slice b k cap']
  obtain ⟨c0, c1, -⟩ := a1.open2
  go_enter Try.func18, Try.ntmps18
  go_wp2_with fail
  refine (specRight_any cap cap' (hs.below bW1) (ht.below bW1)).mono ?_
  rintro e w2 ⟨rfl, b2⟩
  go_wp2
  go_ret
  exact ⟨rfl, bW1.trans (b2.mono bW1.size)⟩
end Go.Proofs.Ytglkddhifpnniaa
