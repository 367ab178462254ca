/-
  Traces: which are right, walked; what they come to.
-/
import Derived.Test.YtbninbeccgdemaaDoorMm
import Derived.Test.YtbninbeccgdemaaDoorIa
namespace Go.Proofs.YtbninbeccgdemaaDoor
open Go.RowKit

/-- The orders of cyclic groups that are known. -/
def side (n : Int) : Prop := n = 1 ∨ n = 2 ∨ n = 3 ∨ n = 4 ∨ n = 6 ∨ n = 12
instance (n : Int) : Decidable (side n) := by unfold side; infer_instance
theorem cyclic_any (n : Int) (w : World) (hn : -9223372036854775808 ≤ n ∧ n ≤ 9223372036854775807) : Calls Tryd.prog 37 #[.int .i64 n] w fun e w' => e = .returned (.bool (decide (side n))) ∧ w = w' := by
  by_cases h0 : 0 < n
  · have h1 : ¬ n = 0 := by omega
    by_cases h12 : n ≤ 12
    · rcases (by omega : n = 1 ∨ n = 2 ∨ n = 3 ∨ n = 4 ∨ n = 5 ∨ n = 6 ∨ n = 7 ∨ n = 8 ∨ n = 9 ∨ n = 10 ∨ n = 11 ∨ n = 12) with rfl | rfl | rfl | rfl | rfl | rfl | rfl | rfl | rfl | rfl | rfl | rfl
      all_goals
        go_enter Tryd.func37, Tryd.ntmps37
        go_wp2
        go_ret
        exact ⟨by simp [side], rfl⟩
    · have ht : (12 : Int).tmod n = 12 := Int.tmod_eq_of_lt (by omega) (by omega)
      have hd : decide (side n) = false := decide_eq_false (by unfold side; omega)
      rw [hd]
      go_enter Tryd.func37, Tryd.ntmps37
      go_wp2
      go_ret
      exact ⟨rfl, rfl⟩
  · have hd : decide (side n) = false := decide_eq_false (by unfold side; omega)
    rw [hd]
    go_enter Tryd.func37, Tryd.ntmps37
    go_wp2
    go_ret
    exact ⟨rfl, rfl⟩
theorem order_any (n : Int) (w : World) : Calls Tryd.prog 31 #[.int .i64 n] w fun e w' => e = .returned (.bool (decide (side n))) ∧ w = w' := by
  by_cases h : side n
  · rcases h with rfl | rfl | rfl | rfl | rfl | rfl
    all_goals
      go_enter Tryd.func31, Tryd.ntmps31
      go_wp2
      go_ret
      exact ⟨by simp [side], rfl⟩
  · rw [decide_eq_false h]
    unfold side at h
    have h1 : (n == 1) = false := by simp; omega
    have h2 : (n == 2) = false := by simp; omega
    have h3 : (n == 3) = false := by simp; omega
    have h4 : (n == 4) = false := by simp; omega
    have h6 : (n == 6) = false := by simp; omega
    have h12 : (n == 12) = false := by simp; omega
    go_enter Tryd.func31, Tryd.ntmps31
    go_wp2
    go_ret
    exact ⟨by simp, rfl⟩
theorem side_by {n : Int} (h : side n) : (1 ≤ n ∧ n ≤ 12) ∧ (0 ≤ n * n ∧ n * n ≤ 144) ∧ (0 ≤ n * n * n ∧ n * n * n ≤ 1728) := by
  rcases h with rfl | rfl | rfl | rfl | rfl | rfl <;> decide
/-- Which traces are right. -/
def trOk (n : Int) (len : Nat) (f : Nat → Int) : Prop := side n ∧ (len : Int) = n ∧ ∀ i, i < len → -1000 ≤ f i ∧ f i ≤ 1000
instance (n : Int) (len : Nat) (f : Nat → Int) : Decidable (trOk n len f) := by unfold trOk; infer_instance
theorem traces_any {w : World} {a : Option Addr} {len cap : Nat} {f : Nat → Int} (n : Int) (hn : -9223372036854775808 ≤ n ∧ n ≤ 9223372036854775807) (hs : Src w a len f) (hlen : len ≤ 1048576) :
    Calls Tryd.prog 33 #[.int .i64 n, .slice a len cap] w fun e w' => e = .returned (.bool (decide (trOk n len f))) ∧ Below w.heap.size w w' := by
  by_cases hside : side n
  · have hd : decide (side n) = true := decide_eq_true hside
    by_cases hl : (len : Int) = n
    · have hl0 := hl
      have H : ∀ k, k < len → ¬ (-1000 ≤ f k ∧ f k ≤ 1000) → decide (trOk n len f) = false := fun k hk h => decide_eq_false fun h' => h (h'.2.2 k hk)
      have H1 : (∀ i, i < len → -1000 ≤ f i ∧ f i ≤ 1000) → decide (trOk n len f) = true := fun h => decide_eq_true ⟨hside, hl0, h⟩
      generalize decide (trOk n len f) = D at H H1 ⊢
      have hll : (len : Int) ≤ 1048576 := by omega
      have hne : ((len : Int) != n) = false := by simp [hl]
      clear hside hl hl0
      go_enter Tryd.func33, Tryd.ntmps33
      go_wp2_with (go_at_call 37; refine (cyclic_any _ _ (by omega)).mono ?_; rintro e w2 ⟨rfl, rfl⟩; try rw [hd])
      go_loopw [18] (fun s wr => ∃ k : Nat, k ≤ len ∧ s = .int .i64 k ∧ (∀ i, i < k → -1000 ≤ f i ∧ f i ≤ 1000) ∧ Below w.heap.size w wr) (fun s _ => len - (intOf s).toNat)
      case atStart => exact ⟨0, Nat.zero_le _, rfl, fun i hi => absurd hi (by omega), Below.refl _ _⟩
      case round =>
        obtain ⟨k, hk, rfl, hall, hbel⟩ := hrel
        by_cases hlt : k < len
        · have hlt' : (k : Int) < (len : Int) := by omega
          rcases hs with h0 | ⟨b, off, rfl, hb, hr⟩
          · omega
          have g0 := (hbel.cell (p := ⟨b, off + k, none⟩) hb).trans (hr k hlt)
          by_cases p1 : -1000 ≤ f k ∧ f k ≤ 1000
          · have hi : decide (-(1000 : Int) ≤ f k ∧ f k ≤ 1000) = true := decide_eq_true p1
            go_wp2_with (go_at_call 50; refine (within_any _ _ _ (by omega) (by omega)).mono ?_; rintro e w2 ⟨rfl, rfl⟩; rw [hi])
            refine ⟨⟨k + 1, by omega, by go_num, fun i hi => ?_, hbel⟩, by simp [intOf]; omega⟩
            by_cases e : i = k
            · subst e; exact p1
            · exact hall i (by omega)
          · have hi : decide (-(1000 : Int) ≤ f k ∧ f k ≤ 1000) = false := decide_eq_false p1
            go_wp2_with (go_at_call 50; refine (within_any _ _ _ (by omega) (by omega)).mono ?_; rintro e w2 ⟨rfl, rfl⟩; rw [hi])
            go_ret
            exact ⟨by rw [H k hlt p1]; rfl, hbel⟩
        · have hlt' : ¬ (k : Int) < (len : Int) := by omega
          obtain rfl : k = len := by omega
          go_wp2
          go_ret
          exact ⟨by rw [H1 hall]; rfl, hbel⟩
    · have hdd : decide (trOk n len f) = false := decide_eq_false fun h => hl h.2.1
      rw [hdd]
      have hll : (len : Int) ≤ 1048576 := by omega
      have hne : ((len : Int) != n) = true := by simp [hl]
      go_enter Tryd.func33, Tryd.ntmps33
      go_wp2_with (go_at_call 37; refine (cyclic_any _ _ (by omega)).mono ?_; rintro e w2 ⟨rfl, rfl⟩; try rw [hd])
      go_ret
      exact ⟨rfl, Below.refl _ _⟩
  · have hd : decide (side n) = false := decide_eq_false hside
    have hdd : decide (trOk n len f) = false := decide_eq_false fun h => hside h.1
    rw [hdd]
    go_enter Tryd.func33, Tryd.ntmps33
    go_wp2_with (go_at_call 37; refine (cyclic_any _ _ (by omega)).mono ?_; rintro e w2 ⟨rfl, rfl⟩; try rw [hd])
    go_ret
    exact ⟨rfl, Below.refl _ _⟩
theorem char_any (n k j : Int) (w : World) (hn : side n) (hk : 0 ≤ k ∧ k ≤ 11) (hj : 0 ≤ j ∧ j ≤ 11) : Calls Tryd.prog 35 #[.int .i64 n, .int .i64 k, .int .i64 j] w fun e w' => e = .returned (.int .i64 (Int.tdiv 12 n * j * k)) ∧ w = w' := by
  obtain ⟨q0, -⟩ := side_by hn
  have hs : 1 ≤ Int.tdiv 12 n ∧ Int.tdiv 12 n ≤ 12 := by rcases hn with rfl | rfl | rfl | rfl | rfl | rfl <;> decide
  have hn0 : ¬ n = 0 := by omega
  have e1 := prod_le (x := Int.tdiv 12 n) (y := j) (M := 12) (N := 11) (by omega) (by omega)
  have e2 := prod_le (x := Int.tdiv 12 n * j) (y := k) (M := 132) (N := 11) (by omega) (by omega)
  obtain ⟨s, es⟩ : ∃ s, Int.tdiv 12 n = s := ⟨_, rfl⟩
  rw [es] at hs e1 e2 ⊢
  go_enter Tryd.func35, Tryd.ntmps35
  go_wp2
  go_ret
  exact ⟨rfl, rfl⟩
end Go.Proofs.YtbninbeccgdemaaDoor
