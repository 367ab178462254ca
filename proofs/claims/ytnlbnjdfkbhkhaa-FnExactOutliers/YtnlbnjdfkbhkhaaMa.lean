/-
  Figures: which entries are figured, and Figure by the program. Walked.
-/
import Derived.Test.YtnlbnjdfkbhkhaaFb0
import Derived.Test.YtnlbnjdfkbhkhaaRMerged
namespace Go.Proofs.Ytnlbnjdfkbhkhaa
open Go.RowKit

theorem within_b (x hi : Int) (D : Bool) (hD : decide (-hi ≤ x ∧ x ≤ hi) = D) (w : World) (h0 : 0 ≤ hi) (h : hi ≤ 1000000000000) : Calls Try.prog 35 #[.int .i64 x, .int .i64 hi] w fun e w' => e = .returned (.bool D) ∧ w = w' := by
  have := within_any x hi w h0 h
  rw [hD] at this
  exact this
theorem in_b (x lo hi : Int) (D : Bool) (hD : decide (lo ≤ x ∧ x ≤ hi) = D) (w : World) : Calls Try.prog 19 #[.int .i64 x, .int .i64 lo, .int .i64 hi] w fun e w' => e = .returned (.bool D) ∧ w = w' := by
  have := in_any x lo hi w
  rw [hD] at this
  exact this
/-- An entry is figured. -/
def mOk (c s d : Int) : Prop := (1 ≤ c ∧ c ≤ 12) ∧ (-60000000 ≤ s ∧ s ≤ 60000000) ∧ (0 ≤ d ∧ d ≤ 60000000)
set_option maxRecDepth 100000 in
set_option maxHeartbeats 800000 in
theorem figured_any (x0 x1 x2 c s d x6 x7 : Int) (b : Bool) (hb : b = true ↔ mOk c s d) (w : World) : Calls Try.prog 23 #[mergedV x0 x1 x2 c s d x6 x7] w fun e w' => e = .returned (.bool b) ∧ Below w.heap.size w w' := by
  unfold mOk at hb
  by_cases h1 : 1 ≤ c
  · by_cases h2 : c ≤ 12
    · by_cases h3 : -60000000 ≤ s ∧ s ≤ 60000000
      · by_cases h4 : 0 ≤ d
        · by_cases h5 : d ≤ 60000000
          · obtain rfl : b = true := hb.2 ⟨⟨h1, h2⟩, h3, h4, h5⟩
            clear hb
            go_enter Try.func23, Try.ntmps23
            go_wp2_with (go_at_call 35; refine (within_b _ _ true (by simpa using h3) _ (by decide) (by decide)).mono ?_; rintro e w2 ⟨rfl, rfl⟩)
            go_ret
            exact ⟨rfl, below_alloc _ _⟩
          · obtain rfl : b = false := by cases b; rfl; exact absurd (hb.1 rfl).2.2.2 h5
            clear hb
            go_enter Try.func23, Try.ntmps23
            go_wp2_with (go_at_call 35; refine (within_b _ _ true (by simpa using h3) _ (by decide) (by decide)).mono ?_; rintro e w2 ⟨rfl, rfl⟩)
            go_ret
            exact ⟨by simp [h5], below_alloc _ _⟩
        · obtain rfl : b = false := by cases b; rfl; exact absurd (hb.1 rfl).2.2.1 h4
          clear hb
          go_enter Try.func23, Try.ntmps23
          go_wp2_with (go_at_call 35; refine (within_b _ _ true (by simpa using h3) _ (by decide) (by decide)).mono ?_; rintro e w2 ⟨rfl, rfl⟩)
          go_ret
          exact ⟨rfl, below_alloc _ _⟩
      · obtain rfl : b = false := by cases b; rfl; exact absurd (hb.1 rfl).2.1 h3
        clear hb
        go_enter Try.func23, Try.ntmps23
        go_wp2_with (go_at_call 35; refine (within_b _ _ false (by simpa using h3) _ (by decide) (by decide)).mono ?_; rintro e w2 ⟨rfl, rfl⟩)
        go_ret
        exact ⟨rfl, below_alloc _ _⟩
    · obtain rfl : b = false := by cases b; rfl; exact absurd (hb.1 rfl).1.2 h2
      clear hb
      go_enter Try.func23, Try.ntmps23
      go_wp2
      go_ret
      exact ⟨rfl, below_alloc _ _⟩
  · obtain rfl : b = false := by cases b; rfl; exact absurd (hb.1 rfl).1.1 h1
    clear hb
    go_enter Try.func23, Try.ntmps23
    go_wp2
    go_ret
    exact ⟨rfl, below_alloc _ _⟩
/-- The sums of deviations (over their counts) and of sizes. -/
def tD (f : Nat → Int) : Nat → Int
  | 0 => 0
  | k + 1 => tD f k + f (k * 8 + 5) * Int.tdiv 27720 (f (k * 8 + 3))
def tS (f : Nat → Int) : Nat → Int
  | 0 => 0
  | k + 1 => tS f k + mag (f (k * 8 + 4))
def allM (f : Nat → Int) (k : Nat) : Prop := ∀ i, i < k → mOk (f (i * 8 + 3)) (f (i * 8 + 4)) (f (i * 8 + 5))
theorem part_in {c : Int} (h : 1 ≤ c ∧ c ≤ 12) : 1 ≤ Int.tdiv 27720 c ∧ Int.tdiv 27720 c ≤ 27720 := by
  rcases (by omega : c = 1 ∨ c = 2 ∨ c = 3 ∨ c = 4 ∨ c = 5 ∨ c = 6 ∨ c = 7 ∨ c = 8 ∨ c = 9 ∨ c = 10 ∨ c = 11 ∨ c = 12) with rfl | rfl | rfl | rfl | rfl | rfl | rfl | rfl | rfl | rfl | rfl | rfl <;> decide
theorem prod_in {d q : Int} (h : 0 ≤ d ∧ d ≤ 60000000) (hq : 1 ≤ q ∧ q ≤ 27720) : 0 ≤ d * q ∧ d * q ≤ 1663200000000 := by
  refine ⟨Int.mul_nonneg h.1 (by omega), ?_⟩
  have := Int.mul_le_mul h.2 hq.2 (by omega) (by omega : (0 : Int) ≤ 60000000)
  omega
theorem mag_in {s : Int} (h : -60000000 ≤ s ∧ s ≤ 60000000) : 0 ≤ mag s ∧ mag s ≤ 60000000 := by rw [mag_eq]; omega
theorem tD_in {f : Nat → Int} : ∀ {k : Nat}, allM f k → 0 ≤ tD f k ∧ tD f k ≤ 1663200000000 * (k : Int)
  | 0, _ => by simp [tD]
  | k + 1, h => by
    have ih := tD_in (f := f) (k := k) (fun i hi => h i (by omega))
    obtain ⟨h1, h2, h3⟩ := h k (by omega)
    have := prod_in h3 (part_in h1)
    unfold tD
    omega
theorem tS_in {f : Nat → Int} : ∀ {k : Nat}, allM f k → 0 ≤ tS f k ∧ tS f k ≤ 60000000 * (k : Int)
  | 0, _ => by simp [tS]
  | k + 1, h => by
    have ih := tS_in (f := f) (k := k) (fun i hi => h i (by omega))
    obtain ⟨h1, h2, h3⟩ := h k (by omega)
    have := mag_in h2
    unfold tS
    omega
theorem allM.step {f : Nat → Int} {k : Nat} (h : allM f k) (hk : mOk (f (k * 8 + 3)) (f (k * 8 + 4)) (f (k * 8 + 5))) : allM f (k + 1) := fun i hi => by
  by_cases e : i = k
  · subst e; exact hk
  · exact h i (by omega)
/-- What Figure tells. -/
def FigT (f : Nat → Int) (n : Nat) (v : Value) : Prop :=
  (n ≤ 60 ∧ allM f n ∧ tS f n ≠ 0 ∧ v = .tuple #[.int .i64 (Int.tdiv (tD f n) (Int.gcd (tD f n) (tS f n * 27720))), .int .i64 (Int.tdiv (tS f n * 27720) (Int.gcd (tD f n) (tS f n * 27720))), .bool true]) ∨
  (¬ (n ≤ 60 ∧ allM f n ∧ tS f n ≠ 0) ∧ v = .tuple #[.int .i64 0, .int .i64 0, .bool false])
theorem FigT.same {f : Nat → Int} {n : Nat} {v v' : Value} (h : FigT f n v) (h' : FigT f n v') : v = v' := by
  rcases h with ⟨h1, h2, h3, rfl⟩ | ⟨h1, rfl⟩
  · rcases h' with ⟨-, -, -, rfl⟩ | ⟨k1, rfl⟩
    · rfl
    · exact absurd ⟨h1, h2, h3⟩ k1
  · rcases h' with ⟨k1, k2, k3, rfl⟩ | ⟨k1, rfl⟩
    · exact absurd ⟨k1, k2, k3⟩ h1
    · rfl
theorem FigT.no {f : Nat → Int} {n : Nat} (h : ¬ (n ≤ 60 ∧ allM f n ∧ tS f n ≠ 0)) : FigT f n (.tuple #[.int .i64 0, .int .i64 0, .bool false]) := .inr ⟨h, rfl⟩
end Go.Proofs.Ytnlbnjdfkbhkhaa
