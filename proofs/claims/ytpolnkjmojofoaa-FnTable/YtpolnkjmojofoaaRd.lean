/-
  Digits read by the specification, walked.
-/
import Derived.Test.YtpolnkjmojofoaaMC
namespace Go.Proofs.Ytpolnkjmojofoaa
open Go.RowKit

/-- A text's byte, 0 behind its end. -/
def byt (s : ByteArray) (i : Nat) : Nat := if h : i < s.size then (s[i]'h).toNat else 0
theorem byt_at (s : ByteArray) (i : Nat) (h : i < s.size) : (s[i]'h).toNat = byt s i := by simp [byt, h]
def isD (s : ByteArray) (i : Nat) : Bool := decide (i < s.size) && (decide (48 ≤ byt s i) && decide (byt s i ≤ 57))
/-- How many digits stand there, at most two; their number. -/
def dK (s : ByteArray) (i : Nat) : Nat := if isD s i then (if isD s (i + 1) then 2 else 1) else 0
def dV (s : ByteArray) (i : Nat) : Nat → Int
  | 0 => 0
  | k + 1 => dV s i k * 10 + ((byt s (i + k) : Int) - 48)
theorem dK_le (s : ByteArray) (i : Nat) : dK s i ≤ 2 := by unfold dK; split <;> (try split) <;> omega
theorem dK_is (s : ByteArray) (i k : Nat) (hk : k < dK s i) : isD s (i + k) = true := by
  unfold dK at hk
  by_cases h1 : isD s i = true
  · rw [if_pos h1] at hk
    by_cases h2 : isD s (i + 1) = true
    · rw [if_pos h2] at hk
      rcases (by omega : k = 0 ∨ k = 1) with rfl | rfl
      · exact h1
      · exact h2
    · rw [if_neg h2] at hk
      obtain rfl : k = 0 := by omega
      exact h1
  · rw [if_neg h1] at hk
    omega
theorem dK_end (s : ByteArray) (i : Nat) (hk : dK s i < 2) : isD s (i + dK s i) = false := by
  unfold dK at hk ⊢
  by_cases h1 : isD s i = true
  · rw [if_pos h1] at hk ⊢
    by_cases h2 : isD s (i + 1) = true
    · rw [if_pos h2] at hk; omega
    · rw [if_neg h2]; simpa using h2
  · rw [if_neg h1]; simpa using h1
theorem isD_iff (s : ByteArray) (i : Nat) : isD s i = true ↔ i < s.size ∧ 48 ≤ byt s i ∧ byt s i ≤ 57 := by
  simp [isD]
theorem byt_lt (s : ByteArray) (i : Nat) : byt s i < 256 := by
  unfold byt
  split
  · exact UInt8.toNat_lt _
  · omega
theorem dV_bound (s : ByteArray) (i : Nat) : ∀ k, k ≤ dK s i → 0 ≤ dV s i k ∧ dV s i k ≤ 99 ∧ (k ≤ 1 → dV s i k ≤ 9) := by
  intro k hk
  have h2 := dK_le s i
  rcases (by omega : k = 0 ∨ k = 1 ∨ k = 2) with rfl | rfl | rfl
  · simp [dV]
  · have := (isD_iff _ _).1 (dK_is s i 0 (by omega))
    simp only [dV, Nat.add_zero] at *
    omega
  · have a := (isD_iff _ _).1 (dK_is s i 0 (by omega))
    have b := (isD_iff _ _).1 (dK_is s i 1 (by omega))
    simp only [dV, Nat.add_zero] at *
    omega
set_option maxHeartbeats 800000 in
theorem digits_any (s : ByteArray) (i : Nat) (w : World) (hs : s.size ≤ 1000) (hi : i ≤ s.size) :
    Calls Try.prog 98 #[.string s, .int .i64 (i : Int)] w fun e w' => e = .returned (.tuple #[.int .i64 (dV s i (dK s i)), .int .i64 ((dK s i : Nat) : Int)]) ∧ w = w' := by
  have hs' : (s.size : Int) ≤ 1000 := by omega
  have hi' : (i : Int) ≤ 1000 := by omega
  have h2 := dK_le s i
  go_enter Try.func98, Try.ntmps98
  go_wp2
  go_loop [6, 7] (fun n t => ∃ k : Nat, k ≤ dK s i ∧ t = .int .i64 k ∧ n = .int .i64 (dV s i k)) (fun _ t => 2 - (intOf t).toNat)
  case atStart => exact ⟨0, Nat.zero_le _, rfl, rfl⟩
  case round =>
    obtain ⟨k, hk, rfl, rfl⟩ := hrel
    have hb := dV_bound s i k hk
    by_cases hlt : k < dK s i
    · obtain ⟨d1, d2, d3⟩ := (isD_iff _ _).1 (dK_is s i k hlt)
      have hk2 : (k : Int) < 2 := by omega
      have hd1 : (i : Int) + (k : Int) < (s.size : Int) := by omega
      have hbt := byt_at s (i + k) d1
      obtain ⟨c, hc⟩ : ∃ c, byt s (i + k) = c := ⟨_, rfl⟩
      rw [hc] at d2 d3 hbt
      have d2' : (48 : Int) ≤ (c : Int) := by omega
      have d3' : (c : Int) ≤ 57 := by omega
      have hst : Hid (dV s i k * 10 + ((c : Int) - 48) = dV s i (k + 1)) := by rw [← hc]; rfl
      obtain ⟨V, hV⟩ : ∃ V, dV s i k = V := ⟨_, rfl⟩
      rw [hV] at hb hst ⊢
      clear hc hV
      go_wp2
      refine ⟨⟨k + 1, by omega, by go_num, ?_⟩, by simp [intOf]; omega⟩
      rw [← hst.out]
    · obtain rfl : k = dK s i := by omega
      by_cases hk2 : dK s i = 2
      · have hk2' : ¬ ((dK s i : Nat) : Int) < 2 := by omega
        go_wp2
        go_ret2
        exact ⟨rfl, rfl⟩
      · have hk2' : ((dK s i : Nat) : Int) < 2 := by omega
        have hend := dK_end s i (by omega)
        obtain ⟨D, hD⟩ : ∃ D, dK s i = D := ⟨_, rfl⟩
        rw [hD] at hend hk2' hb ⊢
        have hk3 : D ≤ 2 := by omega
        clear hlt hk hk2 h2
        by_cases hsz : i + D < s.size
        · have hd1 : (i : Int) + (D : Int) < (s.size : Int) := by omega
          have hbt := byt_at s (i + D) hsz
          have hnd : ¬ (48 ≤ byt s (i + D) ∧ byt s (i + D) ≤ 57) := fun x => by
            have := (isD_iff s (i + D)).2 ⟨hsz, x⟩
            rw [this] at hend
            cases hend
          obtain ⟨c, hc⟩ : ∃ c, byt s (i + D) = c := ⟨_, rfl⟩
          rw [hc] at hnd hbt
          clear hc hend
          by_cases h48 : 48 ≤ c
          · have d2' : (48 : Int) ≤ (c : Int) := by omega
            have d3' : ¬ (c : Int) ≤ 57 := by omega
            go_wp2
            go_ret2
            exact ⟨by first | rfl | (rw [hD]; rfl), rfl⟩
          · have d2' : ¬ (48 : Int) ≤ (c : Int) := by omega
            go_wp2
            go_ret2
            exact ⟨by first | rfl | (rw [hD]; rfl), rfl⟩
        · have hd1 : ¬ (i : Int) + (D : Int) < (s.size : Int) := by omega
          go_wp2
          go_ret2
          exact ⟨by first | rfl | (rw [hD]; rfl), rfl⟩
end Go.Proofs.Ytpolnkjmojofoaa
