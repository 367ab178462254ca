/-
  Which labs are right, by the specification: walked.
-/
import Derived.Test.YtnjnffemidaopaaL17c
namespace Go.Proofs.Ytnjnffemidaopaa
open Go.RowKit

theorem inB_any (x lo hi : Int) (w : World) (b : Bool) (hb : b = true ↔ (lo ≤ x ∧ x ≤ hi)) : Calls Try.prog 37 #[.int .i64 x, .int .i64 lo, .int .i64 hi] w fun e w' => e = .returned (.bool b) ∧ Below w.heap.size w w' := by
  have e : decide (lo ≤ x ∧ x ≤ hi) = b := by
    rw [Bool.eq_iff_iff, hb]; simp
  refine (in_any x lo hi w).mono (fun e' w' ⟨h1, h2⟩ => ⟨by rw [h1, e], by rw [← h2]; exact Below.refl _ _⟩)
set_option maxRecDepth 100000 in
set_option maxHeartbeats 1600000 in
theorem l17Sample_no {w : World} {a s : Option Addr} {m c n d : Nat} {f : Nat → Int} {T : Int} (id : Int) (hs : Ls 3 w s n f) (hn : n ≤ 100) (hno : Hid (∀ i, i < n → f (i * 3) ≠ id)) :
    Calls Try.prog 38 #[lbV s n d a m c T, .int .i64 id] w fun e w' => e = .returned (.int .i64 (-1)) ∧ Below w.heap.size w w' := by
  have hn' : (n : Int) ≤ 100 := by omega
  obtain ⟨V1, hV1, m1, B1, -⟩ := boxed w 27 #[.slice s n d, .slice a m c, .int .i64 T]
  obtain ⟨r1, hr1⟩ : ∃ r, w.heap.size = r := ⟨_, rfl⟩
  rw [hr1] at m1
  have L := hs.below B1
  obtain ⟨c0, c1, c2, -⟩ := m1.open3
  go_enter Try.func38, Try.ntmps38
  go_wp2
  clear hV1 hr1
  go_loopw [5] (fun u wr => ∃ k : Nat, k ≤ n ∧ u = .int .i64 (k : Int) ∧ V1 = wr) (fun u _ => n - (intOf u).toNat)
  case atStart => exact ⟨0, Nat.zero_le _, rfl, rfl⟩
  case round =>
    obtain ⟨k, hk, rfl, rfl⟩ := hrel
    by_cases hlt : k < n
    · have hlt' : (k : Int) < (n : Int) := by omega
      obtain ⟨b, rfl, R⟩ := L.some hlt
      obtain ⟨d0, d1, d2⟩ := Sample.open R k hlt
      obtain ⟨x, hx⟩ : ∃ x, f (k * 3) = x := ⟨_, rfl⟩
      have h1' : (x == id) = false := by simpa [← hx] using hno.out k hlt
      rw [hx] at d0
      clear hx R
      go_wp2
      exact ⟨⟨k + 1, by omega, by go_num, trivial⟩, by simp [intOf]; omega⟩
    · have hlt' : ¬ (k : Int) < (n : Int) := by omega
      go_wp2
      go_ret
      exact ⟨rfl, B1⟩
set_option maxRecDepth 100000 in
set_option maxHeartbeats 1600000 in
theorem l17Sample_yes {w : World} {a s : Option Addr} {m c n d j : Nat} {f : Nat → Int} {T : Int} (id : Int) (hs : Ls 3 w s n f) (hn : n ≤ 100) (hj : j < n) (hno : Hid (∀ i, i < j → f (i * 3) ≠ id)) (hys : Hid (f (j * 3) = id)) :
    Calls Try.prog 38 #[lbV s n d a m c T, .int .i64 id] w fun e w' => e = .returned (.int .i64 (j : Int)) ∧ Below w.heap.size w w' := by
  have hn' : (n : Int) ≤ 100 := by omega
  obtain ⟨V1, hV1, m1, B1, -⟩ := boxed w 27 #[.slice s n d, .slice a m c, .int .i64 T]
  obtain ⟨r1, hr1⟩ : ∃ r, w.heap.size = r := ⟨_, rfl⟩
  rw [hr1] at m1
  obtain ⟨b, rfl, R⟩ := (hs.below B1).some hj
  obtain ⟨c0, c1, c2, -⟩ := m1.open3
  go_enter Try.func38, Try.ntmps38
  go_wp2
  clear hV1 hr1
  go_loopw [5] (fun u wr => ∃ k : Nat, k ≤ j ∧ u = .int .i64 (k : Int) ∧ V1 = wr) (fun u _ => n - (intOf u).toNat)
  case atStart => exact ⟨0, Nat.zero_le _, rfl, rfl⟩
  case round =>
    obtain ⟨k, hk, rfl, rfl⟩ := hrel
    have hlt : k < n := by omega
    have hlt' : (k : Int) < (n : Int) := by omega
    obtain ⟨d0, d1, d2⟩ := Sample.open R k hlt
    obtain ⟨x, hx⟩ : ∃ x, f (k * 3) = x := ⟨_, rfl⟩
    by_cases e : k = j
    · subst e
      have h1' : (x == id) = true := by simpa [← hx] using hys.out
      rw [hx] at d0
      clear hx R hys
      go_wp2
      go_ret
      exact ⟨rfl, B1⟩
    · have h1' : (x == id) = false := by simpa [← hx] using hno.out k (by omega)
      rw [hx] at d0
      clear hx R hys
      go_wp2
      exact ⟨⟨k + 1, by omega, by go_num, trivial⟩, by simp [intOf]; omega⟩
set_option maxRecDepth 100000 in
set_option maxHeartbeats 1600000 in
theorem l17Job_no {w : World} {a s : Option Addr} {m c n d : Nat} {g : Nat → Int} {T : Int} (x o : Int) (hs : Ls 4 w a m g) (hm : m ≤ 300) (hno : Hid (∀ i, i < m → ¬ isJ g x o i)) :
    Calls Try.prog 39 #[lbV s n d a m c T, .int .i64 x, .int .i64 o] w fun e w' => e = .returned (.int .i64 (-1)) ∧ Below w.heap.size w w' := by
  have hm' : (m : Int) ≤ 300 := by omega
  obtain ⟨V1, hV1, m1, B1, -⟩ := boxed w 27 #[.slice s n d, .slice a m c, .int .i64 T]
  obtain ⟨r1, hr1⟩ : ∃ r, w.heap.size = r := ⟨_, rfl⟩
  rw [hr1] at m1
  have L := hs.below B1
  obtain ⟨c0, c1, c2, -⟩ := m1.open3
  go_enter Try.func39, Try.ntmps39
  go_wp2
  clear hV1 hr1
  go_loopw [7] (fun u wr => ∃ k : Nat, k ≤ m ∧ u = .int .i64 (k : Int) ∧ V1 = wr) (fun u _ => m - (intOf u).toNat)
  case atStart => exact ⟨0, Nat.zero_le _, rfl, rfl⟩
  case round =>
    obtain ⟨k, hk, rfl, rfl⟩ := hrel
    by_cases hlt : k < m
    · have hlt' : (k : Int) < (m : Int) := by omega
      obtain ⟨b, rfl, R⟩ := L.some hlt
      obtain ⟨d0, d1, d2, d3⟩ := Job.open R k hlt
      obtain ⟨y, hy⟩ : ∃ x, g (k * 4) = x := ⟨_, rfl⟩
      obtain ⟨z, hz⟩ : ∃ x, g (k * 4 + 1) = x := ⟨_, rfl⟩
      have hn : ¬ (y = x ∧ z = o) := by rw [← hy, ← hz]; exact hno.out k hlt
      rw [hy] at d0
      rw [hz] at d1
      clear hy hz R
      by_cases h1 : y = x
      · have h1' : (y == x) = true := by simpa using h1
        have h2' : (z == o) = false := by simpa using fun e => hn ⟨h1, e⟩
        clear hn h1
        go_wp2
        exact ⟨⟨k + 1, by omega, by go_num, trivial⟩, by simp [intOf]; omega⟩
      · have h1' : (y == x) = false := by simpa using h1
        clear hn h1
        go_wp2
        exact ⟨⟨k + 1, by omega, by go_num, trivial⟩, by simp [intOf]; omega⟩
    · have hlt' : ¬ (k : Int) < (m : Int) := by omega
      go_wp2
      go_ret
      exact ⟨rfl, B1⟩
set_option maxRecDepth 100000 in
set_option maxHeartbeats 1600000 in
theorem l17Job_yes {w : World} {a s : Option Addr} {m c n d j : Nat} {g : Nat → Int} {T : Int} (x o : Int) (hs : Ls 4 w a m g) (hm : m ≤ 300) (hj : j < m) (hno : Hid (∀ i, i < j → ¬ isJ g x o i)) (hys : Hid (isJ g x o j)) :
    Calls Try.prog 39 #[lbV s n d a m c T, .int .i64 x, .int .i64 o] w fun e w' => e = .returned (.int .i64 (j : Int)) ∧ Below w.heap.size w w' := by
  have hm' : (m : Int) ≤ 300 := by omega
  obtain ⟨V1, hV1, m1, B1, -⟩ := boxed w 27 #[.slice s n d, .slice a m c, .int .i64 T]
  obtain ⟨r1, hr1⟩ : ∃ r, w.heap.size = r := ⟨_, rfl⟩
  rw [hr1] at m1
  obtain ⟨b, rfl, R⟩ := (hs.below B1).some hj
  obtain ⟨c0, c1, c2, -⟩ := m1.open3
  go_enter Try.func39, Try.ntmps39
  go_wp2
  clear hV1 hr1
  go_loopw [7] (fun u wr => ∃ k : Nat, k ≤ j ∧ u = .int .i64 (k : Int) ∧ V1 = wr) (fun u _ => m - (intOf u).toNat)
  case atStart => exact ⟨0, Nat.zero_le _, rfl, rfl⟩
  case round =>
    obtain ⟨k, hk, rfl, rfl⟩ := hrel
    have hlt : k < m := by omega
    have hlt' : (k : Int) < (m : Int) := by omega
    obtain ⟨d0, d1, d2, d3⟩ := Job.open R k hlt
    obtain ⟨y, hy⟩ : ∃ x, g (k * 4) = x := ⟨_, rfl⟩
    obtain ⟨z, hz⟩ : ∃ x, g (k * 4 + 1) = x := ⟨_, rfl⟩
    by_cases e : k = j
    · subst e
      have hn : y = x ∧ z = o := by rw [← hy, ← hz]; exact hys.out
      rw [hy] at d0
      rw [hz] at d1
      have h1' : (y == x) = true := by simpa using hn.1
      have h2' : (z == o) = true := by simpa using hn.2
      clear hy hz R hn hys
      go_wp2
      go_ret
      exact ⟨rfl, B1⟩
    have hn : ¬ (y = x ∧ z = o) := by rw [← hy, ← hz]; exact hno.out k (by omega)
    rw [hy] at d0
    rw [hz] at d1
    clear hy hz R hys
    by_cases h1 : y = x
    · have h1' : (y == x) = true := by simpa using h1
      have h2' : (z == o) = false := by simpa using fun e => hn ⟨h1, e⟩
      clear hn h1
      go_wp2
      exact ⟨⟨k + 1, by omega, by go_num, trivial⟩, by simp [intOf]; omega⟩
    · have h1' : (y == x) = false := by simpa using h1
      clear hn h1
      go_wp2
      exact ⟨⟨k + 1, by omega, by go_num, trivial⟩, by simp [intOf]; omega⟩
end Go.Proofs.Ytnjnffemidaopaa
