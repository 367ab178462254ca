/-
  Lists of operators of a function's own: held. Walked.
-/
import Derived.Test.YtmjeplhigjlopaaGz
namespace Go.Proofs.Ytmjeplhigjlopaa
open Go.RowKit

theorem OpsA.opsL {w : World} {lo hi g n : Nat} {X Y : Nat → Value} {A : Nat → OpD} (h : OpsA w lo hi g n X Y A) : OpsL w g n A := by
  obtain ⟨h1, h2, cur, h3, h4⟩ := h.blk
  refine ⟨h3.lt, fun i hi' => ?_⟩
  obtain ⟨a, c, e, s⟩ := (h.xs i hi').src
  obtain ⟨b, d, e', s'⟩ := (h.ys i hi').src
  exact ⟨a, c, b, d, by rw [← e]; exact h3.cell _ (h4 i hi').1, by rw [← e']; exact h3.cell _ (h4 i hi').2, s, s'⟩
theorem OpsA.turn {w w' : World} {lo hi a b g n : Nat} {X Y : Nat → Value} {A : Nat → OpD} (h : OpsA w a b g n X Y A) (ht : Turn lo hi w w') (hd : b ≤ lo ∨ hi ≤ a) : OpsA w' a b g n X Y A := by
  obtain ⟨h1, h2, cur, h3, h4⟩ := h.blk
  exact ⟨⟨h1, h2, cur, h3.turn ht (by omega), h4⟩, fun i hi' => (h.xs i hi').turn ht hd, fun i hi' => (h.ys i hi').turn ht hd, h.dj⟩
set_option maxRecDepth 100000 in
set_option maxHeartbeats 800000 in
theorem heldOpS_any {w : World} {lo hi g n c : Nat} {X Y : Nat → Value} {A : Nat → OpD} (x : Nat) (h : OpsA w lo hi g n X Y (marked A x)) (hn : n ≤ 1048576) (ht : totN A n ≤ 1048576) (hx : x ≤ 1000000) :
    Calls Try.prog 15 #[.slice (some ⟨g, 0, none⟩) n c, .int .i64 (x : Int)] w fun e w' => e = .returned (.int .i64 ((x + totN A n : Nat) : Int)) ∧ Below w.heap.size w w' := by
  have hn' : (n : Int) ≤ 1048576 := by omega
  go_enter Try.func15, Try.ntmps15
  go_wp2
  go_loopw [1, 5] (fun k s wr => ∃ i : Nat, i ≤ n ∧ s = .int .i64 i ∧ k = .int .i64 ((x + totN A i : Nat) : Int) ∧ Below w.heap.size w wr) (fun _ s _ => n - (intOf s).toNat)
  case atStart => exact ⟨0, Nat.zero_le _, rfl, rfl, Below.refl _ _⟩
  case round =>
    obtain ⟨i, hi', rfl, rfl, B⟩ := hrel
    by_cases hlt : i < n
    · have hlt' : (i : Int) < (n : Int) := by omega
      have H := h.below B
      obtain ⟨N, hN⟩ : ∃ N, (A i).n = N := ⟨_, rfl⟩
      obtain ⟨K, hK⟩ : ∃ N, (A i).k = N := ⟨_, rfl⟩
      obtain ⟨z, hz⟩ : ∃ z, x + totN A i = z := ⟨_, rfl⟩
      have hlen : totN A i + N + K ≤ 1048576 := by
        have := totN_mono A (show i + 1 ≤ n by omega)
        simp only [totN, hN, hK] at this
        omega
      have hnext : Hid (x + totN A (i + 1) = z + N + K) := by show _ = _; simp only [totN, hN, hK]; omega
      have hx1 : Arr wr lo hi (X i) N (fun j => (z + j : Nat)) := by
        have := H.xs i hlt; simp only [marked, hN, hz] at this; exact this
      have hy1 : Arr wr lo hi (Y i) K (fun j => (z + N + j : Nat)) := by
        have := H.ys i hlt; simp only [marked, hN, hK, hz] at this; exact this
      obtain ⟨d1, e1, hX, -⟩ := hx1.src
      obtain ⟨d2, e2, hY, -⟩ := hy1.src
      obtain ⟨c0, c1⟩ := H.cells hlt
      have hg := (OpsA.opsL H).1
      rw [hX] at c0 hx1
      rw [hY] at c1 hy1
      have hz' : Hid (x + totN A i = z) := hz
      rw [hz]
      clear hX hY hz H
      go_wp2_with fail
      refine (heldArr_any z hx1 (by omega) (by have := hz'.out; omega)).mono ?_
      rintro e w3 ⟨rfl, b3⟩
      have B3 := B.trans (b3.mono B.size)
      have hy3 := hy1.below b3
      have c3 := (b3.cell (p := ⟨g, i * 2 + 1, none⟩) hg).trans c1
      have hnn : ¬ ((z + N : Nat) : Int) < 0 := by omega
      clear c0 c1 hx1 hy1 b3
      go_wp2_with fail
      refine (heldArr_any (z + N) hy3 (by omega) (by have := hz'.out; omega)).mono ?_
      rintro e w4 ⟨rfl, b4⟩
      have B4 := B3.trans (b4.mono B3.size)
      have hnn2 : ¬ ((z + N + K : Nat) : Int) < 0 := by omega
      clear c3 hy3 b4
      go_wp2
      refine ⟨⟨i + 1, by omega, by go_num, ?_, B4⟩, by simp [intOf]; omega⟩
      rw [hnext.out]
      go_num
    · obtain rfl : i = n := by omega
      have hlt' : ¬ (i : Int) < (i : Int) := by omega
      go_wp2
      go_ret
      exact ⟨rfl, B⟩
end Go.Proofs.Ytmjeplhigjlopaa
