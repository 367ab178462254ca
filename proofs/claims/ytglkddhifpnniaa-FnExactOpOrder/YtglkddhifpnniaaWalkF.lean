/-
  The program's determinants, and whether a vector lies in a lattice, walked.
-/
import Derived.Test.YtglkddhifpnniaaWalkE
namespace Go.Proofs.Ytglkddhifpnniaa
open Go.RowKit

theorem adj_bound {m : Nat → Int} (hm : ∀ i, i < 9 → -1000 ≤ m i ∧ m i ≤ 1000) (k : Nat) : -2000000 ≤ adj m k ∧ adj m k ≤ 2000000 := by
  have h : ∀ i j, i < 9 → j < 9 → -(1000 * 1000) ≤ m i * m j ∧ m i * m j ≤ 1000 * 1000 := fun i j hi hj => mul_bound (hm i hi) (hm j hj)
  unfold adj
  split
  · have h1 := h 4 8 (by decide) (by decide); have h2 := h 5 7 (by decide) (by decide); omega
  · have h1 := h 2 7 (by decide) (by decide); have h2 := h 1 8 (by decide) (by decide); omega
  · have h1 := h 1 5 (by decide) (by decide); have h2 := h 2 4 (by decide) (by decide); omega
  · have h1 := h 5 6 (by decide) (by decide); have h2 := h 3 8 (by decide) (by decide); omega
  · have h1 := h 0 8 (by decide) (by decide); have h2 := h 2 6 (by decide) (by decide); omega
  · have h1 := h 2 3 (by decide) (by decide); have h2 := h 0 5 (by decide) (by decide); omega
  · have h1 := h 3 7 (by decide) (by decide); have h2 := h 4 6 (by decide) (by decide); omega
  · have h1 := h 1 6 (by decide) (by decide); have h2 := h 0 7 (by decide) (by decide); omega
  · have h1 := h 0 4 (by decide) (by decide); have h2 := h 1 3 (by decide) (by decide); omega
theorem det_adj (m : Nat → Int) : m 0 * adj m 0 + m 1 * adj m 3 + m 2 * adj m 6 = det3 m := by
  unfold det3 adj
  grind
theorem det_bound {m : Nat → Int} (hm : ∀ i, i < 9 → -1000 ≤ m i ∧ m i ≤ 1000) : -6000000000 ≤ det3 m ∧ det3 m ≤ 6000000000 := by
  have h1 := mul_bound (N := 2000000) (hm 0 (by decide)) (adj_bound hm 0)
  have h2 := mul_bound (N := 2000000) (hm 1 (by decide)) (adj_bound hm 3)
  have h3 := mul_bound (N := 2000000) (hm 2 (by decide)) (adj_bound hm 6)
  have := det_adj m
  omega
theorem det_any {m : Nat → Int} (hm : ∀ i, i < 9 → -1000 ≤ m i ∧ m i ≤ 1000) (w : World) :
    Calls Try.prog 41 #[.agg (matA m)] w fun e w' => e = .returned (.int .i64 (det3 m)) ∧ Below w.heap.size w w' := by
  obtain ⟨W1, hW1, a1, bW1, z1⟩ := boxed w 41 (matA m)
  have h1 := mul_bound (N := 2000000) (hm 0 (by decide)) (adj_bound hm 0)
  have h2 := mul_bound (N := 2000000) (hm 1 (by decide)) (adj_bound hm 3)
  have h3 := mul_bound (N := 2000000) (hm 2 (by decide)) (adj_bound hm 6)
  rw [← det_adj m]
  have hadj : ∀ w, Calls Try.prog 42 #[.agg (matA m)] w fun e w' => e = .returned (.agg (matA (adj m))) ∧ Below w.heap.size w w' := adj_any hm
  unfold matA at hW1 hadj ⊢
  obtain ⟨⟨c0, c1, c2, c3, c4, c5, c6, c7, c8⟩, -⟩ := a1.open9
  generalize adj m = d at *
  go_enter Try.func41, Try.ntmps41
  go_wp2_with (go_at_call 42; refine (hadj _).mono ?_; rintro e w2 ⟨rfl, hb2⟩; replace a1 := a1.below hb2; obtain ⟨W2, hW2, a2, bW2, z2⟩ := boxed w2 41 (matA d); unfold matA at hW2; replace a1 := a1.below bW2; replace bW1 := (bW1.trans (hb2.mono bW1.size)).trans (bW2.mono (bW1.trans (hb2.mono bW1.size)).size); obtain ⟨⟨c0, c1, c2, c3, c4, c5, c6, c7, c8⟩, -⟩ := a1.open9; obtain ⟨⟨d0, d1, d2, d3, d4, d5, d6, d7, d8⟩, -⟩ := a2.open9)
  go_ret
  exact ⟨rfl, bW1⟩
end Go.Proofs.Ytglkddhifpnniaa
