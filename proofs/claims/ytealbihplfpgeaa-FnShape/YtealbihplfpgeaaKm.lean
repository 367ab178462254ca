/-
  How many corners lie on a facet, by the program: walked.
-/
import Derived.Test.YtealbihplfpgeaaKl
namespace Go.Proofs.Ytealbihplfpgeaa
open Go.RowKit Go.Shelf Go.Sort Go.Lib

theorem C3.below {w w' : World} {g c : Nat} {d : Array T3} (h : C3 w g c d) (hb : Below w.heap.size w w') : C3 w' g c d := by
  obtain ⟨cur, h1, h2, h3⟩ := h
  exact ⟨cur, h1.below hb, h2, h3⟩
/-- How many of the first k keep p. -/
def cntP (p : Nat → Bool) : Nat → Nat
  | 0 => 0
  | k + 1 => cntP p k + (if p k then 1 else 0)
theorem cntP_le (p : Nat → Bool) : ∀ k, cntP p k ≤ k
  | 0 => Nat.le_refl _
  | k + 1 => by have := cntP_le p k; simp only [cntP]; split <;> omega
/-- Corner j of d lies on the line of (a, b, e). -/
def onT (a b e : Int) (d : Array T3) (j : Nat) : Bool := decide (outT a b e d[j]!.1 d[j]!.2.1 d[j]!.2.2 = 0)
set_option maxRecDepth 100000 in
set_option maxHeartbeats 4000000 in
theorem countOn_any {w : World} {g c : Nat} {d : Array T3} (a b e : Int) (h : C3 w g c d) (hm : d.size ≤ 1600) (ha : -50 ≤ a ∧ a ≤ 50) (hb : -50 ≤ b ∧ b ≤ 50) (he : -1000 ≤ e ∧ e ≤ 1000)
    (bnd : ∀ j, j < d.size → (-100000 ≤ d[j]!.1 ∧ d[j]!.1 ≤ 100000) ∧ (-100000 ≤ d[j]!.2.1 ∧ d[j]!.2.1 ≤ 100000) ∧ (-5000 ≤ d[j]!.2.2 ∧ d[j]!.2.2 ≤ 5000)) :
    Calls Try.prog 34 #[fV a b e, .slice (some ⟨g, 0, none⟩) d.size c] w fun r w' => r = .returned (.int .i64 ((cntP (onT a b e d) d.size : Nat) : Int)) ∧ Below w.heap.size w w' := by
  obtain ⟨m, hmm⟩ : ∃ m, d.size = m := ⟨_, rfl⟩
  rw [hmm] at hm bnd ⊢
  have mi : (m : Int) ≤ 1600 := by omega
  have hcl := cntP_le (onT a b e d)
  obtain ⟨cn, hcn⟩ : ∃ cn, cntP (onT a b e d) = cn := ⟨_, rfl⟩
  have cs : Hid (∀ k, cn (k + 1) = cn k + (if onT a b e d k then 1 else 0)) := fun k => by rw [← hcn]; rfl
  have cz : cn 0 = 0 := by rw [← hcn]; rfl
  rw [hcn] at hcl ⊢
  have HC : Hid (∀ k, cn k ≤ k) := hcl
  clear hcn hcl
  obtain ⟨W, hW, A0, B0, -⟩ := boxed w 35 #[.int .i64 a, .int .i64 b, .int .i64 e]
  go_enter Try.func34, Try.ntmps34
  go_wp2
  clear hW
  go_loopw [5, 10] (fun s5 s10 wr => ∃ k : Nat, k ≤ m ∧ s5 = .int .i64 (cn k : Int) ∧ s10 = .int .i64 (k : Int) ∧ At 35 wr w.heap.size #[.int .i64 a, .int .i64 b, .int .i64 e] ∧ Below w.heap.size w wr) (fun _ s10 _ => m - (intOf s10).toNat)
  case atStart => exact ⟨0, Nat.zero_le _, by rw [cz]; rfl, rfl, A0, B0⟩
  case round =>
    clear A0 B0
    obtain ⟨k, hk', rfl, rfl, A, B⟩ := hrel
    by_cases hk : k < m
    · have hklt : (k : Int) < (m : Int) := by omega
      have L := h.below B
      have lg := L.lt
      obtain ⟨c0, c1, c2⟩ := L.at (i := k) (by omega)
      have bk := bnd k hk
      have hc1 := cs.out k
      have hc2 := HC.out k
      unfold onT at hc1
      obtain ⟨x, hx⟩ : ∃ x, d[k]! = x := ⟨_, rfl⟩
      rw [hx] at c0 c1 c2 bk hc1
      clear hx
      obtain ⟨x0, x1, x2⟩ := x
      dsimp only at c0 c1 c2 bk hc1
      have OU := fun w => outside_any a b e x0 x1 x2 w ha hb he bk.1 bk.2.1 bk.2.2
      obtain ⟨z, hz⟩ : ∃ z, outT a b e x0 x1 x2 = z := ⟨_, rfl⟩
      rw [hz] at OU hc1
      clear hz
      obtain ⟨V0, hV0, Q0, q2, s0⟩ := boxed wr 33 #[.int .i64 0, .int .i64 0, .int .i64 0]
      obtain ⟨z0, z1, z2, z3, z4, z5⟩ := Q0.open3
      obtain ⟨V, hV⟩ : ∃ V, ((V0.setCell ⟨wr.heap.size, 0, none⟩ (.int .i64 x0)).setCell ⟨wr.heap.size, 1, none⟩ (.int .i64 x1)).setCell ⟨wr.heap.size, 2, none⟩ (.int .i64 x2) = V := ⟨_, rfl⟩
      have la := A.lt
      have A1 : At 33 V wr.heap.size #[.int .i64 x0, .int .i64 x1, .int .i64 x2] := by rw [← hV]; exact put3c Q0 _ _ _
      have A2 : At 35 V w.heap.size #[.int .i64 a, .int .i64 b, .int .i64 e] := by rw [← hV]; exact (A.below q2).set3OtherC (by omega) _ _ _
      have B2 : Below w.heap.size w V := by rw [← hV]; exact below_put3c (B.trans (q2.mono B.size)) (by omega) _ _ _
      obtain ⟨r0, r1, r2, -⟩ := A1.open3
      obtain ⟨t0, t1, t2, -⟩ := A2.open3
      clear Q0 q2 s0 L
      by_cases hz : z = 0
      · have hz' : (z == 0) = true := by simp [hz]
        have hc3 : cn (k + 1) = cn k + 1 := by rw [hc1, if_pos (by simpa using hz)]
        have HC3 : Hid (cn (k + 1) = cn k + 1) := hc3
        clear hc1 hc3
        subst hz
        go_wp2_with (go_at_call 59; refine (OU _).mono ?_; rintro e w5 ⟨rfl, b5⟩)
        exact ⟨⟨k + 1, by omega, by rw [HC3.out]; go_num, by go_num, A2.below b5, B2.trans (b5.mono B2.size)⟩, by simp [intOf]; omega⟩
      · have hc3 : cn (k + 1) = cn k := by rw [hc1, if_neg (by simpa using hz)]; rfl
        have HC3 : Hid (cn (k + 1) = cn k) := hc3
        clear hc1 hc3
        go_wp2_with (go_at_call 59; refine (OU _).mono ?_; rintro e w5 ⟨rfl, b5⟩)
        exact ⟨⟨k + 1, by omega, by rw [HC3.out], by go_num, A2.below b5, B2.trans (b5.mono B2.size)⟩, by simp [intOf]; omega⟩
    · have hklt : ¬ (k : Int) < (m : Int) := by omega
      obtain rfl : m = k := by omega
      go_wp2
      go_ret
      exact ⟨rfl, B⟩
end Go.Proofs.Ytealbihplfpgeaa
