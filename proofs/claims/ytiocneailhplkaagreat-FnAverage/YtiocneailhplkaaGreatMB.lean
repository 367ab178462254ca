/-
  The program's determinants, and whether a vector lies in a lattice, walked.
-/
import Derived.Test.YtiocneailhplkaaGreatWalkE
import Derived.Test.YtiocneailhplkaaGreatMA
import Derived.Deep.CutRange
namespace Go.Proofs.YtiocneailhplkaaGreat
open Go.RowKit

theorem adj_bound {m : Nat → Int} (hm : ∀ i, i < 9 → -1000 ≤ m i ∧ m i ≤ 1000) (k : Nat) : -2000000 ≤ adj m k ∧ adj m k ≤ 2000000 := by
  have h : ∀ i j, i < 9 → j < 9 → -(1000 * 1000) ≤ m i * m j ∧ m i * m j ≤ 1000 * 1000 := fun i j hi hj => mul_bound (hm i hi) (hm j hj)
  unfold adj
  split
  · have h1 := h 4 8 (by decide) (by decide); have h2 := h 5 7 (by decide) (by decide); omega
  · have h1 := h 2 7 (by decide) (by decide); have h2 := h 1 8 (by decide) (by decide); omega
  · have h1 := h 1 5 (by decide) (by decide); have h2 := h 2 4 (by decide) (by decide); omega
  · have h1 := h 5 6 (by decide) (by decide); have h2 := h 3 8 (by decide) (by decide); omega
  · have h1 := h 0 8 (by decide) (by decide); have h2 := h 2 6 (by decide) (by decide); omega
  · have h1 := h 2 3 (by decide) (by decide); have h2 := h 0 5 (by decide) (by decide); omega
  · have h1 := h 3 7 (by decide) (by decide); have h2 := h 4 6 (by decide) (by decide); omega
  · have h1 := h 1 6 (by decide) (by decide); have h2 := h 0 7 (by decide) (by decide); omega
  · have h1 := h 0 4 (by decide) (by decide); have h2 := h 1 3 (by decide) (by decide); omega
theorem det_adj (m : Nat → Int) : m 0 * adj m 0 + m 1 * adj m 3 + m 2 * adj m 6 = det3 m := by
  unfold det3 adj
  grind
theorem det_bound {m : Nat → Int} (hm : ∀ i, i < 9 → -1000 ≤ m i ∧ m i ≤ 1000) : -6000000000 ≤ det3 m ∧ det3 m ≤ 6000000000 := by
  have h1 := mul_bound (N := 2000000) (hm 0 (by decide)) (adj_bound hm 0)
  have h2 := mul_bound (N := 2000000) (hm 1 (by decide)) (adj_bound hm 3)
  have h3 := mul_bound (N := 2000000) (hm 2 (by decide)) (adj_bound hm 6)
  have := det_adj m
  omega
theorem det_any {m : Nat → Int} (hm : ∀ i, i < 9 → -1000 ≤ m i ∧ m i ≤ 1000) (w : World) :
    Calls Tryz.prog 103 #[.agg (matA m)] w fun e w' => e = .returned (.int .i64 (det3 m)) ∧ Below w.heap.size w w' := by
  obtain ⟨W1, hW1, a1, bW1, z1⟩ := boxed w 88 (matA m)
  have h1 := mul_bound (N := 2000000) (hm 0 (by decide)) (adj_bound hm 0)
  have h2 := mul_bound (N := 2000000) (hm 1 (by decide)) (adj_bound hm 3)
  have h3 := mul_bound (N := 2000000) (hm 2 (by decide)) (adj_bound hm 6)
  rw [← det_adj m]
  have hadj : ∀ w, Calls Tryz.prog 111 #[.agg (matA m)] w fun e w' => e = .returned (.agg (matA (adj m))) ∧ Below w.heap.size w w' := adj_any hm
  unfold matA at hW1 hadj ⊢
  obtain ⟨⟨c0, c1, c2, c3, c4, c5, c6, c7, c8⟩, -⟩ := a1.open9
  generalize adj m = d at *
  go_enter Tryz.func103, Tryz.ntmps103
  go_wp2_with (go_at_call 111; refine (hadj _).mono ?_; rintro e w2 ⟨rfl, hb2⟩; replace a1 := a1.below hb2; obtain ⟨W2, hW2, a2, bW2, z2⟩ := boxed w2 88 (matA d); unfold matA at hW2; replace a1 := a1.below bW2; replace bW1 := (bW1.trans (hb2.mono bW1.size)).trans (bW2.mono (bW1.trans (hb2.mono bW1.size)).size); obtain ⟨⟨c0, c1, c2, c3, c4, c5, c6, c7, c8⟩, -⟩ := a1.open9; obtain ⟨⟨d0, d1, d2, d3, d4, d5, d6, d7, d8⟩, -⟩ := a2.open9)
  go_ret
  exact ⟨rfl, bW1⟩
end Go.Proofs.YtiocneailhplkaaGreat
/-
  Which operators are right, by the program, walked.
-/
namespace Go.Proofs.YtiocneailhplkaaGreat
open Go.RowKit

def opA (f h : Nat → Int) : Array Value := #[.int .i64 (f 0), .int .i64 (f 1), .int .i64 (f 2), .int .i64 (f 3), .int .i64 (f 4), .int .i64 (f 5), .int .i64 (f 6), .int .i64 (f 7), .int .i64 (f 8), .int .i64 (h 0), .int .i64 (h 1), .int .i64 (h 2)]
/-- Is it right? -/
def isR (f h : Nat → Int) : Prop := (∀ i, i < 9 → -1 ≤ f i ∧ f i ≤ 1) ∧ (∀ i, i < 3 → 0 ≤ h i ∧ h i < 24) ∧ (det3 f = 1 ∨ det3 f = -1)
instance (f h : Nat → Int) : Decidable (isR f h) := by unfold isR; infer_instance
theorem opA_get (f h : Nat → Int) (i : Nat) (hi : i < 12) : (opA f h)[i]? = some (.int .i64 (if i < 9 then f i else h (i - 9))) := by
  rcases (by omega : i = 0 ∨ i = 1 ∨ i = 2 ∨ i = 3 ∨ i = 4 ∨ i = 5 ∨ i = 6 ∨ i = 7 ∨ i = 8 ∨ i = 9 ∨ i = 10 ∨ i = 11) with rfl | rfl | rfl | rfl | rfl | rfl | rfl | rfl | rfl | rfl | rfl | rfl <;> rfl
theorem At.open12 {t : TypeId} {w : World} {q : Nat} {f h : Nat → Int} (x : At t w q (opA f h)) : (w.cell? ⟨q, 0, none⟩ = some (.int .i64 (f 0)) ∧ w.cell? ⟨q, 1, none⟩ = some (.int .i64 (f 1)) ∧ w.cell? ⟨q, 2, none⟩ = some (.int .i64 (f 2)) ∧ w.cell? ⟨q, 3, none⟩ = some (.int .i64 (f 3)) ∧ w.cell? ⟨q, 4, none⟩ = some (.int .i64 (f 4)) ∧ w.cell? ⟨q, 5, none⟩ = some (.int .i64 (f 5)) ∧ w.cell? ⟨q, 6, none⟩ = some (.int .i64 (f 6)) ∧ w.cell? ⟨q, 7, none⟩ = some (.int .i64 (f 7)) ∧ w.cell? ⟨q, 8, none⟩ = some (.int .i64 (f 8))) ∧ w.cell? ⟨q, 9, none⟩ = some (.int .i64 (h 0)) ∧ w.cell? ⟨q, 10, none⟩ = some (.int .i64 (h 1)) ∧ w.cell? ⟨q, 11, none⟩ = some (.int .i64 (h 2)) :=
  ⟨⟨x.cell 0 rfl, x.cell 1 rfl, x.cell 2 rfl, x.cell 3 rfl, x.cell 4 rfl, x.cell 5 rfl, x.cell 6 rfl, x.cell 7 rfl, x.cell 8 rfl⟩, x.cell 9 rfl, x.cell 10 rfl, x.cell 11 rfl⟩
theorem ix53 (f : Nat → Int) (k : Nat) (hk : k < 9) (w : World) : (Instr.index 88 (.agg #[.int .i64 (f 0), .int .i64 (f 1), .int .i64 (f 2), .int .i64 (f 3), .int .i64 (f 4), .int .i64 (f 5), .int .i64 (f 6), .int .i64 (f 7), .int .i64 (f 8)]) (.int .i64 k)).run Tryz.prog w = .ok (.int .i64 (f k)) w := by
  rcases (by omega : k = 0 ∨ k = 1 ∨ k = 2 ∨ k = 3 ∨ k = 4 ∨ k = 5 ∨ k = 6 ∨ k = 7 ∨ k = 8) with rfl | rfl | rfl | rfl | rfl | rfl | rfl | rfl | rfl <;> kernel_rfl
theorem ix55 (h : Nat → Int) (k : Nat) (hk : k < 3) (w : World) : (Instr.index 66 (.agg #[.int .i64 (h 0), .int .i64 (h 1), .int .i64 (h 2)]) (.int .i64 k)).run Tryz.prog w = .ok (.int .i64 (h k)) w := by
  rcases (by omega : k = 0 ∨ k = 1 ∨ k = 2) with rfl | rfl | rfl <;> kernel_rfl
/-- The size of a number. -/
def mag (x : Int) : Int := if x < 0 then -x else x
theorem mag_any (x : Int) (w : World) (hx : -1000000000000000 ≤ x ∧ x ≤ 1000000000000000) : Calls Tryz.prog 102 #[.int .i64 x] w fun e w' => e = .returned (.int .i64 (mag x)) ∧ w = w' := by
  unfold mag
  go_enter Tryz.func102, Tryz.ntmps102
  go_wp2
  all_goals
    go_ret
    exact ⟨rfl, rfl⟩
theorem mag_one (x : Int) : (mag x == 1) = decide (x = 1 ∨ x = -1) := by
  unfold mag
  by_cases h : x < 0
  · rw [if_pos h]
    rw [Bool.eq_iff_iff]
    simp
    omega
  · rw [if_neg h]
    rw [Bool.eq_iff_iff]
    simp
    omega
theorem right_any (f h : Nat → Int) (w : World) : Calls Tryz.prog 94 #[.agg (opA f h)] w fun e w' => e = .returned (.bool (decide (isR f h))) ∧ Below w.heap.size w w' := by
  obtain ⟨W1, hW1, a1, bW1, -⟩ := boxed w 90 (opA f h)
  unfold opA at hW1 ⊢
  obtain ⟨⟨c0, c1, c2, c3, c4, c5, c6, c7, c8⟩, c9, c10, c11⟩ := a1.open12
  go_enter Tryz.func94, Tryz.ntmps94
  go_wp2
  go_loopw [9] (fun s wr => ∃ k : Nat, k ≤ 9 ∧ s = .int .i64 k ∧ W1 = wr ∧ ∀ i, i < k → -1 ≤ f i ∧ f i ≤ 1) (fun s _ => 9 - (intOf s).toNat)
  case atStart => exact ⟨0, Nat.zero_le _, rfl, rfl, fun i hi => by omega⟩
  case round =>
    obtain ⟨k, hk, rfl, rfl, hall⟩ := hrel
    by_cases hlt : k < 9
    · have hlt' : (k : Int) < 9 := by omega
      have hix := ix53 f k hlt
      have HA : Hid (∀ i, i < k → -1 ≤ f i ∧ f i ≤ 1) := hall
      clear hall
      by_cases hin : -1 ≤ f k ∧ f k ≤ 1
      · go_wp2_with (go_at_call 101; refine (within_any _ _ _ (by decide) (by decide)).mono ?_; rintro e w2 ⟨rfl, rfl⟩)
        refine ⟨⟨k + 1, by omega, by go_num, by trivial, fun i hi => ?_⟩, by simp [intOf]; omega⟩
        by_cases e : i = k
        · rw [e]; exact hin
        · exact HA.out i (by omega)
      · go_wp2_with (go_at_call 101; refine (within_any _ _ _ (by decide) (by decide)).mono ?_; rintro e w2 ⟨rfl, rfl⟩)
        go_ret
        refine ⟨?_, bW1⟩
        rw [decide_eq_false (show ¬ isR f h from fun h => hin (h.1 k hlt))]
        rfl
    · have hlt' : ¬ (k : Int) < 9 := by omega
      obtain rfl : k = 9 := by omega
      have HA : Hid (∀ i, i < 9 → -1 ≤ f i ∧ f i ≤ 1) := hall
      clear hall hk
      go_wp2
      go_loopw [18] (fun s wr => ∃ k : Nat, k ≤ 3 ∧ s = .int .i64 k ∧ W1 = wr ∧ ∀ i, i < k → 0 ≤ h i ∧ h i < 24) (fun s _ => 3 - (intOf s).toNat)
      case atStart => exact ⟨0, Nat.zero_le _, rfl, rfl, fun i hi => by omega⟩
      case round =>
        obtain ⟨k, hk, rfl, rfl, hall⟩ := hrel
        by_cases hlt : k < 3
        · have hlt' : (k : Int) < 3 := by omega
          have hix := ix55 h k hlt
          have HB : Hid (∀ i, i < k → 0 ≤ h i ∧ h i < 24) := hall
          clear hall
          by_cases hin0 : h k < 0
          · go_wp2
            go_ret
            refine ⟨?_, bW1⟩
            rw [decide_eq_false (show ¬ isR f h from fun x => by have := x.2.1 k hlt; omega)]
            rfl
          by_cases hin1 : 24 ≤ h k
          · go_wp2
            go_ret
            refine ⟨?_, bW1⟩
            rw [decide_eq_false (show ¬ isR f h from fun x => by have := x.2.1 k hlt; omega)]
            rfl
          · go_wp2
            refine ⟨⟨k + 1, by omega, by go_num, by trivial, fun i hi => ?_⟩, by simp [intOf]; omega⟩
            by_cases e : i = k
            · rw [e]; omega
            · exact HB.out i (by omega)
        · have hlt' : ¬ (k : Int) < 3 := by omega
          obtain rfl : k = 3 := by omega
          have hf : ∀ i, i < 9 → -1000 ≤ f i ∧ f i ≤ 1000 := fun i hi => by have := HA.out i hi; omega
          have hdet : ∀ w, Calls Tryz.prog 103 #[.agg (matA f)] w fun e w' => e = .returned (.int .i64 (det3 f)) ∧ Below w.heap.size w w' := det_any hf
          have hd := det_bound hf
          have hR : decide (isR f h) = (mag (det3 f) == 1) := by
            rw [mag_one, Bool.eq_iff_iff]
            simp only [decide_eq_true_eq]
            exact ⟨fun x => x.2.2, fun x => ⟨HA.out, hall, x⟩⟩
          have HR : Hid (decide (isR f h) = (mag (det3 f) == 1)) := hR
          unfold matA at hdet
          clear hall hR hf
          generalize det3 f = D at *
          go_wp2_with (first
            | (go_at_call 103; refine (hdet _).mono ?_; rintro e w2 ⟨rfl, b2⟩)
            | (go_at_call 102; refine (mag_any _ _ (by omega)).mono ?_; rintro e w3 ⟨rfl, rfl⟩))
          go_ret
          refine ⟨?_, bW1.trans (b2.mono bW1.size)⟩
          rw [HR.out]
          try rfl
end Go.Proofs.YtiocneailhplkaaGreat
/-
  Operators taken in by the program, walked.
-/
namespace Go.Proofs.YtiocneailhplkaaGreat
open Go.RowKit

theorem zero12 : opA (fun _ => 0) (fun _ => 0) = #[.int .i64 0, .int .i64 0, .int .i64 0, .int .i64 0, .int .i64 0, .int .i64 0, .int .i64 0, .int .i64 0, .int .i64 0, .int .i64 0, .int .i64 0, .int .i64 0] := rfl
theorem at53 (a : Option Addr) (cap : Nat) (w : World) : (Instr.arrayAt 88 (.slice a 9 cap)).run Tryz.prog w = .ok (.pointer a) w := run_arrayAt w 88 _ 9 a 9 cap Tryz.underlying88 (by decide)
theorem Ints.open3 {w : World} {b off : Nat} {f : Nat → Int} (h : Ints w b off 3 f) : w.cell? ⟨b, off, none⟩ = some (.int .i64 (f 0)) ∧ w.cell? ⟨b, off + 1, none⟩ = some (.int .i64 (f 1)) ∧ w.cell? ⟨b, off + 2, none⟩ = some (.int .i64 (f 2)) :=
  ⟨h 0 (by decide), h 1 (by decide), h 2 (by decide)⟩
theorem At.fro12 {t : TypeId} {w : World} {q : Nat} {vs : Array Value} (x : At t w q vs) : w.frozen? ⟨q, 0, none⟩ = false ∧ w.frozen? ⟨q, 1, none⟩ = false ∧ w.frozen? ⟨q, 2, none⟩ = false ∧ w.frozen? ⟨q, 3, none⟩ = false ∧ w.frozen? ⟨q, 4, none⟩ = false ∧ w.frozen? ⟨q, 5, none⟩ = false ∧ w.frozen? ⟨q, 6, none⟩ = false ∧ w.frozen? ⟨q, 7, none⟩ = false ∧ w.frozen? ⟨q, 8, none⟩ = false ∧ w.frozen? ⟨q, 9, none⟩ = false ∧ w.frozen? ⟨q, 10, none⟩ = false ∧ w.frozen? ⟨q, 11, none⟩ = false :=
  ⟨x.frozen 0, x.frozen 1, x.frozen 2, x.frozen 3, x.frozen 4, x.frozen 5, x.frozen 6, x.frozen 7, x.frozen 8, x.frozen 9, x.frozen 10, x.frozen 11⟩
/-- Twelve numbers stored at block q. -/
abbrev put12 (W : World) (q : Nat) (f h : Nat → Int) : World := ((((((((((((W.setCell ⟨q, 0, none⟩ (.int .i64 (f 0))).setCell ⟨q, 1, none⟩ (.int .i64 (f 1))).setCell ⟨q, 2, none⟩ (.int .i64 (f 2))).setCell ⟨q, 3, none⟩ (.int .i64 (f 3))).setCell ⟨q, 4, none⟩ (.int .i64 (f 4))).setCell ⟨q, 5, none⟩ (.int .i64 (f 5))).setCell ⟨q, 6, none⟩ (.int .i64 (f 6))).setCell ⟨q, 7, none⟩ (.int .i64 (f 7))).setCell ⟨q, 8, none⟩ (.int .i64 (f 8))).setCell ⟨q, 9, none⟩ (.int .i64 (h 0))).setCell ⟨q, 10, none⟩ (.int .i64 (h 1))).setCell ⟨q, 11, none⟩ (.int .i64 (h 2)))
theorem put12_at {t : TypeId} {W : World} {q : Nat} {f' h' : Nat → Int} (x : At t W q (opA f' h')) (f h : Nat → Int) : At t (put12 W q f h) q (opA f h) := by
  have := ((((((((((((x.set 0 (.int .i64 (f 0))).set 1 (.int .i64 (f 1))).set 2 (.int .i64 (f 2))).set 3 (.int .i64 (f 3))).set 4 (.int .i64 (f 4))).set 5 (.int .i64 (f 5))).set 6 (.int .i64 (f 6))).set 7 (.int .i64 (f 7))).set 8 (.int .i64 (f 8))).set 9 (.int .i64 (h 0))).set 10 (.int .i64 (h 1))).set 11 (.int .i64 (h 2)))
  simpa [opA] using this
theorem put12_below {w W : World} {n q : Nat} (x : Below n w W) (hq : n ≤ q) (f h : Nat → Int) : Below n w (put12 W q f h) := ((((((((((((x.setCell hq _).setCell hq _).setCell hq _).setCell hq _).setCell hq _).setCell hq _).setCell hq _).setCell hq _).setCell hq _).setCell hq _).setCell hq _).setCell hq _)
theorem put12_other {t : TypeId} {W : World} {p q : Nat} {vs : Array Value} (x : At t W p vs) (hp : p ≠ q) (f h : Nat → Int) : At t (put12 W q f h) p vs := ((((((((((((x.setOther hp _).setOther hp _).setOther hp _).setOther hp _).setOther hp _).setOther hp _).setOther hp _).setOther hp _).setOther hp _).setOther hp _).setOther hp _).setOther hp _)
set_option maxHeartbeats 1600000 in
theorem operatorOf_bad {w : World} (a b : Option Addr) (n cap k cap' : Nat) (hnk : ¬ (n = 9 ∧ k = 3)) :
    Calls Tryz.prog 81 #[.agg #[.slice a n cap, .slice b k cap']] w fun e w' => e = .returned (.tuple #[.agg (opA (fun _ => 0) (fun _ => 0)), .bool false]) ∧ Below w.heap.size w w' := by
  obtain ⟨W1, hW1, a1, bW1, -⟩ := boxed w 57 #[.slice a n cap, .slice b k cap']
  obtain ⟨W2, hW2, a2, bW2, -⟩ := boxed W1 90 (opA (fun _ => 0) (fun _ => 0))
  rw [zero12] at hW2
  have s1 := a1.lt
  replace a1 := a1.below bW2
  replace bW1 := bW1.trans (bW2.mono bW1.size)
  obtain ⟨c0, c1, -⟩ := a1.open2
  obtain ⟨⟨d0, d1, d2, d3, d4, d5, d6, d7, d8⟩, d9, d10, d11⟩ := a2.open12
  obtain ⟨f0, f1, f2, f3, f4, f5, f6, f7, f8, f9, f10, f11⟩ := a2.fro12
  obtain ⟨X, hX⟩ : ∃ X, put12 W2 W1.heap.size (fun _ => 0) (fun _ => 0) = X := ⟨_, rfl⟩
  have A3 : Hid (At 90 X W1.heap.size (opA (fun _ => 0) (fun _ => 0))) := hX ▸ put12_at a2 (fun _ => 0) (fun _ => 0)
  have B3 : Below w.heap.size w X := hX ▸ put12_below bW1 (Nat.le_of_lt s1) (fun _ => 0) (fun _ => 0)
  unfold put12 at hX
  dsimp only at hX
  have HX : Hid _ := hX
  clear hX
  by_cases h9 : (n : Int) = 9
  · have h3 : ¬ (k : Int) = 3 := by omega
    go_enter Tryz.func81, Tryz.ntmps81
    go_wp2
    have hX := HX.out
    rw [hX]
    obtain ⟨⟨p0, p1, p2, p3, p4, p5, p6, p7, p8⟩, p9, p10, p11⟩ := A3.out.open12
    exact bodyPost_ret (v := .tuple #[.agg (opA (fun _ => 0) (fun _ => 0)), .bool false]) (by simp [results, Tryz.results81, go_sem, opA, p0, p1, p2, p3, p4, p5, p6, p7, p8, p9, p10, p11]) rfl ⟨rfl, B3⟩
  · go_enter Tryz.func81, Tryz.ntmps81
    go_wp2
    have hX := HX.out
    rw [hX]
    obtain ⟨⟨p0, p1, p2, p3, p4, p5, p6, p7, p8⟩, p9, p10, p11⟩ := A3.out.open12
    exact bodyPost_ret (v := .tuple #[.agg (opA (fun _ => 0) (fun _ => 0)), .bool false]) (by simp [results, Tryz.results81, go_sem, opA, p0, p1, p2, p3, p4, p5, p6, p7, p8, p9, p10, p11]) rfl ⟨rfl, B3⟩
end Go.Proofs.YtiocneailhplkaaGreat
