/-
  Act by the specification; points taken over and compared.
-/
import Derived.Test.YtninblhahjldcaaQc
import Derived.Test.YtninblhahjldcaaQd
namespace Go.Proofs.Ytninblhahjldcaa
open Go.RowKit
theorem toPoint_any (x y z : Int) (w : World) : Calls Try.prog 21 #[pV x y z] w fun e w' => e = .returned (pV x y z) ∧ Below w.heap.size w w' := by
  obtain ⟨W1, hW1, a1, bW1, z1⟩ := boxed w 39 #[.int .i64 x, .int .i64 y, .int .i64 z]
  obtain ⟨W2, hW2, a2, bW2, z2⟩ := boxed W1 41 #[.int .i64 0, .int .i64 0, .int .i64 0]
  obtain ⟨W3, hW3, a3, bW3, z3⟩ := boxed W2 41 #[.int .i64 0, .int .i64 0, .int .i64 0]
  rw [z1] at a2 bW2 z2
  rw [z2] at a3 bW3 z3
  replace a1 := (a1.belowN bW2 (by omega)).belowN bW3 (by omega)
  replace a2 := a2.belowN bW3 (by omega)
  have bW : Below w.heap.size w W3 := (bW1.trans (bW2.mono (by omega))).trans (bW3.mono (by omega))
  clear bW1 bW2 bW3
  obtain ⟨c0, c1, c2, -⟩ := a1.open3
  obtain ⟨d0, d1, d2, f0, f1, f2⟩ := At.open3 a2
  obtain ⟨g0, g1, g2, h0, h1, h2⟩ := At.open3 a3
  unfold pV
  go_enter Try.func21, Try.ntmps21
  go_wp2
  have A2 := (((a2.setOther (p := w.heap.size + 1 + 1) (i := 0) (by omega) (.int .i64 x)).setOther (p := w.heap.size + 1 + 1) (i := 1) (by omega) (.int .i64 y)).setOther (p := w.heap.size + 1 + 1) (i := 2) (by omega) (.int .i64 z))
  obtain ⟨q0, q1, q2, -⟩ := At.open3 (put3e_at A2 (.int .i64 x) (.int .i64 y) (.int .i64 z))
  exact bodyPost_ret (v := .agg #[.int .i64 x, .int .i64 y, .int .i64 z]) (by simp [results, Try.results21, go_sem, q0, q1, q2]) rfl ⟨rfl, put3e_below (put3e_below bW (by omega) _ _ _) (by omega) _ _ _⟩
theorem eqPoint_any (x y z : Int) (w : World) : Calls Try.prog 23 #[pV x y z, pV x y z] w fun e w' => e = .returned (.bool true) ∧ Below w.heap.size w w' := by
  obtain ⟨W1, hW1, a1, bW1, z1⟩ := boxed w 41 #[.int .i64 x, .int .i64 y, .int .i64 z]
  obtain ⟨W2, hW2, a2, bW2, z2⟩ := boxed W1 41 #[.int .i64 x, .int .i64 y, .int .i64 z]
  rw [z1] at a2 bW2 z2
  replace a1 := a1.belowN bW2 (by omega)
  replace bW1 := bW1.trans (bW2.mono (by omega))
  obtain ⟨c0, c1, c2, -⟩ := a1.open3
  obtain ⟨d0, d1, d2, -⟩ := a2.open3
  unfold pV
  go_enter Try.func23, Try.ntmps23
  go_wp2
  go_ret
  exact ⟨rfl, bW1⟩
set_option maxRecDepth 100000 in
set_option maxHeartbeats 1600000 in
theorem specAct_no1 {w : World} {a b : Option Addr} {n k : Nat} {f h : Nat → Int} (cap cap' : Nat) (hs : Src w a n f) (ht : Src w b k h) (x y z : Int) (h1 : ¬ isOp n f k h) :
    Calls Try.prog 19 #[.agg #[.slice a n cap, .slice b k cap'], pV x y z] w fun e w' => e = .returned (.tuple #[.agg (vA fun _ => 0), .bool false]) ∧ Below w.heap.size w w' := by
  obtain ⟨W1, hW1, a1, bW1, z1⟩ := boxed w 44 #[.slice a n cap, .slice b k cap']
  obtain ⟨W2, hW2, a2, bW2, z2⟩ := boxed W1 41 #[.int .i64 x, .int .i64 y, .int .i64 z]
  obtain ⟨W3, hW3, a3, bW3, z3⟩ := boxed W2 41 (vA fun _ => 0)
  rw [z1] at a2 bW2 z2
  rw [z2] at a3 bW3 z3
  replace a1 := (a1.belowN bW2 (by omega)).belowN bW3 (by omega)
  replace a2 := a2.belowN bW3 (by omega)
  have bW : Below w.heap.size w W3 := (bW1.trans (bW2.mono (by omega))).trans (bW3.mono (by omega))
  clear bW1 bW2 bW3
  obtain ⟨c0, c1, -⟩ := a1.open2
  obtain ⟨d0, d1, d2, -⟩ := a2.open3
  have ho := specOk_any cap cap' (hs.below bW) (ht.below bW)
  have hr := fun w => l5Point_any x y z w
  rw [decide_eq_false h1] at ho
  unfold pV at hr
  unfold vA at hW3
  unfold pV
  go_enter Try.func19, Try.ntmps19
  go_wp2_with fail
  refine ho.mono ?_
  rintro e w4 ⟨rfl, b4⟩
  replace a1 := a1.below b4
  replace a2 := a2.below b4
  replace a3 := a3.below b4
  have t4 : w.heap.size + 1 + 1 + 1 ≤ w4.heap.size := by have := b4.size; omega
  replace bW := bW.trans (b4.mono (by omega))
  clear c0 c1 d0 d1 d2 b4 hW1 hW2 hW3 z1 z2 z3 ho
  obtain ⟨c0, c1, -⟩ := a1.open2
  obtain ⟨d0, d1, d2, -⟩ := a2.open3
  obtain ⟨x0, x1, x2, e0, e1, e2⟩ := At.open3 a3
  go_wp2
  have hZ : At 41 _ _ (vA fun _ => 0) := put3e_at a3 (.int .i64 0) (.int .i64 0) (.int .i64 0)
  obtain ⟨q0, q1, q2, -⟩ := At.open3 hZ
  exact bodyPost_ret (v := .tuple #[.agg (vA fun _ => 0), .bool false]) (by simp [results, Try.results19, go_sem, q0, q1, q2]; rfl) rfl ⟨rfl, put3e_below bW (by omega) _ _ _⟩
set_option maxRecDepth 100000 in
set_option maxHeartbeats 1600000 in
theorem specAct_no2 {w : World} {a b : Option Addr} {n k : Nat} {f h : Nat → Int} (cap cap' : Nat) (hs : Src w a n f) (ht : Src w b k h) (x y z : Int) (h1 : isOp n f k h) (h2 : ¬ inP x y z) :
    Calls Try.prog 19 #[.agg #[.slice a n cap, .slice b k cap'], pV x y z] w fun e w' => e = .returned (.tuple #[.agg (vA fun _ => 0), .bool false]) ∧ Below w.heap.size w w' := by
  obtain ⟨W1, hW1, a1, bW1, z1⟩ := boxed w 44 #[.slice a n cap, .slice b k cap']
  obtain ⟨W2, hW2, a2, bW2, z2⟩ := boxed W1 41 #[.int .i64 x, .int .i64 y, .int .i64 z]
  obtain ⟨W3, hW3, a3, bW3, z3⟩ := boxed W2 41 (vA fun _ => 0)
  rw [z1] at a2 bW2 z2
  rw [z2] at a3 bW3 z3
  replace a1 := (a1.belowN bW2 (by omega)).belowN bW3 (by omega)
  replace a2 := a2.belowN bW3 (by omega)
  have bW : Below w.heap.size w W3 := (bW1.trans (bW2.mono (by omega))).trans (bW3.mono (by omega))
  clear bW1 bW2 bW3
  obtain ⟨c0, c1, -⟩ := a1.open2
  obtain ⟨d0, d1, d2, -⟩ := a2.open3
  have ho := specOk_any cap cap' (hs.below bW) (ht.below bW)
  have hr := fun w => l5Point_any x y z w
  rw [decide_eq_true h1] at ho
  rw [decide_eq_false h2] at hr
  unfold pV at hr
  unfold vA at hW3
  unfold pV
  go_enter Try.func19, Try.ntmps19
  go_wp2_with fail
  refine ho.mono ?_
  rintro e w4 ⟨rfl, b4⟩
  replace a1 := a1.below b4
  replace a2 := a2.below b4
  replace a3 := a3.below b4
  have t4 : w.heap.size + 1 + 1 + 1 ≤ w4.heap.size := by have := b4.size; omega
  replace bW := bW.trans (b4.mono (by omega))
  clear c0 c1 d0 d1 d2 b4 hW1 hW2 hW3 z1 z2 z3 ho
  obtain ⟨c0, c1, -⟩ := a1.open2
  obtain ⟨d0, d1, d2, -⟩ := a2.open3
  obtain ⟨x0, x1, x2, e0, e1, e2⟩ := At.open3 a3
  go_wp2_with (go_at_call 43; refine (hr _).mono ?_; rintro e w6 ⟨rfl, b6⟩; obtain ⟨c0, c1, c2, e0, e1, e2⟩ := At.open3 (a3.below b6))
  replace a3 := a3.below b6
  replace bW := bW.trans (b6.mono (by omega))
  have hZ : At 41 _ _ (vA fun _ => 0) := put3e_at a3 (.int .i64 0) (.int .i64 0) (.int .i64 0)
  obtain ⟨q0, q1, q2, -⟩ := At.open3 hZ
  exact bodyPost_ret (v := .tuple #[.agg (vA fun _ => 0), .bool false]) (by simp [results, Try.results19, go_sem, q0, q1, q2]; rfl) rfl ⟨rfl, put3e_below bW (by omega) _ _ _⟩
set_option maxRecDepth 100000 in
set_option maxHeartbeats 1600000 in
theorem specAct_yes {w : World} {a b : Option Addr} {n k : Nat} {f h : Nat → Int} (cap cap' : Nat) (hs : Src w a n f) (ht : Src w b k h) (x y z : Int) (h1 : isOp n f k h) (h2 : inP x y z) :
    Calls Try.prog 19 #[.agg #[.slice a n cap, .slice b k cap'], pV x y z] w fun e w' => e = .returned (.tuple #[.agg (vA (actV f h (p3 x y z))), .bool true]) ∧ Below w.heap.size w w' := by
  obtain ⟨W1, hW1, a1, bW1, z1⟩ := boxed w 44 #[.slice a n cap, .slice b k cap']
  obtain ⟨W2, hW2, a2, bW2, z2⟩ := boxed W1 41 #[.int .i64 x, .int .i64 y, .int .i64 z]
  obtain ⟨W3, hW3, a3, bW3, z3⟩ := boxed W2 41 (vA fun _ => 0)
  rw [z1] at a2 bW2 z2
  rw [z2] at a3 bW3 z3
  replace a1 := (a1.belowN bW2 (by omega)).belowN bW3 (by omega)
  replace a2 := a2.belowN bW3 (by omega)
  have bW : Below w.heap.size w W3 := (bW1.trans (bW2.mono (by omega))).trans (bW3.mono (by omega))
  clear bW1 bW2 bW3
  obtain ⟨c0, c1, -⟩ := a1.open2
  obtain ⟨d0, d1, d2, -⟩ := a2.open3
  have ho := specOk_any cap cap' (hs.below bW) (ht.below bW)
  have hr := fun w => l5Point_any x y z w
  rw [decide_eq_true h1] at ho
  rw [decide_eq_true h2] at hr
  obtain ⟨rfl, rfl, hR⟩ := h1
  rcases hs with h0 | ⟨b1, o1, rfl, l1, r1⟩
  · omega
  rcases ht with h0 | ⟨b2, o2, rfl, l2, r2⟩
  · omega
  unfold pV at hr
  unfold vA at hW3
  unfold pV
  go_enter Try.func19, Try.ntmps19
  go_wp2_with fail
  refine ho.mono ?_
  rintro e w4 ⟨rfl, b4⟩
  replace a1 := a1.below b4
  replace a2 := a2.below b4
  replace a3 := a3.below b4
  have t4 : w.heap.size + 1 + 1 + 1 ≤ w4.heap.size := by have := b4.size; omega
  replace bW := bW.trans (b4.mono (by omega))
  clear c0 c1 d0 d1 d2 b4 hW1 hW2 hW3 z1 z2 z3 ho
  obtain ⟨c0, c1, -⟩ := a1.open2
  obtain ⟨d0, d1, d2, -⟩ := a2.open3
  obtain ⟨x0, x1, x2, e0, e1, e2⟩ := At.open3 a3
  go_wp2_with (go_at_call 43; refine (hr _).mono ?_; rintro e w6 ⟨rfl, b6⟩; replace a1 := a1.below b6; replace a2 := a2.below b6; replace a3 := a3.below b6; replace bW := bW.trans (b6.mono (by omega)); clear c0 c1 d0 d1 d2 x0 x1 x2 e0 e1 e2; obtain ⟨c0, c1, -⟩ := a1.open2; obtain ⟨d0, d1, d2, -⟩ := a2.open3)
  refine (l5Act_any cap cap' (r1.below l1 bW) (r2.below l2 bW) (Nat.lt_of_lt_of_le l1 bW.size) (Nat.lt_of_lt_of_le l2 bW.size) hR h2).mono ?_
  rintro e w8 ⟨rfl, b8⟩
  replace a3 := a3.below b8
  replace bW := bW.trans (b8.mono bW.size)
  clear c0 c1 d0 d1 d2
  obtain ⟨x0, x1, x2, e0, e1, e2⟩ := At.open3 a3
  unfold vA
  go_wp2
  have hZ : At 41 _ _ (vA (actV f h (p3 x y z))) := put3e_at a3 (.int .i64 (actV f h (p3 x y z) 0)) (.int .i64 (actV f h (p3 x y z) 1)) (.int .i64 (actV f h (p3 x y z) 2))
  obtain ⟨q0, q1, q2, -⟩ := At.open3 hZ
  exact bodyPost_ret (v := .tuple #[.agg (vA (actV f h (p3 x y z))), .bool true]) (by simp [results, Try.results19, go_sem, q0, q1, q2]; rfl) rfl ⟨rfl, put3e_below bW (by omega) _ _ _⟩
theorem specAct_any {w : World} {a b : Option Addr} {n k : Nat} {f h : Nat → Int} (cap cap' : Nat) (hs : Src w a n f) (ht : Src w b k h) (x y z : Int) :
    Calls Try.prog 19 #[.agg #[.slice a n cap, .slice b k cap'], pV x y z] w fun e w' => e = .returned (actT n k f h x y z) ∧ Below w.heap.size w w' := by
  by_cases h1 : isOp n f k h
  · by_cases h2 : inP x y z
    · rw [show actT n k f h x y z = _ from if_pos ⟨h1, h2⟩]; exact specAct_yes cap cap' hs ht x y z h1 h2
    · rw [show actT n k f h x y z = _ from if_neg fun t => h2 t.2]; exact specAct_no2 cap cap' hs ht x y z h1 h2
  · rw [show actT n k f h x y z = _ from if_neg fun t => h1 t.1]; exact specAct_no1 cap cap' hs ht x y z h1
end Go.Proofs.Ytninblhahjldcaa
