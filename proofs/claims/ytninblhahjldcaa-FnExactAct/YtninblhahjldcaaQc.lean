/-
  Act by the program, walked.
-/
import Derived.Test.YtninblhahjldcaaQb
namespace Go.Proofs.Ytninblhahjldcaa
open Go.RowKit
/-- What Act tells. -/
def actT (n k : Nat) (f h : Nat → Int) (x y z : Int) : Value := if isOp n f k h ∧ inP x y z then .tuple #[.agg (vA (actV f h (p3 x y z))), .bool true] else .tuple #[.agg (vA fun _ => 0), .bool false]
set_option maxRecDepth 100000 in
set_option maxHeartbeats 1600000 in
theorem implAct_no1 {w : World} {a b : Option Addr} {n k : Nat} {f h : Nat → Int} (cap cap' : Nat) (hs : Src w a n f) (ht : Src w b k h) (x y z : Int) (h1 : ¬ isOp n f k h) :
    Calls Try.prog 22 #[.agg #[.slice a n cap, .slice b k cap'], pV x y z] w fun e w' => e = .returned (.tuple #[.agg (vA fun _ => 0), .bool false]) ∧ Below w.heap.size w w' := by
  obtain ⟨W1, hW1, a1, bW1, z1⟩ := boxed w 44 #[.slice a n cap, .slice b k cap']
  obtain ⟨W2, hW2, a2, bW2, z2⟩ := boxed W1 41 #[.int .i64 x, .int .i64 y, .int .i64 z]
  obtain ⟨W3, hW3, a3, bW3, z3⟩ := boxed W2 41 (vA fun _ => 0)
  rw [z1] at a2 bW2 z2
  rw [z2] at a3 bW3 z3
  replace a1 := (a1.belowN bW2 (by omega)).belowN bW3 (by omega)
  replace a2 := a2.belowN bW3 (by omega)
  have bW : Below w.heap.size w W3 := (bW1.trans (bW2.mono (by omega))).trans (bW3.mono (by omega))
  clear bW1 bW2 bW3
  replace hs := hs.below bW
  replace ht := ht.below bW
  obtain ⟨c0, c1, -⟩ := a1.open2
  obtain ⟨d0, d1, d2, -⟩ := a2.open3
  have ho := operatorOf_any cap cap' hs ht
  have hr := fun w => pright_any x y z w
  rw [decide_eq_false h1] at ho
  obtain ⟨F, hF⟩ : ∃ F, tf n k f = F := ⟨_, rfl⟩
  obtain ⟨H, hH⟩ : ∃ H, tf n k h = H := ⟨_, rfl⟩
  rw [hF, hH] at ho
  unfold opA at ho
  unfold pV at hr
  unfold vA at hW3
  unfold pV
  go_enter Try.func22, Try.ntmps22
  go_wp2_with fail
  refine ho.mono ?_
  rintro e w4 ⟨rfl, b4⟩
  replace a2 := a2.below b4
  replace a3 := a3.below b4
  have t4 : w.heap.size + 1 + 1 + 1 ≤ w4.heap.size := by have := b4.size; omega
  replace bW := bW.trans (b4.mono (by omega))
  clear c0 c1 d0 d1 d2 b4 hW1 hW2 hW3 z1 z2 z3 a1 hs ht ho
  obtain ⟨W5, hW5, a5, bW5, z5⟩ := boxed w4 80 (opA F H)
  replace a2 := a2.below bW5
  replace a3 := a3.below bW5
  replace bW := bW.trans (bW5.mono (by omega))
  obtain ⟨d0, d1, d2, -⟩ := a2.open3
  obtain ⟨c0, c1, c2, e0, e1, e2⟩ := At.open3 a3
  unfold opA at hW5
  go_wp2
  have hZ : At 41 _ _ (vA fun _ => 0) := put3e_at a3 (.int .i64 0) (.int .i64 0) (.int .i64 0)
  obtain ⟨q0, q1, q2, -⟩ := At.open3 hZ
  exact bodyPost_ret (v := .tuple #[.agg (vA fun _ => 0), .bool false]) (by simp [results, Try.results22, go_sem, q0, q1, q2]; rfl) rfl ⟨rfl, put3e_below bW (by omega) _ _ _⟩
set_option maxRecDepth 100000 in
set_option maxHeartbeats 1600000 in
theorem implAct_no2 {w : World} {a b : Option Addr} {n k : Nat} {f h : Nat → Int} (cap cap' : Nat) (hs : Src w a n f) (ht : Src w b k h) (x y z : Int) (h1 : isOp n f k h) (h2 : ¬ inP x y z) :
    Calls Try.prog 22 #[.agg #[.slice a n cap, .slice b k cap'], pV x y z] w fun e w' => e = .returned (.tuple #[.agg (vA fun _ => 0), .bool false]) ∧ Below w.heap.size w w' := by
  obtain ⟨W1, hW1, a1, bW1, z1⟩ := boxed w 44 #[.slice a n cap, .slice b k cap']
  obtain ⟨W2, hW2, a2, bW2, z2⟩ := boxed W1 41 #[.int .i64 x, .int .i64 y, .int .i64 z]
  obtain ⟨W3, hW3, a3, bW3, z3⟩ := boxed W2 41 (vA fun _ => 0)
  rw [z1] at a2 bW2 z2
  rw [z2] at a3 bW3 z3
  replace a1 := (a1.belowN bW2 (by omega)).belowN bW3 (by omega)
  replace a2 := a2.belowN bW3 (by omega)
  have bW : Below w.heap.size w W3 := (bW1.trans (bW2.mono (by omega))).trans (bW3.mono (by omega))
  clear bW1 bW2 bW3
  replace hs := hs.below bW
  replace ht := ht.below bW
  obtain ⟨c0, c1, -⟩ := a1.open2
  obtain ⟨d0, d1, d2, -⟩ := a2.open3
  have ho := operatorOf_any cap cap' hs ht
  have hr := fun w => pright_any x y z w
  rw [decide_eq_true h1] at ho
  rw [decide_eq_false h2] at hr
  obtain ⟨F, hF⟩ : ∃ F, tf n k f = F := ⟨_, rfl⟩
  obtain ⟨H, hH⟩ : ∃ H, tf n k h = H := ⟨_, rfl⟩
  rw [hF, hH] at ho
  unfold opA at ho
  unfold pV at hr
  unfold vA at hW3
  unfold pV
  go_enter Try.func22, Try.ntmps22
  go_wp2_with fail
  refine ho.mono ?_
  rintro e w4 ⟨rfl, b4⟩
  replace a2 := a2.below b4
  replace a3 := a3.below b4
  have t4 : w.heap.size + 1 + 1 + 1 ≤ w4.heap.size := by have := b4.size; omega
  replace bW := bW.trans (b4.mono (by omega))
  clear c0 c1 d0 d1 d2 b4 hW1 hW2 hW3 z1 z2 z3 a1 hs ht ho
  obtain ⟨W5, hW5, a5, bW5, z5⟩ := boxed w4 80 (opA F H)
  replace a2 := a2.below bW5
  replace a3 := a3.below bW5
  replace bW := bW.trans (bW5.mono (by omega))
  obtain ⟨d0, d1, d2, -⟩ := a2.open3
  obtain ⟨c0, c1, c2, e0, e1, e2⟩ := At.open3 a3
  unfold opA at hW5
  go_wp2_with (go_at_call 47; refine (hr _).mono ?_; rintro e w6 ⟨rfl, b6⟩; obtain ⟨c0, c1, c2, e0, e1, e2⟩ := At.open3 (a3.below b6))
  replace a3 := a3.below b6
  replace bW := bW.trans (b6.mono (by omega))
  have hZ : At 41 _ _ (vA fun _ => 0) := put3e_at a3 (.int .i64 0) (.int .i64 0) (.int .i64 0)
  obtain ⟨q0, q1, q2, -⟩ := At.open3 hZ
  exact bodyPost_ret (v := .tuple #[.agg (vA fun _ => 0), .bool false]) (by simp [results, Try.results22, go_sem, q0, q1, q2]; rfl) rfl ⟨rfl, put3e_below bW (by omega) _ _ _⟩
set_option maxRecDepth 100000 in
set_option maxHeartbeats 1600000 in
theorem implAct_yes {w : World} {a b : Option Addr} {n k : Nat} {f h : Nat → Int} (cap cap' : Nat) (hs : Src w a n f) (ht : Src w b k h) (x y z : Int) (h1 : isOp n f k h) (h2 : inP x y z) :
    Calls Try.prog 22 #[.agg #[.slice a n cap, .slice b k cap'], pV x y z] w fun e w' => e = .returned (.tuple #[.agg (vA (actV f h (p3 x y z))), .bool true]) ∧ Below w.heap.size w w' := by
  obtain ⟨W1, hW1, a1, bW1, z1⟩ := boxed w 44 #[.slice a n cap, .slice b k cap']
  obtain ⟨W2, hW2, a2, bW2, z2⟩ := boxed W1 41 #[.int .i64 x, .int .i64 y, .int .i64 z]
  obtain ⟨W3, hW3, a3, bW3, z3⟩ := boxed W2 41 (vA fun _ => 0)
  rw [z1] at a2 bW2 z2
  rw [z2] at a3 bW3 z3
  replace a1 := (a1.belowN bW2 (by omega)).belowN bW3 (by omega)
  replace a2 := a2.belowN bW3 (by omega)
  have bW : Below w.heap.size w W3 := (bW1.trans (bW2.mono (by omega))).trans (bW3.mono (by omega))
  clear bW1 bW2 bW3
  replace hs := hs.below bW
  replace ht := ht.below bW
  obtain ⟨c0, c1, -⟩ := a1.open2
  obtain ⟨d0, d1, d2, -⟩ := a2.open3
  have ho := operatorOf_any cap cap' hs ht
  have hr := fun w => pright_any x y z w
  rw [decide_eq_true h1] at ho
  rw [decide_eq_true h2] at hr
  obtain ⟨F, hF⟩ : ∃ F, tf n k f = F := ⟨_, rfl⟩
  obtain ⟨H, hH⟩ : ∃ H, tf n k h = H := ⟨_, rfl⟩
  rw [hF, hH] at ho
  unfold opA at ho
  unfold pV at hr
  unfold vA at hW3
  unfold pV
  go_enter Try.func22, Try.ntmps22
  go_wp2_with fail
  refine ho.mono ?_
  rintro e w4 ⟨rfl, b4⟩
  replace a2 := a2.below b4
  replace a3 := a3.below b4
  have t4 : w.heap.size + 1 + 1 + 1 ≤ w4.heap.size := by have := b4.size; omega
  replace bW := bW.trans (b4.mono (by omega))
  clear c0 c1 d0 d1 d2 b4 hW1 hW2 hW3 z1 z2 z3 a1 hs ht ho
  obtain ⟨W5, hW5, a5, bW5, z5⟩ := boxed w4 80 (opA F H)
  replace a2 := a2.below bW5
  replace a3 := a3.below bW5
  replace bW := bW.trans (bW5.mono (by omega))
  obtain ⟨d0, d1, d2, -⟩ := a2.open3
  obtain ⟨c0, c1, c2, e0, e1, e2⟩ := At.open3 a3
  unfold opA at hW5
  go_wp2_with (go_at_call 47; refine (hr _).mono ?_; rintro e w6 ⟨rfl, b6⟩; replace a2 := a2.below b6; replace a3 := a3.below b6; replace a5 := a5.below b6; replace bW := bW.trans (b6.mono (by omega)))
  clear c0 c1 c2 d0 d1 d2 e0 e1 e2
  obtain ⟨d0, d1, d2, -⟩ := a2.open3
  obtain ⟨⟨x0, x1, x2, x3, x4, x5, x6, x7, x8⟩, x9, x10, x11⟩ := a5.open12
  have eF : F = f := hF.symm.trans (if_pos ⟨h1.1, h1.2.1⟩)
  have eH : H = h := hH.symm.trans (if_pos ⟨h1.1, h1.2.1⟩)
  have hR := h1.2.2
  have t6 := b6.size
  subst eF eH
  go_region_with (first | (go_at_call 48; refine (deed_any F H _).mono ?_; rintro e w7 ⟨rfl, A7, z7, b7⟩; unfold dV; have A2 := At.below (w := w6.drew) a2 b7; have A3 := At.below (w := w6.drew) a3 b7; have t7 := b7.size; have BW := Below.trans bW.drew (b7.mono bW.drew.size); obtain ⟨D0, D1, D2, -⟩ := At.open3 A2) | (go_at_call 63; refine (deed1_any hR h2 A7).mono ?_; rintro e w8 ⟨rfl, b8⟩; have A4 := At.below A3 b8; have BX := Below.trans BW (b8.mono BW.size); obtain ⟨C0, C1, C2, E0, E1, E2⟩ := At.open3 A4; unfold vA))
  all_goals
    go_wp2
    have hZ : At 41 _ _ (vA (actV F H (p3 x y z))) := put3e_at A4 (.int .i64 (actV F H (p3 x y z) 0)) (.int .i64 (actV F H (p3 x y z) 1)) (.int .i64 (actV F H (p3 x y z) 2))
    obtain ⟨q0, q1, q2, -⟩ := At.open3 hZ
    exact bodyPost_ret (v := .tuple #[.agg (vA (actV F H (p3 x y z))), .bool true]) (by simp [results, Try.results22, go_sem, q0, q1, q2]; rfl) rfl ⟨rfl, put3e_below BX (by omega) _ _ _⟩
theorem implAct_any {w : World} {a b : Option Addr} {n k : Nat} {f h : Nat → Int} (cap cap' : Nat) (hs : Src w a n f) (ht : Src w b k h) (x y z : Int) :
    Calls Try.prog 22 #[.agg #[.slice a n cap, .slice b k cap'], pV x y z] w fun e w' => e = .returned (actT n k f h x y z) ∧ Below w.heap.size w w' := by
  by_cases h1 : isOp n f k h
  · by_cases h2 : inP x y z
    · rw [show actT n k f h x y z = _ from if_pos ⟨h1, h2⟩]; exact implAct_yes cap cap' hs ht x y z h1 h2
    · rw [show actT n k f h x y z = _ from if_neg fun t => h2 t.2]; exact implAct_no2 cap cap' hs ht x y z h1 h2
  · rw [show actT n k f h x y z = _ from if_neg fun t => h1 t.1]; exact implAct_no1 cap cap' hs ht x y z h1
end Go.Proofs.Ytninblhahjldcaa
