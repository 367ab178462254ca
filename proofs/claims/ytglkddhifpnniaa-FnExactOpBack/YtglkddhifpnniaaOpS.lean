/-
  The law on ways back of operators, walked.
-/
import Derived.Test.YtglkddhifpnniaaE9b
import Derived.Test.YtglkddhifpnniaaOpP
import Derived.Test.YtglkddhifpnniaaOpT
namespace Go.Proofs.Ytglkddhifpnniaa
open Go.RowKit

set_option maxRecDepth 100000 in
set_option maxHeartbeats 4000000 in
theorem exactOpBack_walk {w : World} {a b : Option Addr} {n k cap cap' : Nat} {f h : Nat → Int} (hs : Src w a n f) (ht : Src w b k h) (hn : n ≤ maxLen) (hk : k ≤ maxLen) :
    Calls Try.prog 4 #[.agg #[.slice a n cap, .slice b k cap']] w fun e w' => e = .returned (.bool true) ∧ Below w.heap.size w w' := by
  obtain ⟨p, hp⟩ : ∃ p, decide (backOk n f k h) = p := ⟨_, rfl⟩
  obtain ⟨N, hN⟩ : ∃ N : Nat, (if p then 9 else 0) = N := ⟨_, rfl⟩
  obtain ⟨K, hK⟩ : ∃ N : Nat, (if p then 3 else 0) = N := ⟨_, rfl⟩
  have hN9 : N ≤ 9 := by rw [← hN]; split <;> omega
  have hK9 : K ≤ 3 := by rw [← hK]; split <;> omega
  have hpp : (p != p) = false := by cases p <;> rfl
  obtain ⟨W1, hW1, b_A, B, -⟩ := boxed w 24 #[.slice a n cap, .slice b k cap']
  have q_A := b_A.lt
  go_enter Try.func4, Try.ntmps4
  obtain ⟨c00, c01, -⟩ := b_A.open2
  go_wp2_with fail
  refine (szOp_any a b n cap k cap' 1048576 _ hn hk (by omega)).mono ?_
  rintro e w3 ⟨rA, rfl, hrA, BB⟩
  clear c00 c01 hW1
  replace b_A := b_A.below BB
  have zw3 := BB.size
  replace B := B.trans (BB.mono B.size)
  clear BB
  rcases hrA with rfl | ⟨hrA, hrA0⟩
  · go_wp2
    go_ret
    exact ⟨rfl, B⟩
  replace hrA : (n : Int) + k + rA ≤ 1048576 := by omega
  have hrA1 : ¬ rA < 0 := by omega
  have hn1 : n ≤ 1048576 := by omega
  have hk1 : k ≤ 1048576 := by omega
  have h200 : n + k ≤ 1048576 := by omega
  clear hrA
  have hN1 : N ≤ 1048576 := by omega
  have hK1 : K ≤ 1048576 := by omega
  obtain ⟨c00, c01, -⟩ := b_A.open2
  go_wp2_with fail
  refine (toOp_any (hs.below B) (ht.below B) hn1 hk1).mono ?_
  rintro e w4 ⟨o, rfl, o_tw0, BB⟩
  clear c00 c01
  replace b_A := b_A.below BB
  have zw4 := BB.size
  replace B := B.trans (BB.mono B.size)
  clear BB
  obtain ⟨dt, et, gt, it, rfl, -, -⟩ := o_tw0.src
  go_wp2_with fail
  refine (specBack_any _ _ o_tw0.srcs.1 o_tw0.srcs.2).mono ?_
  rintro e w5 ⟨o, rfl, o_w0, BB⟩
  replace b_A := b_A.below BB
  have zw5 := BB.size
  replace B := B.trans (BB.mono B.size)
  clear BB
  clear o_tw0
  rw [hp] at o_w0 ⊢
  unfold Told at o_w0
  rw [hN, hK] at o_w0
  obtain ⟨dw0, ew0, gw0, iw0, rfl, -, -⟩ := o_w0.src
  obtain ⟨Xw0, hXw0, w6, hYw0, b_w0, BB, xw00, xw01, yw00, yw01⟩ := boxed2 w5 (.slice dw0 N ew0) (.slice gw0 K iw0)
  replace b_A := b_A.below BB
  replace o_w0 := o_w0.below BB
  have zw6 := BB.size
  replace B := B.trans (BB.mono B.size)
  clear BB
  have q_w0 := b_w0.lt
  obtain ⟨c00, c01, -⟩ := b_A.open2
  go_wp2_with fail
  refine (toOp_any (hs.below B) (ht.below B) hn1 hk1).mono ?_
  rintro e w7 ⟨o, rfl, o_x0, BB⟩
  clear c00 c01 hXw0 hYw0 xw00 xw01 yw00 yw01
  replace b_A := b_A.below BB
  replace b_w0 := b_w0.below BB
  replace o_w0 := o_w0.below BB
  have zw7 := BB.size
  replace B := B.trans (BB.mono B.size)
  clear BB
  obtain ⟨dx0, ex0, gx0, ix0, rfl, -, -⟩ := o_x0.src
  obtain ⟨Xx0, hXx0, w8, hYx0, b_x0, BB, xx00, xx01, yx00, yx01⟩ := boxed2 w7 (.slice dx0 n ex0) (.slice gx0 k ix0)
  replace b_A := b_A.below BB
  replace b_w0 := b_w0.below BB
  replace o_w0 := o_w0.below BB
  replace o_x0 := o_x0.below BB
  have zw8 := BB.size
  replace B := B.trans (BB.mono B.size)
  clear BB
  have q_x0 := b_x0.lt
  obtain ⟨c00, c01, -⟩ := b_x0.open2
  go_wp2_with fail
  refine (implBack_any _ _ o_x0.srcs.1 o_x0.srcs.2).mono ?_
  rintro e w9 ⟨o, rfl, o_g0, BB⟩
  clear c00 c01 hXx0 hYx0 xx00 xx01 yx00 yx01
  replace b_A := b_A.below BB
  replace b_w0 := b_w0.below BB
  replace b_x0 := b_x0.below BB
  replace o_w0 := o_w0.below BB
  replace o_x0 := o_x0.below BB
  have zw9 := BB.size
  replace B := B.trans (BB.mono B.size)
  clear BB
  rw [hp] at o_g0 ⊢
  unfold Told at o_g0
  rw [hN, hK] at o_g0
  obtain ⟨dg0, eg0, gg0, ig0, rfl, -, -⟩ := o_g0.src
  obtain ⟨Xg0, hXg0, w10, hYg0, b_g0, BB, xg00, xg01, yg00, yg01⟩ := boxed2 w9 (.slice dg0 N eg0) (.slice gg0 K ig0)
  replace b_A := b_A.below BB
  replace b_w0 := b_w0.below BB
  replace b_x0 := b_x0.below BB
  replace o_w0 := o_w0.below BB
  replace o_x0 := o_x0.below BB
  replace o_g0 := o_g0.below BB
  have zw10 := BB.size
  replace B := B.trans (BB.mono B.size)
  clear BB
  have q_g0 := b_g0.lt
  obtain ⟨c00, c01, -⟩ := b_g0.open2
  obtain ⟨c10, c11, -⟩ := b_w0.open2
  go_wp2_with fail
  refine (eqOp_true o_g0 o_w0 hN1 hK1).mono ?_
  rintro e w11 ⟨rfl, BB⟩
  clear c00 c01 c10 c11 hXg0 hYg0 xg00 xg01 yg00 yg01
  replace b_A := b_A.below BB
  replace b_w0 := b_w0.below BB
  replace b_x0 := b_x0.below BB
  replace b_g0 := b_g0.below BB
  replace o_w0 := o_w0.below BB
  replace o_x0 := o_x0.below BB
  replace o_g0 := o_g0.below BB
  have zw11 := BB.size
  replace B := B.trans (BB.mono B.size)
  clear BB
  go_wp2_with fail
  obtain ⟨u0, hu0, A1, A7, O7, Z⟩ : ∃ u0, w11.drew = u0 ∧ At 24 u0 w.heap.size #[.slice a n cap, .slice b k cap'] ∧ At 26 u0 w7.heap.size #[.slice dx0 n ex0, .slice gx0 k ix0] ∧ OpAt u0 w6.heap.size w7.heap.size (.agg #[.slice dx0 n ex0, .slice gx0 k ix0]) n f k h ∧ Below w11.heap.size w11 u0 := ⟨_, rfl, b_A, b_x0, o_x0.below (Below.refl _ _).drew, (Below.refl _ _).drew⟩
  refine wp_region_held_drew (S := Two2 w.heap.size (.slice a n cap) (.slice b k cap') w7.heap.size (.slice dx0 n ex0) (.slice gx0 k ix0)) (by kernel_rfl) (by rw [hu0]; exact two2_mk A1 A7) (fun hHeld => ?_)
  rw [hu0] at hHeld ⊢
  clear hu0
  change wpAnyH _ _ _ _ _ 5 #[false, false, false, false, false] _ _
  refine wpAnyH_take (i := 0) (v := .agg #[.slice dx0 n ex0, .slice gx0 k ix0]) rfl (by kernel_rfl) (by kernel_rfl) (by kernel_rfl) (fun _ _ _ h => h) (Or.inl ⟨by kernel_rfl, ?_⟩) hHeld ?_
  · intro w' hSw; obtain ⟨-, -, z0, z1⟩ := hSw; go_simp
  try simp only [Act.put, List.setIfInBounds_toArray, List.set_cons_zero]
  refine wpAnyH_take (i := 1) (v := .agg #[.slice a n cap, .slice b k cap']) rfl (by kernel_rfl) (by kernel_rfl) (by kernel_rfl) (fun _ _ _ h => h) (Or.inl ⟨by kernel_rfl, ?_⟩) hHeld ?_
  · intro w' hSw; obtain ⟨z0, z1, -, -⟩ := hSw; go_simp
  try simp only [Act.put, List.setIfInBounds_toArray, List.set_cons_zero, List.set_cons_succ]
  refine wpAnyH_ready (rs := [2]) (by kernel_rfl) (by simp) ?_
  refine AllReadyH.cons rfl (fun KK hK' => ?_) AllReadyH.nil
  go_simp
  refine (toOp_any (hs.below (B.trans (Z.mono B.size))) (ht.below (B.trans (Z.mono B.size))) hn1 hk1).mono ?_
  rintro e w12 ⟨o9, rfl, O9, b'⟩
  replace A1 := A1.below b'
  replace A7 := A7.below b'
  replace O7 := O7.below b'
  replace Z := Z.trans (b'.mono Z.size)
  clear b'
  try go_wp2_with fail
  clear hHeld
  refine hK'.out _ _ (two2_mk A1 A7) (fun hHeld => ?_)
  clear hK' KK
  try simp only [List.setIfInBounds_toArray, List.set_cons_zero, List.set_cons_succ]
  refine wpAnyH_ready (rs := [3]) (by kernel_rfl) (by simp) ?_
  refine AllReadyH.cons rfl (fun KK hK' => ?_) AllReadyH.nil
  go_simp
  refine (eqOp_true O7 O9 hn1 hk1).mono ?_
  rintro e w13 ⟨rfl, b'⟩
  replace A1 := A1.below b'
  replace A7 := A7.below b'
  replace O7 := O7.below b'
  replace Z := Z.trans (b'.mono Z.size)
  clear b'
  try go_wp2_with fail
  clear hHeld
  refine hK'.out _ _ (two2_mk A1 A7) (fun hHeld => ?_)
  clear hK' KK
  try simp only [List.setIfInBounds_toArray, List.set_cons_zero, List.set_cons_succ]
  refine wpAnyH_ready (rs := [4]) (by kernel_rfl) (by simp) ?_
  refine AllReadyH.cons rfl (fun KK hK' => ?_) AllReadyH.nil
  go_simp
  clear hHeld
  refine hK'.out _ _ (two2_mk A1 A7) (fun hHeld => ?_)
  clear hK' KK
  try simp only [List.setIfInBounds_toArray, List.set_cons_zero, List.set_cons_succ]
  refine wpAnyH_done (by kernel_rfl) ?_ _
  clear hHeld A1 A7 O7 O9
  replace b_A := b_A.below Z
  replace b_w0 := b_w0.below Z
  replace b_x0 := b_x0.below Z
  replace b_g0 := b_g0.below Z
  replace o_w0 := o_w0.below Z
  replace o_x0 := o_x0.below Z
  replace o_g0 := o_g0.below Z
  have zw13 := Z.size
  replace B := B.trans (Z.mono B.size)
  clear Z
  obtain ⟨c00, c01, -⟩ := b_x0.open2
  go_wp2_with fail
  refine (markOp_any o_x0 hn1 hk1 1 (by omega) (by omega)).mono ?_
  rintro e w14 ⟨rfl, o_x0', TT⟩
  clear c00 c01
  replace b_A := b_A.turn TT (by omega)
  replace b_w0 := b_w0.turn TT (by omega)
  replace b_x0 := b_x0.turn TT (by omega)
  replace b_g0 := b_g0.turn TT (by omega)
  replace o_w0 := o_w0.turn TT (by omega)
  replace o_g0 := o_g0.turn TT (by omega)
  clear o_x0
  have o_x0 := o_x0'
  clear o_x0'
  have zw14 := TT.size
  replace B := TT.below B (by omega) (by omega)
  clear TT
  obtain ⟨k0, hk0⟩ : ∃ x : Nat, 1 + n + k = x := ⟨_, rfl⟩
  rw [hk0]
  have hkk : k0 ≤ 2000000 := by omega
  have hkn : ¬ (k0 : Int) < 0 := by omega
  clear hk0
  obtain ⟨c00, c01, -⟩ := b_g0.open2
  obtain ⟨c10, c11, -⟩ := b_w0.open2
  go_wp2_with fail
  refine (eqOp_true o_g0 o_w0 hN1 hK1).mono ?_
  rintro e w15 ⟨rfl, BB⟩
  clear c00 c01 c10 c11
  replace b_A := b_A.below BB
  replace b_w0 := b_w0.below BB
  replace b_x0 := b_x0.below BB
  replace b_g0 := b_g0.below BB
  replace o_w0 := o_w0.below BB
  replace o_x0 := o_x0.below BB
  replace o_g0 := o_g0.below BB
  have zw15 := BB.size
  replace B := B.trans (BB.mono B.size)
  clear BB
  obtain ⟨c00, c01, -⟩ := b_g0.open2
  go_wp2_with fail
  refine (markOp_any o_g0 hN1 hK1 1 (by omega) (by omega)).mono ?_
  rintro e w16 ⟨rfl, o_g0', TT⟩
  clear c00 c01
  replace b_A := b_A.turn TT (by omega)
  replace b_w0 := b_w0.turn TT (by omega)
  replace b_x0 := b_x0.turn TT (by omega)
  replace b_g0 := b_g0.turn TT (by omega)
  replace o_w0 := o_w0.turn TT (by omega)
  replace o_x0 := o_x0.turn TT (by omega)
  clear o_g0
  have o_g0 := o_g0'
  clear o_g0'
  have zw16 := TT.size
  replace B := TT.below B (by omega) (by omega)
  clear TT
  obtain ⟨M, hM⟩ : ∃ x : Nat, 1 + N + K = x := ⟨_, rfl⟩
  rw [hM]
  have hM0 : ¬ (M : Int) < 0 := by omega
  have HM : Hid (1 + N + K = M) := hM
  clear hM
  obtain ⟨c00, c01, -⟩ := b_g0.open2
  go_wp2_with fail
  refine (heldOp_any 1 o_g0 hN1 hK1 (by omega)).mono ?_
  rintro e w17 ⟨rfl, BB⟩
  clear c00 c01
  replace b_A := b_A.below BB
  replace b_w0 := b_w0.below BB
  replace b_x0 := b_x0.below BB
  replace b_g0 := b_g0.below BB
  replace o_w0 := o_w0.below BB
  replace o_x0 := o_x0.below BB
  replace o_g0 := o_g0.below BB
  have zw17 := BB.size
  replace B := B.trans (BB.mono B.size)
  clear BB
  rw [HM.out]
  obtain ⟨c00, c01, -⟩ := b_A.open2
  go_wp2_with fail
  refine (toOp_any (hs.below B) (ht.below B) hn1 hk1).mono ?_
  rintro e w18 ⟨o, rfl, o_th0, BB⟩
  clear c00 c01
  replace b_A := b_A.below BB
  replace b_w0 := b_w0.below BB
  replace b_x0 := b_x0.below BB
  replace b_g0 := b_g0.below BB
  replace o_w0 := o_w0.below BB
  replace o_x0 := o_x0.below BB
  replace o_g0 := o_g0.below BB
  have zw18 := BB.size
  replace B := B.trans (BB.mono B.size)
  clear BB
  obtain ⟨dt, et, gt, it, rfl, -, -⟩ := o_th0.src
  go_wp2_with fail
  refine (implBack_any _ _ o_th0.srcs.1 o_th0.srcs.2).mono ?_
  rintro e w19 ⟨o, rfl, o_h0, BB⟩
  replace b_A := b_A.below BB
  replace b_w0 := b_w0.below BB
  replace b_x0 := b_x0.below BB
  replace b_g0 := b_g0.below BB
  replace o_w0 := o_w0.below BB
  replace o_x0 := o_x0.below BB
  replace o_g0 := o_g0.below BB
  have zw19 := BB.size
  replace B := B.trans (BB.mono B.size)
  clear BB
  clear o_th0
  rw [hp] at o_h0 ⊢
  unfold Told at o_h0
  rw [hN, hK] at o_h0
  obtain ⟨dh0, eh0, gh0, ih0, rfl, -, -⟩ := o_h0.src
  obtain ⟨Xh0, hXh0, w20, hYh0, b_h0, BB, xh00, xh01, yh00, yh01⟩ := boxed2 w19 (.slice dh0 N eh0) (.slice gh0 K ih0)
  replace b_A := b_A.below BB
  replace b_w0 := b_w0.below BB
  replace b_x0 := b_x0.below BB
  replace b_g0 := b_g0.below BB
  replace o_w0 := o_w0.below BB
  replace o_x0 := o_x0.below BB
  replace o_g0 := o_g0.below BB
  replace o_h0 := o_h0.below BB
  have zw20 := BB.size
  replace B := B.trans (BB.mono B.size)
  clear BB
  have q_h0 := b_h0.lt
  obtain ⟨c00, c01, -⟩ := b_h0.open2
  obtain ⟨c10, c11, -⟩ := b_w0.open2
  go_wp2_with fail
  refine (eqOp_true o_h0 o_w0 hN1 hK1).mono ?_
  rintro e w21 ⟨rfl, BB⟩
  clear c00 c01 c10 c11 hXh0 hYh0 xh00 xh01 yh00 yh01
  replace b_A := b_A.below BB
  replace b_w0 := b_w0.below BB
  replace b_x0 := b_x0.below BB
  replace b_g0 := b_g0.below BB
  replace b_h0 := b_h0.below BB
  replace o_w0 := o_w0.below BB
  replace o_x0 := o_x0.below BB
  replace o_g0 := o_g0.below BB
  replace o_h0 := o_h0.below BB
  have zw21 := BB.size
  replace B := B.trans (BB.mono B.size)
  clear BB
  obtain ⟨c00, c01, -⟩ := b_g0.open2
  go_wp2_with fail
  refine (heldOp_any 1 o_g0 hN1 hK1 (by omega)).mono ?_
  rintro e w22 ⟨rfl, BB⟩
  clear c00 c01
  replace b_A := b_A.below BB
  replace b_w0 := b_w0.below BB
  replace b_x0 := b_x0.below BB
  replace b_g0 := b_g0.below BB
  replace b_h0 := b_h0.below BB
  replace o_w0 := o_w0.below BB
  replace o_x0 := o_x0.below BB
  replace o_g0 := o_g0.below BB
  replace o_h0 := o_h0.below BB
  have zw22 := BB.size
  replace B := B.trans (BB.mono B.size)
  clear BB
  rw [HM.out]
  go_wp2
  go_ret
  exact ⟨rfl, B⟩
theorem opBack_of {w : World} {a b : Option Addr} {n k cap cap' : Nat} {zs ys : List Int} (h1 : IsRow .i64 w a n cap zs) (h2 : IsRow .i64 w b k cap' ys) :
    Calls Try.prog 4 #[.agg #[.slice a n cap, .slice b k cap']] w fun e w' => e = .returned (.bool true) ∧ Below w.heap.size w w' := by
  obtain ⟨f, hs, hn, -⟩ := src_of h1
  obtain ⟨h, ht, hk, -⟩ := src_of h2
  exact exactOpBack_walk hs ht hn hk
end Go.Proofs.Ytglkddhifpnniaa
