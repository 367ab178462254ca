/-
  The law on operators compared, walked.
-/
import Derived.Test.YtpcdnggcojalpabOpc
namespace Go.Proofs.Ytpcdnggcojalpab
open Go.RowKit

theorem toOp3_any {w : World} {a b : Option Addr} {n cap k cap' : Nat} {f h : Nat → Int} (hs : Src w a n f) (ht : Src w b k h) (hn : n ≤ 1048576) (hk : k ≤ 1048576) :
    Calls Try.prog 6 #[.agg #[.slice a n cap, .slice b k cap']] w fun e w' => ∃ g1 g2, e = .returned (.agg #[.slice (some ⟨g1, 0, none⟩) n n, .slice (some ⟨g2, 0, none⟩) k k]) ∧ OpAt w' w.heap.size w'.heap.size (.agg #[.slice (some ⟨g1, 0, none⟩) n n, .slice (some ⟨g2, 0, none⟩) k k]) n f k h ∧ Below w.heap.size w w' := by
  refine (toOp2_any hs ht hn hk).mono ?_
  rintro e w' ⟨g1, g2, rfl, q1, q2, hz, b'⟩
  refine ⟨g1, g2, rfl, ⟨_, _, rfl, arr_of_own q1 hz.1, arr_of_own q2 hz.2.1, ?_⟩, b'⟩
  intro x h1 h2
  cases h1
  cases h2
  exact hz.2.2 rfl
theorem Arr.ints {w : World} {lo hi g o n n' c : Nat} {f : Nat → Int} (h : Arr w lo hi (.slice (some ⟨g, o, none⟩) n' c) n f) : Ints w g o n f ∧ g < w.heap.size := by
  rcases h with ⟨h1, -⟩ | ⟨g', c', h1, -, -, -, hm⟩
  · cases h1
  · obtain ⟨e1, -, -⟩ := slice_inj h1
    simp only [Option.some.injEq, Addr.mk.injEq] at e1
    obtain ⟨rfl, rfl, -⟩ := e1
    have hl := hm.lt
    obtain ⟨cur, q1, q2, q3⟩ := hm
    refine ⟨fun i hi => ?_, hl⟩
    rw [Nat.zero_add]
    exact q1.cell i (q3 i hi)
theorem OpAt.ints {w : World} {lo hi g1 p1 g2 p2 n c k d n' k' : Nat} {f h : Nat → Int} (ho : OpAt w lo hi (.agg #[.slice (some ⟨g1, p1, none⟩) n' c, .slice (some ⟨g2, p2, none⟩) k' d]) n f k h) : Ints w g1 p1 n f ∧ Ints w g2 p2 k h ∧ g1 < w.heap.size ∧ g2 < w.heap.size := by
  obtain ⟨v1, v2, e, m1, m2, -⟩ := ho
  simp only [Value.agg.injEq, Array.mk.injEq, List.cons.injEq] at e
  obtain ⟨rfl, rfl, -⟩ := e
  exact ⟨m1.ints.1, m2.ints.1, m1.ints.2, m2.ints.2⟩
/-- A new variable that holds an operator. -/
theorem boxed2 (w : World) (v1 v2 : Value) : ∃ W, w.alloc (.cells #[.slice none 0 0, .slice none 0 0] 27) = W ∧ ∃ W', (W.setCell ⟨w.heap.size, 0, none⟩ v1).setCell ⟨w.heap.size, 1, none⟩ v2 = W' ∧ At 27 W' w.heap.size #[v1, v2] ∧ Below w.heap.size w W' ∧ W.cell? ⟨w.heap.size, 0, none⟩ = some (.slice none 0 0) ∧ W.cell? ⟨w.heap.size, 1, none⟩ = some (.slice none 0 0) ∧ W.frozen? ⟨w.heap.size, 0, none⟩ = false ∧ W.frozen? ⟨w.heap.size, 1, none⟩ = false := by
  obtain ⟨W, hW, a, b, -⟩ := boxed w 27 #[.slice none 0 0, .slice none 0 0]
  obtain ⟨c0, c1, c2, c3⟩ := a.open2
  exact ⟨W, hW, _, rfl, by simpa using (a.set 0 v1).set 1 v2, (b.setCell (Nat.le_refl _) _).setCell (Nat.le_refl _) _, c0, c1, c2, c3⟩
set_option maxRecDepth 100000 in
set_option maxHeartbeats 4000000 in
theorem exactOpCompare_walk {w : World} {a b a' b' : Option Addr} {n k cap cap' n' k' cap2 cap3 : Nat} {f h f' h' : Nat → Int} (hs : Src w a n f) (ht : Src w b k h) (hs' : Src w a' n' f') (ht' : Src w b' k' h') (hn : n ≤ maxLen) (hk : k ≤ maxLen) (hn' : n' ≤ maxLen) (hk' : k' ≤ maxLen) :
    Calls Try.prog 3 #[.agg #[.slice a n cap, .slice b k cap'], .agg #[.slice a' n' cap2, .slice b' k' cap3]] w fun e w' => e = .returned (.bool true) ∧ Below w.heap.size w w' := by
  obtain ⟨R, hR⟩ : ∃ R, cmpF (cat n f h) (cat n' f' h') (n + k) (n' + k') (n + k) 0 = R := ⟨_, rfl⟩
  have hpp : (R != R) = false := by simp
  obtain ⟨W1, hW1, b_A, B, -⟩ := boxed w 24 #[.slice a n cap, .slice b k cap']
  have q_A := b_A.lt
  obtain ⟨W2, hW2, b_B, BB, -⟩ := boxed W1 24 #[.slice a' n' cap2, .slice b' k' cap3]
  replace b_A := b_A.below BB
  have zW2 := BB.size
  replace B := B.trans (BB.mono B.size)
  clear BB
  have q_B := b_B.lt
  go_enter Try.func3, Try.ntmps3
  obtain ⟨c00, c01, -⟩ := b_A.open2
  go_wp2_with fail
  refine (szOp_any a b n cap k cap' 1048576 _ hn hk (by omega)).mono ?_
  rintro e w3 ⟨rA, rfl, hrA, BB⟩
  clear c00 c01 hW1 hW2
  replace b_A := b_A.below BB
  replace b_B := b_B.below BB
  have zw3 := BB.size
  replace B := B.trans (BB.mono B.size)
  clear BB
  rcases hrA with rfl | ⟨hrA, hrA0⟩
  · go_wp2
    go_ret
    exact ⟨rfl, B⟩
  replace hrA : (n : Int) + k + rA ≤ 1048576 := by omega
  have hrA1 : ¬ rA < 0 := by omega
  have hn1 : n ≤ 1048576 := by omega
  have hk1 : k ≤ 1048576 := by omega
  obtain ⟨c00, c01, -⟩ := b_B.open2
  go_wp2_with fail
  refine (szOp_any a' b' n' cap2 k' cap3 rA _ hn' hk' (by omega)).mono ?_
  rintro e w4 ⟨rB, rfl, hrB, BB⟩
  clear c00 c01
  replace b_A := b_A.below BB
  replace b_B := b_B.below BB
  have zw4 := BB.size
  replace B := B.trans (BB.mono B.size)
  clear BB
  rcases hrB with rfl | ⟨hrB, hrB0⟩
  · go_wp2
    go_ret
    exact ⟨rfl, B⟩
  replace hrB : (n' : Int) + k' + rB ≤ rA := by omega
  have hrB1 : ¬ rB < 0 := by omega
  have hn'1 : n' ≤ 1048576 := by omega
  have hk'1 : k' ≤ 1048576 := by omega
  clear hrA hrB
  go_wp2_with fail
  obtain ⟨u0, hu0, A_A, A_B, Z⟩ : ∃ u0, w4.drew = u0 ∧ At 24 u0 w.heap.size #[.slice a n cap, .slice b k cap'] ∧ At 24 u0 W1.heap.size #[.slice a' n' cap2, .slice b' k' cap3] ∧ Below w4.heap.size w4 u0 := ⟨_, rfl, b_A, b_B, (Below.refl _ _).drew⟩
  refine wp_region_held_drew (S := Two2 w.heap.size (.slice a n cap) (.slice b k cap') W1.heap.size (.slice a' n' cap2) (.slice b' k' cap3)) (by kernel_rfl) (by rw [hu0]; exact two2_mk A_A A_B) (fun hHeld => ?_)
  rw [hu0] at hHeld ⊢
  clear hu0
  change wpAnyH _ _ _ _ _ 6 #[false, false, false, false, false, false] _ _
  refine wpAnyH_take (i := 0) (v := .agg #[.slice a n cap, .slice b k cap']) rfl (by kernel_rfl) (by kernel_rfl) (by kernel_rfl) (fun _ _ _ h => h) (Or.inl ⟨by kernel_rfl, ?_⟩) hHeld ?_
  · intro w' hSw; obtain ⟨z0, z1, -, -⟩ := hSw; go_simp
  try simp only [Act.put, List.setIfInBounds_toArray, List.set_cons_zero]
  refine wpAnyH_take (i := 2) (v := .agg #[.slice a' n' cap2, .slice b' k' cap3]) rfl (by kernel_rfl) (by kernel_rfl) (by kernel_rfl) (fun _ _ _ h => h) (Or.inl ⟨by kernel_rfl, ?_⟩) hHeld ?_
  · intro w' hSw; obtain ⟨-, -, z0, z1⟩ := hSw; go_simp
  try simp only [Act.put, List.setIfInBounds_toArray, List.set_cons_zero, List.set_cons_succ]
  refine wpAnyH_ready (rs := [1]) (by kernel_rfl) (by simp) ?_
  refine AllReadyH.cons rfl (fun KK hK' => ?_) AllReadyH.nil
  go_simp
  refine (toOp3_any (hs.below (B.trans (Z.mono B.size))) (ht.below (B.trans (Z.mono B.size))) hn1 hk1).mono ?_
  rintro e u1 ⟨gA, iA, rfl, O_A, b'⟩
  replace A_A := A_A.below b'
  replace A_B := A_B.below b'
  replace Z := Z.trans (b'.mono Z.size)
  clear b'
  try go_wp2_with fail
  clear hHeld
  refine hK'.out _ _ (two2_mk A_A A_B) (fun hHeld => ?_)
  clear hK' KK
  try simp only [List.setIfInBounds_toArray, List.set_cons_zero, List.set_cons_succ]
  refine wpAnyH_ready (rs := [3]) (by kernel_rfl) (by simp) ?_
  refine AllReadyH.cons rfl (fun KK hK' => ?_) AllReadyH.nil
  go_simp
  refine (toOp3_any (hs'.below (B.trans (Z.mono B.size))) (ht'.below (B.trans (Z.mono B.size))) hn'1 hk'1).mono ?_
  rintro e u2 ⟨gB, iB, rfl, O_B, b'⟩
  replace A_A := A_A.below b'
  replace A_B := A_B.below b'
  replace Z := Z.trans (b'.mono Z.size)
  replace O_A := O_A.below b'
  clear b'
  try go_wp2_with fail
  clear hHeld
  refine hK'.out _ _ (two2_mk A_A A_B) (fun hHeld => ?_)
  clear hK' KK
  try simp only [List.setIfInBounds_toArray, List.set_cons_zero, List.set_cons_succ]
  refine wpAnyH_ready (rs := [4]) (by kernel_rfl) (by simp) ?_
  refine AllReadyH.cons rfl (fun KK hK' => ?_) AllReadyH.nil
  go_simp
  obtain ⟨j1, j2, j3, j4⟩ := O_A.ints
  obtain ⟨j5, j6, j7, j8⟩ := O_B.ints
  refine (specCompare_any _ _ _ _ j1 j2 j5 j6 j3 j4 j7 j8 hn1 hk1 hn'1 hk'1).mono ?_
  rintro e u3 ⟨rfl, b'⟩
  rw [hR]
  clear j1 j2 j3 j4 j5 j6 j7 j8
  replace A_A := A_A.below b'
  replace A_B := A_B.below b'
  replace Z := Z.trans (b'.mono Z.size)
  clear b'
  try go_wp2_with fail
  clear hHeld
  refine hK'.out _ _ (two2_mk A_A A_B) (fun hHeld => ?_)
  clear hK' KK
  try simp only [List.setIfInBounds_toArray, List.set_cons_zero, List.set_cons_succ]
  refine wpAnyH_ready (rs := [5]) (by kernel_rfl) (by simp) ?_
  refine AllReadyH.cons rfl (fun KK hK' => ?_) AllReadyH.nil
  go_simp
  clear hHeld
  refine hK'.out _ _ (two2_mk A_A A_B) (fun hHeld => ?_)
  clear hK' KK
  try simp only [List.setIfInBounds_toArray, List.set_cons_zero, List.set_cons_succ]
  refine wpAnyH_done (by kernel_rfl) ?_ _
  clear hHeld A_A A_B O_A O_B
  replace b_A := b_A.below Z
  replace b_B := b_B.below Z
  have zu3 := Z.size
  replace B := B.trans (Z.mono B.size)
  clear Z
  obtain ⟨c00, c01, -⟩ := b_A.open2
  go_wp2_with fail
  refine (toOp3_any (hs.below B) (ht.below B) hn1 hk1).mono ?_
  rintro e w5 ⟨gx0, ix0, rfl, o_x0, BB⟩
  clear c00 c01
  replace b_A := b_A.below BB
  replace b_B := b_B.below BB
  have zw5 := BB.size
  replace B := B.trans (BB.mono B.size)
  clear BB
  obtain ⟨Xx0, hXx0, w6, hYx0, b_x0, BB, xx00, xx01, yx00, yx01⟩ := boxed2 w5 (.slice (some ⟨gx0, 0, none⟩) n n) (.slice (some ⟨ix0, 0, none⟩) k k)
  replace b_A := b_A.below BB
  replace b_B := b_B.below BB
  replace o_x0 := o_x0.below BB
  have zw6 := BB.size
  replace B := B.trans (BB.mono B.size)
  clear BB
  have q_x0 := b_x0.lt
  obtain ⟨c00, c01, -⟩ := b_B.open2
  go_wp2_with fail
  refine (toOp3_any (hs'.below B) (ht'.below B) hn'1 hk'1).mono ?_
  rintro e w7 ⟨gx1, ix1, rfl, o_x1, BB⟩
  clear c00 c01 hXx0 hYx0 xx00 xx01 yx00 yx01
  replace b_A := b_A.below BB
  replace b_B := b_B.below BB
  replace b_x0 := b_x0.below BB
  replace o_x0 := o_x0.below BB
  have zw7 := BB.size
  replace B := B.trans (BB.mono B.size)
  clear BB
  obtain ⟨Xx1, hXx1, w8, hYx1, b_x1, BB, xx10, xx11, yx10, yx11⟩ := boxed2 w7 (.slice (some ⟨gx1, 0, none⟩) n' n') (.slice (some ⟨ix1, 0, none⟩) k' k')
  replace b_A := b_A.below BB
  replace b_B := b_B.below BB
  replace b_x0 := b_x0.below BB
  replace o_x0 := o_x0.below BB
  replace o_x1 := o_x1.below BB
  have zw8 := BB.size
  replace B := B.trans (BB.mono B.size)
  clear BB
  have q_x1 := b_x1.lt
  obtain ⟨j1, j2, j3, j4⟩ := o_x0.ints
  obtain ⟨j5, j6, j7, j8⟩ := o_x1.ints
  obtain ⟨c00, c01, -⟩ := b_x0.open2
  obtain ⟨c10, c11, -⟩ := b_x1.open2
  go_wp2_with fail
  refine (implCompare_any _ _ _ _ j1 j2 j5 j6 j3 j4 j7 j8 hn1 hk1 hn'1 hk'1).mono ?_
  rintro e w9 ⟨rfl, BB⟩
  clear c00 c01 c10 c11 hXx1 hYx1 xx10 xx11 yx10 yx11
  replace b_A := b_A.below BB
  replace b_B := b_B.below BB
  replace b_x0 := b_x0.below BB
  replace b_x1 := b_x1.below BB
  replace o_x0 := o_x0.below BB
  replace o_x1 := o_x1.below BB
  have zw9 := BB.size
  replace B := B.trans (BB.mono B.size)
  clear BB
  rw [hR]
  clear j1 j2 j3 j4 j5 j6 j7 j8
  go_wp2_with fail
  obtain ⟨u0, hu0, A1, A7, O7, Z⟩ : ∃ u0, w9.drew = u0 ∧ At 24 u0 w.heap.size #[.slice a n cap, .slice b k cap'] ∧ At 27 u0 w5.heap.size #[.slice (some ⟨gx0, 0, none⟩) n n, .slice (some ⟨ix0, 0, none⟩) k k] ∧ OpAt u0 u3.heap.size w5.heap.size (.agg #[.slice (some ⟨gx0, 0, none⟩) n n, .slice (some ⟨ix0, 0, none⟩) k k]) n f k h ∧ Below w9.heap.size w9 u0 := ⟨_, rfl, b_A, b_x0, o_x0.below (Below.refl _ _).drew, (Below.refl _ _).drew⟩
  refine wp_region_held_drew (S := Two2 w.heap.size (.slice a n cap) (.slice b k cap') w5.heap.size (.slice (some ⟨gx0, 0, none⟩) n n) (.slice (some ⟨ix0, 0, none⟩) k k)) (by kernel_rfl) (by rw [hu0]; exact two2_mk A1 A7) (fun hHeld => ?_)
  rw [hu0] at hHeld ⊢
  clear hu0
  change wpAnyH _ _ _ _ _ 5 #[false, false, false, false, false] _ _
  refine wpAnyH_take (i := 0) (v := .agg #[.slice (some ⟨gx0, 0, none⟩) n n, .slice (some ⟨ix0, 0, none⟩) k k]) rfl (by kernel_rfl) (by kernel_rfl) (by kernel_rfl) (fun _ _ _ h => h) (Or.inl ⟨by kernel_rfl, ?_⟩) hHeld ?_
  · intro w' hSw; obtain ⟨-, -, z0, z1⟩ := hSw; go_simp
  try simp only [Act.put, List.setIfInBounds_toArray, List.set_cons_zero]
  refine wpAnyH_take (i := 1) (v := .agg #[.slice a n cap, .slice b k cap']) rfl (by kernel_rfl) (by kernel_rfl) (by kernel_rfl) (fun _ _ _ h => h) (Or.inl ⟨by kernel_rfl, ?_⟩) hHeld ?_
  · intro w' hSw; obtain ⟨z0, z1, -, -⟩ := hSw; go_simp
  try simp only [Act.put, List.setIfInBounds_toArray, List.set_cons_zero, List.set_cons_succ]
  refine wpAnyH_ready (rs := [2]) (by kernel_rfl) (by simp) ?_
  refine AllReadyH.cons rfl (fun KK hK' => ?_) AllReadyH.nil
  go_simp
  refine (toOp3_any (hs.below (B.trans (Z.mono B.size))) (ht.below (B.trans (Z.mono B.size))) hn1 hk1).mono ?_
  rintro e w10 ⟨g9, i9, rfl, O9, b'⟩
  replace A1 := A1.below b'
  replace A7 := A7.below b'
  replace O7 := O7.below b'
  replace Z := Z.trans (b'.mono Z.size)
  clear b'
  try go_wp2_with fail
  clear hHeld
  refine hK'.out _ _ (two2_mk A1 A7) (fun hHeld => ?_)
  clear hK' KK
  try simp only [List.setIfInBounds_toArray, List.set_cons_zero, List.set_cons_succ]
  refine wpAnyH_ready (rs := [3]) (by kernel_rfl) (by simp) ?_
  refine AllReadyH.cons rfl (fun KK hK' => ?_) AllReadyH.nil
  go_simp
  refine (eqOp_true O7 O9 hn1 hk1).mono ?_
  rintro e w11 ⟨rfl, b'⟩
  replace A1 := A1.below b'
  replace A7 := A7.below b'
  replace O7 := O7.below b'
  replace Z := Z.trans (b'.mono Z.size)
  clear b'
  try go_wp2_with fail
  clear hHeld
  refine hK'.out _ _ (two2_mk A1 A7) (fun hHeld => ?_)
  clear hK' KK
  try simp only [List.setIfInBounds_toArray, List.set_cons_zero, List.set_cons_succ]
  refine wpAnyH_ready (rs := [4]) (by kernel_rfl) (by simp) ?_
  refine AllReadyH.cons rfl (fun KK hK' => ?_) AllReadyH.nil
  go_simp
  clear hHeld
  refine hK'.out _ _ (two2_mk A1 A7) (fun hHeld => ?_)
  clear hK' KK
  try simp only [List.setIfInBounds_toArray, List.set_cons_zero, List.set_cons_succ]
  refine wpAnyH_done (by kernel_rfl) ?_ _
  clear hHeld A1 A7 O7 O9
  replace b_A := b_A.below Z
  replace b_B := b_B.below Z
  replace b_x0 := b_x0.below Z
  replace b_x1 := b_x1.below Z
  replace o_x0 := o_x0.below Z
  replace o_x1 := o_x1.below Z
  have zw11 := Z.size
  replace B := B.trans (Z.mono B.size)
  clear Z
  go_wp2_with fail
  obtain ⟨u0, hu0, A1, A7, O7, Z⟩ : ∃ u0, w11.drew = u0 ∧ At 24 u0 W1.heap.size #[.slice a' n' cap2, .slice b' k' cap3] ∧ At 27 u0 w7.heap.size #[.slice (some ⟨gx1, 0, none⟩) n' n', .slice (some ⟨ix1, 0, none⟩) k' k'] ∧ OpAt u0 w6.heap.size w7.heap.size (.agg #[.slice (some ⟨gx1, 0, none⟩) n' n', .slice (some ⟨ix1, 0, none⟩) k' k']) n' f' k' h' ∧ Below w11.heap.size w11 u0 := ⟨_, rfl, b_B, b_x1, o_x1.below (Below.refl _ _).drew, (Below.refl _ _).drew⟩
  refine wp_region_held_drew (S := Two2 W1.heap.size (.slice a' n' cap2) (.slice b' k' cap3) w7.heap.size (.slice (some ⟨gx1, 0, none⟩) n' n') (.slice (some ⟨ix1, 0, none⟩) k' k')) (by kernel_rfl) (by rw [hu0]; exact two2_mk A1 A7) (fun hHeld => ?_)
  rw [hu0] at hHeld ⊢
  clear hu0
  change wpAnyH _ _ _ _ _ 5 #[false, false, false, false, false] _ _
  refine wpAnyH_take (i := 0) (v := .agg #[.slice (some ⟨gx1, 0, none⟩) n' n', .slice (some ⟨ix1, 0, none⟩) k' k']) rfl (by kernel_rfl) (by kernel_rfl) (by kernel_rfl) (fun _ _ _ h => h) (Or.inl ⟨by kernel_rfl, ?_⟩) hHeld ?_
  · intro w' hSw; obtain ⟨-, -, z0, z1⟩ := hSw; go_simp
  try simp only [Act.put, List.setIfInBounds_toArray, List.set_cons_zero]
  refine wpAnyH_take (i := 1) (v := .agg #[.slice a' n' cap2, .slice b' k' cap3]) rfl (by kernel_rfl) (by kernel_rfl) (by kernel_rfl) (fun _ _ _ h => h) (Or.inl ⟨by kernel_rfl, ?_⟩) hHeld ?_
  · intro w' hSw; obtain ⟨z0, z1, -, -⟩ := hSw; go_simp
  try simp only [Act.put, List.setIfInBounds_toArray, List.set_cons_zero, List.set_cons_succ]
  refine wpAnyH_ready (rs := [2]) (by kernel_rfl) (by simp) ?_
  refine AllReadyH.cons rfl (fun KK hK' => ?_) AllReadyH.nil
  go_simp
  refine (toOp3_any (hs'.below (B.trans (Z.mono B.size))) (ht'.below (B.trans (Z.mono B.size))) hn'1 hk'1).mono ?_
  rintro e w12 ⟨g9, i9, rfl, O9, b'⟩
  replace A1 := A1.below b'
  replace A7 := A7.below b'
  replace O7 := O7.below b'
  replace Z := Z.trans (b'.mono Z.size)
  clear b'
  try go_wp2_with fail
  clear hHeld
  refine hK'.out _ _ (two2_mk A1 A7) (fun hHeld => ?_)
  clear hK' KK
  try simp only [List.setIfInBounds_toArray, List.set_cons_zero, List.set_cons_succ]
  refine wpAnyH_ready (rs := [3]) (by kernel_rfl) (by simp) ?_
  refine AllReadyH.cons rfl (fun KK hK' => ?_) AllReadyH.nil
  go_simp
  refine (eqOp_true O7 O9 hn'1 hk'1).mono ?_
  rintro e w13 ⟨rfl, b'⟩
  replace A1 := A1.below b'
  replace A7 := A7.below b'
  replace O7 := O7.below b'
  replace Z := Z.trans (b'.mono Z.size)
  clear b'
  try go_wp2_with fail
  clear hHeld
  refine hK'.out _ _ (two2_mk A1 A7) (fun hHeld => ?_)
  clear hK' KK
  try simp only [List.setIfInBounds_toArray, List.set_cons_zero, List.set_cons_succ]
  refine wpAnyH_ready (rs := [4]) (by kernel_rfl) (by simp) ?_
  refine AllReadyH.cons rfl (fun KK hK' => ?_) AllReadyH.nil
  go_simp
  clear hHeld
  refine hK'.out _ _ (two2_mk A1 A7) (fun hHeld => ?_)
  clear hK' KK
  try simp only [List.setIfInBounds_toArray, List.set_cons_zero, List.set_cons_succ]
  refine wpAnyH_done (by kernel_rfl) ?_ _
  clear hHeld A1 A7 O7 O9
  replace b_A := b_A.below Z
  replace b_B := b_B.below Z
  replace b_x0 := b_x0.below Z
  replace b_x1 := b_x1.below Z
  replace o_x0 := o_x0.below Z
  replace o_x1 := o_x1.below Z
  have zw13 := Z.size
  replace B := B.trans (Z.mono B.size)
  clear Z
  go_wp2
  go_ret
  exact ⟨rfl, B⟩
theorem opCompare_of {w : World} {a b a' b' : Option Addr} {n k cap cap' n' k' cap2 cap3 : Nat} {zs ys zs' ys' : List Int} (h1 : IsRow .i64 w a n cap zs) (h2 : IsRow .i64 w b k cap' ys) (h3 : IsRow .i64 w a' n' cap2 zs') (h4 : IsRow .i64 w b' k' cap3 ys') :
    Calls Try.prog 3 #[.agg #[.slice a n cap, .slice b k cap'], .agg #[.slice a' n' cap2, .slice b' k' cap3]] w fun e w' => e = .returned (.bool true) ∧ Below w.heap.size w w' := by
  obtain ⟨f, hs, hn, -⟩ := src_of h1
  obtain ⟨h, ht, hk, -⟩ := src_of h2
  obtain ⟨f', hs', hn', -⟩ := src_of h3
  obtain ⟨h', ht', hk', -⟩ := src_of h4
  exact exactOpCompare_walk hs ht hs' ht' hn hk hn' hk'
end Go.Proofs.Ytpcdnggcojalpab
