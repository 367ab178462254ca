/-
  The law on the orders of operators, walked.
-/
import Derived.Test.YtglkddhifpnniaaOpX
namespace Go.Proofs.Ytglkddhifpnniaa
open Go.RowKit

set_option maxHeartbeats 1600000 in
theorem exactOpOrder_walk {w : World} {a b : Option Addr} {n k cap cap' : Nat} {f h : Nat → Int} (hs : Src w a n f) (ht : Src w b k h) (hn : n ≤ maxLen) (hk : k ≤ maxLen) :
    Calls Try.prog 5 #[.agg #[.slice a n cap, .slice b k cap']] w fun e w' => e = .returned (.bool true) ∧ Below w.heap.size w w' := by
  obtain ⟨W1, hW1, a1, bW1, -⟩ := boxed w 24 #[.slice a n cap, .slice b k cap']
  obtain ⟨c0, c1, -⟩ := a1.open2
  go_enter Try.func5, Try.ntmps5
  go_wp2_with fail
  refine (szOp_any a b n cap k cap' 1048576 _ hn hk (by omega)).mono ?_
  rintro e w2 ⟨r, rfl, hr, b2⟩
  replace a1 := a1.below b2
  replace bW1 := bW1.trans (b2.mono bW1.size)
  clear c0 c1 b2
  obtain ⟨c0, c1, -⟩ := a1.open2
  rcases hr with rfl | ⟨hr, hr0⟩
  · go_wp2
    go_ret
    exact ⟨rfl, bW1⟩
  have hn1 : n ≤ 1048576 := by omega
  have hk1 : k ≤ 1048576 := by omega
  have hr1 : ¬ r < 0 := by omega
  clear hr
  go_wp2_with fail
  refine (toOp_any (hs.below bW1) (ht.below bW1) hn1 hk1).mono ?_
  rintro e w3 ⟨o3, rfl, q3, b3⟩
  replace a1 := a1.below b3
  replace bW1 := bW1.trans (b3.mono bW1.size)
  clear c0 c1 b3
  obtain ⟨v1, v2, rfl, m1, m2, -⟩ := q3
  obtain ⟨d1, e1, rfl, s1⟩ := m1.src
  obtain ⟨d2, e2, rfl, s2⟩ := m2.src
  go_wp2_with fail
  refine (specOrder_any e1 e2 s1 s2).mono ?_
  rintro e w4 ⟨rfl, b4⟩
  replace a1 := a1.below b4
  replace bW1 := bW1.trans (b4.mono bW1.size)
  clear b4 m1 m2 s1 s2
  obtain ⟨c0, c1, -⟩ := a1.open2
  go_wp2_with fail
  refine (toOp_any (hs.below bW1) (ht.below bW1) hn1 hk1).mono ?_
  rintro e w5 ⟨o5, rfl, q5, b5⟩
  replace a1 := a1.below b5
  replace bW1 := bW1.trans (b5.mono bW1.size)
  clear c0 c1 b5
  have q5' := q5
  obtain ⟨v1, v2, rfl, m1, m2, -⟩ := q5
  obtain ⟨d1, e1, rfl, s1⟩ := m1.src
  obtain ⟨d2, e2, rfl, s2⟩ := m2.src
  obtain ⟨W6, hW6, W7, hW7, a7, bW7, z0, z1, y0, y1⟩ := boxed2 w5 (.slice d1 n e1) (.slice d2 k e2)
  replace a1 := a1.below bW7
  replace q5' := q5'.below bW7
  replace s1 := s1.below bW7
  replace s2 := s2.below bW7
  replace bW1 := bW1.trans (bW7.mono bW1.size)
  clear m1 m2
  obtain ⟨c0, c1, -⟩ := a7.open2
  go_wp2_with fail
  refine (implOrder_any e1 e2 s1 s2).mono ?_
  rintro e w8 ⟨rfl, b8⟩
  replace a1 := a1.below b8
  replace a7 := a7.below b8
  have q5 := q5'.below b8
  replace bW1 := bW1.trans (b8.mono bW1.size)
  clear c0 c1 s1 s2 q5' bW7 b8 hW6 hW7 z0 z1 y0 y1 hW1
  go_wp2_with fail
  obtain ⟨w0, hw0, A1, A7, B0⟩ : ∃ w0, w8.drew = w0 ∧ At 24 w0 w.heap.size #[.slice a n cap, .slice b k cap'] ∧ At 26 w0 w5.heap.size #[.slice d1 n e1, .slice d2 k e2] ∧ Below w.heap.size w w0 := ⟨_, rfl, a1, a7, bW1.drew⟩
  replace q5 := q5.below ((Below.refl _ _).drew)
  refine wp_region_held_drew (S := Two2 w.heap.size (.slice a n cap) (.slice b k cap') w5.heap.size (.slice d1 n e1) (.slice d2 k e2)) (by kernel_rfl) (by rw [hw0]; exact two2_mk A1 A7) (fun hHeld => ?_)
  rw [hw0] at hHeld q5 ⊢
  clear hw0
  change wpAnyH _ _ _ _ _ 5 #[false, false, false, false, false] _ _
  refine wpAnyH_take (i := 0) (v := .agg #[.slice d1 n e1, .slice d2 k e2]) rfl (by kernel_rfl) (by kernel_rfl) (by kernel_rfl) (fun _ _ _ h => h) (Or.inl ⟨by kernel_rfl, ?_⟩) hHeld ?_
  · intro w' hSw; obtain ⟨-, -, z0, z1⟩ := hSw; go_simp
  try simp only [Act.put]
  refine wpAnyH_take (i := 1) (v := .agg #[.slice a n cap, .slice b k cap']) rfl (by kernel_rfl) (by kernel_rfl) (by kernel_rfl) (fun _ _ _ h => h) (Or.inl ⟨by kernel_rfl, ?_⟩) hHeld ?_
  · intro w' hSw; obtain ⟨z0, z1, -, -⟩ := hSw; go_simp
  try simp only [Act.put]
  refine wpAnyH_ready (rs := [2]) (by kernel_rfl) (by simp) ?_
  refine AllReadyH.cons rfl (fun K hK => ?_) AllReadyH.nil
  go_simp
  refine (toOp_any (hs.below B0) (ht.below B0) hn1 hk1).mono ?_
  rintro e w9 ⟨o9, rfl, q9, b9⟩
  replace A1 := A1.below b9
  replace A7 := A7.below b9
  replace q5 := q5.below b9
  replace B0 := B0.trans (b9.mono B0.size)
  try go_wp2_with fail
  clear hHeld
  refine hK.out _ _ (two2_mk A1 A7) (fun hHeld => ?_)
  clear hK K
  try simp only [List.setIfInBounds_toArray, List.set_cons_zero, List.set_cons_succ]
  refine wpAnyH_ready (rs := [3]) (by kernel_rfl) (by simp) ?_
  refine AllReadyH.cons rfl (fun K hK => ?_) AllReadyH.nil
  go_simp
  refine (eqOp_true q5 q9 hn1 hk1).mono ?_
  rintro e w10 ⟨rfl, b10⟩
  replace A1 := A1.below b10
  replace A7 := A7.below b10
  replace B0 := B0.trans (b10.mono B0.size)
  try go_wp2_with fail
  clear hHeld
  refine hK.out _ _ (two2_mk A1 A7) (fun hHeld => ?_)
  clear hK K
  try simp only [List.setIfInBounds_toArray, List.set_cons_zero, List.set_cons_succ]
  refine wpAnyH_take (i := 4) (v := .bool false) rfl (by kernel_rfl) (by kernel_rfl) (by kernel_rfl) (fun _ _ _ h => h) (Or.inl ⟨by kernel_rfl, ?_⟩) hHeld ?_
  · intro w' hSw; go_simp
  try simp only [Act.put]
  refine wpAnyH_done (by kernel_rfl) ?_ _
  go_wp2
  go_ret
  exact ⟨rfl, B0⟩
theorem opOrder_of {w : World} {a b : Option Addr} {n k cap cap' : Nat} {zs ys : List Int} (h1 : IsRow .i64 w a n cap zs) (h2 : IsRow .i64 w b k cap' ys) :
    Calls Try.prog 5 #[.agg #[.slice a n cap, .slice b k cap']] w fun e w' => e = .returned (.bool true) ∧ Below w.heap.size w w' := by
  obtain ⟨f, hs, hn, -⟩ := src_of h1
  obtain ⟨h, ht, hk, -⟩ := src_of h2
  exact exactOpOrder_walk hs ht hn hk
end Go.Proofs.Ytglkddhifpnniaa
