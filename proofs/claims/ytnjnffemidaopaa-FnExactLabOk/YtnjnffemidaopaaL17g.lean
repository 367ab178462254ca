/-
  Which labs are right: the program answers as the specification: the law's walk.
-/
import Derived.Test.YtnjnffemidaopaaL17e
namespace Go.Proofs.Ytnjnffemidaopaa
open Go.RowKit

set_option maxRecDepth 100000 in
set_option maxHeartbeats 3200000 in
theorem exactLabOk_walk {w : World} {p q : Option Addr} {N cap M cap2 : Nat} {T : Int} {f k : Nat → Int} (hS : Src w p (N * 3) f) (hN : N ≤ maxLen) (hJ : Src w q (M * 4) k) (hM : M ≤ maxLen) :
    Calls Try.prog 6 #[lbV p N cap q M cap2 T] w fun e w' => e = .returned (.bool true) ∧ Below w.heap.size w w' := by
  obtain ⟨b, hb⟩ := bool_of (LbOk N f M k T)
  have HB : Hid (b = true ↔ LbOk N f M k T) := hb
  clear hb
  have hbb := bne_self_eq_false b
  obtain ⟨W1, hW1, a1, b1, -⟩ := boxed w 48 #[.slice p N cap, .slice q M cap2, .int .i64 T]
  obtain ⟨q1, hq1⟩ : ∃ q, w.heap.size = q := ⟨_, rfl⟩
  rw [hq1] at a1
  have HS : Hid (Src w p (N * 3) f) := hS
  have HL : Hid (Src w q (M * 4) k) := hJ
  obtain ⟨c0, c1, c2, -⟩ := a1.open3
  clear hS hJ
  go_enter Try.func6, Try.ntmps6
  go_wp2_with fail
  refine (szLab_any hN hM).mono ?_
  rintro e w2 ⟨r, rfl, hr, b2⟩
  have B := b1.trans (b2.mono b1.size)
  replace a1 := a1.below b2
  clear c0 c1 c2 hW1 hq1 b1 b2 hN hM
  obtain ⟨c0, c1, c2, -⟩ := a1.open3
  rcases hr with rfl | ⟨r0, hN, hM⟩
  · go_wp2
    go_ret
    exact ⟨rfl, B⟩
  have hr0 : ¬ r < 0 := by omega
  go_wp2_with fail
  refine (toLab_any (HS.out.below B) (HL.out.below B) hN hM).mono ?_
  rintro e w3 ⟨g3, h3, rfl, -, -, D3, E3, b3⟩
  replace B := B.trans (b3.mono B.size)
  replace a1 := a1.below b3
  clear c0 c1 c2 b3
  go_wp2_with fail
  refine (specLabOk_any (.inr ⟨g3, rfl, D3.recsN⟩) hN (.inr ⟨h3, rfl, E3.recsN⟩) hM b HB).mono ?_
  rintro e w4 ⟨rfl, b4⟩
  replace B := B.trans (b4.mono B.size)
  replace a1 := a1.below b4
  clear b4 D3 E3
  obtain ⟨c0, c1, c2, -⟩ := a1.open3
  go_wp2_with fail
  refine (toLab_any (HS.out.below B) (HL.out.below B) hN hM).mono ?_
  rintro e w5 ⟨g5, h5, rfl, -, -, D5, E5, b5⟩
  replace B := B.trans (b5.mono B.size)
  replace a1 := a1.below b5
  clear c0 c1 c2 b5
  obtain ⟨W6, hW6, a6, b6, -⟩ := boxed w5 27 #[.slice (some ⟨g5, 0, none⟩) N N, .slice (some ⟨h5, 0, none⟩) M M, .int .i64 T]
  obtain ⟨q6, hq6⟩ : ∃ q, w5.heap.size = q := ⟨_, rfl⟩
  rw [hq6] at a6
  replace D5 := D5.below b6
  replace E5 := E5.below b6
  replace B := B.trans (b6.mono B.size)
  replace a1 := a1.below b6
  obtain ⟨c0, c1, c2, -⟩ := a6.open3
  clear b6
  go_wp2_with fail
  refine (implLabOk_any (.inr ⟨g5, rfl, D5.recsN⟩) hN (.inr ⟨h5, rfl, E5.recsN⟩) hM (Nat.le_refl _) b HB).mono ?_
  rintro e w7 ⟨rfl, b7⟩
  replace B := B.trans (b7.mono B.size)
  replace a1 := a1.below b7
  replace a6 := a6.below b7
  replace D5 := D5.below b7
  replace E5 := E5.below b7
  clear c0 c1 c2 b7 hW6 hq6
  go_wp2_with fail
  obtain ⟨u0, hu0, bb⟩ : ∃ uu, w7.drew = uu ∧ Below w7.heap.size w7 uu := ⟨_, rfl, (Below.refl _ _).drew⟩
  replace a1 := a1.below bb
  replace a6 := a6.below bb
  replace D5 := D5.below bb
  replace E5 := E5.below bb
  replace B := B.trans (bb.mono B.size)
  clear bb
  refine wp_region_held_drew (S := Kb u0) (by kernel_rfl) (by rw [hu0]; exact Below.refl _ _) (fun hHeld => ?_)
  rw [hu0] at hHeld ⊢
  clear hu0
  have bu : Kb u0 u0 := Below.refl _ _
  change wpAnyH _ _ _ _ _ 5 #[false, false, false, false, false] _ _
  refine wpAnyH_take (i := 0) (v := .agg #[.slice ((some ⟨g5, 0, none⟩)) N N, .slice ((some ⟨h5, 0, none⟩)) M M, .int .i64 (T)]) rfl (by kernel_rfl) (by kernel_rfl) (by kernel_rfl) (fun _ _ _ h => h) (Or.inl ⟨by kernel_rfl, ?_⟩) hHeld ?_
  · intro w' hSw; obtain ⟨z0, z1, z2, -⟩ := (a6.below hSw).open3; go_simp
  try simp only [Act.put, List.setIfInBounds_toArray, List.set_cons_zero, List.set_cons_succ, List.getElem_toArray, List.getElem_cons_zero]
  refine wpAnyH_take (i := 1) (v := .agg #[.slice p N cap, .slice q M cap2, .int .i64 (T)]) rfl (by kernel_rfl) (by kernel_rfl) (by kernel_rfl) (fun _ _ _ h => h) (Or.inl ⟨by kernel_rfl, ?_⟩) hHeld ?_
  · intro w' hSw; obtain ⟨z0, z1, z2, -⟩ := (a1.below hSw).open3; go_simp
  try simp only [Act.put, List.setIfInBounds_toArray, List.set_cons_zero, List.set_cons_succ, List.getElem_toArray, List.getElem_cons_succ, List.getElem_cons_zero]
  refine wpAnyH_ready (rs := [2]) (by kernel_rfl) (by simp) ?_
  refine AllReadyH.cons rfl (fun KK hK' => ?_) AllReadyH.nil
  go_simp
  refine (toLab_any (HS.out.below B) (HL.out.below B) hN hM).mono ?_
  rintro e u1 ⟨g9, h9, rfl, -, -, D9, E9, bb⟩
  replace D5 := D5.below bb
  replace E5 := E5.below bb
  replace B := B.trans (bb.mono B.size)
  replace bu : Kb u0 u1 := bu.trans (bb.mono bu.size)
  clear bb
  try go_wp2_with fail
  clear hHeld
  refine hK'.out _ _ (bu) (fun hHeld => ?_)
  clear hK' KK
  try simp only [List.setIfInBounds_toArray, List.set_cons_zero, List.set_cons_succ]
  refine wpAnyH_ready (rs := [3]) (by kernel_rfl) (by simp) ?_
  refine AllReadyH.cons rfl (fun KK hK' => ?_) AllReadyH.nil
  go_simp
  refine (eqLab_true (.inr ⟨g5, rfl, D5.recsN⟩) (.inr ⟨g9, rfl, D9.recsN⟩) (.inr ⟨h5, rfl, E5.recsN⟩) (.inr ⟨h9, rfl, E9.recsN⟩) hN hM).mono ?_
  rintro e u2 ⟨rfl, bb⟩
  replace B := B.trans (bb.mono B.size)
  replace bu : Kb u0 u2 := bu.trans (bb.mono bu.size)
  clear bb D5 D9 E5 E9
  try go_wp2_with fail
  clear hHeld
  refine hK'.out _ _ (bu) (fun hHeld => ?_)
  clear hK' KK
  try simp only [List.setIfInBounds_toArray, List.set_cons_zero, List.set_cons_succ]
  refine wpAnyH_take (i := 4) (v := .bool false) rfl (by kernel_rfl) (by kernel_rfl) (by kernel_rfl) (fun _ _ _ h => h) (Or.inl ⟨by kernel_rfl, ?_⟩) hHeld ?_
  · intro w' hSw; go_simp
  try simp only [Act.put, List.setIfInBounds_toArray, List.set_cons_zero, List.set_cons_succ, List.getElem_toArray, List.getElem_cons_succ, List.getElem_cons_zero]
  refine wpAnyH_done (by kernel_rfl) ?_ _
  clear hHeld
  go_wp2
  go_ret
  exact ⟨rfl, B⟩
end Go.Proofs.Ytnjnffemidaopaa
