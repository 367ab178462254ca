/-
  The corner that is least by x, then by y: walked.
-/
import Derived.Test.YtealbihplfpgeaaKg
namespace Go.Proofs.Ytealbihplfpgeaa
open Go.RowKit Go.Shelf Go.Sort

set_option maxRecDepth 100000 in
theorem compC_any (a b g c d h : Int) (w : World) (ha : -1000000 ≤ a ∧ a ≤ 1000000) (hb : -1000000 ≤ b ∧ b ≤ 1000000) (hc : -1000000 ≤ c ∧ c ≤ 1000000) (hd : -1000000 ≤ d ∧ d ≤ 1000000) (hg : -1000000 ≤ g ∧ g ≤ 1000000) (hh : -1000000 ≤ h ∧ h ≤ 1000000) :
    Calls Try.prog 40 #[fV a b g, fV c d h] w fun e w' => e = .returned (.int .i64 (if cmp3 (a * h) (c * g) = 0 then cmp3 (b * h) (d * g) else cmp3 (a * h) (c * g))) ∧ Grew w w' := by
  have m1 := mul_bound ha hh
  have m2 := mul_bound hc hg
  have m3 := mul_bound hb hh
  have m4 := mul_bound hd hg
  obtain ⟨p1, e1⟩ : ∃ z, a * h = z := ⟨_, rfl⟩
  obtain ⟨p2, e2⟩ : ∃ z, c * g = z := ⟨_, rfl⟩
  obtain ⟨p3, e3⟩ : ∃ z, b * h = z := ⟨_, rfl⟩
  obtain ⟨p4, e4⟩ : ∃ z, d * g = z := ⟨_, rfl⟩
  rw [e1] at m1
  rw [e2] at m2
  rw [e3] at m3
  rw [e4] at m4
  rw [e1, e2, e3, e4]
  have k1 : IntKind.i64.wrap (a * h) = p1 := by rw [e1]; (first | (rw [IntKind.wrap_i64]; omega) | exact wrap64 (by omega) (by omega))
  have k2 : IntKind.i64.wrap (c * g) = p2 := by rw [e2]; (first | (rw [IntKind.wrap_i64]; omega) | exact wrap64 (by omega) (by omega))
  have k3 : IntKind.i64.wrap (b * h) = p3 := by rw [e3]; (first | (rw [IntKind.wrap_i64]; omega) | exact wrap64 (by omega) (by omega))
  have k4 : IntKind.i64.wrap (d * g) = p4 := by rw [e4]; (first | (rw [IntKind.wrap_i64]; omega) | exact wrap64 (by omega) (by omega))
  clear e1 e2 e3 e4 m1 m2 m3 m4
  have OR := fun g cap w h0 h1 => or_any (cmp3 p1 p2) (cmp3 p3 p4) g cap w h0 h1
  obtain ⟨R, hR⟩ : ∃ R, (if cmp3 p1 p2 = 0 then cmp3 p3 p4 else cmp3 p1 p2) = R := ⟨_, rfl⟩
  rw [hR] at OR ⊢
  clear hR
  obtain ⟨W, hW, b0, b1, bW, -⟩ := boxed2 w 33 33 #[.int .i64 a, .int .i64 b, .int .i64 g] #[.int .i64 c, .int .i64 d, .int .i64 h]
  have G : Grew w W := by rw [← hW]; exact ((Grew.refl w).alloc _).alloc _
  go_enter Try.func40, Try.ntmps40
  go_wp2_with fail
  clear hW
  obtain ⟨q1, e1⟩ : ∃ z, w.heap.size = z := ⟨_, rfl⟩
  obtain ⟨q2, e2⟩ : ∃ z, q1 + 1 = z := ⟨_, rfl⟩
  rw [e1] at b0 b1 ⊢
  rw [e2] at b1 ⊢
  clear e1 e2 bW
  obtain ⟨u0, hu0, bb⟩ : ∃ uu, W.drew = uu ∧ Below W.heap.size W uu := ⟨_, rfl, (Below.refl _ _).drew⟩
  replace b0 := b0.below bb
  replace b1 := b1.below bb
  replace G := G.drew
  rw [hu0] at G
  clear bb
  refine wp_region_held_drew (S := Grew u0) (by kernel_rfl) (by rw [hu0]; exact Grew.refl _) (fun hHeld => ?_)
  rw [hu0] at hHeld ⊢
  clear hu0
  have bu : Grew u0 u0 := Grew.refl _
  change wpAnyH _ _ _ _ _ 25 #[false, false, false, false, false, false, false, false, false, false, false, false, false, false, false, false, false, false, false, false, false, false, false, false, false] _ _
  refine wpAnyH_take (i := 0) (v := .pointer (some ⟨q1, 0, none⟩)) rfl (by kernel_rfl) (by kernel_rfl) (by kernel_rfl) (fun _ _ _ h => h) (Or.inl ⟨by kernel_rfl, ?_⟩) hHeld ?_
  · intro w' hSw; go_simp
  try simp only [Act.put, List.setIfInBounds_toArray, List.set_cons_zero, List.set_cons_succ, List.getElem_toArray, List.getElem_cons_zero]
  refine wpAnyH_take (i := 1) (v := .int .i64 a) rfl (by kernel_rfl) (by kernel_rfl) (by kernel_rfl) (fun _ _ _ h => h) (Or.inl ⟨by kernel_rfl, ?_⟩) hHeld ?_
  · intro w' hSw; have hw := hSw.below; obtain ⟨z0, z1, z2, -⟩ := (b0.below hw).open3; go_simp
  try simp only [Act.put, List.setIfInBounds_toArray, List.set_cons_zero, List.set_cons_succ, List.getElem_toArray, List.getElem_cons_succ, List.getElem_cons_zero]
  refine wpAnyH_take (i := 2) (v := .pointer (some ⟨q2, 2, none⟩)) rfl (by kernel_rfl) (by kernel_rfl) (by kernel_rfl) (fun _ _ _ h => h) (Or.inl ⟨by kernel_rfl, ?_⟩) hHeld ?_
  · intro w' hSw; go_simp
  try simp only [Act.put, List.setIfInBounds_toArray, List.set_cons_zero, List.set_cons_succ, List.getElem_toArray, List.getElem_cons_succ, List.getElem_cons_zero]
  refine wpAnyH_take (i := 3) (v := .int .i64 h) rfl (by kernel_rfl) (by kernel_rfl) (by kernel_rfl) (fun _ _ _ h => h) (Or.inl ⟨by kernel_rfl, ?_⟩) hHeld ?_
  · intro w' hSw; have hw := hSw.below; obtain ⟨z0, z1, z2, -⟩ := (b1.below hw).open3; go_simp
  try simp only [Act.put, List.setIfInBounds_toArray, List.set_cons_zero, List.set_cons_succ, List.getElem_toArray, List.getElem_cons_succ, List.getElem_cons_zero]
  refine wpAnyH_take (i := 4) (v := .int .i64 p1) rfl (by kernel_rfl) (by kernel_rfl) (by kernel_rfl) (fun _ _ _ h => h) (Or.inl ⟨by kernel_rfl, ?_⟩) hHeld ?_
  · intro w' hSw; go_simp
  try simp only [Act.put, List.setIfInBounds_toArray, List.set_cons_zero, List.set_cons_succ, List.getElem_toArray, List.getElem_cons_succ, List.getElem_cons_zero]
  refine wpAnyH_take (i := 5) (v := .pointer (some ⟨q2, 0, none⟩)) rfl (by kernel_rfl) (by kernel_rfl) (by kernel_rfl) (fun _ _ _ h => h) (Or.inl ⟨by kernel_rfl, ?_⟩) hHeld ?_
  · intro w' hSw; go_simp
  try simp only [Act.put, List.setIfInBounds_toArray, List.set_cons_zero, List.set_cons_succ, List.getElem_toArray, List.getElem_cons_succ, List.getElem_cons_zero]
  refine wpAnyH_take (i := 6) (v := .int .i64 c) rfl (by kernel_rfl) (by kernel_rfl) (by kernel_rfl) (fun _ _ _ h => h) (Or.inl ⟨by kernel_rfl, ?_⟩) hHeld ?_
  · intro w' hSw; have hw := hSw.below; obtain ⟨z0, z1, z2, -⟩ := (b1.below hw).open3; go_simp
  try simp only [Act.put, List.setIfInBounds_toArray, List.set_cons_zero, List.set_cons_succ, List.getElem_toArray, List.getElem_cons_succ, List.getElem_cons_zero]
  refine wpAnyH_take (i := 7) (v := .pointer (some ⟨q1, 2, none⟩)) rfl (by kernel_rfl) (by kernel_rfl) (by kernel_rfl) (fun _ _ _ h => h) (Or.inl ⟨by kernel_rfl, ?_⟩) hHeld ?_
  · intro w' hSw; go_simp
  try simp only [Act.put, List.setIfInBounds_toArray, List.set_cons_zero, List.set_cons_succ, List.getElem_toArray, List.getElem_cons_succ, List.getElem_cons_zero]
  refine wpAnyH_take (i := 8) (v := .int .i64 g) rfl (by kernel_rfl) (by kernel_rfl) (by kernel_rfl) (fun _ _ _ h => h) (Or.inl ⟨by kernel_rfl, ?_⟩) hHeld ?_
  · intro w' hSw; have hw := hSw.below; obtain ⟨z0, z1, z2, -⟩ := (b0.below hw).open3; go_simp
  try simp only [Act.put, List.setIfInBounds_toArray, List.set_cons_zero, List.set_cons_succ, List.getElem_toArray, List.getElem_cons_succ, List.getElem_cons_zero]
  refine wpAnyH_take (i := 9) (v := .int .i64 p2) rfl (by kernel_rfl) (by kernel_rfl) (by kernel_rfl) (fun _ _ _ h => h) (Or.inl ⟨by kernel_rfl, ?_⟩) hHeld ?_
  · intro w' hSw; go_simp
  try simp only [Act.put, List.setIfInBounds_toArray, List.set_cons_zero, List.set_cons_succ, List.getElem_toArray, List.getElem_cons_succ, List.getElem_cons_zero]
  refine wpAnyH_take (i := 11) (v := .pointer (some ⟨q1, 1, none⟩)) rfl (by kernel_rfl) (by kernel_rfl) (by kernel_rfl) (fun _ _ _ h => h) (Or.inl ⟨by kernel_rfl, ?_⟩) hHeld ?_
  · intro w' hSw; go_simp
  try simp only [Act.put, List.setIfInBounds_toArray, List.set_cons_zero, List.set_cons_succ, List.getElem_toArray, List.getElem_cons_succ, List.getElem_cons_zero]
  refine wpAnyH_take (i := 12) (v := .int .i64 b) rfl (by kernel_rfl) (by kernel_rfl) (by kernel_rfl) (fun _ _ _ h => h) (Or.inl ⟨by kernel_rfl, ?_⟩) hHeld ?_
  · intro w' hSw; have hw := hSw.below; obtain ⟨z0, z1, z2, -⟩ := (b0.below hw).open3; go_simp
  try simp only [Act.put, List.setIfInBounds_toArray, List.set_cons_zero, List.set_cons_succ, List.getElem_toArray, List.getElem_cons_succ, List.getElem_cons_zero]
  refine wpAnyH_take (i := 13) (v := .pointer (some ⟨q2, 2, none⟩)) rfl (by kernel_rfl) (by kernel_rfl) (by kernel_rfl) (fun _ _ _ h => h) (Or.inl ⟨by kernel_rfl, ?_⟩) hHeld ?_
  · intro w' hSw; go_simp
  try simp only [Act.put, List.setIfInBounds_toArray, List.set_cons_zero, List.set_cons_succ, List.getElem_toArray, List.getElem_cons_succ, List.getElem_cons_zero]
  refine wpAnyH_take (i := 14) (v := .int .i64 h) rfl (by kernel_rfl) (by kernel_rfl) (by kernel_rfl) (fun _ _ _ h => h) (Or.inl ⟨by kernel_rfl, ?_⟩) hHeld ?_
  · intro w' hSw; have hw := hSw.below; obtain ⟨z0, z1, z2, -⟩ := (b1.below hw).open3; go_simp
  try simp only [Act.put, List.setIfInBounds_toArray, List.set_cons_zero, List.set_cons_succ, List.getElem_toArray, List.getElem_cons_succ, List.getElem_cons_zero]
  refine wpAnyH_take (i := 15) (v := .int .i64 p3) rfl (by kernel_rfl) (by kernel_rfl) (by kernel_rfl) (fun _ _ _ h => h) (Or.inl ⟨by kernel_rfl, ?_⟩) hHeld ?_
  · intro w' hSw; go_simp
  try simp only [Act.put, List.setIfInBounds_toArray, List.set_cons_zero, List.set_cons_succ, List.getElem_toArray, List.getElem_cons_succ, List.getElem_cons_zero]
  refine wpAnyH_take (i := 16) (v := .pointer (some ⟨q2, 1, none⟩)) rfl (by kernel_rfl) (by kernel_rfl) (by kernel_rfl) (fun _ _ _ h => h) (Or.inl ⟨by kernel_rfl, ?_⟩) hHeld ?_
  · intro w' hSw; go_simp
  try simp only [Act.put, List.setIfInBounds_toArray, List.set_cons_zero, List.set_cons_succ, List.getElem_toArray, List.getElem_cons_succ, List.getElem_cons_zero]
  refine wpAnyH_take (i := 17) (v := .int .i64 d) rfl (by kernel_rfl) (by kernel_rfl) (by kernel_rfl) (fun _ _ _ h => h) (Or.inl ⟨by kernel_rfl, ?_⟩) hHeld ?_
  · intro w' hSw; have hw := hSw.below; obtain ⟨z0, z1, z2, -⟩ := (b1.below hw).open3; go_simp
  try simp only [Act.put, List.setIfInBounds_toArray, List.set_cons_zero, List.set_cons_succ, List.getElem_toArray, List.getElem_cons_succ, List.getElem_cons_zero]
  refine wpAnyH_take (i := 18) (v := .pointer (some ⟨q1, 2, none⟩)) rfl (by kernel_rfl) (by kernel_rfl) (by kernel_rfl) (fun _ _ _ h => h) (Or.inl ⟨by kernel_rfl, ?_⟩) hHeld ?_
  · intro w' hSw; go_simp
  try simp only [Act.put, List.setIfInBounds_toArray, List.set_cons_zero, List.set_cons_succ, List.getElem_toArray, List.getElem_cons_succ, List.getElem_cons_zero]
  refine wpAnyH_take (i := 19) (v := .int .i64 g) rfl (by kernel_rfl) (by kernel_rfl) (by kernel_rfl) (fun _ _ _ h => h) (Or.inl ⟨by kernel_rfl, ?_⟩) hHeld ?_
  · intro w' hSw; have hw := hSw.below; obtain ⟨z0, z1, z2, -⟩ := (b0.below hw).open3; go_simp
  try simp only [Act.put, List.setIfInBounds_toArray, List.set_cons_zero, List.set_cons_succ, List.getElem_toArray, List.getElem_cons_succ, List.getElem_cons_zero]
  refine wpAnyH_take (i := 20) (v := .int .i64 p4) rfl (by kernel_rfl) (by kernel_rfl) (by kernel_rfl) (fun _ _ _ h => h) (Or.inl ⟨by kernel_rfl, ?_⟩) hHeld ?_
  · intro w' hSw; go_simp
  try simp only [Act.put, List.setIfInBounds_toArray, List.set_cons_zero, List.set_cons_succ, List.getElem_toArray, List.getElem_cons_succ, List.getElem_cons_zero]
  refine wpAnyH_ready (rs := [10]) (by kernel_rfl) (by simp) ?_
  refine AllReadyH.cons rfl (fun KK hK' => ?_) AllReadyH.nil
  go_simp
  refine (cmp_any p1 p2 _).mono ?_
  rintro e u1 ⟨rfl, hz⟩
  have bb : Grew u0 u1 := by rw [← hz]; exact Grew.refl _
  clear hz
  replace bu : Grew u0 u1 := bu.trans bb
  clear bb
  try go_wp2_with fail
  clear hHeld
  refine hK'.out _ _ bu (fun hHeld => ?_)
  clear hK' KK
  try simp only [List.setIfInBounds_toArray, List.set_cons_zero, List.set_cons_succ]
  refine wpAnyH_ready (rs := [21]) (by kernel_rfl) (by simp) ?_
  refine AllReadyH.cons rfl (fun KK hK' => ?_) AllReadyH.nil
  go_simp
  refine (cmp_any p3 p4 _).mono ?_
  rintro e u5 ⟨rfl, hz⟩
  have bb : Grew u1 u5 := by rw [← hz]; exact Grew.refl _
  clear hz
  replace bu : Grew u0 u5 := bu.trans bb
  clear bb
  try go_wp2_with fail
  clear hHeld
  refine hK'.out _ _ bu (fun hHeld => ?_)
  clear hK' KK
  try simp only [List.setIfInBounds_toArray, List.set_cons_zero, List.set_cons_succ]
  refine wpAnyH_ready (rs := [22]) (by kernel_rfl) (by simp) ?_
  refine AllReadyH.cons rfl (fun KK hK' => ?_) AllReadyH.nil
  go_simp
  clear hHeld
  refine hK'.out _ _ (bu.alloc _) (fun hHeld => ?_)
  clear hK' KK
  try simp only [List.setIfInBounds_toArray, List.set_cons_zero, List.set_cons_succ]
  replace bu := bu.alloc (Obj.cells #[Value.int IntKind.i64 (cmp3 p1 p2), Value.int IntKind.i64 (cmp3 p3 p4)] 3)
  refine wpAnyH_ready (rs := [23]) (by kernel_rfl) (by simp) ?_
  refine AllReadyH.cons rfl (fun KK hK' => ?_) AllReadyH.nil
  go_simp
  refine (OR _ _ _ ((at_new 3 _ _).cell 0 rfl) ((at_new 3 _ _).cell 1 rfl)).mono ?_
  rintro e u6 ⟨rfl, hz⟩
  have bb : Grew (u5.alloc (Obj.cells #[Value.int IntKind.i64 (cmp3 p1 p2), Value.int IntKind.i64 (cmp3 p3 p4)] 3)) u6 := by rw [← hz]; exact Grew.refl _
  clear hz
  replace bu : Grew u0 u6 := bu.trans bb
  clear bb
  try go_wp2_with fail
  clear hHeld
  refine hK'.out _ _ bu (fun hHeld => ?_)
  clear hK' KK
  try simp only [List.setIfInBounds_toArray, List.set_cons_zero, List.set_cons_succ]
  refine wpAnyH_ready (rs := [24]) (by kernel_rfl) (by simp) ?_
  refine AllReadyH.cons rfl (fun KK hK' => ?_) AllReadyH.nil
  go_simp
  clear hHeld
  refine hK'.out _ _ (bu) (fun hHeld => ?_)
  clear hK' KK
  try simp only [List.setIfInBounds_toArray, List.set_cons_zero, List.set_cons_succ]
  refine wpAnyH_done (by kernel_rfl) ?_ _
  clear hHeld
  go_wp2_with fail
  go_ret
  exact ⟨rfl, G.trans bu⟩
end Go.Proofs.Ytealbihplfpgeaa
