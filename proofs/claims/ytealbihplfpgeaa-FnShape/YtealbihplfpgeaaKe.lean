/-
  The comparing closure of the corners, walked.
-/
import Derived.Test.YtealbihplfpgeaaKd
namespace Go.Proofs.Ytealbihplfpgeaa
open Go.RowKit Go.Shelf Go.Sort

set_option maxRecDepth 100000 in
theorem turning_any (q : Nat) (o1 o2 o3 a b g c d h : Int) (w : World) (ho : At 33 w q #[.int .i64 o1, .int .i64 o2, .int .i64 o3]) (ho1 : -1000000 ≤ o1 ∧ o1 ≤ 1000000) (ho2 : -1000000 ≤ o2 ∧ o2 ≤ 1000000) (ha : -1000000 ≤ a ∧ a ≤ 1000000) (hb : -1000000 ≤ b ∧ b ≤ 1000000) (hc : -1000000 ≤ c ∧ c ≤ 1000000) (hd : -1000000 ≤ d ∧ d ≤ 1000000) :
    Calls Try.prog 68 #[fV a b g, fV c d h, .pointer (some ⟨q, 0, none⟩)] w fun e w' => e = .returned (.int .i64 (if cmp3 (hT o1 o2 o3 a b g) (hT o1 o2 o3 c d h) = 0 then cmp3 0 (a * d - b * c) else cmp3 (hT o1 o2 o3 a b g) (hT o1 o2 o3 c d h))) ∧ Grew w w' := by
  have T := fun w => turnC_any a b g c d h w ha hb hc hd
  have H1 := fun w => half_any o1 o2 o3 a b g w ho1 ho2 ha hb
  have H2 := fun w => half_any o1 o2 o3 c d h w ho1 ho2 hc hd
  obtain ⟨t, ht⟩ : ∃ t, a * d - b * c = t := ⟨_, rfl⟩
  obtain ⟨x, hx⟩ : ∃ x, hT o1 o2 o3 a b g = x := ⟨_, rfl⟩
  obtain ⟨y, hy⟩ : ∃ y, hT o1 o2 o3 c d h = y := ⟨_, rfl⟩
  rw [ht] at T
  rw [hx] at H1
  rw [hy] at H2
  rw [ht, hx, hy]
  clear ht hx hy
  have OR := fun g cap w h0 h1 => or_any (cmp3 x y) (cmp3 0 t) g cap w h0 h1
  obtain ⟨R, hR⟩ : ∃ R, (if cmp3 x y = 0 then cmp3 0 t else cmp3 x y) = R := ⟨_, rfl⟩
  rw [hR] at OR ⊢
  clear hR
  obtain ⟨W, hW, b0, b1, bW, -⟩ := boxed2 w 33 33 #[.int .i64 a, .int .i64 b, .int .i64 g] #[.int .i64 c, .int .i64 d, .int .i64 h]
  have G : Grew w W := by rw [← hW]; exact ((Grew.refl w).alloc _).alloc _
  replace ho := ho.below bW
  go_enter Try.func68, Try.ntmps68
  go_wp2_with fail
  clear hW
  obtain ⟨q1, e1⟩ : ∃ z, w.heap.size = z := ⟨_, rfl⟩
  obtain ⟨q2, e2⟩ : ∃ z, q1 + 1 = z := ⟨_, rfl⟩
  rw [e1] at b0 b1 ⊢
  rw [e2] at b1 ⊢
  clear e1 e2 bW
  obtain ⟨u0, hu0, bb⟩ : ∃ uu, W.drew = uu ∧ Below W.heap.size W uu := ⟨_, rfl, (Below.refl _ _).drew⟩
  replace b0 := b0.below bb
  replace b1 := b1.below bb
  replace ho := ho.below bb
  replace G := G.drew
  rw [hu0] at G
  clear bb
  refine wp_region_held_drew (S := Grew u0) (by kernel_rfl) (by rw [hu0]; exact Grew.refl _) (fun hHeld => ?_)
  rw [hu0] at hHeld ⊢
  clear hu0
  have bu : Grew u0 u0 := Grew.refl _
  change wpAnyH _ _ _ _ _ 14 #[false, false, false, false, false, false, false, false, false, false, false, false, false, false] _ _
  obtain ⟨o0, p1, p2, -⟩ := ho.open3
  obtain ⟨x0, x1, x2, -⟩ := b0.open3
  obtain ⟨y0, y1, y2, -⟩ := b1.open3
  refine wpAnyH_take (i := 0) (v := fV o1 o2 o3) rfl (by kernel_rfl) (by kernel_rfl) (by kernel_rfl) (fun _ _ _ h => h) (Or.inl ⟨by kernel_rfl, ?_⟩) hHeld ?_
  · intro w' hSw; have hw := hSw.below; obtain ⟨z0, z1, z2, -⟩ := (ho.below hw).open3; go_simp
  try simp only [Act.put, List.setIfInBounds_toArray, List.set_cons_zero, List.set_cons_succ, List.getElem_toArray, List.getElem_cons_zero]
  refine wpAnyH_take (i := 1) (v := fV a b g) rfl (by kernel_rfl) (by kernel_rfl) (by kernel_rfl) (fun _ _ _ h => h) (Or.inl ⟨by kernel_rfl, ?_⟩) hHeld ?_
  · intro w' hSw; have hw := hSw.below; obtain ⟨z0, z1, z2, -⟩ := (b0.below hw).open3; go_simp
  try simp only [Act.put, List.setIfInBounds_toArray, List.set_cons_zero, List.set_cons_succ, List.getElem_toArray, List.getElem_cons_succ, List.getElem_cons_zero]
  refine wpAnyH_take (i := 3) (v := fV o1 o2 o3) rfl (by kernel_rfl) (by kernel_rfl) (by kernel_rfl) (fun _ _ _ h => h) (Or.inl ⟨by kernel_rfl, ?_⟩) hHeld ?_
  · intro w' hSw; have hw := hSw.below; obtain ⟨z0, z1, z2, -⟩ := (ho.below hw).open3; go_simp
  try simp only [Act.put, List.setIfInBounds_toArray, List.set_cons_zero, List.set_cons_succ, List.getElem_toArray, List.getElem_cons_succ, List.getElem_cons_zero]
  refine wpAnyH_take (i := 4) (v := fV c d h) rfl (by kernel_rfl) (by kernel_rfl) (by kernel_rfl) (fun _ _ _ h => h) (Or.inl ⟨by kernel_rfl, ?_⟩) hHeld ?_
  · intro w' hSw; have hw := hSw.below; obtain ⟨z0, z1, z2, -⟩ := (b1.below hw).open3; go_simp
  try simp only [Act.put, List.setIfInBounds_toArray, List.set_cons_zero, List.set_cons_succ, List.getElem_toArray, List.getElem_cons_succ, List.getElem_cons_zero]
  refine wpAnyH_take (i := 7) (v := fV a b g) rfl (by kernel_rfl) (by kernel_rfl) (by kernel_rfl) (fun _ _ _ h => h) (Or.inl ⟨by kernel_rfl, ?_⟩) hHeld ?_
  · intro w' hSw; have hw := hSw.below; obtain ⟨z0, z1, z2, -⟩ := (b0.below hw).open3; go_simp
  try simp only [Act.put, List.setIfInBounds_toArray, List.set_cons_zero, List.set_cons_succ, List.getElem_toArray, List.getElem_cons_succ, List.getElem_cons_zero]
  refine wpAnyH_take (i := 8) (v := fV c d h) rfl (by kernel_rfl) (by kernel_rfl) (by kernel_rfl) (fun _ _ _ h => h) (Or.inl ⟨by kernel_rfl, ?_⟩) hHeld ?_
  · intro w' hSw; have hw := hSw.below; obtain ⟨z0, z1, z2, -⟩ := (b1.below hw).open3; go_simp
  try simp only [Act.put, List.setIfInBounds_toArray, List.set_cons_zero, List.set_cons_succ, List.getElem_toArray, List.getElem_cons_succ, List.getElem_cons_zero]
  refine wpAnyH_ready (rs := [2]) (by kernel_rfl) (by simp) ?_
  refine AllReadyH.cons rfl (fun KK hK' => ?_) AllReadyH.nil
  go_simp
  refine (H1 _).mono ?_
  rintro e u1 ⟨rfl, bb⟩
  replace bu : Grew u0 u1 := bu.trans bb
  clear bb
  try go_wp2_with fail
  clear hHeld
  refine hK'.out _ _ bu (fun hHeld => ?_)
  clear hK' KK
  try simp only [List.setIfInBounds_toArray, List.set_cons_zero, List.set_cons_succ]
  refine wpAnyH_ready (rs := [5]) (by kernel_rfl) (by simp) ?_
  refine AllReadyH.cons rfl (fun KK hK' => ?_) AllReadyH.nil
  go_simp
  refine (H2 _).mono ?_
  rintro e u2 ⟨rfl, bb⟩
  replace bu : Grew u0 u2 := bu.trans bb
  clear bb
  try go_wp2_with fail
  clear hHeld
  refine hK'.out _ _ bu (fun hHeld => ?_)
  clear hK' KK
  try simp only [List.setIfInBounds_toArray, List.set_cons_zero, List.set_cons_succ]
  refine wpAnyH_ready (rs := [6]) (by kernel_rfl) (by simp) ?_
  refine AllReadyH.cons rfl (fun KK hK' => ?_) AllReadyH.nil
  go_simp
  refine (cmpi_any x y _).mono ?_
  rintro e u3 ⟨rfl, hz⟩
  have bb : Grew u2 u3 := by rw [← hz]; exact Grew.refl _
  clear hz
  replace bu : Grew u0 u3 := bu.trans bb
  clear bb
  try go_wp2_with fail
  clear hHeld
  refine hK'.out _ _ bu (fun hHeld => ?_)
  clear hK' KK
  try simp only [List.setIfInBounds_toArray, List.set_cons_zero, List.set_cons_succ]
  refine wpAnyH_ready (rs := [9]) (by kernel_rfl) (by simp) ?_
  refine AllReadyH.cons rfl (fun KK hK' => ?_) AllReadyH.nil
  go_simp
  refine (T _).mono ?_
  rintro e u4 ⟨rfl, bb⟩
  replace bu : Grew u0 u4 := bu.trans bb
  clear bb
  try go_wp2_with fail
  clear hHeld
  refine hK'.out _ _ bu (fun hHeld => ?_)
  clear hK' KK
  try simp only [List.setIfInBounds_toArray, List.set_cons_zero, List.set_cons_succ]
  refine wpAnyH_ready (rs := [10]) (by kernel_rfl) (by simp) ?_
  refine AllReadyH.cons rfl (fun KK hK' => ?_) AllReadyH.nil
  go_simp
  refine (cmp_any 0 t _).mono ?_
  rintro e u5 ⟨rfl, hz⟩
  have bb : Grew u4 u5 := by rw [← hz]; exact Grew.refl _
  clear hz
  replace bu : Grew u0 u5 := bu.trans bb
  clear bb
  try go_wp2_with fail
  clear hHeld
  refine hK'.out _ _ bu (fun hHeld => ?_)
  clear hK' KK
  try simp only [List.setIfInBounds_toArray, List.set_cons_zero, List.set_cons_succ]
  refine wpAnyH_ready (rs := [11]) (by kernel_rfl) (by simp) ?_
  refine AllReadyH.cons rfl (fun KK hK' => ?_) AllReadyH.nil
  go_simp
  clear hHeld
  refine hK'.out _ _ (bu.alloc _) (fun hHeld => ?_)
  clear hK' KK
  try simp only [List.setIfInBounds_toArray, List.set_cons_zero, List.set_cons_succ]
  replace bu := bu.alloc (Obj.cells #[Value.int IntKind.i64 (cmp3 x y), Value.int IntKind.i64 (cmp3 0 t)] 3)
  refine wpAnyH_ready (rs := [12]) (by kernel_rfl) (by simp) ?_
  refine AllReadyH.cons rfl (fun KK hK' => ?_) AllReadyH.nil
  go_simp
  refine (OR _ _ _ ((at_new 3 _ _).cell 0 rfl) ((at_new 3 _ _).cell 1 rfl)).mono ?_
  rintro e u6 ⟨rfl, hz⟩
  have bb : Grew (u5.alloc (Obj.cells #[Value.int IntKind.i64 (cmp3 x y), Value.int IntKind.i64 (cmp3 0 t)] 3)) u6 := by rw [← hz]; exact Grew.refl _
  clear hz
  replace bu : Grew u0 u6 := bu.trans bb
  clear bb
  try go_wp2_with fail
  clear hHeld
  refine hK'.out _ _ bu (fun hHeld => ?_)
  clear hK' KK
  try simp only [List.setIfInBounds_toArray, List.set_cons_zero, List.set_cons_succ]
  refine wpAnyH_ready (rs := [13]) (by kernel_rfl) (by simp) ?_
  refine AllReadyH.cons rfl (fun KK hK' => ?_) AllReadyH.nil
  go_simp
  clear hHeld
  refine hK'.out _ _ (bu) (fun hHeld => ?_)
  clear hK' KK
  try simp only [List.setIfInBounds_toArray, List.set_cons_zero, List.set_cons_succ]
  refine wpAnyH_done (by kernel_rfl) ?_ _
  clear hHeld
  go_wp2_with fail
  go_ret
  exact ⟨rfl, G.trans bu⟩
end Go.Proofs.Ytealbihplfpgeaa
