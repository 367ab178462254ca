/-
  Detectors: blank ones, told as frames, walked.
-/
import Derived.Test.YtfgehmcloeebkaaVb
import Derived.Test.YtfgehmcloeebkaaLa
import Derived.Laws.OwnMore
namespace Go.Proofs.Ytfgehmcloeebkaa
open Go.RowKit

theorem make_zeros (M : Nat) (hM : M ≤ 1048576) : ∀ w, (Instr.makeSlice 24 (.int .i64 (M : Int)) (.int .i64 (M : Int))).run Try.prog w = .ok (.slice (some ⟨w.heap.size, 0, none⟩) M M) (w.alloc (.cells (madeCells #[.int .i64 0] M) 2)) := by
  obtain ⟨i0, hi0, hz0, hz1, hz2⟩ := info_parts infoI
  intro w
  have := run_make (P := Try.prog) w 24 2 i0 _ Try.underlying24 hi0 hz0 .i64 .i64 (M : Int) (M : Int) (by omega) (by omega) (by rw [hz2]; omega) (by omega)
  rw [this, hz1]
  simp [Value.cells]
theorem zeros_at {M i : Nat} (h : i < M) : (madeCells #[Value.int .i64 0] M)[i]? = some (.int .i64 0) := by
  rw [← Array.getElem?_toList, toList_madeCells_one]
  simp [h]
set_option maxHeartbeats 4000000 in
theorem blank_any (W H : Int) (n : Nat) (w : World) (hW : 1 ≤ W ∧ W ≤ 64) (hH : 1 ≤ H ∧ H ≤ 64) (hn : (n : Int) = W * H) : Calls Try.prog 44 #[gV W H] w fun e w' => ∃ g, e = .returned (fV W H (.slice (some ⟨g, 0, none⟩) n n)) ∧ w.heap.size ≤ g ∧ Own w' g n (fun _ => 0) ∧ Below w.heap.size w w' := by
  have p1 := mul_in (a := W) (b := H) (x := 64) (y := 64) (by omega) (by omega)
  have hmk := make_zeros n (by omega)
  rw [hn] at hmk
  clear hn
  obtain ⟨V, hV, b0, bV, -⟩ := boxed w 56 #[.int .i64 W, .int .i64 H]
  obtain ⟨V2, hV2, b2, bV2, -⟩ := boxed V 58 #[.int .i64 0, .int .i64 0, .slice none 0 0]
  have s0 := b0.lt
  have s2 := b2.lt
  go_enter Try.func44, Try.ntmps44
  go_wp2_with fail
  obtain ⟨u0, hu0, bb⟩ : ∃ uu, V2.drew = uu ∧ Below V2.heap.size V2 uu := ⟨_, rfl, (Below.refl _ _).drew⟩
  replace b2 := b2.below bb
  replace bV2 := bV2.trans (bb.mono bV2.size)
  have bu : Kb V u0 := bV2
  clear bb
  refine wp_region_held_drew (S := Kb V) (by kernel_rfl) (by rw [hu0]; exact bu) (fun hHeld => ?_)
  rw [hu0] at hHeld ⊢
  clear hu0
  change wpAnyH _ _ _ _ _ 6 #[false, false, false, false, false, false] _ _
  refine wpAnyH_take (i := 0) (v := .agg #[.int .i64 (W), .int .i64 (H)]) rfl (by kernel_rfl) (by kernel_rfl) (by kernel_rfl) (fun _ _ _ h => h) (Or.inl ⟨by kernel_rfl, ?_⟩) hHeld ?_
  · intro w' hSw; obtain ⟨z0, z1, -⟩ := (b0.below hSw).open2; go_simp
  try simp only [Act.put, List.setIfInBounds_toArray, List.set_cons_zero, List.set_cons_succ, List.getElem_toArray, List.getElem_cons_zero]
  refine wpAnyH_take (i := 1) (v := .agg #[.int .i64 (W), .int .i64 (H)]) rfl (by kernel_rfl) (by kernel_rfl) (by kernel_rfl) (fun _ _ _ h => h) (Or.inl ⟨by kernel_rfl, ?_⟩) hHeld ?_
  · intro w' hSw; obtain ⟨z0, z1, -⟩ := (b0.below hSw).open2; go_simp
  try simp only [Act.put, List.setIfInBounds_toArray, List.set_cons_zero, List.set_cons_succ, List.getElem_toArray, List.getElem_cons_succ, List.getElem_cons_zero]
  refine wpAnyH_ready (rs := [2]) (by kernel_rfl) (by simp) ?_
  refine AllReadyH.cons rfl (fun KK hK' => ?_) AllReadyH.nil
  go_simp
  refine (size_any W H _ hW hH).mono ?_
  rintro e u1 ⟨rfl, bb⟩
  replace b2 := b2.below bb
  have lt1 := b2.lt
  replace bu : Kb V u1 := bu.trans (bb.mono bu.size)
  clear bb
  try go_wp2_with fail
  clear hHeld
  refine hK'.out _ _ bu (fun hHeld => ?_)
  clear hK' KK
  try simp only [List.setIfInBounds_toArray, List.set_cons_zero, List.set_cons_succ]
  refine wpAnyH_ready (rs := [3]) (by kernel_rfl) (by simp) ?_
  refine AllReadyH.cons rfl (fun KK hK' => ?_) AllReadyH.nil
  go_simp
  obtain ⟨u2, hu2, m2, bb, s2⟩ := boxed u1 2 (madeCells #[.int .i64 0] n)
  rw [hu2]
  clear hu2
  replace b2 := b2.below bb
  have hg := bu.size
  replace bu : Kb V u2 := bu.trans (bb.mono bu.size)
  clear bb
  clear hHeld
  refine hK'.out _ _ (bu) (fun hHeld => ?_)
  clear hK' KK
  try simp only [List.setIfInBounds_toArray, List.set_cons_zero, List.set_cons_succ]
  refine wpAnyH_take (i := 4) (v := .agg #[.int .i64 (W), .int .i64 (H), .slice ((some ⟨u1.heap.size, 0, none⟩)) n n]) rfl (by kernel_rfl) (by kernel_rfl) (by kernel_rfl) (fun _ _ _ h => h) (Or.inl ⟨by kernel_rfl, ?_⟩) hHeld ?_
  · intro w' hSw; go_simp
  try simp only [Act.put, List.setIfInBounds_toArray, List.set_cons_zero, List.set_cons_succ, List.getElem_toArray, List.getElem_cons_succ, List.getElem_cons_zero]
  refine wpAnyH_ready (rs := [5]) (by kernel_rfl) (by simp) ?_
  refine AllReadyH.cons rfl (fun KK hK' => ?_) AllReadyH.nil
  obtain ⟨d0, d1, d2, f0, f1, f2⟩ := b2.open3
  go_simp
  clear hHeld
  refine hK'.out _ _ (below_put3 bu (Nat.le_refl _) _ _ _) (fun hHeld => ?_)
  clear hK' KK
  try simp only [List.setIfInBounds_toArray, List.set_cons_zero, List.set_cons_succ]
  refine wpAnyH_done (by kernel_rfl) ?_ _
  clear hHeld
  go_wp2
  have a7 := put3_at b2 (.int .i64 W) (.int .i64 H) (.slice (some ⟨u1.heap.size, 0, none⟩) n n)
  obtain ⟨p0, p1, p2, -⟩ := a7.open3
  refine bodyPost_ret (v := fV W H (.slice (some ⟨u1.heap.size, 0, none⟩) n n)) (by simp [results, Try.results44, go_sem, p0, p1, p2]) rfl ?_
  refine ⟨_, rfl, by omega, ⟨_, ((m2.setOther (by omega) _).setOther (by omega) _).setOther (by omega) _, by simp [madeCells], fun i hi => zeros_at hi⟩, ?_⟩
  exact bV.trans ((below_put3 bu (Nat.le_refl _) _ _ _).mono bV.size)
theorem frame_any (W H : Int) (a : Option Addr) (n c : Nat) (w : World) : Calls Try.prog 47 #[fV W H (.slice a n c)] w fun e w' => e = .returned (fV W H (.slice a n c)) ∧ Below w.heap.size w w' := by
  obtain ⟨V, hV, b0, bV, -⟩ := boxed w 58 #[.int .i64 W, .int .i64 H, .slice a n c]
  obtain ⟨V2, hV2, b2, bV2, -⟩ := boxed V 26 #[.int .i64 0, .int .i64 0, .slice none 0 0]
  have s0 := b0.lt
  replace b0 := b0.below bV2
  replace bV := bV.trans (bV2.mono bV.size)
  obtain ⟨c0, c1, c2, -⟩ := b0.open3
  obtain ⟨d0, d1, d2, f0, f1, f2⟩ := b2.open3
  go_enter Try.func47, Try.ntmps47
  go_wp2
  have a7 := put3_at b2 (.int .i64 W) (.int .i64 H) (.slice a n c)
  obtain ⟨p0, p1, p2, -⟩ := a7.open3
  refine bodyPost_ret (v := fV W H (.slice a n c)) (by simp [results, Try.results47, go_sem, p0, p1, p2]) rfl ?_
  exact ⟨rfl, below_put3 bV (by omega) _ _ _⟩
end Go.Proofs.Ytfgehmcloeebkaa
