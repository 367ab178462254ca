/-
  The law on which frames are right, walked.
-/
import Derived.Test.YtlofbgkefalpoaaVb
namespace Go.Proofs.Ytlofbgkefalpoaa
open Go.RowKit

theorem exactFrameOk_walk {w : World} {a : Option Addr} {len cap : Nat} {f : Nat → Int} (W H : Int) (hs : Src w a len f) (hl : len ≤ maxLen) :
    Calls Try.prog 4 #[fV W H (.slice a len cap)] w fun e w' => e = .returned (.bool true) ∧ Below w.heap.size w w' := by
  go_enter Try.func4, Try.ntmps4
  go_wp2_with fail
  obtain ⟨V, hV, b0, bW, -⟩ := boxed w 34 #[.int .i64 W, .int .i64 H, .slice a len cap]
  rw [hV]
  refine (szFrame_any W H a len cap 1048576 V hl (by decide)).mono ?_
  rintro e w1 ⟨z, rfl, hz, b1⟩
  replace b0 := b0.below b1
  replace bW := bW.trans (b1.mono bW.size)
  clear b1 hV
  rcases hz with rfl | ⟨hz1, hz⟩
  · go_wp2
    go_ret
    exact ⟨rfl, bW⟩
  · obtain ⟨c0, c1, c2, -⟩ := b0.open3
    have hz' : ¬ z < 0 := by omega
    have hlen : len ≤ 1048576 := by omega
    clear hz1
    go_wp2_with fail
    refine (toFrame_any W H (hs.below bW) hlen).mono ?_
    rintro e w2 ⟨m, rfl, M, b2⟩
    replace b0 := b0.below b2
    replace bW := bW.trans (b2.mono bW.size)
    clear b2 c0 c1 c2
    obtain ⟨x, c, rfl, s1, -⟩ := M.open
    go_wp2_with fail
    refine (specFrameOk_any W H s1 hlen).mono ?_
    rintro e w3 ⟨rfl, b3⟩
    replace b0 := b0.below b3
    replace bW := bW.trans (b3.mono bW.size)
    clear b3 s1 M
    obtain ⟨D, hD⟩ : ∃ D, frB W H len f = D := ⟨_, rfl⟩
    have hDD : (D != D) = false := bne_self_eq_false D
    rw [hD]
    obtain ⟨c0, c1, c2, -⟩ := b0.open3
    go_wp2_with fail
    refine (toFrame_any W H (hs.below bW) hlen).mono ?_
    rintro e w4 ⟨m, rfl, M, b4⟩
    replace b0 := b0.below b4
    replace bW := bW.trans (b4.mono bW.size)
    clear b4 c0 c1 c2
    obtain ⟨x, c, rfl, s1, -⟩ := M.open
    obtain ⟨c0, c1, c2, -⟩ := b0.open3
    go_wp2_with fail
    obtain ⟨V4, hV4, x0, bV4, -⟩ := boxed w4 28 #[.int .i64 W, .int .i64 H, .slice x len c]
    rw [hV4]
    have M2 := M.below bV4
    replace b0 := b0.below bV4
    replace bW := bW.trans (bV4.mono bW.size)
    clear hV4 c0 c1 c2 M
    refine (implFrameOk_any W H (s1.below bV4) hlen).mono ?_
    rintro e w5 ⟨rfl, b5⟩
    rw [hD]
    replace b0 := b0.below b5
    replace x0 := x0.below b5
    replace M2 := M2.below b5
    replace bW := bW.trans (b5.mono bW.size)
    clear b5 bV4 s1
    go_wp2_with fail
    obtain ⟨u0, hu0, bb⟩ : ∃ uu, w5.drew = uu ∧ Below w5.heap.size w5 uu := ⟨_, rfl, (Below.refl _ _).drew⟩
    replace b0 := b0.below bb
    replace x0 := x0.below bb
    replace M2 := M2.below bb
    replace bW := bW.trans (bb.mono bW.size)
    clear bb
    refine wp_region_held_drew (S := Kb u0) (by kernel_rfl) (by rw [hu0]; exact Below.refl _ _) (fun hHeld => ?_)
    rw [hu0] at hHeld ⊢
    clear hu0
    have bu : Kb u0 u0 := Below.refl _ _
    change wpAnyH _ _ _ _ _ 5 #[false, false, false, false, false] _ _
    refine wpAnyH_take (i := 0) (v := .agg #[.int .i64 (W), .int .i64 (H), .slice x len c]) rfl (by kernel_rfl) (by kernel_rfl) (by kernel_rfl) (fun _ _ _ h => h) (Or.inl ⟨by kernel_rfl, ?_⟩) hHeld ?_
    · intro w' hSw; obtain ⟨z0, z1, z2, -⟩ := (x0.below hSw).open3; go_simp
    try simp only [Act.put, List.setIfInBounds_toArray, List.set_cons_zero, List.set_cons_succ, List.getElem_toArray, List.getElem_cons_zero]
    refine wpAnyH_take (i := 1) (v := .agg #[.int .i64 (W), .int .i64 (H), .slice a len cap]) rfl (by kernel_rfl) (by kernel_rfl) (by kernel_rfl) (fun _ _ _ h => h) (Or.inl ⟨by kernel_rfl, ?_⟩) hHeld ?_
    · intro w' hSw; obtain ⟨z0, z1, z2, -⟩ := (b0.below hSw).open3; go_simp
    try simp only [Act.put, List.setIfInBounds_toArray, List.set_cons_zero, List.set_cons_succ, List.getElem_toArray, List.getElem_cons_succ, List.getElem_cons_zero]
    refine wpAnyH_ready (rs := [2]) (by kernel_rfl) (by simp) ?_
    refine AllReadyH.cons rfl (fun KK hK' => ?_) AllReadyH.nil
    go_simp
    refine (toFrame_any W H ((hs.below bW).below bu) hlen).mono ?_
    rintro e u1 ⟨m, rfl, M, bb⟩
    replace M2 := M2.below bb
    replace bu : Kb u0 u1 := bu.trans (bb.mono bu.size)
    clear bb
    try go_wp2_with fail
    clear hHeld
    refine hK'.out _ _ bu (fun hHeld => ?_)
    clear hK' KK
    try simp only [List.setIfInBounds_toArray, List.set_cons_zero, List.set_cons_succ]
    refine wpAnyH_ready (rs := [3]) (by kernel_rfl) (by simp) ?_
    refine AllReadyH.cons rfl (fun KK hK' => ?_) AllReadyH.nil
    go_simp
    refine (eqFrame_true M2 M hlen).mono ?_
    rintro e u2 ⟨rfl, bb⟩
    clear M2 M
    replace bu : Kb u0 u2 := bu.trans (bb.mono bu.size)
    clear bb
    try go_wp2_with fail
    clear hHeld
    refine hK'.out _ _ bu (fun hHeld => ?_)
    clear hK' KK
    try simp only [List.setIfInBounds_toArray, List.set_cons_zero, List.set_cons_succ]
    refine wpAnyH_take (i := 4) (v := .bool false) rfl (by kernel_rfl) (by kernel_rfl) (by kernel_rfl) (fun _ _ _ h => h) (Or.inl ⟨by kernel_rfl, ?_⟩) hHeld ?_
    · intro w' hSw; go_simp
    try simp only [Act.put, List.setIfInBounds_toArray, List.set_cons_zero, List.set_cons_succ, List.getElem_toArray, List.getElem_cons_succ, List.getElem_cons_zero]
    refine wpAnyH_done (by kernel_rfl) ?_ _
    clear hHeld
    go_wp2
    go_ret
    exact ⟨rfl, bW.trans (bu.mono bW.size)⟩
theorem frameOk_of {w : World} {a : Option Addr} {len cap : Nat} {zs : List Int} (W H : Int) (h1 : IsRow .i64 w a len cap zs) :
    Calls Try.prog 4 #[fV W H (.slice a len cap)] w fun e w' => e = .returned (.bool true) ∧ Below w.heap.size w w' := by
  obtain ⟨f, hs, hl, -⟩ := src_of h1
  exact exactFrameOk_walk W H hs hl
end Go.Proofs.Ytlofbgkefalpoaa
