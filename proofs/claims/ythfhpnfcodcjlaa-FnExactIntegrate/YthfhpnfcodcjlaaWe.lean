/-
  The law on Integrate, walked.
-/
import Derived.Test.YthfhpnfcodcjlaaWd
import Derived.Test.YthfhpnfcodcjlaaVb
namespace Go.Proofs.Ythfhpnfcodcjlaa
open Go.RowKit

set_option maxRecDepth 100000 in
set_option maxHeartbeats 8000000 in
theorem exactInt_walk {w : World} {a : Option Addr} {len c : Nat} {f : Nat → Int} (W H x y r : Int) (hs : Src w a len f) (hl : len ≤ maxLen) :
    Calls Try.prog 6 #[fV W H (.slice a len c), .int .i64 x, .int .i64 y, .int .i64 r] w fun e w' => e = .returned (.bool true) ∧ Below w.heap.size w w' := by
  obtain ⟨V, hV, b0, bW, -⟩ := boxed w 41 #[.int .i64 W, .int .i64 H, .slice a len c]
  go_enter Try.func6, Try.ntmps6
  obtain ⟨oc00, oc01, oc02, -⟩ := b0.open3
  go_wp2_with fail
  refine (szFrame_any W H a len c 1048576 V hl (by decide)).mono ?_
  rintro e w1 ⟨z, rfl, hz, bb⟩
  clear oc00 oc01 oc02
  replace b0 := b0.below bb
  replace bW := bW.trans (bb.mono bW.size)
  have z_w1 := bb.size
  clear bb
  clear hV
  rcases hz with rfl | ⟨hz1, hz⟩
  · go_wp2
    go_ret
    exact ⟨rfl, bW⟩
  have hz' : ¬ z < 0 := by omega
  have hlen : len ≤ 1048576 := by omega
  clear hz1 hz
  obtain ⟨oc00, oc01, oc02, -⟩ := b0.open3
  go_wp2_with fail
  refine (toFrame_any W H (hs.below bW) hlen).mono ?_
  rintro e w2 ⟨m, rfl, T, bb⟩
  clear oc00 oc01 oc02
  replace b0 := b0.below bb
  replace bW := bW.trans (bb.mono bW.size)
  have z_w2 := bb.size
  clear bb
  obtain ⟨ta, tc, rfl, ts, -⟩ := T.open
  clear T
  go_wp2_with fail
  refine (specInt_any W H x y r ts hlen).mono ?_
  rintro e w3 ⟨s1, n1, g1, rfl, hI, bb⟩
  replace b0 := b0.below bb
  replace bW := bW.trans (bb.mono bW.size)
  have z_w3 := bb.size
  clear bb
  clear ts
  obtain ⟨oc00, oc01, oc02, -⟩ := b0.open3
  go_wp2_with fail
  refine (toFrame_any W H (hs.below bW) hlen).mono ?_
  rintro e w4 ⟨m, rfl, XF, bb⟩
  clear oc00 oc01 oc02
  replace b0 := b0.below bb
  replace bW := bW.trans (bb.mono bW.size)
  have z_w4 := bb.size
  clear bb
  obtain ⟨xa, xc, rfl, xs, -⟩ := XF.open
  obtain ⟨V4, hV4, xb, bb, -⟩ := boxed w4 26 #[.int .i64 W, .int .i64 H, .slice xa len xc]
  replace b0 := b0.below bb
  replace XF := XF.below bb
  replace xs := xs.below bb
  replace bW := bW.trans (bb.mono bW.size)
  have z_V4 := xb.lt
  clear bb
  obtain ⟨oc00, oc01, oc02, -⟩ := xb.open3
  go_wp2_with fail
  refine (implInt_any W H x y r xs hlen).mono ?_
  rintro e w6 ⟨s2, n2, g2, rfl, hI2, bb⟩
  clear oc00 oc01 oc02
  replace b0 := b0.below bb
  replace XF := XF.below bb
  replace xb := xb.below bb
  replace bW := bW.trans (bb.mono bW.size)
  have z_w6 := bb.size
  clear bb
  obtain ⟨rfl, rfl, rfl⟩ := hI.same hI2
  clear hI hI2 xs hV4
  go_wp2_with fail
  obtain ⟨u0, hu0, bb⟩ : ∃ uu, w6.drew = uu ∧ Below w6.heap.size w6 uu := ⟨_, rfl, (Below.refl _ _).drew⟩
  replace b0 := b0.below bb
  replace xb := xb.below bb
  replace XF := XF.below bb
  replace bW := bW.trans (bb.mono bW.size)
  clear bb
  refine wp_region_held_drew (S := Kb u0) (by kernel_rfl) (by rw [hu0]; exact Below.refl _ _) (fun hHeld => ?_)
  rw [hu0] at hHeld ⊢
  clear hu0
  have bu : Kb u0 u0 := Below.refl _ _
  change wpAnyH _ _ _ _ _ 5 #[false, false, false, false, false] _ _
  refine wpAnyH_take (i := 0) (v := .agg #[.int .i64 (W), .int .i64 (H), .slice xa len xc]) rfl (by kernel_rfl) (by kernel_rfl) (by kernel_rfl) (fun _ _ _ h => h) (Or.inl ⟨by kernel_rfl, ?_⟩) hHeld ?_
  · intro w' hSw; obtain ⟨z0, z1, z2, -⟩ := (xb.below hSw).open3; go_simp
  try simp only [Act.put, List.setIfInBounds_toArray, List.set_cons_zero, List.set_cons_succ, List.getElem_toArray, List.getElem_cons_zero]
  refine wpAnyH_take (i := 1) (v := .agg #[.int .i64 (W), .int .i64 (H), .slice a len c]) rfl (by kernel_rfl) (by kernel_rfl) (by kernel_rfl) (fun _ _ _ h => h) (Or.inl ⟨by kernel_rfl, ?_⟩) hHeld ?_
  · intro w' hSw; obtain ⟨z0, z1, z2, -⟩ := (b0.below hSw).open3; go_simp
  try simp only [Act.put, List.setIfInBounds_toArray, List.set_cons_zero, List.set_cons_succ, List.getElem_toArray, List.getElem_cons_succ, List.getElem_cons_zero]
  refine wpAnyH_ready (rs := [2]) (by kernel_rfl) (by simp) ?_
  refine AllReadyH.cons rfl (fun KK hK' => ?_) AllReadyH.nil
  go_simp
  refine (toFrame_any W H ((hs.below bW).below bu) hlen).mono ?_
  rintro e u1 ⟨m, rfl, T, bb⟩
  replace XF := XF.below bb
  replace bu : Kb u0 u1 := bu.trans (bb.mono bu.size)
  clear bb
  try go_wp2_with fail
  clear hHeld
  refine hK'.out _ _ (bu) (fun hHeld => ?_)
  clear hK' KK
  try simp only [List.setIfInBounds_toArray, List.set_cons_zero, List.set_cons_succ]
  refine wpAnyH_ready (rs := [3]) (by kernel_rfl) (by simp) ?_
  refine AllReadyH.cons rfl (fun KK hK' => ?_) AllReadyH.nil
  go_simp
  refine (eqFrame_true XF T hlen).mono ?_
  rintro e u2 ⟨rfl, bb⟩
  clear XF T
  replace bu : Kb u0 u2 := bu.trans (bb.mono bu.size)
  clear bb
  try go_wp2_with fail
  clear hHeld
  refine hK'.out _ _ (bu) (fun hHeld => ?_)
  clear hK' KK
  try simp only [List.setIfInBounds_toArray, List.set_cons_zero, List.set_cons_succ]
  refine wpAnyH_take (i := 4) (v := .bool false) rfl (by kernel_rfl) (by kernel_rfl) (by kernel_rfl) (fun _ _ _ h => h) (Or.inl ⟨by kernel_rfl, ?_⟩) hHeld ?_
  · intro w' hSw; go_simp
  try simp only [Act.put, List.setIfInBounds_toArray, List.set_cons_zero, List.set_cons_succ, List.getElem_toArray, List.getElem_cons_succ, List.getElem_cons_zero]
  refine wpAnyH_done (by kernel_rfl) ?_ _
  clear hHeld
  go_wp2
  go_ret
  exact ⟨rfl, bW.trans (bu.mono bW.size)⟩
theorem int_of {w : World} {a : Option Addr} {len cap : Nat} {zs : List Int} (W H x y r : Int) (h1 : IsRow .i64 w a len cap zs) :
    Calls Try.prog 6 #[fV W H (.slice a len cap), .int .i64 x, .int .i64 y, .int .i64 r] w fun e w' => e = .returned (.bool true) ∧ Below w.heap.size w w' := by
  obtain ⟨f, hs, hl, -⟩ := src_of h1
  exact exactInt_walk W H x y r hs hl
end Go.Proofs.Ythfhpnfcodcjlaa
