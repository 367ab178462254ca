/-
  The law on Squeeze, walked.
-/
import Derived.Test.YthfhpnfcodcjlaaYd
import Derived.Test.YthfhpnfcodcjlaaYe
namespace Go.Proofs.Ythfhpnfcodcjlaa
open Go.RowKit

set_option maxRecDepth 100000 in
set_option maxHeartbeats 8000000 in
theorem exactSq_walk {w : World} {a : Option Addr} {len c : Nat} {f : Nat → Int} (W H : Int) (hs : Src w a len f) (hl : len ≤ maxLen) :
    Calls Try.prog 7 #[fV W H (.slice a len c)] w fun e w' => e = .returned (.bool true) ∧ Below w.heap.size w w' := by
  obtain ⟨V, hV, b0, bW, -⟩ := boxed w 41 #[.int .i64 W, .int .i64 H, .slice a len c]
  have z_V := b0.lt
  go_enter Try.func7, Try.ntmps7
  obtain ⟨oc00, oc01, oc02, -⟩ := b0.open3
  go_wp2_with fail
  refine (szFrame_any W H a len c 1048576 V hl (by decide)).mono ?_
  rintro e w1 ⟨z, rfl, hz, bb⟩
  clear oc00 oc01 oc02
  replace b0 := b0.below bb
  replace bW := bW.trans (bb.mono bW.size)
  have z_w1 := bb.size
  clear bb
  clear hV
  rcases hz with rfl | ⟨hz1, hz⟩
  · go_wp2
    go_ret
    exact ⟨rfl, bW⟩
  have hz' : ¬ z < 0 := by omega
  have hlen : len ≤ 1048576 := by omega
  clear hz1 hz
  have hn : (sqO W H len f).length ≤ 1048576 := Nat.le_trans (sqO_le W H len f) (by omega)
  obtain ⟨oc00, oc01, oc02, -⟩ := b0.open3
  go_wp2_with fail
  refine (toFrame_any W H (hs.below bW) hlen).mono ?_
  rintro e w2 ⟨m, rfl, T, bb⟩
  clear oc00 oc01 oc02
  replace b0 := b0.below bb
  replace bW := bW.trans (bb.mono bW.size)
  have z_w2 := bb.size
  clear bb
  obtain ⟨ta, tc, rfl, ts, -⟩ := T.open
  clear T
  go_wp2_with fail
  refine (specSq_any W H ts hlen).mono ?_
  rintro e w3 ⟨wv, rfl, WF, bb⟩
  replace b0 := b0.below bb
  replace bW := bW.trans (bb.mono bW.size)
  have z_w3 := bb.size
  clear bb
  clear ts
  obtain ⟨oc00, oc01, oc02, -⟩ := b0.open3
  go_wp2_with fail
  refine (toFrame_any W H (hs.below bW) hlen).mono ?_
  rintro e w4 ⟨m, rfl, XF, bb⟩
  clear oc00 oc01 oc02
  replace b0 := b0.below bb
  replace WF := WF.below bb
  replace bW := bW.trans (bb.mono bW.size)
  have z_w4 := bb.size
  clear bb
  obtain ⟨xa, xc, rfl, xs, -⟩ := XF.open
  obtain ⟨V4, hV4, xb, bb, -⟩ := boxed w4 26 #[.int .i64 W, .int .i64 H, .slice xa len xc]
  replace b0 := b0.below bb
  replace WF := WF.below bb
  replace XF := XF.below bb
  replace xs := xs.below bb
  replace bW := bW.trans (bb.mono bW.size)
  have z_V4 := xb.lt
  clear bb
  obtain ⟨oc00, oc01, oc02, -⟩ := xb.open3
  go_wp2_with fail
  refine (implSq_any W H xs hlen).mono ?_
  rintro e w6 ⟨gv, rfl, GF, bb⟩
  clear oc00 oc01 oc02
  replace b0 := b0.below bb
  replace xb := xb.below bb
  replace WF := WF.below bb
  replace XF := XF.below bb
  replace bW := bW.trans (bb.mono bW.size)
  have z_w6 := bb.size
  clear bb
  clear xs hV4
  generalize hnE : (sqO W H len f).length = n at WF GF hn
  generalize hFE : (fun i => (sqO W H len f).getD i 0) = F at WF GF
  have HE : Hid ((sqO W H len f).length = n ∧ (fun i => (sqO W H len f).getD i 0) = F) := ⟨hnE, hFE⟩
  clear hnE hFE
  obtain ⟨wg, wc, rfl⟩ := WF.open
  obtain ⟨gg, gc, rfl⟩ := GF.open
  go_wp2_with fail
  refine (eqByteS_true GF WF hn).mono ?_
  rintro e w9 ⟨rfl, bb⟩
  replace b0 := b0.below bb
  replace xb := xb.below bb
  replace XF := XF.below bb
  replace GF := GF.below bb
  replace WF := WF.below bb
  replace bW := bW.trans (bb.mono bW.size)
  have z_w9 := bb.size
  clear bb
  have XK := XF
  go_wp2_with fail
  obtain ⟨u0, hu0, bb⟩ : ∃ uu, w9.drew = uu ∧ Below w9.heap.size w9 uu := ⟨_, rfl, (Below.refl _ _).drew⟩
  replace b0 := b0.below bb
  replace xb := xb.below bb
  replace XF := XF.below bb
  replace XK := XK.below bb
  replace GF := GF.below bb
  replace WF := WF.below bb
  replace bW := bW.trans (bb.mono bW.size)
  have z_u0 := bb.size
  clear bb
  refine wp_region_held_drew (S := Kb u0) (by kernel_rfl) (by rw [hu0]; exact Below.refl _ _) (fun hHeld => ?_)
  rw [hu0] at hHeld ⊢
  clear hu0
  have bu : Kb u0 u0 := Below.refl _ _
  change wpAnyH _ _ _ _ _ 5 #[false, false, false, false, false] _ _
  refine wpAnyH_take (i := 0) (v := .agg #[.int .i64 (W), .int .i64 (H), .slice xa len xc]) rfl (by kernel_rfl) (by kernel_rfl) (by kernel_rfl) (fun _ _ _ h => h) (Or.inl ⟨by kernel_rfl, ?_⟩) hHeld ?_
  · intro w' hSw; obtain ⟨z0, z1, z2, -⟩ := (xb.below hSw).open3; go_simp
  try simp only [Act.put, List.setIfInBounds_toArray, List.set_cons_zero, List.set_cons_succ, List.getElem_toArray, List.getElem_cons_zero]
  refine wpAnyH_take (i := 1) (v := .agg #[.int .i64 (W), .int .i64 (H), .slice a len c]) rfl (by kernel_rfl) (by kernel_rfl) (by kernel_rfl) (fun _ _ _ h => h) (Or.inl ⟨by kernel_rfl, ?_⟩) hHeld ?_
  · intro w' hSw; obtain ⟨z0, z1, z2, -⟩ := (b0.below hSw).open3; go_simp
  try simp only [Act.put, List.setIfInBounds_toArray, List.set_cons_zero, List.set_cons_succ, List.getElem_toArray, List.getElem_cons_succ, List.getElem_cons_zero]
  refine wpAnyH_ready (rs := [2]) (by kernel_rfl) (by simp) ?_
  refine AllReadyH.cons rfl (fun KK hK' => ?_) AllReadyH.nil
  go_simp
  refine (toFrame_any W H ((hs.below bW).below bu) hlen).mono ?_
  rintro e u1 ⟨m, rfl, T, bb⟩
  replace XF := XF.below bb
  replace bu : Kb u0 u1 := bu.trans (bb.mono bu.size)
  clear bb
  try go_wp2_with fail
  clear hHeld
  refine hK'.out _ _ (bu) (fun hHeld => ?_)
  clear hK' KK
  try simp only [List.setIfInBounds_toArray, List.set_cons_zero, List.set_cons_succ]
  refine wpAnyH_ready (rs := [3]) (by kernel_rfl) (by simp) ?_
  refine AllReadyH.cons rfl (fun KK hK' => ?_) AllReadyH.nil
  go_simp
  refine (eqFrame_true XF T hlen).mono ?_
  rintro e u2 ⟨rfl, bb⟩
  clear XF T
  replace bu : Kb u0 u2 := bu.trans (bb.mono bu.size)
  clear bb
  try go_wp2_with fail
  clear hHeld
  refine hK'.out _ _ (bu) (fun hHeld => ?_)
  clear hK' KK
  try simp only [List.setIfInBounds_toArray, List.set_cons_zero, List.set_cons_succ]
  refine wpAnyH_take (i := 4) (v := .bool false) rfl (by kernel_rfl) (by kernel_rfl) (by kernel_rfl) (fun _ _ _ h => h) (Or.inl ⟨by kernel_rfl, ?_⟩) hHeld ?_
  · intro w' hSw; go_simp
  try simp only [Act.put, List.setIfInBounds_toArray, List.set_cons_zero, List.set_cons_succ, List.getElem_toArray, List.getElem_cons_succ, List.getElem_cons_zero]
  refine wpAnyH_done (by kernel_rfl) ?_ _
  clear hHeld
  replace b0 := b0.below bu
  replace xb := xb.below bu
  replace XK := XK.below bu
  replace GF := GF.below bu
  replace WF := WF.below bu
  replace bW := bW.trans (bu.mono bW.size)
  have z_bu := bu.size
  clear bu
  obtain ⟨oc00, oc01, oc02, -⟩ := xb.open3
  go_wp2_with fail
  refine (markFrame_any XK hlen 1 (by omega)).mono ?_
  rintro e w12 ⟨rfl, XM, tt⟩
  clear oc00 oc01 oc02
  replace b0 := b0.turn tt (by omega)
  replace GF := GF.turn tt (by omega)
  replace WF := WF.turn tt (by omega)
  replace bW := tt.below bW (by omega) (by omega)
  have z_w12 := tt.size
  clear tt
  clear XM XK xb
  have hk0 : ¬ ((1 + len : Nat) : Int) < 0 := by omega
  go_wp2_with fail
  refine (eqByteS_true GF WF hn).mono ?_
  rintro e w14 ⟨rfl, bb⟩
  replace b0 := b0.below bb
  replace GF := GF.below bb
  replace WF := WF.below bb
  replace bW := bW.trans (bb.mono bW.size)
  have z_w14 := bb.size
  clear bb
  go_wp2_with fail
  refine (markByteS_any GF hn).mono ?_
  rintro e w15 ⟨rfl, GM, tt⟩
  replace b0 := b0.turn tt (by omega)
  replace WF := WF.turn tt (by omega)
  replace bW := tt.below bW (by omega) (by omega)
  have z_w15 := tt.size
  clear tt
  clear GF hk0
  go_wp2_with fail
  refine (heldByteS_any GM hn).mono ?_
  rintro e w16 ⟨rfl, bb⟩
  replace b0 := b0.below bb
  replace WF := WF.below bb
  replace GM := GM.below bb
  replace bW := bW.trans (bb.mono bW.size)
  have z_w16 := bb.size
  clear bb
  have hq0 : ¬ ((1 + n : Nat) : Int) < 0 := by omega
  obtain ⟨oc00, oc01, oc02, -⟩ := b0.open3
  go_wp2_with fail
  refine (toFrame_any W H (hs.below bW) hlen).mono ?_
  rintro e w17 ⟨m, rfl, T, bb⟩
  clear oc00 oc01 oc02
  replace b0 := b0.below bb
  replace WF := WF.below bb
  replace GM := GM.below bb
  replace bW := bW.trans (bb.mono bW.size)
  have z_w17 := bb.size
  clear bb
  obtain ⟨ta, tc, rfl, ts, -⟩ := T.open
  clear T
  go_wp2_with fail
  refine (implSq_any W H ts hlen).mono ?_
  rintro e w19 ⟨hv, rfl, HF, bb⟩
  replace WF := WF.below bb
  replace GM := GM.below bb
  replace bW := bW.trans (bb.mono bW.size)
  have z_w19 := bb.size
  clear bb
  rw [HE.out.1, HE.out.2] at HF
  clear ts
  obtain ⟨hg9, hc9, rfl⟩ := HF.open
  go_wp2_with fail
  refine (eqByteS_true HF WF hn).mono ?_
  rintro e w20 ⟨rfl, bb⟩
  replace GM := GM.below bb
  replace bW := bW.trans (bb.mono bW.size)
  have z_w20 := bb.size
  clear bb
  go_wp2_with fail
  refine (heldByteS_any GM hn).mono ?_
  rintro e w21 ⟨rfl, bb⟩
  replace GM := GM.below bb
  replace bW := bW.trans (bb.mono bW.size)
  have z_w21 := bb.size
  clear bb
  go_wp2
  go_ret
  exact ⟨rfl, bW⟩
theorem sq_of {w : World} {a : Option Addr} {len cap : Nat} {zs : List Int} (W H : Int) (h1 : IsRow .i64 w a len cap zs) :
    Calls Try.prog 7 #[fV W H (.slice a len cap)] w fun e w' => e = .returned (.bool true) ∧ Below w.heap.size w w' := by
  obtain ⟨f, hs, hl, -⟩ := src_of h1
  exact exactSq_walk W H hs hl
end Go.Proofs.Ythfhpnfcodcjlaa
