/-
  The law on Masked, walked.
-/
import Derived.Test.YtlofbgkefalpoaaVf
namespace Go.Proofs.Ytlofbgkefalpoaa
open Go.RowKit

theorem markArr_turn {w : World} {lo hi : Nat} {v : Value} {n : Nat} {f : Nat → Int} (h : Arr w lo hi v n f) (hn : n ≤ 1048576) (x : Nat) (hx : x ≤ 10000000) :
    Calls Try.prog 29 #[v, .int .i64 (x : Int)] w fun e w' => e = .returned (.int .i64 ((x + n : Nat) : Int)) ∧ Arr w' lo hi v n (fun i => (x + i : Nat)) ∧ Turn lo hi w w' := by
  refine (markArr_any h hn x hx).mono ?_
  rintro e w' ⟨h1, h2, h3⟩
  exact ⟨h1, h2, Turn.of_only h3 h⟩
set_option maxRecDepth 100000 in
set_option maxHeartbeats 8000000 in
theorem exactMasked_walk {w : World} {a a' : Option Addr} {len c dl dc : Nat} {f d : Nat → Int} (W H : Int) (hs : Src w a len f) (hl : len ≤ maxLen) (hd : Src w a' dl d) (hdm : dl ≤ maxLen) :
    Calls Try.prog 6 #[fV W H (.slice a len c), .slice a' dl dc] w fun e w' => e = .returned (.bool true) ∧ Below w.heap.size w w' := by
  obtain ⟨V, hV, b0, bW, -⟩ := boxed w 34 #[.int .i64 W, .int .i64 H, .slice a len c]
  have hdm' : (dl : Int) ≤ 9223372036854775807 := by unfold maxLen at hdm; omega
  go_enter Try.func6, Try.ntmps6
  by_cases hdl0 : 1048576 < dl
  · have hx : (1048576 : Int) < (dl : Int) := by omega
    go_wp2
    go_ret
    exact ⟨rfl, bW⟩
  have hx : ¬ (1048576 : Int) < (dl : Int) := by omega
  have hdl : dl ≤ 1048576 := by omega
  have z_V := b0.lt
  obtain ⟨oc00, oc01, oc02, -⟩ := b0.open3
  go_wp2_with fail
  refine (szFrame_any W H a len c 1048576 V hl (by decide)).mono ?_
  rintro e w1 ⟨z, rfl, hz, bb⟩
  clear oc00 oc01 oc02
  replace b0 := b0.below bb
  replace bW := bW.trans (bb.mono bW.size)
  have z_w1 := bb.size
  clear bb
  clear hV
  rcases hz with rfl | ⟨hz1, hz⟩
  · go_wp2
    go_ret
    exact ⟨rfl, bW⟩
  have hz' : ¬ z < 0 := by omega
  have hlen : len ≤ 1048576 := by omega
  clear hz1 hz
  obtain ⟨oc00, oc01, oc02, -⟩ := b0.open3
  go_wp2_with fail
  refine (toFrame_any W H (hs.below bW) hlen).mono ?_
  rintro e w2 ⟨m, rfl, T, bb⟩
  clear oc00 oc01 oc02
  replace b0 := b0.below bb
  replace bW := bW.trans (bb.mono bW.size)
  have z_w2 := bb.size
  clear bb
  obtain ⟨ta, tc, rfl, ts, -⟩ := T.open
  clear T
  go_wp2_with fail
  refine (toInts_any (hd.below bW) hdl).mono ?_
  rintro e w3 ⟨tg, rfl, htg, tow, bb⟩
  replace b0 := b0.below bb
  replace ts := ts.below bb
  replace bW := bW.trans (bb.mono bW.size)
  have z_w3 := bb.size
  clear bb
  obtain ⟨da, dcc, hde, ds⟩ := (arr_of_own tow htg).src
  simp only [Value.slice.injEq] at hde
  obtain ⟨rfl, -, rfl⟩ := hde
  go_wp2_with fail
  refine (specMasked_any W H ts ds hlen hdl).mono ?_
  rintro e w3b ⟨wm, D, W', H', l', f', rfl, hM, WF, bb⟩
  replace b0 := b0.below bb
  replace bW := bW.trans (bb.mono bW.size)
  have z_w3b := bb.size
  clear bb
  have hl' : l' ≤ 1048576 := by have := hM.le; omega
  clear tow ts ds
  obtain ⟨wa, wc, rfl, -, -⟩ := WF.open
  obtain ⟨V3, hV3, wb, bb, -⟩ := boxed w3b 28 #[.int .i64 W', .int .i64 H', .slice wa l' wc]
  replace b0 := b0.below bb
  replace WF := WF.below bb
  replace bW := bW.trans (bb.mono bW.size)
  have z_V3 := wb.lt
  clear bb
  obtain ⟨oc00, oc01, oc02, -⟩ := b0.open3
  go_wp2_with fail
  refine (toFrame_any W H (hs.below bW) hlen).mono ?_
  rintro e w4 ⟨m, rfl, XF, bb⟩
  clear oc00 oc01 oc02
  replace b0 := b0.below bb
  replace wb := wb.below bb
  replace WF := WF.below bb
  replace bW := bW.trans (bb.mono bW.size)
  have z_w4 := bb.size
  clear bb
  clear hV3
  obtain ⟨xa, xc, rfl, -, -⟩ := XF.open
  obtain ⟨V4, hV4, xb, bb, -⟩ := boxed w4 28 #[.int .i64 W, .int .i64 H, .slice xa len xc]
  replace b0 := b0.below bb
  replace wb := wb.below bb
  replace WF := WF.below bb
  replace XF := XF.below bb
  replace bW := bW.trans (bb.mono bW.size)
  have z_V4 := xb.lt
  clear bb
  go_wp2_with fail
  refine (toInts_any (hd.below bW) hdl).mono ?_
  rintro e w5 ⟨xg, rfl, hxg, X1o, bb⟩
  replace b0 := b0.below bb
  replace wb := wb.below bb
  replace xb := xb.below bb
  replace WF := WF.below bb
  replace XF := XF.below bb
  replace bW := bW.trans (bb.mono bW.size)
  have z_w5 := bb.size
  clear bb
  clear hV4
  have X1 := arr_of_own X1o hxg
  clear X1o
  obtain ⟨xa2, xc2, hxe, xs2⟩ := X1.src
  obtain ⟨xa3, xc3, hxe3, xs, -⟩ := XF.open
  simp only [fV, Value.agg.injEq, Array.mk.injEq, List.cons.injEq, Value.slice.injEq, true_and, and_true] at hxe hxe3
  obtain ⟨rfl, rfl⟩ := hxe3
  obtain ⟨rfl, rfl⟩ := hxe
  obtain ⟨oc00, oc01, oc02, -⟩ := xb.open3
  go_wp2_with fail
  refine (implMasked_any W H xs xs2 hlen hdl).mono ?_
  rintro e w6 ⟨gm, D2, W2, H2, l2, f2, rfl, hM2, GF, bb⟩
  clear oc00 oc01 oc02
  replace b0 := b0.below bb
  replace wb := wb.below bb
  replace xb := xb.below bb
  replace WF := WF.below bb
  replace XF := XF.below bb
  replace X1 := X1.below bb
  replace bW := bW.trans (bb.mono bW.size)
  have z_w6 := bb.size
  clear bb
  obtain ⟨rfl, rfl, rfl, rfl, rfl⟩ := hM.same hM2
  clear hM2 xs xs2
  obtain ⟨ga, gc, rfl, -, -⟩ := GF.open
  obtain ⟨V6, hV6, gb, bb, -⟩ := boxed w6 28 #[.int .i64 W2, .int .i64 H2, .slice ga l2 gc]
  replace b0 := b0.below bb
  replace wb := wb.below bb
  replace xb := xb.below bb
  replace WF := WF.below bb
  replace XF := XF.below bb
  replace X1 := X1.below bb
  replace GF := GF.below bb
  replace bW := bW.trans (bb.mono bW.size)
  have z_V6 := gb.lt
  clear bb
  have hDD : (D2 != D2) = false := bne_self_eq_false D2
  obtain ⟨oc00, oc01, oc02, -⟩ := gb.open3
  obtain ⟨oc10, oc11, oc12, -⟩ := wb.open3
  go_wp2_with fail
  refine (eqFrame_true GF WF hl').mono ?_
  rintro e w9 ⟨rfl, bb⟩
  clear oc00 oc01 oc02 oc10 oc11 oc12
  replace b0 := b0.below bb
  replace wb := wb.below bb
  replace xb := xb.below bb
  replace gb := gb.below bb
  replace WF := WF.below bb
  replace XF := XF.below bb
  replace X1 := X1.below bb
  replace GF := GF.below bb
  replace bW := bW.trans (bb.mono bW.size)
  have z_w9 := bb.size
  clear bb
  clear hV6
  have XK := XF
  go_wp2_with fail
  obtain ⟨u0, hu0, bb⟩ : ∃ uu, w9.drew = uu ∧ Below w9.heap.size w9 uu := ⟨_, rfl, (Below.refl _ _).drew⟩
  replace b0 := b0.below bb
  replace xb := xb.below bb
  replace wb := wb.below bb
  replace gb := gb.below bb
  replace XF := XF.below bb
  replace XK := XK.below bb
  replace GF := GF.below bb
  replace WF := WF.below bb
  replace X1 := X1.below bb
  replace bW := bW.trans (bb.mono bW.size)
  have z_u0 := bb.size
  clear bb
  refine wp_region_held_drew (S := Kb u0) (by kernel_rfl) (by rw [hu0]; exact Below.refl _ _) (fun hHeld => ?_)
  rw [hu0] at hHeld ⊢
  clear hu0
  have bu : Kb u0 u0 := Below.refl _ _
  change wpAnyH _ _ _ _ _ 5 #[false, false, false, false, false] _ _
  refine wpAnyH_take (i := 0) (v := .agg #[.int .i64 (W), .int .i64 (H), .slice xa len xc]) rfl (by kernel_rfl) (by kernel_rfl) (by kernel_rfl) (fun _ _ _ h => h) (Or.inl ⟨by kernel_rfl, ?_⟩) hHeld ?_
  · intro w' hSw; obtain ⟨z0, z1, z2, -⟩ := (xb.below hSw).open3; go_simp
  try simp only [Act.put, List.setIfInBounds_toArray, List.set_cons_zero, List.set_cons_succ, List.getElem_toArray, List.getElem_cons_zero]
  refine wpAnyH_take (i := 1) (v := .agg #[.int .i64 (W), .int .i64 (H), .slice a len c]) rfl (by kernel_rfl) (by kernel_rfl) (by kernel_rfl) (fun _ _ _ h => h) (Or.inl ⟨by kernel_rfl, ?_⟩) hHeld ?_
  · intro w' hSw; obtain ⟨z0, z1, z2, -⟩ := (b0.below hSw).open3; go_simp
  try simp only [Act.put, List.setIfInBounds_toArray, List.set_cons_zero, List.set_cons_succ, List.getElem_toArray, List.getElem_cons_succ, List.getElem_cons_zero]
  refine wpAnyH_ready (rs := [2]) (by kernel_rfl) (by simp) ?_
  refine AllReadyH.cons rfl (fun KK hK' => ?_) AllReadyH.nil
  go_simp
  refine (toFrame_any W H ((hs.below bW).below bu) hlen).mono ?_
  rintro e u1 ⟨m, rfl, T, bb⟩
  replace XF := XF.below bb
  replace bu : Kb u0 u1 := bu.trans (bb.mono bu.size)
  clear bb
  try go_wp2_with fail
  clear hHeld
  refine hK'.out _ _ (bu) (fun hHeld => ?_)
  clear hK' KK
  try simp only [List.setIfInBounds_toArray, List.set_cons_zero, List.set_cons_succ]
  refine wpAnyH_ready (rs := [3]) (by kernel_rfl) (by simp) ?_
  refine AllReadyH.cons rfl (fun KK hK' => ?_) AllReadyH.nil
  go_simp
  refine (eqFrame_true XF T hlen).mono ?_
  rintro e u2 ⟨rfl, bb⟩
  clear XF T
  replace bu : Kb u0 u2 := bu.trans (bb.mono bu.size)
  clear bb
  try go_wp2_with fail
  clear hHeld
  refine hK'.out _ _ (bu) (fun hHeld => ?_)
  clear hK' KK
  try simp only [List.setIfInBounds_toArray, List.set_cons_zero, List.set_cons_succ]
  refine wpAnyH_take (i := 4) (v := .bool false) rfl (by kernel_rfl) (by kernel_rfl) (by kernel_rfl) (fun _ _ _ h => h) (Or.inl ⟨by kernel_rfl, ?_⟩) hHeld ?_
  · intro w' hSw; go_simp
  try simp only [Act.put, List.setIfInBounds_toArray, List.set_cons_zero, List.set_cons_succ, List.getElem_toArray, List.getElem_cons_succ, List.getElem_cons_zero]
  refine wpAnyH_done (by kernel_rfl) ?_ _
  clear hHeld
  replace b0 := b0.below bu
  replace xb := xb.below bu
  replace wb := wb.below bu
  replace gb := gb.below bu
  replace XK := XK.below bu
  replace GF := GF.below bu
  replace WF := WF.below bu
  replace X1 := X1.below bu
  replace bW := bW.trans (bu.mono bW.size)
  have z_bu := bu.size
  clear bu
  go_wp2_with fail
  refine (toInts_any (hd.below bW) hdl).mono ?_
  rintro e w10 ⟨tg2, rfl, htg2, tw2, bb⟩
  replace b0 := b0.below bb
  replace xb := xb.below bb
  replace wb := wb.below bb
  replace gb := gb.below bb
  replace XK := XK.below bb
  replace GF := GF.below bb
  replace WF := WF.below bb
  replace X1 := X1.below bb
  replace bW := bW.trans (bb.mono bW.size)
  have z_w10 := bb.size
  clear bb
  go_wp2_with fail
  refine (eqArr_true X1 (arr_of_own tw2 htg2) hdl).mono ?_
  rintro e w11 ⟨rfl, bb⟩
  replace b0 := b0.below bb
  replace xb := xb.below bb
  replace wb := wb.below bb
  replace gb := gb.below bb
  replace XK := XK.below bb
  replace GF := GF.below bb
  replace WF := WF.below bb
  replace X1 := X1.below bb
  replace bW := bW.trans (bb.mono bW.size)
  have z_w11 := bb.size
  clear bb
  clear tw2
  obtain ⟨oc00, oc01, oc02, -⟩ := xb.open3
  go_wp2_with fail
  refine (markFrame_any XK hlen 1 (by omega)).mono ?_
  rintro e w12 ⟨rfl, XM, tt⟩
  clear oc00 oc01 oc02
  replace b0 := b0.turn tt (by omega)
  replace wb := wb.turn tt (by omega)
  replace gb := gb.turn tt (by omega)
  replace GF := GF.turn tt (by omega)
  replace WF := WF.turn tt (by omega)
  replace X1 := X1.turn tt (by omega)
  replace bW := tt.below bW (by omega) (by omega)
  have z_w12 := tt.size
  clear tt
  clear XM XK xb
  go_wp2_with fail
  refine (markArr_turn X1 hdl (1 + len) (by omega)).mono ?_
  rintro e w13 ⟨rfl, XM, tt⟩
  replace b0 := b0.turn tt (by omega)
  replace wb := wb.turn tt (by omega)
  replace gb := gb.turn tt (by omega)
  replace GF := GF.turn tt (by omega)
  replace WF := WF.turn tt (by omega)
  replace bW := tt.below bW (by omega) (by omega)
  have z_w13 := tt.size
  clear tt
  clear XM X1
  have hk0 : ¬ ((1 + len + dl : Nat) : Int) < 0 := by omega
  obtain ⟨oc00, oc01, oc02, -⟩ := gb.open3
  obtain ⟨oc10, oc11, oc12, -⟩ := wb.open3
  go_wp2_with fail
  refine (eqFrame_true GF WF hl').mono ?_
  rintro e w14 ⟨rfl, bb⟩
  clear oc00 oc01 oc02 oc10 oc11 oc12
  replace b0 := b0.below bb
  replace wb := wb.below bb
  replace gb := gb.below bb
  replace GF := GF.below bb
  replace WF := WF.below bb
  replace bW := bW.trans (bb.mono bW.size)
  have z_w14 := bb.size
  clear bb
  obtain ⟨oc00, oc01, oc02, -⟩ := gb.open3
  go_wp2_with fail
  refine (markFrame_any GF hl' 1 (by omega)).mono ?_
  rintro e w15 ⟨rfl, GM, tt⟩
  clear oc00 oc01 oc02
  replace b0 := b0.turn tt (by omega)
  replace wb := wb.turn tt (by omega)
  replace gb := gb.turn tt (by omega)
  replace WF := WF.turn tt (by omega)
  replace bW := tt.below bW (by omega) (by omega)
  have z_w15 := tt.size
  clear tt
  clear GF hk0
  obtain ⟨oc00, oc01, oc02, -⟩ := gb.open3
  go_wp2_with fail
  refine (heldFrame_any 1 GM hl' (by omega)).mono ?_
  rintro e w16 ⟨rfl, bb⟩
  clear oc00 oc01 oc02
  replace b0 := b0.below bb
  replace wb := wb.below bb
  replace gb := gb.below bb
  replace WF := WF.below bb
  replace GM := GM.below bb
  replace bW := bW.trans (bb.mono bW.size)
  have z_w16 := bb.size
  clear bb
  have hq0 : ¬ ((1 + l2 : Nat) : Int) < 0 := by omega
  obtain ⟨oc00, oc01, oc02, -⟩ := b0.open3
  go_wp2_with fail
  refine (toFrame_any W H (hs.below bW) hlen).mono ?_
  rintro e w17 ⟨m, rfl, T, bb⟩
  clear oc00 oc01 oc02
  replace b0 := b0.below bb
  replace wb := wb.below bb
  replace gb := gb.below bb
  replace WF := WF.below bb
  replace GM := GM.below bb
  replace bW := bW.trans (bb.mono bW.size)
  have z_w17 := bb.size
  clear bb
  obtain ⟨ta, tc, rfl, ts, -⟩ := T.open
  clear T
  go_wp2_with fail
  refine (toInts_any (hd.below bW) hdl).mono ?_
  rintro e w18 ⟨tg3, rfl, htg3, tw3, bb⟩
  replace wb := wb.below bb
  replace gb := gb.below bb
  replace WF := WF.below bb
  replace GM := GM.below bb
  replace ts := ts.below bb
  replace bW := bW.trans (bb.mono bW.size)
  have z_w18 := bb.size
  clear bb
  obtain ⟨da, dcc, hde, ds⟩ := (arr_of_own tw3 htg3).src
  simp only [Value.slice.injEq] at hde
  obtain ⟨rfl, -, rfl⟩ := hde
  go_wp2_with fail
  refine (implMasked_any W H ts ds hlen hdl).mono ?_
  rintro e w19 ⟨hm, D3, W3, H3, l3, f3, rfl, hM3, HF, bb⟩
  replace wb := wb.below bb
  replace gb := gb.below bb
  replace WF := WF.below bb
  replace GM := GM.below bb
  replace bW := bW.trans (bb.mono bW.size)
  have z_w19 := bb.size
  clear bb
  obtain ⟨rfl, rfl, rfl, rfl, rfl⟩ := hM.same hM3
  clear hM3 tw3 ts ds
  obtain ⟨ha, hc, rfl, -, -⟩ := HF.open
  obtain ⟨V8, hV8, hb, bb, -⟩ := boxed w19 28 #[.int .i64 W3, .int .i64 H3, .slice ha l3 hc]
  replace wb := wb.below bb
  replace gb := gb.below bb
  replace WF := WF.below bb
  replace GM := GM.below bb
  replace HF := HF.below bb
  replace bW := bW.trans (bb.mono bW.size)
  have z_V8 := hb.lt
  clear bb
  obtain ⟨oc00, oc01, oc02, -⟩ := hb.open3
  obtain ⟨oc10, oc11, oc12, -⟩ := wb.open3
  go_wp2_with fail
  refine (eqFrame_true HF WF hl').mono ?_
  rintro e w20 ⟨rfl, bb⟩
  clear oc00 oc01 oc02 oc10 oc11 oc12
  replace gb := gb.below bb
  replace GM := GM.below bb
  replace bW := bW.trans (bb.mono bW.size)
  have z_w20 := bb.size
  clear bb
  clear hV8
  obtain ⟨oc00, oc01, oc02, -⟩ := gb.open3
  go_wp2_with fail
  refine (heldFrame_any 1 GM hl' (by omega)).mono ?_
  rintro e w21 ⟨rfl, bb⟩
  clear oc00 oc01 oc02
  replace gb := gb.below bb
  replace bW := bW.trans (bb.mono bW.size)
  have z_w21 := bb.size
  clear bb
  go_wp2
  go_ret
  exact ⟨rfl, bW⟩
theorem masked_of {w : World} {a a' : Option Addr} {len cap dl dc : Nat} {zs zs' : List Int} (W H : Int) (h1 : IsRow .i64 w a len cap zs) (h2 : IsRow .i64 w a' dl dc zs') :
    Calls Try.prog 6 #[fV W H (.slice a len cap), .slice a' dl dc] w fun e w' => e = .returned (.bool true) ∧ Below w.heap.size w w' := by
  obtain ⟨f, hs, hl, -⟩ := src_of h1
  obtain ⟨f', hs', hl', -⟩ := src_of h2
  exact exactMasked_walk W H hs hl hs' hl'
end Go.Proofs.Ytlofbgkefalpoaa
