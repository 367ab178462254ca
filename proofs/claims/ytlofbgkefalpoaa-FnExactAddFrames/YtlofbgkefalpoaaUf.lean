/-
  The law on AddFrames, walked.
-/
import Derived.Test.YtlofbgkefalpoaaUe
namespace Go.Proofs.Ytlofbgkefalpoaa
open Go.RowKit

theorem Arr.congr {w : World} {lo hi : Nat} {v : Value} {n : Nat} {f h : Nat → Int} (o : Arr w lo hi v n f) (e : ∀ i, i < n → f i = h i) : Arr w lo hi v n h := by
  refine o.imp id ?_
  rintro ⟨g, c, rfl, hl, hh, hc, cur, h1, h2, h3⟩
  exact ⟨g, c, rfl, hl, hh, hc, cur, h1, h2, fun i hi => by rw [← e i hi]; exact h3 i hi⟩
theorem FrAt.congr {w : World} {lo hi : Nat} {m : Value} {W H : Int} {n : Nat} {f h : Nat → Int} (o : FrAt w lo hi m W H n f) (e : ∀ i, i < n → f i = h i) : FrAt w lo hi m W H n h := by
  obtain ⟨v, e1, h1⟩ := o
  exact ⟨v, e1, h1.congr e⟩
set_option maxRecDepth 100000 in
set_option maxHeartbeats 8000000 in
theorem exactAdd_walk {w : World} {p : Option Addr} {N cap : Nat} {a : Nat → Option Addr} {c : Nat → Nat} {W H : Nat → Int} {n : Nat → Nat} {f : Nat → Nat → Int} (hS : FrS w p N a c W H n f) (hN : N ≤ maxLen) (hn : ∀ i, i < N → n i ≤ maxLen) :
    Calls Try.prog 5 #[.slice p N cap] w fun e w' => e = .returned (.bool true) ∧ Below w.heap.size w w' := by
  have bW := Below.refl w.heap.size w
  go_enter Try.func5, Try.ntmps5
  go_wp2_with fail
  refine (szFrameS_any hS hN hn).mono ?_
  rintro e w1 ⟨z, rfl, hz, bb⟩
  replace bW := bW.trans (bb.mono bW.size)
  have z_w1 := bb.size
  clear bb
  rcases hz with rfl | ⟨hz1, hz⟩
  · go_wp2
    go_ret
    exact ⟨rfl, bW⟩
  have hz' : ¬ z < 0 := by omega
  clear hn hN
  have hN : N ≤ 1048576 := by omega
  have hT : tot n N ≤ 1048576 := by omega
  have hn : ∀ i, i < N → n i ≤ 1048576 := fun i hi => by have := tot_one n hi; omega
  clear hz1 hz
  go_wp2_with fail
  refine (toFrameS_any (hS.below bW) hN hn).mono ?_
  rintro e w2 ⟨g1, B1, v1, rfl, T, bb⟩
  replace bW := bW.trans (bb.mono bW.size)
  have z_w2 := bb.size
  clear bb
  obtain ⟨a1, c1, -, F1⟩ := T.fri
  clear T
  go_wp2_with fail
  refine (specAdd_any F1 hN hn).mono ?_
  rintro e w3 ⟨wm, l, W', H', l', f', rfl, hM, WF, bb⟩
  replace bW := bW.trans (bb.mono bW.size)
  have z_w3 := bb.size
  clear bb
  have hl' : l' ≤ 1048576 := hM.le hn
  have HM : Hid (AdT N W H n f l W' H' l' f') := hM
  clear hM F1
  obtain ⟨wa, wc, rfl, -, -⟩ := WF.open
  obtain ⟨V3, hV3, wb, bb, -⟩ := boxed w3 28 #[.int .i64 W', .int .i64 H', .slice wa l' wc]
  replace WF := WF.below bb
  replace bW := bW.trans (bb.mono bW.size)
  have z_V3 := wb.lt
  clear bb
  go_wp2_with fail
  refine (toFrameS_any (hS.below bW) hN hn).mono ?_
  rintro e w4 ⟨g2, B2, v2, rfl, XF, bb⟩
  replace wb := wb.below bb
  replace WF := WF.below bb
  replace bW := bW.trans (bb.mono bW.size)
  have z_w4 := bb.size
  clear bb
  clear hV3
  obtain ⟨a2, c2, -, F2⟩ := XF.fri
  go_wp2_with fail
  refine (implAdd_any F2 hN hn).mono ?_
  rintro e w6 ⟨gm, l2, W2, H2, l3, f2, rfl, hM2, GF, bb⟩
  replace wb := wb.below bb
  replace WF := WF.below bb
  replace XF := XF.below bb
  replace bW := bW.trans (bb.mono bW.size)
  have z_w6 := bb.size
  clear bb
  obtain ⟨rfl, rfl, rfl, rfl, hff⟩ := HM.out.same hM2
  replace GF := GF.congr fun i hi => (hff i hi).symm
  clear hM2 F2 hff
  obtain ⟨ga, gc, rfl, -, -⟩ := GF.open
  obtain ⟨V6, hV6, gb, bb, -⟩ := boxed w6 28 #[.int .i64 W', .int .i64 H', .slice ga l' gc]
  replace wb := wb.below bb
  replace WF := WF.below bb
  replace XF := XF.below bb
  replace GF := GF.below bb
  replace bW := bW.trans (bb.mono bW.size)
  have z_V6 := gb.lt
  clear bb
  have hDD : (l != l) = false := bne_self_eq_false l
  obtain ⟨oc00, oc01, oc02, -⟩ := gb.open3
  obtain ⟨oc10, oc11, oc12, -⟩ := wb.open3
  go_wp2_with fail
  refine (eqFrame_true GF WF hl').mono ?_
  rintro e w9 ⟨rfl, bb⟩
  clear oc00 oc01 oc02 oc10 oc11 oc12
  replace wb := wb.below bb
  replace gb := gb.below bb
  replace WF := WF.below bb
  replace XF := XF.below bb
  replace GF := GF.below bb
  replace bW := bW.trans (bb.mono bW.size)
  have z_w9 := bb.size
  clear bb
  clear hV6
  go_wp2_with fail
  refine (toFrameS_any (hS.below bW) hN hn).mono ?_
  rintro e w10 ⟨g3, B3, v3, rfl, T, bb⟩
  replace wb := wb.below bb
  replace gb := gb.below bb
  replace WF := WF.below bb
  replace XF := XF.below bb
  replace GF := GF.below bb
  replace bW := bW.trans (bb.mono bW.size)
  have z_w10 := bb.size
  clear bb
  go_wp2_with fail
  refine (eqFrameS_true XF T hN hn).mono ?_
  rintro e w11 ⟨rfl, bb⟩
  replace wb := wb.below bb
  replace gb := gb.below bb
  replace WF := WF.below bb
  replace XF := XF.below bb
  replace GF := GF.below bb
  replace bW := bW.trans (bb.mono bW.size)
  have z_w11 := bb.size
  clear bb
  clear T
  go_wp2_with fail
  refine (markFrameS_any XF hN hT).mono ?_
  rintro e w12 ⟨rfl, tt⟩
  replace wb := wb.turn tt (by omega)
  replace gb := gb.turn tt (by omega)
  replace GF := GF.turn tt (by omega)
  replace WF := WF.turn tt (by omega)
  replace bW := tt.below bW (by omega) (by omega)
  have z_w12 := tt.size
  clear tt
  clear XF
  have hk0 : ¬ ((1 + 2 * N + tot n N : Nat) : Int) < 0 := by omega
  obtain ⟨oc00, oc01, oc02, -⟩ := gb.open3
  obtain ⟨oc10, oc11, oc12, -⟩ := wb.open3
  go_wp2_with fail
  refine (eqFrame_true GF WF hl').mono ?_
  rintro e w14 ⟨rfl, bb⟩
  clear oc00 oc01 oc02 oc10 oc11 oc12
  replace wb := wb.below bb
  replace gb := gb.below bb
  replace GF := GF.below bb
  replace WF := WF.below bb
  replace bW := bW.trans (bb.mono bW.size)
  have z_w14 := bb.size
  clear bb
  obtain ⟨oc00, oc01, oc02, -⟩ := gb.open3
  go_wp2_with fail
  refine (markFrame_any GF hl' 1 (by omega)).mono ?_
  rintro e w15 ⟨rfl, GM, tt⟩
  clear oc00 oc01 oc02
  replace wb := wb.turn tt (by omega)
  replace gb := gb.turn tt (by omega)
  replace WF := WF.turn tt (by omega)
  replace bW := tt.below bW (by omega) (by omega)
  have z_w15 := tt.size
  clear tt
  clear GF hk0
  obtain ⟨oc00, oc01, oc02, -⟩ := gb.open3
  go_wp2_with fail
  refine (heldFrame_any 1 GM hl' (by omega)).mono ?_
  rintro e w16 ⟨rfl, bb⟩
  clear oc00 oc01 oc02
  replace wb := wb.below bb
  replace gb := gb.below bb
  replace WF := WF.below bb
  replace GM := GM.below bb
  replace bW := bW.trans (bb.mono bW.size)
  have z_w16 := bb.size
  clear bb
  have hq0 : ¬ ((1 + l' : Nat) : Int) < 0 := by omega
  go_wp2_with fail
  refine (toFrameS_any (hS.below bW) hN hn).mono ?_
  rintro e w17 ⟨g4, B4, v4, rfl, T, bb⟩
  replace wb := wb.below bb
  replace gb := gb.below bb
  replace WF := WF.below bb
  replace GM := GM.below bb
  replace bW := bW.trans (bb.mono bW.size)
  have z_w17 := bb.size
  clear bb
  obtain ⟨a4, c4, -, F4⟩ := T.fri
  clear T
  go_wp2_with fail
  refine (implAdd_any F4 hN hn).mono ?_
  rintro e w19 ⟨hm, l5, W3, H3, l6, f3, rfl, hM3, HF, bb⟩
  replace wb := wb.below bb
  replace gb := gb.below bb
  replace WF := WF.below bb
  replace GM := GM.below bb
  replace bW := bW.trans (bb.mono bW.size)
  have z_w19 := bb.size
  clear bb
  obtain ⟨rfl, rfl, rfl, rfl, hff⟩ := HM.out.same hM3
  replace HF := HF.congr fun i hi => (hff i hi).symm
  clear hM3 F4 hff
  obtain ⟨ha, hc, rfl, -, -⟩ := HF.open
  obtain ⟨V8, hV8, hb, bb, -⟩ := boxed w19 28 #[.int .i64 W', .int .i64 H', .slice ha l' hc]
  replace wb := wb.below bb
  replace gb := gb.below bb
  replace WF := WF.below bb
  replace GM := GM.below bb
  replace HF := HF.below bb
  replace bW := bW.trans (bb.mono bW.size)
  have z_V8 := hb.lt
  clear bb
  obtain ⟨oc00, oc01, oc02, -⟩ := hb.open3
  obtain ⟨oc10, oc11, oc12, -⟩ := wb.open3
  go_wp2_with fail
  refine (eqFrame_true HF WF hl').mono ?_
  rintro e w20 ⟨rfl, bb⟩
  clear oc00 oc01 oc02 oc10 oc11 oc12
  replace gb := gb.below bb
  replace GM := GM.below bb
  replace bW := bW.trans (bb.mono bW.size)
  have z_w20 := bb.size
  clear bb
  clear hV8
  obtain ⟨oc00, oc01, oc02, -⟩ := gb.open3
  go_wp2_with fail
  refine (heldFrame_any 1 GM hl' (by omega)).mono ?_
  rintro e w21 ⟨rfl, bb⟩
  clear oc00 oc01 oc02
  replace gb := gb.below bb
  replace bW := bW.trans (bb.mono bW.size)
  have z_w21 := bb.size
  clear bb
  go_wp2
  go_ret
  exact ⟨rfl, bW⟩
end Go.Proofs.Ytlofbgkefalpoaa
