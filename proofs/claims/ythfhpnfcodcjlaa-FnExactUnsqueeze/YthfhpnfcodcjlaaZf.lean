/-
  The law on Unsqueeze, walked.
-/
import Derived.Test.YthfhpnfcodcjlaaZe
import Derived.Test.YthfhpnfcodcjlaaYe
namespace Go.Proofs.Ythfhpnfcodcjlaa
open Go.RowKit

theorem UnT.le {F : Nat → Int} {n : Nat} {W H : Int} {len : Nat} {f : Nat → Int} {r : Int} (h : UnT F n W H len f r) : len ≤ 4096 := by
  rcases h with ⟨-, -, -, rfl, -⟩ | ⟨-, -, -, rfl, -⟩ | ⟨-, -, -, rfl, -⟩ | ⟨h0, p, a, P, -, -, -, -, -, rfl, -⟩
  · omega
  · omega
  · omega
  · have p1 := mul_in (a := F 0) (b := F 1) (x := 64) (y := 64) (by have := h0.2.1; omega) (by have := h0.2.2; omega)
    omega
def MdB (w : World) (g n k : Nat) (F : Nat → Int) : Prop := ∃ cur : Array Value, At 5 w g cur ∧ cur.size = n ∧ ∀ i, i < k → cur[i]? = some (.int .u8 (F i))
theorem MdB.open {w : World} {g n k : Nat} {F : Nat → Int} (h : MdB w g n k F) (hk : k < n) : w.cell? ⟨g, k, none⟩ = some (cv w g k) ∧ w.frozen? ⟨g, k, none⟩ = false := by
  obtain ⟨cur, h1, h2, h3⟩ := h
  have := h1.cell k (Array.getElem?_eq_getElem (show k < cur.size by omega))
  exact ⟨by simp [cv, this], h1.frozen k⟩
theorem MdB.set {w : World} {g n k : Nat} {F : Nat → Int} (h : MdB w g n k F) (hk : k < n) : MdB (w.setCell ⟨g, k, none⟩ (.int .u8 (F k))) g n (k + 1) F := by
  obtain ⟨cur, h1, h2, h3⟩ := h
  refine ⟨_, h1.set k _, by simpa using h2, fun i hi => ?_⟩
  by_cases e : i = k
  · subst e
    have l0 : i < cur.size := by omega
    simp [l0]
  · rw [Array.getElem?_setIfInBounds, if_neg (by omega)]
    exact h3 i (by omega)
theorem ByA.src {w : World} {lo hi g n c : Nat} {F : Nat → Int} (h : ByA w lo hi (.slice (some ⟨g, 0, none⟩) n c) n F) : SrcB w (some ⟨g, 0, none⟩) n F := by
  obtain ⟨g', c', cur, e, h1, h2, h3, h4, h5, h6⟩ := h
  simp only [Value.slice.injEq, Option.some.injEq, Addr.mk.injEq] at e
  obtain ⟨⟨rfl, -, -⟩, -, rfl⟩ := e
  exact .inr ⟨g, 0, rfl, h5.lt, fun i hi => by rw [Nat.zero_add]; exact h5.cell i (h6 i hi)⟩
theorem toByteS_any {w : World} {a : Option Addr} {n cap : Nat} {F : Nat → Int} (hs : SrcB w a n F) (hn : n ≤ 1048576) :
    Calls Try.prog 34 #[.slice a n cap] w fun e w' => ∃ g, e = .returned (.slice (some ⟨g, 0, none⟩) n n) ∧ ByA w' w.heap.size w'.heap.size (.slice (some ⟨g, 0, none⟩) n n) n F ∧ Below w.heap.size w w' := by
  have hmk := make_bytes n hn
  obtain ⟨V, hV, m9, bV, -⟩ := boxed w 5 (madeCells #[.int .u8 0] n)
  have m0 : MdB V w.heap.size n 0 F := ⟨_, m9, by simp [madeCells], fun i hi => by omega⟩
  go_enter Try.func34, Try.ntmps34
  go_wp2
  clear hmk hV m9
  go_loopw [4] (fun s wr => ∃ k : Nat, k ≤ n ∧ s = .int .i64 k ∧ MdB wr w.heap.size n k F ∧ Below w.heap.size w wr) (fun s _ => n - (intOf s).toNat)
  case atStart => exact ⟨0, Nat.zero_le _, rfl, m0, bV⟩
  case round =>
    clear m0 bV
    obtain ⟨k, hk, rfl, hm, hbel⟩ := hrel
    by_cases hlt : k < n
    · have hlt' : (k : Int) < (n : Int) := by omega
      rcases hs with h0 | ⟨b, off, rfl, hb, hr⟩
      · omega
      have g0 := hr k hlt
      replace g0 := (hbel.cell (p := ⟨b, off + k, none⟩) hb).trans g0
      obtain ⟨z0, y0⟩ := hm.open hlt
      have HM : Hid (MdB wr w.heap.size n k F) := hm
      clear hm hr
      go_wp2
      refine ⟨⟨k + 1, by omega, by go_num, HM.out.set hlt, ?_⟩, by simp [intOf]; omega⟩
      exact hbel.setCell (Nat.le_refl _) _
    · have hlt' : ¬ (k : Int) < (n : Int) := by omega
      obtain rfl : k = n := by omega
      go_wp2
      go_ret
      obtain ⟨cur, h1, h2, h3⟩ := hm
      exact ⟨_, rfl, ⟨_, _, cur, rfl, Nat.le_refl _, h1.lt, Nat.le_refl _, by omega, h1, h3⟩, hbel⟩
set_option maxRecDepth 100000 in
set_option maxHeartbeats 8000000 in
theorem exactUn_walk {w : World} {a : Option Addr} {n c : Nat} {F : Nat → Int} (hs : SrcB w a n F) (hl : n ≤ maxLen) (hF : ∀ i, i < n → 0 ≤ F i ∧ F i ≤ 255) :
    Calls Try.prog 8 #[.slice a n c] w fun e w' => e = .returned (.bool true) ∧ Below w.heap.size w w' := by
  have hl' : (n : Int) ≤ 9223372036854775807 := by unfold maxLen at hl; omega
  have bW : Below w.heap.size w w := Below.refl _ _
  go_enter Try.func8, Try.ntmps8
  by_cases hn0 : 1048576 < n
  · have hx : (1048576 : Int) < (n : Int) := by omega
    go_wp2
    go_ret
    exact ⟨rfl, bW⟩
  have hx : ¬ (1048576 : Int) < (n : Int) := by omega
  have hn : n ≤ 1048576 := by omega
  go_wp2_with fail
  refine (toByteS_any (hs.below bW) hn).mono ?_
  rintro e w1 ⟨g1, rfl, T1, bb⟩
  replace bW := bW.trans (bb.mono bW.size)
  have z_w1 := bb.size
  clear bb
  have ts := T1.src
  clear T1
  go_wp2_with fail
  refine (specUn_any ts hn hF).mono ?_
  rintro e w3 ⟨wm, W', H', l', f', r', rfl, hU, WF, bb⟩
  replace bW := bW.trans (bb.mono bW.size)
  have z_w3 := bb.size
  clear bb
  have hl4 : l' ≤ 1048576 := by have := hU.le; omega
  clear ts
  obtain ⟨wa, wc, rfl, -, -⟩ := WF.open
  obtain ⟨V3, hV3, wb, bb, -⟩ := boxed w3 26 #[.int .i64 W', .int .i64 H', .slice wa l' wc]
  replace WF := WF.below bb
  replace bW := bW.trans (bb.mono bW.size)
  have z_V3 := wb.lt
  clear bb
  go_wp2_with fail
  refine (toByteS_any (hs.below bW) hn).mono ?_
  rintro e w4 ⟨g4, rfl, X1, bb⟩
  replace wb := wb.below bb
  replace WF := WF.below bb
  replace bW := bW.trans (bb.mono bW.size)
  have z_w4 := bb.size
  clear bb
  clear hV3
  have xs := X1.src
  go_wp2_with fail
  refine (implUn_any xs hn (Nat.le_refl _) (by omega) hF).mono ?_
  rintro e w6 ⟨gm, W2, H2, l2, f2, r2, rfl, hU2, GF, bb⟩
  replace wb := wb.below bb
  replace WF := WF.below bb
  replace X1 := X1.below bb
  replace bW := bW.trans (bb.mono bW.size)
  have z_w6 := bb.size
  clear bb
  obtain ⟨rfl, rfl, rfl, rfl, rfl⟩ := hU.same hU2
  clear hU2 xs
  obtain ⟨ga, gc, rfl, -, -⟩ := GF.open
  obtain ⟨V6, hV6, gb, bb, -⟩ := boxed w6 26 #[.int .i64 W2, .int .i64 H2, .slice ga l2 gc]
  replace wb := wb.below bb
  replace WF := WF.below bb
  replace X1 := X1.below bb
  replace GF := GF.below bb
  replace bW := bW.trans (bb.mono bW.size)
  have z_V6 := gb.lt
  clear bb
  obtain ⟨oc00, oc01, oc02, -⟩ := gb.open3
  obtain ⟨oc10, oc11, oc12, -⟩ := wb.open3
  go_wp2_with fail
  refine (eqFrame_true GF WF hl4).mono ?_
  rintro e w9 ⟨rfl, bb⟩
  clear oc00 oc01 oc02 oc10 oc11 oc12
  replace wb := wb.below bb
  replace gb := gb.below bb
  replace WF := WF.below bb
  replace X1 := X1.below bb
  replace GF := GF.below bb
  replace bW := bW.trans (bb.mono bW.size)
  have z_w9 := bb.size
  clear bb
  clear hV6
  go_wp2_with fail
  refine (toByteS_any (hs.below bW) hn).mono ?_
  rintro e w10 ⟨g10, rfl, T2, bb⟩
  replace wb := wb.below bb
  replace gb := gb.below bb
  replace WF := WF.below bb
  replace X1 := X1.below bb
  replace GF := GF.below bb
  replace bW := bW.trans (bb.mono bW.size)
  have z_w10 := bb.size
  clear bb
  go_wp2_with fail
  refine (eqByteS_true X1 T2 hn).mono ?_
  rintro e w11 ⟨rfl, bb⟩
  replace wb := wb.below bb
  replace gb := gb.below bb
  replace WF := WF.below bb
  replace X1 := X1.below bb
  replace GF := GF.below bb
  replace bW := bW.trans (bb.mono bW.size)
  have z_w11 := bb.size
  clear bb
  clear T2
  go_wp2_with fail
  refine (markByteS_any X1 hn).mono ?_
  rintro e w12 ⟨rfl, XM, tt⟩
  replace wb := wb.turn tt (by omega)
  replace gb := gb.turn tt (by omega)
  replace GF := GF.turn tt (by omega)
  replace WF := WF.turn tt (by omega)
  replace bW := tt.below bW (by omega) (by omega)
  have z_w12 := tt.size
  clear tt
  clear XM X1
  have hk0 : ¬ ((1 + n : Nat) : Int) < 0 := by omega
  obtain ⟨oc00, oc01, oc02, -⟩ := gb.open3
  obtain ⟨oc10, oc11, oc12, -⟩ := wb.open3
  go_wp2_with fail
  refine (eqFrame_true GF WF hl4).mono ?_
  rintro e w14 ⟨rfl, bb⟩
  clear oc00 oc01 oc02 oc10 oc11 oc12
  replace wb := wb.below bb
  replace gb := gb.below bb
  replace GF := GF.below bb
  replace WF := WF.below bb
  replace bW := bW.trans (bb.mono bW.size)
  have z_w14 := bb.size
  clear bb
  obtain ⟨oc00, oc01, oc02, -⟩ := gb.open3
  go_wp2_with fail
  refine (markFrame_any GF hl4 1 (by omega)).mono ?_
  rintro e w15 ⟨rfl, GM, tt⟩
  clear oc00 oc01 oc02
  replace wb := wb.turn tt (by omega)
  replace gb := gb.turn tt (by omega)
  replace WF := WF.turn tt (by omega)
  replace bW := tt.below bW (by omega) (by omega)
  have z_w15 := tt.size
  clear tt
  clear GF hk0
  obtain ⟨oc00, oc01, oc02, -⟩ := gb.open3
  go_wp2_with fail
  refine (heldFrame_any 1 GM hl4 (by omega)).mono ?_
  rintro e w16 ⟨rfl, bb⟩
  clear oc00 oc01 oc02
  replace wb := wb.below bb
  replace gb := gb.below bb
  replace WF := WF.below bb
  replace GM := GM.below bb
  replace bW := bW.trans (bb.mono bW.size)
  have z_w16 := bb.size
  clear bb
  have hq0 : ¬ ((1 + l2 : Nat) : Int) < 0 := by omega
  go_wp2_with fail
  refine (toByteS_any (hs.below bW) hn).mono ?_
  rintro e w17 ⟨g17, rfl, T3, bb⟩
  replace wb := wb.below bb
  replace gb := gb.below bb
  replace WF := WF.below bb
  replace GM := GM.below bb
  replace bW := bW.trans (bb.mono bW.size)
  have z_w17 := bb.size
  clear bb
  have ts := T3.src
  clear T3
  go_wp2_with fail
  refine (implUn_any ts hn (Nat.le_refl _) (by omega) hF).mono ?_
  rintro e w19 ⟨hm, W3, H3, l3, f3, r3, rfl, hU3, HF, bb⟩
  replace wb := wb.below bb
  replace gb := gb.below bb
  replace WF := WF.below bb
  replace GM := GM.below bb
  replace bW := bW.trans (bb.mono bW.size)
  have z_w19 := bb.size
  clear bb
  obtain ⟨rfl, rfl, rfl, rfl, rfl⟩ := hU.same hU3
  clear hU3 ts
  obtain ⟨ha, hc, rfl, -, -⟩ := HF.open
  obtain ⟨V8, hV8, hb, bb, -⟩ := boxed w19 26 #[.int .i64 W3, .int .i64 H3, .slice ha l3 hc]
  replace wb := wb.below bb
  replace gb := gb.below bb
  replace WF := WF.below bb
  replace GM := GM.below bb
  replace HF := HF.below bb
  replace bW := bW.trans (bb.mono bW.size)
  have z_V8 := hb.lt
  clear bb
  obtain ⟨oc00, oc01, oc02, -⟩ := hb.open3
  obtain ⟨oc10, oc11, oc12, -⟩ := wb.open3
  go_wp2_with fail
  refine (eqFrame_true HF WF hl4).mono ?_
  rintro e w20 ⟨rfl, bb⟩
  clear oc00 oc01 oc02 oc10 oc11 oc12
  replace gb := gb.below bb
  replace GM := GM.below bb
  replace bW := bW.trans (bb.mono bW.size)
  have z_w20 := bb.size
  clear bb
  clear hV8
  obtain ⟨oc00, oc01, oc02, -⟩ := gb.open3
  go_wp2_with fail
  refine (heldFrame_any 1 GM hl4 (by omega)).mono ?_
  rintro e w21 ⟨rfl, bb⟩
  clear oc00 oc01 oc02
  replace gb := gb.below bb
  replace bW := bW.trans (bb.mono bW.size)
  have z_w21 := bb.size
  clear bb
  go_wp2
  go_ret
  exact ⟨rfl, bW⟩
theorem un_of {w : World} {a : Option Addr} {len cap : Nat} {zs : List Int} (h : IsRow .u8 w a len cap zs) :
    Calls Try.prog 8 #[.slice a len cap] w fun e w' => e = .returned (.bool true) ∧ Below w.heap.size w w' := by
  rcases h with ⟨rfl, rfl, rfl, rfl⟩ | ⟨x, rfl, hl, hm, hz, hcell, hwz⟩
  · exact exactUn_walk (F := fun _ => 0) (.inl rfl) (Nat.zero_le _) (fun i hi => by omega)
  · refine exactUn_walk (F := fun i => zs.getD i 0) ?_ (Nat.le_trans hl hm) (fun i hi => ?_)
    · by_cases h0 : len = 0
      · exact .inl h0
      · obtain ⟨b, off, spot⟩ := x
        have hc := hcell 0 (by omega)
        have hspot : spot = none := by simpa [Addr.add] using World.cell?_spot hc
        subst hspot
        refine .inr ⟨b, off, rfl, ?_, fun j hj => ?_⟩
        · refine Nat.lt_of_not_le fun hb => ?_
          have : w.heap[b]? = none := Array.getElem?_eq_none hb
          simp [Addr.add, World.cell?, this] at hc
        · have hcj := hcell j (by omega)
          by_cases e : j = 0
          · subst e; simpa [Addr.add] using hcj
          · simpa [Addr.add, e] using hcj
    · have hi' : i < zs.length := by omega
      have := hwz (zs.getD i 0) (by simp [List.getD, hi'])
      simpa [Lit.wf, IntKind.min, IntKind.max, IntKind.bits, IntKind.signed] using this
end Go.Proofs.Ythfhpnfcodcjlaa
