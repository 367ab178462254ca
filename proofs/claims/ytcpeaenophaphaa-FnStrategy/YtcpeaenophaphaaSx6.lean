/-
  The law FnStrategy: walked.
-/
import Derived.Test.YtcpeaenophaphaaSx5
namespace Go.Proofs.Ytcpeaenophaphaa
open Go.RowKit

set_option maxRecDepth 100000 in
set_option maxHeartbeats 8000000 in
theorem strategy_walk {w : World} {a : Option Addr} {len cap : Nat} (hr : Row w w.heap.size a len) :
    Calls Try.prog 3 #[.slice a len cap] w fun e w' => e = .returned (.bool true) ∧ Below w.heap.size w w' := by
  go_enter Try.func3, Try.ntmps3
  go_wp2_with fail
  refine (big_any a len cap _ hr.1).mono ?_
  rintro e w0 ⟨rfl, rfl⟩
  by_cases hbig : 1048576 < len
  · rw [decide_eq_true hbig]
    go_wp2
    go_ret
    exact ⟨rfl, Below.refl _ _⟩
  rw [decide_eq_false hbig]
  go_wp2_with fail
  refine (drawStrat_any hr).mono ?_
  rintro e w2 ⟨w1, p, hB1, hp, vo, m, V, u, z, -, rfl, hm13, hz61, L, E, D⟩
  have bW : Below w.heap.size w w2 := D.less hB1 hp
  obtain ⟨g, cp, aa, cc, n, f, rfl, hL, hn40, hA⟩ := L.read
  obtain ⟨gu, cu, rfl, hgu, hsr⟩ := E.src
  clear L E D hB1 hp hgu hr hbig
  have hN : m ≤ 1048576 := by omega
  have hN2 : m ≤ 100 := by omega
  have hn : ∀ i, i < m → n i ≤ 1048576 := fun i hi => by have := hn40 i hi; omega
  have hn2 : ∀ i, i < m → n i ≤ 1000 := fun i hi => by have := hn40 i hi; omega
  clear hn40
  obtain ⟨zl, hzl⟩ : ∃ zl, z.length = zl := ⟨_, rfl⟩
  rw [hzl] at hsr hz61 ⊢
  obtain ⟨zf, hzf⟩ : ∃ zf : Nat → Int, (fun i => z.getD i 0) = zf := ⟨_, rfl⟩
  rw [hzf] at hsr
  clear hzl hzf
  go_wp2_with fail
  refine (specStrategy_any (cap := cp) hL hN hn).mono ?_
  rintro e w3 ⟨B, hB, v3, rfl, A3, bb⟩
  replace hL := hL.below bb
  replace hA := hA.below bb
  replace hsr := hsr.below bb
  replace bW := bW.trans (bb.mono bW.size)
  clear bb
  obtain ⟨a3, c3, rfl, s3⟩ := A3.src
  clear A3
  have hBl : B.length ≤ 12 := by
    rcases hB with ⟨h1, h2⟩ | ⟨h1, rfl⟩
    · obtain ⟨M0, -, e⟩ := mk_onto m B h2.1
      rw [← e]
      exact Nat.le_trans (mk_len M0 m) h1.1
    · exact Nat.zero_le _
  by_cases hx : ExOk m n f
  case neg =>
    have hst : stB m n f B.length (fun i => (toI B).getD i 0) = false := stB_no (fun h => hx h.1)
    go_wp2_with fail
    refine (specStrategyOk_any (cap := cp) (cap2 := c3) hL hN hn s3 (by omega)).mono ?_
    rintro e w4 ⟨rfl, bb⟩
    rw [hst]
    replace hL := hL.below bb
    replace bW := bW.trans (bb.mono bW.size)
    clear bb s3 hst
    go_wp2_with fail
    refine (implStrategy_any (cap := cp) hL hN hn).mono ?_
    rintro e w5 ⟨B5, hB5, v5, rfl, A5, bb⟩
    obtain rfl : B5 = [] := by
      rcases hB5 with ⟨h1, -⟩ | ⟨-, h⟩
      · exact absurd h1 hx
      · exact h
    obtain ⟨a5, c5, rfl, -⟩ := A5.src
    replace bW := bW.trans (bb.mono bW.size)
    clear bb hB5 A5 hB
    go_wp2
    go_ret
    exact ⟨rfl, bW⟩
  case pos =>
    have hbest : BestP m (Cov m n f) B := by
      rcases hB with ⟨-, h⟩ | ⟨h, -⟩
      · exact h
      · exact absurd hx h
    have hst : stB m n f B.length (fun i => (toI B).getD i 0) = true := stB_yes hbest.2.1
    have HST : Hid (stB m n f B.length (fun i => (toI B).getD i 0) = true) := hst
    have HBB : Hid (BestP m (Cov m n f) B) := hbest
    have HWT : Hid (wtB m n f (witL m n f).length (fun i => (toI (witL m n f)).getD i 0) = true) := wtB_yes (wit_ok hx)
    have hwl := wit_le hx hbest.1 hbest.2.1
    have hw64 := witL_len m n f
    have HX : Hid (ExOk m n f) := hx
    have HIS : Hid (∀ (w : World) (b : Nat) (a : Nat → Option Addr) (c : Nat → Nat) (cap : Nat), Lli w b 0 m a c n f → Calls Try.prog 12 #[.slice (some ⟨b, 0, none⟩) m cap] w (LtP w B)) := fun w b a c cap h => (implStrategy_any h hN hn).mono fun e w' h' => by
      obtain ⟨B5, hB5, h6⟩ := h'
      obtain rfl : B5 = B := stP.same hB5 hB
      exact h6
    clear hst hbest hx hB
    obtain ⟨bl, hbl⟩ : ∃ bl, B.length = bl := ⟨_, rfl⟩
    have HBL : Hid (B.length = bl) := hbl
    obtain ⟨wl', hwl'⟩ : ∃ wl', (witL m n f).length = wl' := ⟨_, rfl⟩
    have HWL : Hid ((witL m n f).length = wl') := hwl'
    rw [hbl] at hwl hBl s3 HST ⊢
    rw [hwl'] at hwl hw64 HWT
    obtain ⟨bf, hbf⟩ : ∃ bf : Nat → Int, (fun i => (toI B).getD i 0) = bf := ⟨_, rfl⟩
    obtain ⟨wf, hwf⟩ : ∃ wf : Nat → Int, (fun i => (toI (witL m n f)).getD i 0) = wf := ⟨_, rfl⟩
    have HBF : Hid ((fun i => (toI B).getD i 0) = bf) := hbf
    have HWF : Hid ((fun i => (toI (witL m n f)).getD i 0) = wf) := hwf
    rw [hbf] at s3 HST
    rw [hwf] at HWT
    clear hbl hwl' hbf hwf
    go_wp2_with fail
    refine (specStrategyOk_any (cap := cp) (cap2 := c3) hL hN hn s3 (by omega)).mono ?_
    rintro e w4 ⟨rfl, bb⟩
    rw [HST.out]
    replace hL := hL.below bb
    replace hA := hA.below bb
    replace hsr := hsr.below bb
    replace bW := bW.trans (bb.mono bW.size)
    clear bb s3
    go_wp2_with fail
    refine (sets_any (cap := cp) hL hA hN2 hn2).mono ?_
    rintro e w5 ⟨g5, c5, a5, k5, rfl, L5, bb⟩
    replace hL := hL.below bb
    replace hA := hA.below bb
    replace hsr := hsr.below bb
    replace bW := bW.trans (bb.mono bW.size)
    clear bb
    go_wp2_with fail
    refine (HIS.out _ _ _ _ _ L5).mono ?_
    rintro e w6 ⟨vs, rfl, As, bb⟩
    replace hL := hL.below bb
    replace hA := hA.below bb
    replace hsr := hsr.below bb
    replace bW := bW.trans (bb.mono bW.size)
    clear bb
    rw [HBL.out, HBF.out] at As
    obtain ⟨a_s, cs, rfl, ss⟩ := As.src
    clear L5 As
    go_wp2_with fail
    refine (sets_any (cap := cp) hL hA hN2 hn2).mono ?_
    rintro e w7 ⟨g7, c7, a7, k7, rfl, L7, bb⟩
    replace hL := hL.below bb
    replace hA := hA.below bb
    replace hsr := hsr.below bb
    replace ss := ss.below bb
    replace bW := bW.trans (bb.mono bW.size)
    clear bb
    go_wp2_with fail
    refine (implWitness_any (cap := c7) L7 hN hn).mono ?_
    rintro e w8 ⟨vw, rfl, Aw, bb⟩
    replace hL := hL.below bb
    replace hA := hA.below bb
    replace hsr := hsr.below bb
    replace ss := ss.below bb
    replace bW := bW.trans (bb.mono bW.size)
    clear bb
    rw [HWL.out, HWF.out] at Aw
    obtain ⟨aw, cw, rfl, sw⟩ := Aw.src
    clear L7 Aw
    go_wp2_with fail
    refine (sets_any (cap := cp) hL hA hN2 hn2).mono ?_
    rintro e w9 ⟨g9, c9, a9, k9, rfl, L9, bb⟩
    replace hL := hL.below bb
    replace hA := hA.below bb
    replace hsr := hsr.below bb
    replace ss := ss.below bb
    replace sw := sw.below bb
    replace bW := bW.trans (bb.mono bW.size)
    clear bb
    go_wp2_with fail
    refine (implStrategyOk_any (cap := c9) (cap2 := cs) L9 hN hn ss (by omega)).mono ?_
    rintro e w10 ⟨rfl, bb⟩
    replace hL := hL.below bb
    replace hA := hA.below bb
    replace hsr := hsr.below bb
    replace ss := ss.below bb
    replace sw := sw.below bb
    replace bW := bW.trans (bb.mono bW.size)
    clear bb
    rw [HST.out]
    clear L9
    go_wp2_with fail
    refine (specStrategyOk_any (cap := cp) (cap2 := cs) hL hN hn ss (by omega)).mono ?_
    rintro e w11 ⟨rfl, bb⟩
    replace hL := hL.below bb
    replace hA := hA.below bb
    replace hsr := hsr.below bb
    replace ss := ss.below bb
    replace sw := sw.below bb
    replace bW := bW.trans (bb.mono bW.size)
    clear bb
    rw [HST.out]
    go_wp2_with fail
    refine (sets_any (cap := cp) hL hA hN2 hn2).mono ?_
    rintro e w12 ⟨g12, c12, a12, k12, rfl, L12, bb⟩
    replace hL := hL.below bb
    replace hA := hA.below bb
    replace hsr := hsr.below bb
    replace ss := ss.below bb
    replace sw := sw.below bb
    replace bW := bW.trans (bb.mono bW.size)
    clear bb
    go_wp2_with fail
    refine (implWitnessOk_any (cap := c12) (cap2 := cw) L12 hN hn sw (by omega)).mono ?_
    rintro e w13 ⟨rfl, bb⟩
    replace hL := hL.below bb
    replace hA := hA.below bb
    replace hsr := hsr.below bb
    replace ss := ss.below bb
    replace sw := sw.below bb
    replace bW := bW.trans (bb.mono bW.size)
    clear bb
    rw [HWT.out]
    clear L12
    have hle : ¬ (wl' : Int) > (bl : Int) := by omega
    go_wp2_with fail
    refine (specWitness_any (cap := cp) hL hN hn).mono ?_
    rintro e w14 ⟨vq, rfl, Aq, bb⟩
    replace hL := hL.below bb
    replace hA := hA.below bb
    replace hsr := hsr.below bb
    replace ss := ss.below bb
    replace sw := sw.below bb
    replace bW := bW.trans (bb.mono bW.size)
    clear bb
    rw [HWL.out] at Aq
    obtain ⟨aq, cq, rfl, -⟩ := Aq.src
    clear Aq
    have hb4 : ((wl' : Int) != (wl' : Int)) = false := bne_self_eq_false _
    by_cases hso : StOk m n f zl zf
    · have hsy : stB m n f zl zf = true := stB_yes hso
      have HSY : Hid (stB m n f zl zf = true) := hsy
      have hge : bl ≤ zl := by have := list_ge hso HBB.out; rwa [HBL.out] at this
      have hge' : (bl : Int) ≤ (zl : Int) := by omega
      clear hsy hso
      go_wp2_with fail
      refine (specStrategyOk_any (cap := cp) (cap2 := cu) hL hN hn hsr (by omega)).mono ?_
      rintro e w15 ⟨rfl, bb⟩
      replace hL := hL.below bb
      replace hA := hA.below bb
      replace hsr := hsr.below bb
      replace bW := bW.trans (bb.mono bW.size)
      clear bb
      rw [HSY.out]
      go_wp2_with fail
      refine (implStrategyOk_any (cap := cp) (cap2 := cu) hL hN hn hsr (by omega)).mono ?_
      rintro e w16 ⟨rfl, bb⟩
      replace bW := bW.trans (bb.mono bW.size)
      clear bb
      rw [HSY.out]
      go_wp2
      go_ret
      exact ⟨rfl, bW⟩
    · have hsn : stB m n f zl zf = false := stB_no hso
      have HSN : Hid (stB m n f zl zf = false) := hsn
      clear hsn hso
      go_wp2_with fail
      refine (specStrategyOk_any (cap := cp) (cap2 := cu) hL hN hn hsr (by omega)).mono ?_
      rintro e w15 ⟨rfl, bb⟩
      replace hL := hL.below bb
      replace hA := hA.below bb
      replace hsr := hsr.below bb
      replace bW := bW.trans (bb.mono bW.size)
      clear bb
      rw [HSN.out]
      go_wp2_with fail
      refine (implStrategyOk_any (cap := cp) (cap2 := cu) hL hN hn hsr (by omega)).mono ?_
      rintro e w16 ⟨rfl, bb⟩
      replace bW := bW.trans (bb.mono bW.size)
      clear bb
      rw [HSN.out]
      go_wp2
      go_ret
      exact ⟨rfl, bW⟩
end Go.Proofs.Ytcpeaenophaphaa
