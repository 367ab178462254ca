/-
  The law on Slip, walked.
-/
import Derived.Test.YthpmfjhhaolklaaNm
namespace Go.Proofs.Ythpmfjhhaolklaa
open Go.RowKit

theorem NetAt.ints {w : World} {lo hi : Nat} {m : Value} {W H : Int} {lr lu : Nat} {r u : Nat → Int} (h : NetAt w lo hi m W H lr r lu u) (h1 : 0 < lr) (h2 : 0 < lu) : ∃ g c g' c', m = nV W H (.slice (some ⟨g, 0, none⟩) lr c) (.slice (some ⟨g', 0, none⟩) lu c') ∧ Ints w g 0 lr r ∧ Ints w g' 0 lu u ∧ g < w.heap.size ∧ g' < w.heap.size := by
  obtain ⟨v, v', rfl, a1, a2, -⟩ := h
  rcases a1 with ⟨-, e⟩ | ⟨g, c, rfl, -, -, -, m1⟩
  · omega
  rcases a2 with ⟨-, e⟩ | ⟨g', c', rfl, -, -, -, m2⟩
  · omega
  exact ⟨g, c, g', c', rfl, m1.ints, m2.ints, m1.lt, m2.lt⟩
theorem bothSlip (W H i j d : Int) (lr lu : Nat) (r u : Nat → Int) (hlr : lr ≤ 1048576) (hlu : lu ≤ 1048576) : ∃ (k : Bool) (W' H' : Int) (lr' : Nat) (r' : Nat → Int) (lu' : Nat) (u' : Nat → Int), (lr' ≤ 1048576 ∧ lu' ≤ 1048576) ∧ (∀ {w : World} {lo hi : Nat} {m : Value}, NetAt w lo hi m W H lr r lu u → Calls Try.prog 18 #[m, .int .i64 i, .int .i64 j, .int .i64 d] w fun e w' => ∃ v, e = .returned (.tuple #[v, .bool k]) ∧ NetAt w' w.heap.size w'.heap.size v W' H' lr' r' lu' u' ∧ Below w.heap.size w w') ∧ (∀ {w : World} {lo hi : Nat} {m : Value}, NetAt w lo hi m W H lr r lu u → Calls Try.prog 19 #[m, .int .i64 i, .int .i64 j, .int .i64 d] w fun e w' => ∃ v, e = .returned (.tuple #[v, .bool k]) ∧ NetAt w' w.heap.size w'.heap.size v W' H' lr' r' lu' u' ∧ Below w.heap.size w w') := by
  by_cases h : netOk W H lr r lu u = true ∧ sq W H i j = true ∧ -2000000 ≤ d ∧ d ≤ 2000000
  · obtain ⟨hok, hs, hd⟩ := h
    have hl : 0 < lr ∧ 0 < lu := by
      obtain ⟨hW, hH, ⟨e1, -⟩, e2, -⟩ := netOk_of_true hok
      have hs' := hs
      simp only [sq, Bool.and_eq_true, decide_eq_true_eq] at hs'
      have p1 : 1 * 1 ≤ (W - 1) * H := Int.mul_le_mul (by omega) (by omega) (by omega) (by omega)
      have p2 : 1 * 1 ≤ W * (H - 1) := Int.mul_le_mul (by omega) (by omega) (by omega) (by omega)
      omega
    rcases hK : netOk W H lr (slF W i j d r (H - 1 - j).toNat) lu u with _ | _
    · refine ⟨false, 0, 0, 0, r, 0, u, ⟨by omega, by omega⟩, fun hN => ?_, fun hN => ?_⟩
      all_goals
        obtain ⟨g, c, g', c', rfl, i1, i2, l1, l2⟩ := hN.ints hl.1 hl.2
        first
        | refine (specSlip_yes W H i j d i1 i2 l1 l2 hlr hlu hok hs hd).mono ?_
        | refine (implSlip_yes W H i j d i1 i2 l1 l2 hlr hlu hok hs hd).mono ?_
        rintro e w' ⟨v, k, rfl, ⟨hk, hv⟩, hb⟩
        rw [hK] at hk
        subst hk
        rcases hv with ⟨e, -⟩ | ⟨-, rfl⟩
        · cases e
        · exact ⟨_, rfl, netZero _ _ _ _ _, hb⟩
    · refine ⟨true, W, H, lr, slF W i j d r (H - 1 - j).toNat, lu, u, ⟨hlr, hlu⟩, fun hN => ?_, fun hN => ?_⟩
      all_goals
        obtain ⟨g, c, g', c', rfl, i1, i2, l1, l2⟩ := hN.ints hl.1 hl.2
        first
        | refine (specSlip_yes W H i j d i1 i2 l1 l2 hlr hlu hok hs hd).mono ?_
        | refine (implSlip_yes W H i j d i1 i2 l1 l2 hlr hlu hok hs hd).mono ?_
        rintro e w' ⟨v, k, rfl, ⟨hk, hv⟩, hb⟩
        rw [hK] at hk
        subst hk
        rcases hv with ⟨-, hn⟩ | ⟨e, -⟩
        · exact ⟨_, rfl, hn, hb⟩
        · cases e
  · refine ⟨false, 0, 0, 0, r, 0, u, ⟨by omega, by omega⟩, fun hN => ?_, fun hN => ?_⟩
    · obtain ⟨a, c, a', c', rfl, s1, s2⟩ := hN.open
      refine (specSlip_no W H i j d s1 s2 hlr hlu h).mono ?_
      rintro e w' ⟨rfl, hb⟩
      exact ⟨_, rfl, netZero _ _ _ _ _, hb⟩
    · obtain ⟨a, c, a', c', rfl, s1, s2⟩ := hN.open
      refine (implSlip_no W H i j d s1 s2 hlr hlu h).mono ?_
      rintro e w' ⟨rfl, hb⟩
      exact ⟨_, rfl, netZero _ _ _ _ _, hb⟩
set_option maxRecDepth 100000 in
set_option maxHeartbeats 3200000 in
theorem exactSlip_walk {w : World} {a a' : Option Addr} {lr lu cr cu : Nat} {r u : Nat → Int} (W H i j d : Int) (hr : Src w a lr r) (hu : Src w a' lu u) (hlr : lr ≤ maxLen) (hlu : lu ≤ maxLen) :
    Calls Try.prog 6 #[nV W H (.slice a lr cr) (.slice a' lu cu), .int .i64 i, .int .i64 j, .int .i64 d] w fun e w' => e = .returned (.bool true) ∧ Below w.heap.size w w' := by
  go_enter Try.func6, Try.ntmps6
  go_wp2_with fail
  obtain ⟨V, hV, b0, bW, -⟩ := boxed w 24 #[.int .i64 W, .int .i64 H, .slice a lr cr, .slice a' lu cu]
  rw [hV]
  refine (szNet_any W H a a' lr lu cr cu V hlr hlu).mono ?_
  rintro e w1 ⟨z, rfl, hz, b1⟩
  replace b0 := b0.below b1
  replace bW := bW.trans (b1.mono bW.size)
  clear b1 hV
  rcases hz with rfl | ⟨hz1, hz⟩
  · go_wp2
    go_ret
    exact ⟨rfl, bW⟩
  · obtain ⟨c0, c1, c2, c3, -⟩ := b0.open4
    have hz' : ¬ z < 0 := by omega
    have h1 : lr ≤ 1048576 := by omega
    have h2 : lu ≤ 1048576 := by omega
    obtain ⟨k, W', H', lr', r', lu', u', ⟨h3, h4⟩, SP, IM⟩ := bothSlip W H i j d lr lu r u h1 h2
    clear hz1
    go_wp2_with fail
    refine (toNet_any W H (hr.below bW) (hu.below bW) h1 h2).mono ?_
    rintro e w2 ⟨m0, rfl, M0, b⟩
    clear c0 c1 c2 c3
    replace b0 := b0.below b
    replace bW := bW.trans (b.mono bW.size)
    clear b
    go_wp2_with fail
    refine (SP M0).mono ?_
    rintro e w3 ⟨v0, rfl, N0, b⟩
    replace b0 := b0.below b
    replace bW := bW.trans (b.mono bW.size)
    clear b
    have s2 : w.heap.size < w3.heap.size := b0.lt
    obtain ⟨x0, x0', rfl, A0, B0, ap0⟩ := N0
    obtain ⟨a0, d0, rfl, -⟩ := A0.src
    obtain ⟨a0', d0', rfl, -⟩ := B0.src
    clear M0
    obtain ⟨V3, hV3, bw, b, -⟩ := boxed w3 27 #[.int .i64 W', .int .i64 H', .slice a0 lr' d0, .slice a0' lu' d0']
    have s3 : w3.heap.size < V3.heap.size := bw.lt
    have N0 : NetAt w3 _ _ _ W' H' lr' r' lu' u' := ⟨_, _, rfl, A0, B0, ap0⟩
    clear A0 B0 ap0
    replace b0 := b0.below b
    replace N0 := N0.below b
    replace bW := bW.trans (b.mono bW.size)
    clear b
    obtain ⟨c0, c1, c2, c3, -⟩ := b0.open4
    go_wp2_with fail
    obtain ⟨qw, hqw⟩ : ∃ q, w3.heap.size = q := ⟨_, rfl⟩
    rw [hqw] at N0 bw s3 s2 ⊢
    clear hV3 hqw
    have bW3 := bW.size
    refine (toNet_any W H (hr.below bW) (hu.below bW) h1 h2).mono ?_
    rintro e w4 ⟨mx, rfl, NX, b⟩
    clear c0 c1 c2 c3
    have s35 := b.size
    replace b0 := b0.below b
    replace N0 := N0.below b
    replace bw := bw.below b
    replace bW := bW.trans (b.mono bW.size)
    clear b
    obtain ⟨x1, x1', rfl, AX, BX, apx⟩ := NX
    obtain ⟨ax, dx, rfl, -⟩ := AX.src
    obtain ⟨ax', dx', rfl, -⟩ := BX.src
    obtain ⟨V4, hV4, bx, b, -⟩ := boxed w4 27 #[.int .i64 W, .int .i64 H, .slice ax lr dx, .slice ax' lu dx']
    have s4 : w4.heap.size < V4.heap.size := bx.lt
    have NX : NetAt w4 _ _ _ W H lr r lu u := ⟨_, _, rfl, AX, BX, apx⟩
    clear AX BX apx
    replace b0 := b0.below b
    replace N0 := N0.below b
    replace bw := bw.below b
    replace NX := NX.below b
    replace bW := bW.trans (b.mono bW.size)
    clear b
    obtain ⟨c0, c1, c2, c3, -⟩ := bx.open4
    go_wp2_with fail
    refine (IM NX).mono ?_
    rintro e w5 ⟨v1, rfl, N1, b⟩
    clear c0 c1 c2 c3
    have s5 := b.size
    replace b0 := b0.below b
    replace N0 := N0.below b
    replace bw := bw.below b
    replace NX := NX.below b
    replace bx := bx.below b
    replace bW := bW.trans (b.mono bW.size)
    clear b
    obtain ⟨x2, x2', rfl, A1, B1, ap1⟩ := N1
    obtain ⟨a1, d1, rfl, -⟩ := A1.src
    obtain ⟨a1', d1', rfl, -⟩ := B1.src
    obtain ⟨V5, hV5, bg, b, -⟩ := boxed w5 27 #[.int .i64 W', .int .i64 H', .slice a1 lr' d1, .slice a1' lu' d1']
    have s6 : w5.heap.size < V5.heap.size := bg.lt
    have N1 : NetAt w5 _ _ _ W' H' lr' r' lu' u' := ⟨_, _, rfl, A1, B1, ap1⟩
    clear A1 B1 ap1
    replace b0 := b0.below b
    replace N0 := N0.below b
    replace bw := bw.below b
    replace NX := NX.below b
    replace bx := bx.below b
    replace N1 := N1.below b
    replace bW := bW.trans (b.mono bW.size)
    clear b
    obtain ⟨c0, c1, c2, c3, -⟩ := bw.open4
    obtain ⟨y0, y1, y2, y3, -⟩ := bg.open4
    go_wp2_with fail
    obtain ⟨qx, hqx⟩ : ∃ q, w4.heap.size = q := ⟨_, rfl⟩
    obtain ⟨qg, hqg⟩ : ∃ q, w5.heap.size = q := ⟨_, rfl⟩
    have hDD : (k != k) = false := bne_self_eq_false k
    rw [hqx] at NX bx s4 s35
    rw [hqg] at N1 bg s6 s5
    obtain ⟨l4, hl4⟩ : ∃ q, V4.heap.size = q := ⟨_, rfl⟩
    rw [hl4] at N1 s4 s5
    try rw [hqg] at y0 y1 y2 y3 ⊢
    try rw [hqx]
    clear hV4 hV5
    refine (eqNet_true N1 N0 h3 h4).mono ?_
    rintro e w6 ⟨rfl, b⟩
    clear c0 c1 c2 c3 y0 y1 y2 y3
    replace b0 := b0.below b
    replace N0 := N0.below b
    replace bw := bw.below b
    replace NX := NX.below b
    replace bx := bx.below b
    replace N1 := N1.below b
    replace bg := bg.below b
    replace bW := bW.trans (b.mono bW.size)
    clear b
    go_wp2_with fail
    obtain ⟨u0, hu0, bb⟩ : ∃ u0, w6.drew = u0 ∧ Below w6.heap.size w6 u0 := ⟨_, rfl, (Below.refl _ _).drew⟩
    replace b0 := b0.below bb
    replace N0 := N0.below bb
    replace bw := bw.below bb
    replace NX := NX.below bb
    replace bx := bx.below bb
    replace N1 := N1.below bb
    replace bg := bg.below bb
    replace bW := bW.trans (bb.mono bW.size)
    clear bb
    refine wp_region_held_drew (S := Two4 qx w.heap.size W H (.slice ax lr dx) (.slice ax' lu dx') (.slice a lr cr) (.slice a' lu cu)) (by kernel_rfl) (by rw [hu0]; exact two4_mk bx b0) (fun hHeld => ?_)
    rw [hu0] at hHeld ⊢
    clear hu0
    change wpAnyH _ _ _ _ _ 5 #[false, false, false, false, false] _ _
    refine wpAnyH_take (i := 0) (v := nV W H (.slice ax lr dx) (.slice ax' lu dx')) rfl (by kernel_rfl) (by kernel_rfl) (by kernel_rfl) (fun _ _ _ h => h) (Or.inl ⟨by kernel_rfl, ?_⟩) hHeld ?_
    · intro w' hSw; obtain ⟨⟨z0, z1, z2, z3⟩, z4, z5, z6, z7⟩ := hSw; go_simp
    try simp only [Act.put, List.setIfInBounds_toArray, List.set_cons_zero, List.set_cons_succ, List.getElem_toArray, List.getElem_cons_zero]
    refine wpAnyH_take (i := 1) (v := nV W H (.slice a lr cr) (.slice a' lu cu)) rfl (by kernel_rfl) (by kernel_rfl) (by kernel_rfl) (fun _ _ _ h => h) (Or.inl ⟨by kernel_rfl, ?_⟩) hHeld ?_
    · intro w' hSw; obtain ⟨⟨z0, z1, z2, z3⟩, z4, z5, z6, z7⟩ := hSw; go_simp
    try simp only [Act.put, List.setIfInBounds_toArray, List.set_cons_zero, List.set_cons_succ, List.getElem_toArray, List.getElem_cons_succ, List.getElem_cons_zero]
    refine wpAnyH_ready (rs := [2]) (by kernel_rfl) (by simp) ?_
    refine AllReadyH.cons rfl (fun KK hK' => ?_) AllReadyH.nil
    go_simp
    refine (toNet_any W H (hr.below bW) (hu.below bW) h1 h2).mono ?_
    rintro e w7 ⟨m7, rfl, M7, bb⟩
    replace b0 := b0.below bb
    replace N0 := N0.below bb
    replace bw := bw.below bb
    replace NX := NX.below bb
    replace bx := bx.below bb
    replace N1 := N1.below bb
    replace bg := bg.below bb
    replace bW := bW.trans (bb.mono bW.size)
    clear bb
    try go_wp2_with fail
    clear hHeld
    refine hK'.out _ _ (two4_mk bx b0) (fun hHeld => ?_)
    clear hK' KK
    try simp only [List.setIfInBounds_toArray, List.set_cons_zero, List.set_cons_succ]
    refine wpAnyH_ready (rs := [3]) (by kernel_rfl) (by simp) ?_
    refine AllReadyH.cons rfl (fun KK hK' => ?_) AllReadyH.nil
    go_simp
    refine (eqNet_true NX M7 h1 h2).mono ?_
    rintro e w8 ⟨rfl, bb⟩
    replace b0 := b0.below bb
    replace N0 := N0.below bb
    replace bw := bw.below bb
    replace NX := NX.below bb
    replace bx := bx.below bb
    replace N1 := N1.below bb
    replace bg := bg.below bb
    replace bW := bW.trans (bb.mono bW.size)
    clear bb
    clear M7
    try go_wp2_with fail
    clear hHeld
    refine hK'.out _ _ (two4_mk bx b0) (fun hHeld => ?_)
    clear hK' KK
    try simp only [List.setIfInBounds_toArray, List.set_cons_zero, List.set_cons_succ]
    refine wpAnyH_take (i := 4) (v := .bool false) rfl (by kernel_rfl) (by kernel_rfl) (by kernel_rfl) (fun _ _ _ h => h) (Or.inl ⟨by kernel_rfl, ?_⟩) hHeld ?_
    · intro w' hSw; go_simp
    try simp only [Act.put, List.setIfInBounds_toArray, List.set_cons_zero, List.set_cons_succ, List.getElem_toArray, List.getElem_cons_succ, List.getElem_cons_zero]
    refine wpAnyH_done (by kernel_rfl) ?_ _
    clear hHeld
    obtain ⟨c0, c1, c2, c3, -⟩ := bx.open4
    go_wp2_with fail
    refine (markNet_any NX h1 h2 1 (by omega)).mono ?_
    rintro e w9 ⟨rfl, -, t9⟩
    clear c0 c1 c2 c3
    obtain ⟨K9, hK9⟩ : ∃ K : Int, ((1 + lr + lu : Nat) : Int) = K := ⟨_, rfl⟩
    have hK9' : ¬ K9 < 0 := by omega
    rw [hK9]
    replace b0 := b0.turn t9 (.inl (by have := bW3; omega))
    replace N0 := N0.turn t9 (.inl (by omega))
    replace bw := bw.turn t9 (.inl (by omega))
    replace bx := bx.turn t9 (.inr (by omega))
    replace N1 := N1.turn t9 (.inr (by omega))
    replace bg := bg.turn t9 (.inr (by omega))
    replace bW := t9.below bW (by omega) bW.size
    clear NX t9
    obtain ⟨c0, c1, c2, c3, -⟩ := bw.open4
    obtain ⟨y0, y1, y2, y3, -⟩ := bg.open4
    go_wp2_with fail
    refine (eqNet_true N1 N0 h3 h4).mono ?_
    rintro e w10 ⟨rfl, b⟩
    clear c0 c1 c2 c3 y0 y1 y2 y3
    replace b0 := b0.below b
    replace N0 := N0.below b
    replace bw := bw.below b
    replace bx := bx.below b
    replace N1 := N1.below b
    replace bg := bg.below b
    replace bW := bW.trans (b.mono bW.size)
    clear b
    obtain ⟨y0, y1, y2, y3, -⟩ := bg.open4
    go_wp2_with fail
    refine (markNet_any N1 h3 h4 1 (by omega)).mono ?_
    rintro e w11 ⟨rfl, N1', t11⟩
    clear y0 y1 y2 y3
    replace b0 := b0.turn t11 (.inl (by have := bW3; omega))
    replace N0 := N0.turn t11 (.inl (by omega))
    replace bw := bw.turn t11 (.inl (by omega))
    replace bx := bx.turn t11 (.inl (by omega))
    replace bg := bg.turn t11 (.inr (by omega))
    replace bW := t11.below bW (by omega) bW.size
    clear N1 t11
    obtain ⟨Kq, hKq⟩ : ∃ K : Int, ((1 + lr' + lu' : Nat) : Int) = K := ⟨_, rfl⟩
    have hK0 : ¬ Kq < 0 := by omega
    have hK1 : (Kq != Kq) = false := by simp
    rw [hKq]
    obtain ⟨y0, y1, y2, y3, -⟩ := bg.open4
    go_wp2_with fail
    refine (heldNet_any 1 N1' h3 h4 (by omega)).mono ?_
    rintro e w12 ⟨rfl, b⟩
    rw [hKq]
    clear y0 y1 y2 y3
    replace b0 := b0.below b
    replace N0 := N0.below b
    replace bw := bw.below b
    replace bx := bx.below b
    replace bg := bg.below b
    replace N1' := N1'.below b
    replace bW := bW.trans (b.mono bW.size)
    clear b
    obtain ⟨c0, c1, c2, c3, -⟩ := b0.open4
    go_wp2_with fail
    refine (toNet_any W H (hr.below bW) (hu.below bW) h1 h2).mono ?_
    rintro e w13 ⟨m13, rfl, M13, b⟩
    clear c0 c1 c2 c3
    replace b0 := b0.below b
    replace N0 := N0.below b
    replace bw := bw.below b
    replace bx := bx.below b
    replace bg := bg.below b
    replace N1' := N1'.below b
    replace bW := bW.trans (b.mono bW.size)
    clear b
    go_wp2_with fail
    refine (IM M13).mono ?_
    rintro e w14 ⟨v2, rfl, N2, b⟩
    replace b0 := b0.below b
    replace N0 := N0.below b
    replace bw := bw.below b
    replace bx := bx.below b
    replace bg := bg.below b
    replace N1' := N1'.below b
    replace bW := bW.trans (b.mono bW.size)
    clear b
    obtain ⟨x3, x3', rfl, A2, B2, ap2⟩ := N2
    obtain ⟨a2, d2, rfl, -⟩ := A2.src
    obtain ⟨a2', d2', rfl, -⟩ := B2.src
    clear M13
    obtain ⟨V14, hV14, bh, b, -⟩ := boxed w14 27 #[.int .i64 W', .int .i64 H', .slice a2 lr' d2, .slice a2' lu' d2']
    have N2 : NetAt w14 _ _ _ W' H' lr' r' lu' u' := ⟨_, _, rfl, A2, B2, ap2⟩
    clear A2 B2 ap2
    replace b0 := b0.below b
    replace N0 := N0.below b
    replace bw := bw.below b
    replace bx := bx.below b
    replace bg := bg.below b
    replace N1' := N1'.below b
    replace N2 := N2.below b
    replace bW := bW.trans (b.mono bW.size)
    clear b
    obtain ⟨c0, c1, c2, c3, -⟩ := bw.open4
    obtain ⟨y0, y1, y2, y3, -⟩ := bh.open4
    go_wp2_with fail
    refine (eqNet_true N2 N0 h3 h4).mono ?_
    rintro e w15 ⟨rfl, b⟩
    clear c0 c1 c2 c3 y0 y1 y2 y3
    clear hV14
    replace b0 := b0.below b
    replace N0 := N0.below b
    replace bw := bw.below b
    replace bx := bx.below b
    replace bg := bg.below b
    replace N1' := N1'.below b
    replace N2 := N2.below b
    replace bh := bh.below b
    replace bW := bW.trans (b.mono bW.size)
    clear b
    obtain ⟨y0, y1, y2, y3, -⟩ := bg.open4
    go_wp2_with fail
    refine (heldNet_any 1 N1' h3 h4 (by omega)).mono ?_
    rintro e w16 ⟨rfl, b⟩
    rw [hKq]
    replace bW := bW.trans (b.mono bW.size)
    go_wp2
    go_ret
    exact ⟨rfl, bW⟩
theorem exactSlip_of {w : World} {a a' : Option Addr} {lr cr lu cu : Nat} {zs zs' : List Int} (W H i j d : Int) (h1 : IsRow .i64 w a lr cr zs) (h2 : IsRow .i64 w a' lu cu zs') :
    Calls Try.prog 6 #[nV W H (.slice a lr cr) (.slice a' lu cu), .int .i64 i, .int .i64 j, .int .i64 d] w fun e w' => e = .returned (.bool true) ∧ Below w.heap.size w w' := by
  obtain ⟨f, hs, hl, -⟩ := src_of h1
  obtain ⟨f', hs', hl', -⟩ := src_of h2
  exact exactSlip_walk W H i j d hs hs' hl hl'
end Go.Proofs.Ythpmfjhhaolklaa
