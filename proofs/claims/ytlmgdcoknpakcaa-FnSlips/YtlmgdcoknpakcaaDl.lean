/-
  The law FnSlips: walked.
-/
import Derived.Test.YtlmgdcoknpakcaaDg
import Derived.Test.YtlmgdcoknpakcaaDk
import Derived.Test.YtlmgdcoknpakcaaDi
import Derived.Test.YtlmgdcoknpakcaaSu
namespace Go.Proofs.Ytlmgdcoknpakcaa
open Go.RowKit

theorem Two.below {lo : Nat} {w w' : World} {g1 e1 n : Nat} {f : Nat → Int} {g2 e2 k : Nat} {h : Nat → Int} (t : Two lo w g1 e1 n f g2 e2 k h) (hb : Below w.heap.size w w') : Two lo w' g1 e1 n f g2 e2 k h := { t with m1 := t.m1.bel hb, m2 := t.m2.bel hb }
theorem Rw.ints {w : World} {B : Nat} {v : Value} {n : Nat} {f : Nat → Int} (h : Rw w B v n f) (hn : 0 < n) : ∃ g c, v = .slice (some ⟨g, 0, none⟩) n c ∧ Ints w g 0 n f ∧ g < w.heap.size := by
  rcases h with ⟨-, e⟩ | ⟨g, c, e, -, -, m⟩
  · omega
  · exact ⟨g, c, e, m.ints, m.lt⟩
/-- Slip by the specification: where it tells, all that it asks holds. -/
theorem slip_at {w : World} {B1 B2 : Nat} {v1 v2 : Value} {lr lu : Nat} {r u : Nat → Int} (W H x y b : Int) (i1 : Rw w B1 v1 lr r) (i2 : Rw w B2 v2 lu u) (hlr : lr ≤ 1048576) (hlu : lu ≤ 1048576) :
    Calls Try.prog 22 #[nV W H v1 v2, .int .i64 x, .int .i64 y, .int .i64 b] w fun e w' => ∃ v k, e = .returned (.tuple #[v, .bool k]) ∧ (k = true → netOk W H lr r lu u = true ∧ sq W H x y = true ∧ (-2000000 ≤ b ∧ b ≤ 2000000) ∧ netOk W H lr (slF W x y b r (H - 1 - y).toNat) lu u = true) ∧ (∃ W' H' y1 y2 m1 h1 m2 h2, v = nV W' H' (.slice y1 m1 h1) (.slice y2 m2 h2)) ∧ Below w.heap.size w w' := by
  by_cases h : netOk W H lr r lu u = true ∧ sq W H x y = true ∧ -2000000 ≤ b ∧ b ≤ 2000000
  · obtain ⟨hok, hs, hd⟩ := h
    have hl := sq_pos hok hs
    obtain ⟨g, c, rfl, j1, l1⟩ := i1.ints hl.1
    obtain ⟨g', c', rfl, j2, l2⟩ := i2.ints hl.2
    refine (specSlip_yes W H x y b j1 j2 l1 l2 hlr hlu hok hs hd).mono ?_
    rintro e w' ⟨v, k, rfl, ⟨hn, hv⟩, hb⟩
    refine ⟨v, k, rfl, fun hk => ⟨hok, hs, hd, by rw [← hk]; exact hn⟩, ?_, hb⟩
    rcases hv with ⟨-, v1, v2, rfl, A1, A2, -⟩ | ⟨-, rfl⟩
    · obtain ⟨za1, zc1, rfl⟩ := (Rw.of_arr A1 (Nat.le_refl _)).shape
      obtain ⟨za2, zc2, rfl⟩ := (Rw.of_arr A2 (Nat.le_refl _)).shape
      exact ⟨_, _, _, _, _, _, _, _, rfl⟩
    · exact ⟨_, _, _, _, _, _, _, _, rfl⟩
  · obtain ⟨a1, c1, rfl⟩ := i1.shape
    obtain ⟨a2, c2, rfl⟩ := i2.shape
    refine (specSlip_no W H x y b i1.src i2.src hlr hlu h).mono ?_
    rintro e w' ⟨rfl, hb⟩
    exact ⟨_, _, rfl, (fun e => by cases e), ⟨_, _, _, _, _, _, _, _, rfl⟩, hb⟩
theorem slip_im {w : World} {lo g1 e1 g2 e2 lr lu : Nat} {r u : Nat → Int} {W H x y b : Int} (T : Two lo w g1 e1 lr r g2 e2 lu u) (hlr : lr ≤ 1048576) (hlu : lu ≤ 1048576) (h : netOk W H lr r lu u = true ∧ sq W H x y = true ∧ (-2000000 ≤ b ∧ b ≤ 2000000) ∧ netOk W H lr (slF W x y b r (H - 1 - y).toNat) lu u = true) :
    Calls Try.prog 23 #[nV W H (.slice (some ⟨g1, 0, none⟩) lr e1) (.slice (some ⟨g2, 0, none⟩) lu e2), .int .i64 x, .int .i64 y, .int .i64 b] w fun e w' => ∃ za1 zc1 za2 zc2, e = .returned (.tuple #[nV W H (.slice za1 lr zc1) (.slice za2 lu zc2), .bool true]) ∧ Rw w' w.heap.size (.slice za1 lr zc1) lr (slF W x y b r (H - 1 - y).toNat) ∧ Rw w' w.heap.size (.slice za2 lu zc2) lu u ∧ Below w.heap.size w w' := by
  obtain ⟨hok, hs, hd, hn⟩ := h
  refine (implSlip_yes W H x y b T.m1.ints T.m2.ints T.m1.lt T.m2.lt hlr hlu hok hs hd).mono ?_
  rintro e w' ⟨v, k, rfl, ⟨hk, hv⟩, hb⟩
  rcases hv with ⟨rfl, v1, v2, rfl, A1, A2, -⟩ | ⟨rfl, -⟩
  · have R1 := Rw.of_arr A1 (Nat.le_refl _)
    have R2 := Rw.of_arr A2 (Nat.le_refl _)
    obtain ⟨za1, zc1, rfl⟩ := R1.shape
    obtain ⟨za2, zc2, rfl⟩ := R2.shape
    exact ⟨_, _, _, _, rfl, R1, R2, hb⟩
  · rw [hn] at hk; cases hk
theorem shift_im {w : World} {lo g1 e1 g2 e2 lr lu : Nat} {r u F : Nat → Int} {af : Option Addr} {lf cf : Nat} {W H : Int} (T : Two lo w g1 e1 lr r g2 e2 lu u) (hF : Src w af lf F) (hlf : lf ≤ 1048576) (hlr : lr ≤ 1048576) (hlu : lu ≤ 1048576) (h : netOk W H lr r lu u = true ∧ slipsB lf F (W * H) = true ∧ netOk W H lr (allR W F r H.toNat) lu (allU W H F u H.toNat) = true) :
    Calls Try.prog 26 #[nV W H (.slice (some ⟨g1, 0, none⟩) lr e1) (.slice (some ⟨g2, 0, none⟩) lu e2), .slice af lf cf] w fun e w' => ∃ za1 zc1 za2 zc2, e = .returned (.tuple #[nV W H (.slice za1 lr zc1) (.slice za2 lu zc2), .bool true]) ∧ Rw w' w.heap.size (.slice za1 lr zc1) lr (allR W F r H.toNat) ∧ Rw w' w.heap.size (.slice za2 lu zc2) lu (allU W H F u H.toNat) ∧ Below w.heap.size w w' := by
  obtain ⟨hok, hs, hn⟩ := h
  refine (implShifted_yes W H hF hlf T.m1.ints T.m2.ints T.m1.lt T.m2.lt hlr hlu hok hs).mono ?_
  rintro e w' ⟨v, k, rfl, ⟨hk, hv⟩, hb⟩
  rcases hv with ⟨rfl, v1, v2, rfl, A1, A2, -⟩ | ⟨rfl, -⟩
  · have R1 := Rw.of_arr A1 (Nat.le_refl _)
    have R2 := Rw.of_arr A2 (Nat.le_refl _)
    obtain ⟨za1, zc1, rfl⟩ := R1.shape
    obtain ⟨za2, zc2, rfl⟩ := R2.shape
    exact ⟨_, _, _, _, rfl, R1, R2, hb⟩
  · rw [hn] at hk; cases hk
set_option maxRecDepth 100000 in
set_option maxHeartbeats 3200000 in
theorem slips_walk {w : World} {a a2 : Option Addr} {len cap len2 cap2 : Nat} (hr : Row w w.heap.size a len) (hr2 : Row w w.heap.size a2 len2) :
    Calls Try.prog 5 #[.slice a len cap, .slice a2 len2 cap2] w fun e w' => e = .returned (.bool true) ∧ Below w.heap.size w w' := by
  have hm := hr.1
  have hm2 := hr2.1
  by_cases hbig : 1048576 < len
  · have hd := decide_eq_true hbig
    go_enter Try.func5, Try.ntmps5
    go_wp2_with (go_at_call 8; refine (big_any _ _ _ _ (by assumption)).mono ?_; rintro e w1 ⟨rfl, rfl⟩)
    go_ret
    exact ⟨rfl, Below.refl _ _⟩
  · have hd := decide_eq_false hbig
    by_cases hbig2 : 1048576 < len2
    · have hd2 := decide_eq_true hbig2
      go_enter Try.func5, Try.ntmps5
      go_wp2_with (go_at_call 8; refine (big_any _ _ _ _ (by assumption)).mono ?_; rintro e w1 ⟨rfl, rfl⟩)
      go_ret
      exact ⟨rfl, Below.refl _ _⟩
    · have hd2 := decide_eq_false hbig2
      go_enter Try.func5, Try.ntmps5
      go_wp2_with (go_at_call 8; refine (big_any _ _ _ _ (by assumption)).mono ?_; rintro e w1 ⟨rfl, rfl⟩)
      refine (drawSlip_any hr).mono ?_
      rintro e w1 ⟨v, x, y, by0, rfl, ⟨W, H, n1, f1, n2, f2, N, hn1, hn2⟩, bW⟩
      obtain ⟨v1, v2, rfl, A1, A2, ap⟩ := N
      have R1 := Rw.of_arr A1 (Nat.le_refl _)
      have R2 := Rw.of_arr A2 (Nat.le_refl _)
      obtain ⟨za1, zc1, hz1⟩ := R1.shape
      obtain ⟨za2, zc2, hz2⟩ := R2.shape
      subst hz1 hz2
      clear A1 A2 ap
      go_wp2_with fail
      obtain ⟨V2, hV2, aq, b2, -⟩ := boxed w1 32 #[.int .i64 W, .int .i64 H, .slice za1 n1 zc1, .slice za2 n2 zc2]
      rw [hV2]
      have D : Bx w1.heap.size w.heap.size W H (.slice za1 n1 zc1) (.slice za2 n2 zc2) n1 f1 n2 f2 V2 := ⟨aq, R1.below b2, R2.below b2⟩
      obtain ⟨q, hq⟩ : ∃ q, w1.heap.size = q := ⟨_, rfl⟩
      replace bW := bW.trans (b2.mono bW.size)
      rw [hq] at D ⊢
      clear hV2 aq b2 R1 R2 hq
      have h1 : n1 ≤ 1048576 := by omega
      have h2 : n2 ≤ 1048576 := by omega
      refine (slip_at W H x y by0 D.o1 D.o2 h1 h2).mono ?_
      rintro e w2 ⟨v, kb, rfl, hk, ⟨W', H', y1, y2, m1, e1, m2, e2, rfl⟩, b2⟩
      obtain ⟨V4, hV4, -, b4, -⟩ := boxed w2 32 #[.int .i64 W', .int .i64 H', .slice y1 m1 e1, .slice y2 m2 e2]
      replace b2 := b2.trans (b4.mono b2.size)
      replace D := D.below b2
      replace bW := bW.trans (b2.mono bW.size)
      clear b2 b4
      have lq := D.aq.lt
      obtain ⟨c0, c1, c2, c3, -⟩ := D.aq.open4
      rcases kb with _ | _
      · go_wp2_with fail
        clear D c0 c1 c2 c3 lq hV4 hk h1 h2 hn1 hn2
        have hr9 := hr2.below bW
        refine (drawShifted_any hr9).mono ?_
        rintro e w1 ⟨v, vf, lf, F, rfl, ⟨W, H, n1, f1, n2, f2, N, hn1, hn2⟩, RF, hlf, bA⟩
        obtain ⟨v1, v2, rfl, A1, A2, ap⟩ := N
        have R1 := (Rw.of_arr A1 (Nat.le_refl _)).wide bW.size
        have R2 := (Rw.of_arr A2 (Nat.le_refl _)).wide bW.size
        obtain ⟨za1, zc1, hz1⟩ := R1.shape
        obtain ⟨za2, zc2, hz2⟩ := R2.shape
        obtain ⟨af, cf, hz3⟩ := RF.shape
        subst hz1 hz2 hz3
        replace bW := bW.trans (bA.mono bW.size)
        clear bA hr9 A1 A2 ap
        go_wp2_with fail
        obtain ⟨V2, hV2, aq, b2, -⟩ := boxed w1 32 #[.int .i64 W, .int .i64 H, .slice za1 n1 zc1, .slice za2 n2 zc2]
        rw [hV2]
        have D : Bx w1.heap.size w.heap.size W H (.slice za1 n1 zc1) (.slice za2 n2 zc2) n1 f1 n2 f2 V2 := ⟨aq, R1.below b2, R2.below b2⟩
        replace RF := RF.below b2
        obtain ⟨q, hq⟩ : ∃ q, w1.heap.size = q := ⟨_, rfl⟩
        replace bW := bW.trans (b2.mono bW.size)
        rw [hq] at D ⊢
        clear hV2 aq b2 R1 R2 hq
        have h1 : n1 ≤ 1048576 := by omega
        have h2 : n2 ≤ 1048576 := by omega
        refine (shifted_at W H D.o1 D.o2 RF.src (by omega) h1 h2).mono ?_
        rintro e w2 ⟨v, kb, rfl, hk, ⟨W', H', y1, y2, m1, e1, m2, e2, rfl⟩, b2⟩
        obtain ⟨V4, hV4, -, b4, -⟩ := boxed w2 32 #[.int .i64 W', .int .i64 H', .slice y1 m1 e1, .slice y2 m2 e2]
        replace b2 := b2.trans (b4.mono b2.size)
        replace D := D.below b2
        replace RF := RF.below b2
        replace bW := bW.trans (b2.mono bW.size)
        clear b2 b4
        have lq := D.aq.lt
        obtain ⟨c0, c1, c2, c3, -⟩ := D.aq.open4
        rcases kb with _ | _
        · go_wp2
          go_ret
          exact ⟨rfl, bW⟩
        · replace hk := hk rfl
          obtain ⟨hW, hH, -⟩ := netOk_of_true hk.1
          go_wp2_with fail
          clear hV4 c0 c1 c2 c3 lq
          refine (copyNet_any W H D.o1 D.o2 h1 h2).mono ?_
          rintro e w4 ⟨k1, k2, k3, k4, rfl, T4, b9⟩
          replace D := D.below b9
          replace RF := RF.below b9
          replace bW := bW.trans (b9.mono bW.size)
          clear b9
          go_wp2_with fail
          refine (intsR_any RF (by omega)).mono ?_
          rintro e w5 ⟨gi, ci, rfl, -, -, MF, b9⟩
          replace D := D.below b9
          replace T4 := T4.below b9
          replace bW := bW.trans (b9.mono bW.size)
          clear b9 RF
          go_wp2_with fail
          refine (shift_im T4 (.inr ⟨gi, 0, rfl, MF.lt, MF.ints⟩) (by omega) h1 h2 hk).mono ?_
          rintro e w6 ⟨zb1, zd1, zb2, zd2, rfl, S1, S2, b9⟩
          obtain ⟨V7, hV7, am, b7, -⟩ := boxed w6 32 #[.int .i64 W, .int .i64 H, .slice zb1 n1 zd1, .slice zb2 n2 zd2]
          replace S1 := (S1.below b7).wide bW.size
          replace S2 := (S2.below b7).wide bW.size
          have M : Bx w6.heap.size w.heap.size W H (.slice zb1 n1 zd1) (.slice zb2 n2 zd2) n1 (allR W F f1 H.toNat) n2 (allU W H F f2 H.toNat) V7 := ⟨am, S1, S2⟩
          obtain ⟨m, hm9⟩ : ∃ m, w6.heap.size = m := ⟨_, rfl⟩
          rw [hm9] at M
          replace b9 := b9.trans (b7.mono b9.size)
          replace D := D.below b9
          replace bW := bW.trans (b9.mono bW.size)
          clear b9 b7 am S1 S2 T4 MF
          have lq := D.aq.lt
          obtain ⟨c0, c1, c2, c3, -⟩ := D.aq.open4
          go_wp2_with fail
          clear c0 c1 c2 c3 lq hV7 hm9
          refine (specCores_yes W H D.o1.src D.o2.src h1 h2 hk.1).mono ?_
          rintro e w8 ⟨v8, rfl, C8, b9⟩
          replace D := D.below b9
          replace M := M.below b9
          replace bW := bW.trans (b9.mono bW.size)
          clear b9
          obtain ⟨ga, na, ca, rfl, hLa, TA⟩ := coreT_c C8
          clear C8
          have lm := M.aq.lt
          obtain ⟨d0, d1, d2, d3, -⟩ := M.aq.open4
          go_wp2_with fail
          clear d0 d1 d2 d3 lm
          refine (implCores_yes W H M.o1.src M.o2.src h1 h2 hk.2.2).mono ?_
          rintro e w9 ⟨v9, rfl, C9, b9⟩
          replace D := D.below b9
          replace M := M.below b9
          replace TA := TA.below b9
          replace bW := bW.trans (b9.mono bW.size)
          clear b9
          obtain ⟨gb, nb, cb, rfl, hLb, TB⟩ := coreT_c C9
          clear C9
          rw [shift_coA hW.1 _ (by omega)] at hLb TB
          obtain ⟨L, hLL⟩ : ∃ L, coA W f1 f2 (H - 1).toNat = L := ⟨_, rfl⟩
          have hna : na ≤ 2000 := by
            obtain ⟨m, e1, e2⟩ := coA_len W hW.2 f1 f2 (H - 1).toNat
            omega
          rw [hLL] at hLa hLb TA TB
          have hnn : nb = na := by omega
          subst hnn
          have t1 : ((nb : Int) != (nb : Int)) = false := bne_self_eq_false _
          have t2 : (W != W) = false := bne_self_eq_false _
          have t3 : (H != H) = false := bne_self_eq_false _
          have lq := D.aq.lt
          obtain ⟨c0, c1, c2, c3, -⟩ := D.aq.open4
          have lm := M.aq.lt
          obtain ⟨d0, d1, d2, d3, -⟩ := M.aq.open4
          go_wp2_with fail
          clear c0 c1 c2 c3 lq d0 d1 d2 d3 lm t1 t2 t3 D M
          go_loopw [27] (fun t wr => ∃ i : Nat, i ≤ nb ∧ t = .int .i64 (i : Int) ∧ TriC wr ga nb L ∧ TriC wr gb nb L ∧ Below w.heap.size w wr) (fun t _ => (nb - intOf t).toNat)
          case atStart => exact ⟨0, by omega, rfl, TA, TB, bW⟩
          case round =>
            clear TA TB bW
            obtain ⟨i, hi, rfl, TA, TB, bW⟩ := hrel
            by_cases hlt : i < nb
            · have hlt' : (i : Int) < nb := by omega
              have z0 := TA.2 (i * 3) (by omega)
              have z1 := TA.2 (i * 3 + 1) (by omega)
              have z2 := TA.2 (i * 3 + 2) (by omega)
              have z3 := TB.2 (i * 3) (by omega)
              have z4 := TB.2 (i * 3 + 1) (by omega)
              have z5 := TB.2 (i * 3 + 2) (by omega)
              have la := TA.1
              have lb := TB.1
              obtain ⟨p0, hp0⟩ : ∃ p, L.getD (i * 3) 0 = p := ⟨_, rfl⟩
              obtain ⟨p1, hp1⟩ : ∃ p, L.getD (i * 3 + 1) 0 = p := ⟨_, rfl⟩
              obtain ⟨p2, hp2⟩ : ∃ p, L.getD (i * 3 + 2) 0 = p := ⟨_, rfl⟩
              rw [hp0] at z0 z3
              rw [hp1] at z1 z4
              rw [hp2] at z2 z5
              clear hp0 hp1 hp2
              go_wp2_with fail
              obtain ⟨u0, hu0, bb⟩ : ∃ u0, wr.drew = u0 ∧ Below wr.heap.size wr u0 := ⟨_, rfl, (Below.refl _ _).drew⟩
              replace TA := TA.below bb
              replace TB := TB.below bb
              replace bW := bW.trans (bb.mono bW.size)
              have F : Kb wr u0 := bb
              clear bb
              refine wp_region_held_drew (S := Kb wr) (by kernel_rfl) (by rw [hu0]; exact F) (fun hHeld => ?_)
              rw [hu0] at hHeld ⊢
              clear hu0
              change wpAnyH _ _ _ _ _ 9 #[false, false, false, false, false, false, false, false, false] _ _
              refine wpAnyH_take (i := 0) (v := .slice (some ⟨ga, 0, none⟩) nb ca) rfl (by kernel_rfl) (by kernel_rfl) (by kernel_rfl) (fun _ _ _ h => h) (Or.inl ⟨by kernel_rfl, ?_⟩) hHeld ?_
              · intro w' hSw; go_simp
              try simp only [Act.put, List.setIfInBounds_toArray, List.set_cons_zero, List.set_cons_succ, List.getElem_toArray, List.getElem_cons_zero]
              refine wpAnyH_take (i := 1) (v := .int .i64 (i : Int)) rfl (by kernel_rfl) (by kernel_rfl) (by kernel_rfl) (fun _ _ _ h => h) (Or.inl ⟨by kernel_rfl, ?_⟩) hHeld ?_
              · intro w' hSw; go_simp
              try simp only [Act.put, List.setIfInBounds_toArray, List.set_cons_zero, List.set_cons_succ, List.getElem_toArray, List.getElem_cons_succ, List.getElem_cons_zero]
              refine wpAnyH_take (i := 2) (v := .pointer (some ⟨ga, i * 3, none⟩)) rfl (by kernel_rfl) (by kernel_rfl) (by kernel_rfl) (fun _ _ _ h => h) (Or.inl ⟨by kernel_rfl, ?_⟩) hHeld ?_
              · intro w' hSw; go_simp
              try simp only [Act.put, List.setIfInBounds_toArray, List.set_cons_zero, List.set_cons_succ, List.getElem_toArray, List.getElem_cons_succ, List.getElem_cons_zero]
              refine wpAnyH_take (i := 3) (v := .agg #[.int .i64 p0, .int .i64 p1, .int .i64 p2]) rfl (by kernel_rfl) (by kernel_rfl) (by kernel_rfl) (fun _ _ _ h => h) (Or.inl ⟨by kernel_rfl, ?_⟩) hHeld ?_
              · intro w' hSw; obtain ⟨hc, hf⟩ := bcell hSw; go_simp
              try simp only [Act.put, List.setIfInBounds_toArray, List.set_cons_zero, List.set_cons_succ, List.getElem_toArray, List.getElem_cons_succ, List.getElem_cons_zero]
              refine wpAnyH_take (i := 4) (v := .slice (some ⟨gb, 0, none⟩) nb cb) rfl (by kernel_rfl) (by kernel_rfl) (by kernel_rfl) (fun _ _ _ h => h) (Or.inl ⟨by kernel_rfl, ?_⟩) hHeld ?_
              · intro w' hSw; go_simp
              try simp only [Act.put, List.setIfInBounds_toArray, List.set_cons_zero, List.set_cons_succ, List.getElem_toArray, List.getElem_cons_succ, List.getElem_cons_zero]
              refine wpAnyH_take (i := 5) (v := .int .i64 (i : Int)) rfl (by kernel_rfl) (by kernel_rfl) (by kernel_rfl) (fun _ _ _ h => h) (Or.inl ⟨by kernel_rfl, ?_⟩) hHeld ?_
              · intro w' hSw; go_simp
              try simp only [Act.put, List.setIfInBounds_toArray, List.set_cons_zero, List.set_cons_succ, List.getElem_toArray, List.getElem_cons_succ, List.getElem_cons_zero]
              refine wpAnyH_take (i := 6) (v := .pointer (some ⟨gb, i * 3, none⟩)) rfl (by kernel_rfl) (by kernel_rfl) (by kernel_rfl) (fun _ _ _ h => h) (Or.inl ⟨by kernel_rfl, ?_⟩) hHeld ?_
              · intro w' hSw; go_simp
              try simp only [Act.put, List.setIfInBounds_toArray, List.set_cons_zero, List.set_cons_succ, List.getElem_toArray, List.getElem_cons_succ, List.getElem_cons_zero]
              refine wpAnyH_take (i := 7) (v := .agg #[.int .i64 p0, .int .i64 p1, .int .i64 p2]) rfl (by kernel_rfl) (by kernel_rfl) (by kernel_rfl) (fun _ _ _ h => h) (Or.inl ⟨by kernel_rfl, ?_⟩) hHeld ?_
              · intro w' hSw; obtain ⟨hc, hf⟩ := bcell hSw; go_simp
              try simp only [Act.put, List.setIfInBounds_toArray, List.set_cons_zero, List.set_cons_succ, List.getElem_toArray, List.getElem_cons_succ, List.getElem_cons_zero]
              refine wpAnyH_take (i := 8) (v := .bool false) rfl (by kernel_rfl) (by kernel_rfl) (by kernel_rfl) (fun _ _ _ h => h) (Or.inl ⟨by kernel_rfl, ?_⟩) hHeld ?_
              · intro w' hSw; go_simp
              try simp only [Act.put, List.setIfInBounds_toArray, List.set_cons_zero, List.set_cons_succ, List.getElem_toArray, List.getElem_cons_succ, List.getElem_cons_zero]
              refine wpAnyH_done (by kernel_rfl) ?_ _
              clear hHeld
              go_wp2
              exact ⟨⟨i + 1, by omega, by go_num, TA, TB, bW⟩, by simp [intOf]; omega⟩
            · have hlt' : ¬ (i : Int) < nb := by omega
              go_wp2
              go_ret
              exact ⟨rfl, bW⟩
      · replace hk := hk rfl
        obtain ⟨hW, hH, -⟩ := netOk_of_true hk.1
        go_wp2_with fail
        clear hV4 c0 c1 c2 c3 lq
        refine (copyNet_any W H D.o1 D.o2 h1 h2).mono ?_
        rintro e w4 ⟨k1, k2, k3, k4, rfl, T4, b9⟩
        replace D := D.below b9
        replace bW := bW.trans (b9.mono bW.size)
        clear b9
        go_wp2_with fail
        refine (slip_im T4 h1 h2 hk).mono ?_
        rintro e w6 ⟨zb1, zd1, zb2, zd2, rfl, S1, S2, b9⟩
        obtain ⟨V7, hV7, am, b7, -⟩ := boxed w6 32 #[.int .i64 W, .int .i64 H, .slice zb1 n1 zd1, .slice zb2 n2 zd2]
        replace S1 := (S1.below b7).wide bW.size
        replace S2 := (S2.below b7).wide bW.size
        have M : Bx w6.heap.size w.heap.size W H (.slice zb1 n1 zd1) (.slice zb2 n2 zd2) n1 (slF W x y by0 f1 (H - 1 - y).toNat) n2 f2 V7 := ⟨am, S1, S2⟩
        obtain ⟨m, hm9⟩ : ∃ m, w6.heap.size = m := ⟨_, rfl⟩
        rw [hm9] at M
        replace b9 := b9.trans (b7.mono b9.size)
        replace D := D.below b9
        replace bW := bW.trans (b9.mono bW.size)
        clear b9 b7 am S1 S2 T4
        go_wp2_with fail
        clear hV7 hm9
        go_loopw [13] (fun t wr => ∃ Y : Nat, (Y : Int) ≤ H - 1 ∧ t = .int .i64 (Y : Int) ∧ Bx q w.heap.size W H (.slice za1 n1 zc1) (.slice za2 n2 zc2) n1 f1 n2 f2 wr ∧ Bx m w.heap.size W H (.slice zb1 n1 zd1) (.slice zb2 n2 zd2) n1 (slF W x y by0 f1 (H - 1 - y).toNat) n2 f2 wr ∧ Below w.heap.size w wr) (fun t _ => (H - intOf t).toNat)
        case atStart => exact ⟨0, by omega, rfl, D, M, bW⟩
        case round =>
          clear D M bW
          obtain ⟨Y, hY, rfl, D, M, bW⟩ := hrel
          have lq := D.aq.lt
          obtain ⟨c0, c1, c2, c3, -⟩ := D.aq.open4
          by_cases hltY : (Y : Int) < H - 1
          · go_wp2_with fail
            clear c0 c1 c2 c3 lq
            go_loopw [14] (fun t wr => ∃ X : Nat, (X : Int) ≤ W - 1 ∧ t = .int .i64 (X : Int) ∧ Bx q w.heap.size W H (.slice za1 n1 zc1) (.slice za2 n2 zc2) n1 f1 n2 f2 wr ∧ Bx m w.heap.size W H (.slice zb1 n1 zd1) (.slice zb2 n2 zd2) n1 (slF W x y by0 f1 (H - 1 - y).toNat) n2 f2 wr ∧ Below w.heap.size w wr) (fun t _ => (W - intOf t).toNat)
            case atStart => exact ⟨0, by omega, rfl, D, M, bW⟩
            case round =>
              clear D M bW
              obtain ⟨X, hX, rfl, D, M, bW⟩ := hrel
              have lq := D.aq.lt
              obtain ⟨c0, c1, c2, c3, -⟩ := D.aq.open4
              by_cases hltX : (X : Int) < W - 1
              · have hsq : sq W H X Y = true := by simp only [sq, Bool.and_eq_true, decide_eq_true_eq]; omega
                have hbu := slip_bu (b := by0) (r := f1) (u := f2) hk.2.1 hsq
                have hbb := buT_in hk.1 hsq
                have hby := hk.2.2.1
                go_wp2_with fail
                clear c0 c1 c2 c3 lq
                refine (specBurgers_yes W H X Y D.o1.src D.o2.src h1 h2 hk.1 hsq).mono ?_
                rintro e w8 ⟨rfl, b9⟩
                replace D := D.below b9
                replace M := M.below b9
                replace bW := bW.trans (b9.mono bW.size)
                clear b9
                have lm := M.aq.lt
                obtain ⟨d0, d1, d2, d3, -⟩ := M.aq.open4
                go_wp2_with fail
                clear d0 d1 d2 d3 lm
                refine (implBurgers_yes W H X Y M.o1.src M.o2.src h1 h2 hk.2.2.2 hsq).mono ?_
                rintro e w9 ⟨rfl, b9⟩
                replace D := D.below b9
                replace M := M.below b9
                replace bW := bW.trans (b9.mono bW.size)
                clear b9
                rw [hbu]
                obtain ⟨A, hA⟩ : ∃ A, buT W f1 f2 X Y = A := ⟨_, rfl⟩
                rw [hA] at hbb ⊢
                clear hbu hA
                by_cases hx : (X : Int) = x
                · have hx' : ((X : Int) == x) = true := by simp [hx]
                  by_cases hy : (Y : Int) = y
                  · have hy' : ((Y : Int) == y) = true := by simp [hy]
                    rw [if_pos ⟨hx, hy⟩]
                    have hne : (A - by0 != A - by0) = false := bne_self_eq_false _
                    clear hx hy
                    go_wp2
                    exact ⟨⟨X + 1, by omega, by go_num, D, M, bW⟩, by simp [intOf]; omega⟩
                  · have hy' : ((Y : Int) == y) = false := by simp [hy]
                    rw [if_neg (fun h => hy h.2), Int.sub_zero]
                    have hne : (A != A) = false := bne_self_eq_false _
                    clear hx hy
                    go_wp2
                    exact ⟨⟨X + 1, by omega, by go_num, D, M, bW⟩, by simp [intOf]; omega⟩
                · have hx' : ((X : Int) == x) = false := by simp [hx]
                  rw [if_neg (fun h => hx h.1), Int.sub_zero]
                  have hne : (A != A) = false := bne_self_eq_false _
                  clear hx
                  go_wp2
                  exact ⟨⟨X + 1, by omega, by go_num, D, M, bW⟩, by simp [intOf]; omega⟩
              · go_wp2
                exact ⟨⟨Y + 1, by omega, by go_num, D, M, bW⟩, by simp [intOf]; omega⟩
          · go_wp2_with fail
            clear D M c0 c1 c2 c3 lq hk h1 h2 hn1 hn2
            have hr9 := hr2.below bW
            refine (drawShifted_any hr9).mono ?_
            rintro e w1 ⟨v, vf, lf, F, rfl, ⟨W, H, n1, f1, n2, f2, N, hn1, hn2⟩, RF, hlf, bA⟩
            obtain ⟨v1, v2, rfl, A1, A2, ap⟩ := N
            have R1 := (Rw.of_arr A1 (Nat.le_refl _)).wide bW.size
            have R2 := (Rw.of_arr A2 (Nat.le_refl _)).wide bW.size
            obtain ⟨za1, zc1, hz1⟩ := R1.shape
            obtain ⟨za2, zc2, hz2⟩ := R2.shape
            obtain ⟨af, cf, hz3⟩ := RF.shape
            subst hz1 hz2 hz3
            replace bW := bW.trans (bA.mono bW.size)
            clear bA hr9 A1 A2 ap
            go_wp2_with fail
            obtain ⟨V2, hV2, aq, b2, -⟩ := boxed w1 32 #[.int .i64 W, .int .i64 H, .slice za1 n1 zc1, .slice za2 n2 zc2]
            rw [hV2]
            have D : Bx w1.heap.size w.heap.size W H (.slice za1 n1 zc1) (.slice za2 n2 zc2) n1 f1 n2 f2 V2 := ⟨aq, R1.below b2, R2.below b2⟩
            replace RF := RF.below b2
            obtain ⟨q, hq⟩ : ∃ q, w1.heap.size = q := ⟨_, rfl⟩
            replace bW := bW.trans (b2.mono bW.size)
            rw [hq] at D ⊢
            clear hV2 aq b2 R1 R2 hq
            have h1 : n1 ≤ 1048576 := by omega
            have h2 : n2 ≤ 1048576 := by omega
            refine (shifted_at W H D.o1 D.o2 RF.src (by omega) h1 h2).mono ?_
            rintro e w2 ⟨v, kb, rfl, hk, ⟨W', H', y1, y2, m1, e1, m2, e2, rfl⟩, b2⟩
            obtain ⟨V4, hV4, -, b4, -⟩ := boxed w2 32 #[.int .i64 W', .int .i64 H', .slice y1 m1 e1, .slice y2 m2 e2]
            replace b2 := b2.trans (b4.mono b2.size)
            replace D := D.below b2
            replace RF := RF.below b2
            replace bW := bW.trans (b2.mono bW.size)
            clear b2 b4
            have lq := D.aq.lt
            obtain ⟨c0, c1, c2, c3, -⟩ := D.aq.open4
            rcases kb with _ | _
            · go_wp2
              go_ret
              exact ⟨rfl, bW⟩
            · replace hk := hk rfl
              obtain ⟨hW, hH, -⟩ := netOk_of_true hk.1
              go_wp2_with fail
              clear hV4 c0 c1 c2 c3 lq
              refine (copyNet_any W H D.o1 D.o2 h1 h2).mono ?_
              rintro e w4 ⟨k1, k2, k3, k4, rfl, T4, b9⟩
              replace D := D.below b9
              replace RF := RF.below b9
              replace bW := bW.trans (b9.mono bW.size)
              clear b9
              go_wp2_with fail
              refine (intsR_any RF (by omega)).mono ?_
              rintro e w5 ⟨gi, ci, rfl, -, -, MF, b9⟩
              replace D := D.below b9
              replace T4 := T4.below b9
              replace bW := bW.trans (b9.mono bW.size)
              clear b9 RF
              go_wp2_with fail
              refine (shift_im T4 (.inr ⟨gi, 0, rfl, MF.lt, MF.ints⟩) (by omega) h1 h2 hk).mono ?_
              rintro e w6 ⟨zb1, zd1, zb2, zd2, rfl, S1, S2, b9⟩
              obtain ⟨V7, hV7, am, b7, -⟩ := boxed w6 32 #[.int .i64 W, .int .i64 H, .slice zb1 n1 zd1, .slice zb2 n2 zd2]
              replace S1 := (S1.below b7).wide bW.size
              replace S2 := (S2.below b7).wide bW.size
              have M : Bx w6.heap.size w.heap.size W H (.slice zb1 n1 zd1) (.slice zb2 n2 zd2) n1 (allR W F f1 H.toNat) n2 (allU W H F f2 H.toNat) V7 := ⟨am, S1, S2⟩
              obtain ⟨m, hm9⟩ : ∃ m, w6.heap.size = m := ⟨_, rfl⟩
              rw [hm9] at M
              replace b9 := b9.trans (b7.mono b9.size)
              replace D := D.below b9
              replace bW := bW.trans (b9.mono bW.size)
              clear b9 b7 am S1 S2 T4 MF
              have lq := D.aq.lt
              obtain ⟨c0, c1, c2, c3, -⟩ := D.aq.open4
              go_wp2_with fail
              clear c0 c1 c2 c3 lq hV7 hm9
              refine (specCores_yes W H D.o1.src D.o2.src h1 h2 hk.1).mono ?_
              rintro e w8 ⟨v8, rfl, C8, b9⟩
              replace D := D.below b9
              replace M := M.below b9
              replace bW := bW.trans (b9.mono bW.size)
              clear b9
              obtain ⟨ga, na, ca, rfl, hLa, TA⟩ := coreT_c C8
              clear C8
              have lm := M.aq.lt
              obtain ⟨d0, d1, d2, d3, -⟩ := M.aq.open4
              go_wp2_with fail
              clear d0 d1 d2 d3 lm
              refine (implCores_yes W H M.o1.src M.o2.src h1 h2 hk.2.2).mono ?_
              rintro e w9 ⟨v9, rfl, C9, b9⟩
              replace D := D.below b9
              replace M := M.below b9
              replace TA := TA.below b9
              replace bW := bW.trans (b9.mono bW.size)
              clear b9
              obtain ⟨gb, nb, cb, rfl, hLb, TB⟩ := coreT_c C9
              clear C9
              rw [shift_coA hW.1 _ (by omega)] at hLb TB
              obtain ⟨L, hLL⟩ : ∃ L, coA W f1 f2 (H - 1).toNat = L := ⟨_, rfl⟩
              have hna : na ≤ 2000 := by
                obtain ⟨m, e1, e2⟩ := coA_len W hW.2 f1 f2 (H - 1).toNat
                omega
              rw [hLL] at hLa hLb TA TB
              have hnn : nb = na := by omega
              subst hnn
              have t1 : ((nb : Int) != (nb : Int)) = false := bne_self_eq_false _
              have t2 : (W != W) = false := bne_self_eq_false _
              have t3 : (H != H) = false := bne_self_eq_false _
              have lq := D.aq.lt
              obtain ⟨c0, c1, c2, c3, -⟩ := D.aq.open4
              have lm := M.aq.lt
              obtain ⟨d0, d1, d2, d3, -⟩ := M.aq.open4
              go_wp2_with fail
              clear c0 c1 c2 c3 lq d0 d1 d2 d3 lm t1 t2 t3 D M
              go_loopw [27] (fun t wr => ∃ i : Nat, i ≤ nb ∧ t = .int .i64 (i : Int) ∧ TriC wr ga nb L ∧ TriC wr gb nb L ∧ Below w.heap.size w wr) (fun t _ => (nb - intOf t).toNat)
              case atStart => exact ⟨0, by omega, rfl, TA, TB, bW⟩
              case round =>
                clear TA TB bW
                obtain ⟨i, hi, rfl, TA, TB, bW⟩ := hrel
                by_cases hlt : i < nb
                · have hlt' : (i : Int) < nb := by omega
                  have z0 := TA.2 (i * 3) (by omega)
                  have z1 := TA.2 (i * 3 + 1) (by omega)
                  have z2 := TA.2 (i * 3 + 2) (by omega)
                  have z3 := TB.2 (i * 3) (by omega)
                  have z4 := TB.2 (i * 3 + 1) (by omega)
                  have z5 := TB.2 (i * 3 + 2) (by omega)
                  have la := TA.1
                  have lb := TB.1
                  obtain ⟨p0, hp0⟩ : ∃ p, L.getD (i * 3) 0 = p := ⟨_, rfl⟩
                  obtain ⟨p1, hp1⟩ : ∃ p, L.getD (i * 3 + 1) 0 = p := ⟨_, rfl⟩
                  obtain ⟨p2, hp2⟩ : ∃ p, L.getD (i * 3 + 2) 0 = p := ⟨_, rfl⟩
                  rw [hp0] at z0 z3
                  rw [hp1] at z1 z4
                  rw [hp2] at z2 z5
                  clear hp0 hp1 hp2
                  go_wp2_with fail
                  obtain ⟨u0, hu0, bb⟩ : ∃ u0, wr.drew = u0 ∧ Below wr.heap.size wr u0 := ⟨_, rfl, (Below.refl _ _).drew⟩
                  replace TA := TA.below bb
                  replace TB := TB.below bb
                  replace bW := bW.trans (bb.mono bW.size)
                  have F : Kb wr u0 := bb
                  clear bb
                  refine wp_region_held_drew (S := Kb wr) (by kernel_rfl) (by rw [hu0]; exact F) (fun hHeld => ?_)
                  rw [hu0] at hHeld ⊢
                  clear hu0
                  change wpAnyH _ _ _ _ _ 9 #[false, false, false, false, false, false, false, false, false] _ _
                  refine wpAnyH_take (i := 0) (v := .slice (some ⟨ga, 0, none⟩) nb ca) rfl (by kernel_rfl) (by kernel_rfl) (by kernel_rfl) (fun _ _ _ h => h) (Or.inl ⟨by kernel_rfl, ?_⟩) hHeld ?_
                  · intro w' hSw; go_simp
                  try simp only [Act.put, List.setIfInBounds_toArray, List.set_cons_zero, List.set_cons_succ, List.getElem_toArray, List.getElem_cons_zero]
                  refine wpAnyH_take (i := 1) (v := .int .i64 (i : Int)) rfl (by kernel_rfl) (by kernel_rfl) (by kernel_rfl) (fun _ _ _ h => h) (Or.inl ⟨by kernel_rfl, ?_⟩) hHeld ?_
                  · intro w' hSw; go_simp
                  try simp only [Act.put, List.setIfInBounds_toArray, List.set_cons_zero, List.set_cons_succ, List.getElem_toArray, List.getElem_cons_succ, List.getElem_cons_zero]
                  refine wpAnyH_take (i := 2) (v := .pointer (some ⟨ga, i * 3, none⟩)) rfl (by kernel_rfl) (by kernel_rfl) (by kernel_rfl) (fun _ _ _ h => h) (Or.inl ⟨by kernel_rfl, ?_⟩) hHeld ?_
                  · intro w' hSw; go_simp
                  try simp only [Act.put, List.setIfInBounds_toArray, List.set_cons_zero, List.set_cons_succ, List.getElem_toArray, List.getElem_cons_succ, List.getElem_cons_zero]
                  refine wpAnyH_take (i := 3) (v := .agg #[.int .i64 p0, .int .i64 p1, .int .i64 p2]) rfl (by kernel_rfl) (by kernel_rfl) (by kernel_rfl) (fun _ _ _ h => h) (Or.inl ⟨by kernel_rfl, ?_⟩) hHeld ?_
                  · intro w' hSw; obtain ⟨hc, hf⟩ := bcell hSw; go_simp
                  try simp only [Act.put, List.setIfInBounds_toArray, List.set_cons_zero, List.set_cons_succ, List.getElem_toArray, List.getElem_cons_succ, List.getElem_cons_zero]
                  refine wpAnyH_take (i := 4) (v := .slice (some ⟨gb, 0, none⟩) nb cb) rfl (by kernel_rfl) (by kernel_rfl) (by kernel_rfl) (fun _ _ _ h => h) (Or.inl ⟨by kernel_rfl, ?_⟩) hHeld ?_
                  · intro w' hSw; go_simp
                  try simp only [Act.put, List.setIfInBounds_toArray, List.set_cons_zero, List.set_cons_succ, List.getElem_toArray, List.getElem_cons_succ, List.getElem_cons_zero]
                  refine wpAnyH_take (i := 5) (v := .int .i64 (i : Int)) rfl (by kernel_rfl) (by kernel_rfl) (by kernel_rfl) (fun _ _ _ h => h) (Or.inl ⟨by kernel_rfl, ?_⟩) hHeld ?_
                  · intro w' hSw; go_simp
                  try simp only [Act.put, List.setIfInBounds_toArray, List.set_cons_zero, List.set_cons_succ, List.getElem_toArray, List.getElem_cons_succ, List.getElem_cons_zero]
                  refine wpAnyH_take (i := 6) (v := .pointer (some ⟨gb, i * 3, none⟩)) rfl (by kernel_rfl) (by kernel_rfl) (by kernel_rfl) (fun _ _ _ h => h) (Or.inl ⟨by kernel_rfl, ?_⟩) hHeld ?_
                  · intro w' hSw; go_simp
                  try simp only [Act.put, List.setIfInBounds_toArray, List.set_cons_zero, List.set_cons_succ, List.getElem_toArray, List.getElem_cons_succ, List.getElem_cons_zero]
                  refine wpAnyH_take (i := 7) (v := .agg #[.int .i64 p0, .int .i64 p1, .int .i64 p2]) rfl (by kernel_rfl) (by kernel_rfl) (by kernel_rfl) (fun _ _ _ h => h) (Or.inl ⟨by kernel_rfl, ?_⟩) hHeld ?_
                  · intro w' hSw; obtain ⟨hc, hf⟩ := bcell hSw; go_simp
                  try simp only [Act.put, List.setIfInBounds_toArray, List.set_cons_zero, List.set_cons_succ, List.getElem_toArray, List.getElem_cons_succ, List.getElem_cons_zero]
                  refine wpAnyH_take (i := 8) (v := .bool false) rfl (by kernel_rfl) (by kernel_rfl) (by kernel_rfl) (fun _ _ _ h => h) (Or.inl ⟨by kernel_rfl, ?_⟩) hHeld ?_
                  · intro w' hSw; go_simp
                  try simp only [Act.put, List.setIfInBounds_toArray, List.set_cons_zero, List.set_cons_succ, List.getElem_toArray, List.getElem_cons_succ, List.getElem_cons_zero]
                  refine wpAnyH_done (by kernel_rfl) ?_ _
                  clear hHeld
                  go_wp2
                  exact ⟨⟨i + 1, by omega, by go_num, TA, TB, bW⟩, by simp [intOf]; omega⟩
                · have hlt' : ¬ (i : Int) < nb := by omega
                  go_wp2
                  go_ret
                  exact ⟨rfl, bW⟩
theorem slips_of {w : World} {a a2 : Option Addr} {len cap len2 cap2 : Nat} {zs zs2 : List Int} (h : IsRow .u8 w a len cap zs) (h2 : IsRow .u8 w a2 len2 cap2 zs2) :
    Calls Try.prog 5 #[.slice a len cap, .slice a2 len2 cap2] w fun e w' => e = .returned (.bool true) ∧ Below w.heap.size w w' := slips_walk (row_of h) (row_of h2)
end Go.Proofs.Ytlmgdcoknpakcaa
