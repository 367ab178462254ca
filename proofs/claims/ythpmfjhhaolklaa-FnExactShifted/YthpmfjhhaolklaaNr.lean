/-
  The law on Shifted, walked.
-/
import Derived.Test.YthpmfjhhaolklaaNq
namespace Go.Proofs.Ythpmfjhhaolklaa
open Go.RowKit

theorem toNetS_any {w : World} {a a' : Option Addr} {lr lu cr cu : Nat} {r u : Nat → Int} (W H : Int) (hr : Src w a lr r) (hu : Src w a' lu u) (hlr : lr ≤ 1048576) (hlu : lu ≤ 1048576) :
    Calls Try.prog 11 #[nV W H (.slice a lr cr) (.slice a' lu cu)] w fun e w' => ∃ g1 g2, e = .returned (nV W H (.slice (some ⟨g1, 0, none⟩) lr lr) (.slice (some ⟨g2, 0, none⟩) lu lu)) ∧ Two w.heap.size w' g1 lr lr r g2 lu lu u ∧ Below w.heap.size w w' := by
  obtain ⟨W1, hW1, a1, bW1, -⟩ := boxed w 24 #[.int .i64 W, .int .i64 H, .slice a lr cr, .slice a' lu cu]
  obtain ⟨W2, hW2, a2, bW2, -⟩ := boxed W1 27 #[.int .i64 0, .int .i64 0, .slice none 0 0, .slice none 0 0]
  obtain ⟨W3, hW3, a3, bW3, -⟩ := boxed W2 27 #[.int .i64 0, .int .i64 0, .slice none 0 0, .slice none 0 0]
  have s2 := a2.lt
  have s1 := a1.lt
  have s3 := a3.lt
  replace a1 := (a1.below bW2).below bW3
  replace a2 := a2.below bW3
  replace bW1 := (bW1.trans (bW2.mono bW1.size)).trans (bW3.mono (by omega))
  obtain ⟨c0, c1, c2, c3, -⟩ := a1.open4
  obtain ⟨d0, d1, d2, d3, e0, e1, e2, e3⟩ := a3.open4
  go_enter Try.func11, Try.ntmps11
  go_wp2_with fail
  obtain ⟨V, hV, v1, v2, v3, bV, sV⟩ : ∃ V, (W3.setCell ⟨W2.heap.size, 0, none⟩ (.int .i64 W)).setCell ⟨W2.heap.size, 1, none⟩ (.int .i64 H) = V ∧ At 24 V w.heap.size #[.int .i64 W, .int .i64 H, .slice a lr cr, .slice a' lu cu] ∧ At 27 V W1.heap.size #[.int .i64 0, .int .i64 0, .slice none 0 0, .slice none 0 0] ∧ At 27 V W2.heap.size #[.int .i64 W, .int .i64 H, .slice none 0 0, .slice none 0 0] ∧ Below w.heap.size w V ∧ W3.heap.size ≤ V.heap.size := by
    refine ⟨_, rfl, (a1.setOther (by omega) _).setOther (by omega) _, (a2.setOther (by omega) _).setOther (by omega) _, by simpa using (a3.set 0 (.int .i64 W)).set 1 (.int .i64 H), (bW1.setCell (show w.heap.size ≤ W2.heap.size by omega) _).setCell (show w.heap.size ≤ W2.heap.size by omega) _, by simp [World.setCell]⟩
  rw [hV]
  clear c0 c1 c2 c3 d0 d1 d2 d3 e0 e1 e2 e3 a1 a2 a3 hV hW1 hW2 hW3 bW2 bW3
  refine (toInts_any (hr.below bV) hlr).mono ?_
  rintro e w1 ⟨g1, rfl, hg1, o1, b1⟩
  replace v1 := v1.below b1
  replace v2 := v2.below b1
  replace v3 := v3.below b1
  replace bV := bV.trans (b1.mono bV.size)
  have s4 := b1.size
  have s5 := o1.lt
  clear b1
  obtain ⟨d0, d1, d2, d3, e0, e1, e2, e3⟩ := v3.open4
  obtain ⟨c0, c1, c2, c3, -⟩ := v1.open4
  go_wp2_with fail
  obtain ⟨W4, hW4, a34, a24, a14, o14, bW4, s6⟩ : ∃ W4, w1.setCell ⟨W2.heap.size, 2, none⟩ (.slice (some ⟨g1, 0, none⟩) lr lr) = W4 ∧ At 27 W4 W2.heap.size #[.int .i64 W, .int .i64 H, .slice (some ⟨g1, 0, none⟩) lr lr, .slice none 0 0] ∧ At 27 W4 W1.heap.size #[.int .i64 0, .int .i64 0, .slice none 0 0, .slice none 0 0] ∧ At 24 W4 w.heap.size #[.int .i64 W, .int .i64 H, .slice a lr cr, .slice a' lu cu] ∧ Own W4 g1 lr r ∧ Below w.heap.size w W4 ∧ w1.heap.size ≤ W4.heap.size := by
    refine ⟨_, rfl, by simpa using v3.set 2 (.slice (some ⟨g1, 0, none⟩) lr lr), v2.setOther (by omega) _, v1.setOther (by omega) _, Made.setOther o1 (by omega) _, bV.setCell (show w.heap.size ≤ W2.heap.size by omega) _, by simp [World.setCell]⟩
  rw [hW4]
  clear c0 c1 c2 c3 d0 d1 d2 d3 e0 e1 e2 e3 v1 v2 v3 hW4 bV o1
  refine (toInts_any (hu.below bW4) hlu).mono ?_
  rintro e w5 ⟨g2, rfl, hg2, o2, b5⟩
  replace a34 := a34.below b5
  replace a24 := a24.below b5
  replace o14 := o14.below b5
  replace bW4 := bW4.trans (b5.mono bW4.size)
  have s7 := b5.size
  have s8 := o2.lt
  clear b5 a14
  obtain ⟨d0, d1, d2, d3, e0, e1, e2, e3⟩ := a34.open4
  obtain ⟨W6, hW6, a36, a26, o16, o26, bW6⟩ : ∃ W6, w5.setCell ⟨W2.heap.size, 3, none⟩ (.slice (some ⟨g2, 0, none⟩) lu lu) = W6 ∧ At 27 W6 W2.heap.size #[.int .i64 W, .int .i64 H, .slice (some ⟨g1, 0, none⟩) lr lr, .slice (some ⟨g2, 0, none⟩) lu lu] ∧ At 27 W6 W1.heap.size #[.int .i64 0, .int .i64 0, .slice none 0 0, .slice none 0 0] ∧ Own W6 g1 lr r ∧ Own W6 g2 lu u ∧ Below w.heap.size w W6 := by
    refine ⟨_, rfl, by simpa using a34.set 3 (.slice (some ⟨g2, 0, none⟩) lu lu), a24.setOther (by omega) _, Made.setOther o14 (by omega) _, Made.setOther o2 (by omega) _, bW4.setCell (show w.heap.size ≤ W2.heap.size by omega) _⟩
  clear d0 d1 d2
  obtain ⟨c0, c1, c2, c3, -⟩ := a36.open4
  obtain ⟨f0, f1, f2, f3, r0, r1, r2, r3⟩ := a26.open4
  go_wp2
  have a7 := put4_at a26 (.int .i64 W) (.int .i64 H) (.slice (some ⟨g1, 0, none⟩) lr lr) (.slice (some ⟨g2, 0, none⟩) lu lu)
  obtain ⟨p0, p1, p2, p3, -⟩ := a7.open4
  refine bodyPost_ret (v := nV W H (.slice (some ⟨g1, 0, none⟩) lr lr) (.slice (some ⟨g2, 0, none⟩) lu lu)) (by simp [results, Try.results11, go_sem, p0, p1, p2, p3]) rfl ?_
  have q1 : Own ((((W6.setCell ⟨W1.heap.size, 0, none⟩ (.int .i64 W)).setCell ⟨W1.heap.size, 1, none⟩ (.int .i64 H)).setCell ⟨W1.heap.size, 2, none⟩ (.slice (some ⟨g1, 0, none⟩) lr lr)).setCell ⟨W1.heap.size, 3, none⟩ (.slice (some ⟨g2, 0, none⟩) lu lu)) g1 lr r := Made.setOther (Made.setOther (Made.setOther (Made.setOther o16 (by omega) _) (by omega) _) (by omega) _) (by omega) _
  have q2 : Own ((((W6.setCell ⟨W1.heap.size, 0, none⟩ (.int .i64 W)).setCell ⟨W1.heap.size, 1, none⟩ (.int .i64 H)).setCell ⟨W1.heap.size, 2, none⟩ (.slice (some ⟨g1, 0, none⟩) lr lr)).setCell ⟨W1.heap.size, 3, none⟩ (.slice (some ⟨g2, 0, none⟩) lu lu)) g2 lu u := Made.setOther (Made.setOther (Made.setOther (Made.setOther o26 (by omega) _) (by omega) _) (by omega) _) (by omega) _
  exact ⟨_, _, rfl, ⟨by omega, by omega, by omega, Nat.le_refl _, Nat.le_refl _, q1, q2⟩, below_put4 bW6 (by omega) _ _ _ _⟩
theorem Two.net {lo : Nat} {w : World} {g1 e1 n : Nat} {f : Nat → Int} {g2 e2 k : Nat} {h : Nat → Int} (t : Two lo w g1 e1 n f g2 e2 k h) (W H : Int) : NetAt w lo w.heap.size (nV W H (.slice (some ⟨g1, 0, none⟩) n e1) (.slice (some ⟨g2, 0, none⟩) k e2)) W H n f k h := by
  refine ⟨_, _, rfl, arr_of_made t.m1 t.c1 t.lo1, arr_of_made t.m2 t.c2 t.lo2, ?_⟩
  intro x e1 e2
  simp only [Value.ownBlock, Option.some.injEq] at e1 e2
  have := t.ne
  omega
theorem bothShifted (W H : Int) (lr lu lf : Nat) (r u F : Nat → Int) (hlr : lr ≤ 1048576) (hlu : lu ≤ 1048576) (hlf : lf ≤ 1048576) : ∃ (k : Bool) (W' H' : Int) (lr' : Nat) (r' : Nat → Int) (lu' : Nat) (u' : Nat → Int), (lr' ≤ 1048576 ∧ lu' ≤ 1048576) ∧ (∀ {w : World} {g1 g2 c1 c2 : Nat} {af : Option Addr} {cf : Nat}, Ints w g1 0 lr r → Ints w g2 0 lu u → g1 < w.heap.size → g2 < w.heap.size → Src w af lf F → Calls Try.prog 22 #[nV W H (.slice (some ⟨g1, 0, none⟩) lr c1) (.slice (some ⟨g2, 0, none⟩) lu c2), .slice af lf cf] w fun e w' => ∃ v, e = .returned (.tuple #[v, .bool k]) ∧ NetAt w' w.heap.size w'.heap.size v W' H' lr' r' lu' u' ∧ Below w.heap.size w w') ∧ (∀ {w : World} {g1 g2 c1 c2 : Nat} {af : Option Addr} {cf : Nat}, Ints w g1 0 lr r → Ints w g2 0 lu u → g1 < w.heap.size → g2 < w.heap.size → Src w af lf F → Calls Try.prog 24 #[nV W H (.slice (some ⟨g1, 0, none⟩) lr c1) (.slice (some ⟨g2, 0, none⟩) lu c2), .slice af lf cf] w fun e w' => ∃ v, e = .returned (.tuple #[v, .bool k]) ∧ NetAt w' w.heap.size w'.heap.size v W' H' lr' r' lu' u' ∧ Below w.heap.size w w') := by
  by_cases h : netOk W H lr r lu u = true ∧ slipsB lf F (W * H) = true
  · obtain ⟨hok, hs⟩ := h
    rcases hK : netOk W H lr (allR W F r H.toNat) lu (allU W H F u H.toNat) with _ | _
    · refine ⟨false, 0, 0, 0, r, 0, u, ⟨by omega, by omega⟩, fun i1 i2 l1 l2 hF => ?_, fun i1 i2 l1 l2 hF => ?_⟩
      all_goals
        first
        | refine (specShifted_yes W H hF hlf i1 i2 l1 l2 hlr hlu hok hs).mono ?_
        | refine (implShifted_yes W H hF hlf i1 i2 l1 l2 hlr hlu hok hs).mono ?_
        rintro e w' ⟨v, k, rfl, ⟨hk, hv⟩, hb⟩
        rw [hK] at hk
        subst hk
        rcases hv with ⟨e, -⟩ | ⟨-, rfl⟩
        · cases e
        · exact ⟨_, rfl, netZero _ _ _ _ _, hb⟩
    · refine ⟨true, W, H, lr, allR W F r H.toNat, lu, allU W H F u H.toNat, ⟨hlr, hlu⟩, fun i1 i2 l1 l2 hF => ?_, fun i1 i2 l1 l2 hF => ?_⟩
      all_goals
        first
        | refine (specShifted_yes W H hF hlf i1 i2 l1 l2 hlr hlu hok hs).mono ?_
        | refine (implShifted_yes W H hF hlf i1 i2 l1 l2 hlr hlu hok hs).mono ?_
        rintro e w' ⟨v, k, rfl, ⟨hk, hv⟩, hb⟩
        rw [hK] at hk
        subst hk
        rcases hv with ⟨-, hn⟩ | ⟨e, -⟩
        · exact ⟨_, rfl, hn, hb⟩
        · cases e
  · refine ⟨false, 0, 0, 0, r, 0, u, ⟨by omega, by omega⟩, fun i1 i2 l1 l2 hF => ?_, fun i1 i2 l1 l2 hF => ?_⟩
    · refine (specShifted_no W H hF hlf (.inr ⟨_, _, rfl, l1, i1⟩) (.inr ⟨_, _, rfl, l2, i2⟩) hlr hlu h).mono ?_
      rintro e w' ⟨rfl, hb⟩
      exact ⟨_, rfl, netZero _ _ _ _ _, hb⟩
    · refine (implShifted_no W H hF hlf (.inr ⟨_, _, rfl, l1, i1⟩) (.inr ⟨_, _, rfl, l2, i2⟩) hlr hlu h).mono ?_
      rintro e w' ⟨rfl, hb⟩
      exact ⟨_, rfl, netZero _ _ _ _ _, hb⟩
/-- A list's marks turn its own block alone. -/
theorem Turn.of_made {w w' : World} {g n c : Nat} {lo hi : Nat} (h : Only (.slice (some ⟨g, 0, none⟩) n c) w w') (h1 : g < hi) (h2 : lo ≤ g) : Turn lo hi w w' :=
  ⟨h.os, h.tape, h.output, h.size, fun k hk hd => h.block k hk (fun e => by simp only [Value.ownBlock, Option.some.injEq] at e; omega)⟩
theorem Own.turn {w w' : World} {lo hi g n : Nat} {f : Nat → Int} (h : Own w g n f) (ht : Turn lo hi w w') (hd : g < lo ∨ hi ≤ g) : Own w' g n f := by
  obtain ⟨cur, h1, h2⟩ := h
  exact ⟨cur, h1.turn ht hd, h2⟩
set_option maxRecDepth 100000 in
set_option maxHeartbeats 3200000 in
theorem exactShifted_walk {w : World} {a a' af : Option Addr} {lr lu lf cr cu cf : Nat} {r u F : Nat → Int} (W H : Int) (hr : Src w a lr r) (hu : Src w a' lu u) (hF : Src w af lf F) (hlr : lr ≤ maxLen) (hlu : lu ≤ maxLen) (hlf : lf ≤ maxLen) :
    Calls Try.prog 7 #[nV W H (.slice a lr cr) (.slice a' lu cu), .slice af lf cf] w fun e w' => e = .returned (.bool true) ∧ Below w.heap.size w w' := by
  obtain ⟨V, hV, b0, bW, -⟩ := boxed w 24 #[.int .i64 W, .int .i64 H, .slice a lr cr, .slice a' lu cu]
  have hlf' : lf ≤ maxLen := hlf
  unfold maxLen at hlf'
  by_cases hF1 : (1048576 : Int) < lf
  · go_enter Try.func7, Try.ntmps7
    go_wp2
    go_ret
    exact ⟨rfl, bW⟩
  · have h5 : lf ≤ 1048576 := by omega
    obtain ⟨c0, c1, c2, c3, -⟩ := b0.open4
    go_enter Try.func7, Try.ntmps7
    go_wp2_with fail
    clear hV c0 c1 c2 c3
    refine (szNet_any W H a a' lr lu cr cu V hlr hlu).mono ?_
    rintro e w1 ⟨z, rfl, hz, b1⟩
    replace b0 := b0.below b1
    replace bW := bW.trans (b1.mono bW.size)
    clear b1
    rcases hz with rfl | ⟨hz1, hz⟩
    · go_wp2
      go_ret
      exact ⟨rfl, bW⟩
    · obtain ⟨c0, c1, c2, c3, -⟩ := b0.open4
      have hz' : ¬ z < 0 := by omega
      have h1 : lr ≤ 1048576 := by omega
      have h2 : lu ≤ 1048576 := by omega
      obtain ⟨k, W', H', lr', r', lu', u', ⟨h3, h4⟩, SP, IM⟩ := bothShifted W H lr lu lf r u F h1 h2 h5
      clear hz1
      go_wp2_with fail
      refine (toNetS_any W H (hr.below bW) (hu.below bW) h1 h2).mono ?_
      rintro e w2 ⟨ga, gb, rfl, T0, b⟩
      clear c0 c1 c2 c3
      replace b0 := b0.below b
      replace bW := bW.trans (b.mono bW.size)
      clear b
      go_wp2_with fail
      refine (toInts_any (hF.below bW) h5).mono ?_
      rintro e w2' ⟨gf, rfl, hgf, OF, b⟩
      have I1 := (T0.m1.bel b).ints
      have I2 := (T0.m2.bel b).ints
      have J1 := Nat.lt_of_lt_of_le T0.m1.lt b.size
      have J2 := Nat.lt_of_lt_of_le T0.m2.lt b.size
      replace b0 := b0.below b
      replace bW := bW.trans (b.mono bW.size)
      clear b
      go_wp2_with fail
      refine (SP I1 I2 J1 J2 (.inr ⟨_, _, rfl, OF.lt, OF.row⟩)).mono ?_
      rintro e w3 ⟨v0, rfl, N0, b⟩
      replace b0 := b0.below b
      replace bW := bW.trans (b.mono bW.size)
      clear b
      have s2 : w.heap.size < w3.heap.size := b0.lt
      clear I1 I2 J1 J2 T0 OF hgf
      obtain ⟨x0, x0', rfl, A0, B0, ap0⟩ := N0
      obtain ⟨a0, d0, rfl, -⟩ := A0.src
      obtain ⟨a0', d0', rfl, -⟩ := B0.src
      obtain ⟨V3, hV3, bw, b, -⟩ := boxed w3 27 #[.int .i64 W', .int .i64 H', .slice a0 lr' d0, .slice a0' lu' d0']
      have s3 : w3.heap.size < V3.heap.size := bw.lt
      have N0 : NetAt w3 _ _ _ W' H' lr' r' lu' u' := ⟨_, _, rfl, A0, B0, ap0⟩
      clear A0 B0 ap0
      replace b0 := b0.below b
      replace N0 := N0.below b
      replace bW := bW.trans (b.mono bW.size)
      clear b
      obtain ⟨c0, c1, c2, c3, -⟩ := b0.open4
      go_wp2_with fail
      obtain ⟨qw, hqw⟩ : ∃ q, w3.heap.size = q := ⟨_, rfl⟩
      rw [hqw] at N0 bw s3 s2 ⊢
      clear hV3 hqw
      have bW3 := bW.size
      refine (toNetS_any W H (hr.below bW) (hu.below bW) h1 h2).mono ?_
      rintro e w4 ⟨gx, gy, rfl, TX, b⟩
      clear c0 c1 c2 c3
      have s35 := b.size
      replace b0 := b0.below b
      replace N0 := N0.below b
      replace bw := bw.below b
      replace bW := bW.trans (b.mono bW.size)
      clear b
      obtain ⟨V4, hV4, bx, b, -⟩ := boxed w4 27 #[.int .i64 W, .int .i64 H, .slice (some ⟨gx, 0, none⟩) lr lr, .slice (some ⟨gy, 0, none⟩) lu lu]
      have s4 : w4.heap.size < V4.heap.size := bx.lt
      have NX := TX.net W H
      have kx := TX.m1.lt
      have ky := TX.m2.lt
      have ix := (TX.m1.bel b).ints
      have iy := (TX.m2.bel b).ints
      clear TX
      replace b0 := b0.below b
      replace N0 := N0.below b
      replace bw := bw.below b
      replace NX := NX.below b
      replace bW := bW.trans (b.mono bW.size)
      clear b
      go_wp2_with fail
      refine (toInts_any (hF.below bW) h5).mono ?_
      rintro e w4' ⟨gz, rfl, hgz, OZ, b⟩
      have s45 := b.size
      have lz := OZ.lt
      replace ix := ix.below (by omega) b
      replace iy := iy.below (by omega) b
      replace b0 := b0.below b
      replace N0 := N0.below b
      replace bw := bw.below b
      replace NX := NX.below b
      replace bx := bx.below b
      replace bW := bW.trans (b.mono bW.size)
      clear b
      obtain ⟨c0, c1, c2, c3, -⟩ := bx.open4
      go_wp2_with fail
      refine (IM ix iy (by omega) (by omega) (.inr ⟨_, _, rfl, lz, OZ.row⟩)).mono ?_
      rintro e w5 ⟨v1, rfl, N1, b⟩
      clear c0 c1 c2 c3
      have s5 := b.size
      clear ix iy
      replace b0 := b0.below b
      replace N0 := N0.below b
      replace bw := bw.below b
      replace NX := NX.below b
      replace bx := bx.below b
      replace OZ := OZ.below b
      replace bW := bW.trans (b.mono bW.size)
      clear b
      obtain ⟨x2, x2', rfl, A1, B1, ap1⟩ := N1
      obtain ⟨a1, d1, rfl, -⟩ := A1.src
      obtain ⟨a1', d1', rfl, -⟩ := B1.src
      obtain ⟨V5, hV5, bg, b, -⟩ := boxed w5 27 #[.int .i64 W', .int .i64 H', .slice a1 lr' d1, .slice a1' lu' d1']
      have s6 : w5.heap.size < V5.heap.size := bg.lt
      have N1 : NetAt w5 _ _ _ W' H' lr' r' lu' u' := ⟨_, _, rfl, A1, B1, ap1⟩
      clear A1 B1 ap1
      replace b0 := b0.below b
      replace N0 := N0.below b
      replace bw := bw.below b
      replace NX := NX.below b
      replace bx := bx.below b
      replace OZ := OZ.below b
      replace N1 := N1.below b
      replace bW := bW.trans (b.mono bW.size)
      clear b
      obtain ⟨c0, c1, c2, c3, -⟩ := bw.open4
      obtain ⟨y0, y1, y2, y3, -⟩ := bg.open4
      go_wp2_with fail
      obtain ⟨qx, hqx⟩ : ∃ q, w4.heap.size = q := ⟨_, rfl⟩
      obtain ⟨qg, hqg⟩ : ∃ q, w5.heap.size = q := ⟨_, rfl⟩
      obtain ⟨l4, hl4⟩ : ∃ q, w4'.heap.size = q := ⟨_, rfl⟩
      have hDD : (k != k) = false := bne_self_eq_false k
      rw [hqx] at NX bx s4 s35 kx ky
      rw [hl4] at N1 s5 s45 lz
      rw [hqg] at N1 bg s6 s5
      try rw [hqg] at y0 y1 y2 y3 ⊢
      try rw [hqx]
      clear hV4 hV5
      refine (eqNet_true N1 N0 h3 h4).mono ?_
      rintro e w6 ⟨rfl, b⟩
      clear c0 c1 c2 c3 y0 y1 y2 y3
      replace b0 := b0.below b
      replace N0 := N0.below b
      replace bw := bw.below b
      replace NX := NX.below b
      replace bx := bx.below b
      replace OZ := OZ.below b
      replace N1 := N1.below b
      replace bg := bg.below b
      replace bW := bW.trans (b.mono bW.size)
      clear b
      go_wp2_with fail
      obtain ⟨u0, hu0, bb⟩ : ∃ u0, w6.drew = u0 ∧ Below w6.heap.size w6 u0 := ⟨_, rfl, (Below.refl _ _).drew⟩
      replace b0 := b0.below bb
      replace N0 := N0.below bb
      replace bw := bw.below bb
      replace NX := NX.below bb
      replace bx := bx.below bb
      replace OZ := OZ.below bb
      replace N1 := N1.below bb
      replace bg := bg.below bb
      replace bW := bW.trans (bb.mono bW.size)
      clear bb
      refine wp_region_held_drew (S := Two4 qx w.heap.size W H (.slice (some ⟨gx, 0, none⟩) lr lr) (.slice (some ⟨gy, 0, none⟩) lu lu) (.slice a lr cr) (.slice a' lu cu)) (by kernel_rfl) (by rw [hu0]; exact two4_mk bx b0) (fun hHeld => ?_)
      rw [hu0] at hHeld ⊢
      clear hu0
      change wpAnyH _ _ _ _ _ 5 #[false, false, false, false, false] _ _
      refine wpAnyH_take (i := 0) (v := nV W H (.slice (some ⟨gx, 0, none⟩) lr lr) (.slice (some ⟨gy, 0, none⟩) lu lu)) rfl (by kernel_rfl) (by kernel_rfl) (by kernel_rfl) (fun _ _ _ h => h) (Or.inl ⟨by kernel_rfl, ?_⟩) hHeld ?_
      · intro w' hSw; obtain ⟨⟨z0, z1, z2, z3⟩, z4, z5, z6, z7⟩ := hSw; go_simp
      try simp only [Act.put, List.setIfInBounds_toArray, List.set_cons_zero, List.set_cons_succ, List.getElem_toArray, List.getElem_cons_zero]
      refine wpAnyH_take (i := 1) (v := nV W H (.slice a lr cr) (.slice a' lu cu)) rfl (by kernel_rfl) (by kernel_rfl) (by kernel_rfl) (fun _ _ _ h => h) (Or.inl ⟨by kernel_rfl, ?_⟩) hHeld ?_
      · intro w' hSw; obtain ⟨⟨z0, z1, z2, z3⟩, z4, z5, z6, z7⟩ := hSw; go_simp
      try simp only [Act.put, List.setIfInBounds_toArray, List.set_cons_zero, List.set_cons_succ, List.getElem_toArray, List.getElem_cons_succ, List.getElem_cons_zero]
      refine wpAnyH_ready (rs := [2]) (by kernel_rfl) (by simp) ?_
      refine AllReadyH.cons rfl (fun KK hK' => ?_) AllReadyH.nil
      go_simp
      refine (toNetS_any W H (hr.below bW) (hu.below bW) h1 h2).mono ?_
      rintro e w7 ⟨g7, g8, rfl, T7, bb⟩
      have M7 := T7.net W H
      clear T7
      replace b0 := b0.below bb
      replace N0 := N0.below bb
      replace bw := bw.below bb
      replace NX := NX.below bb
      replace bx := bx.below bb
      replace OZ := OZ.below bb
      replace N1 := N1.below bb
      replace bg := bg.below bb
      replace bW := bW.trans (bb.mono bW.size)
      clear bb
      try go_wp2_with fail
      clear hHeld
      refine hK'.out _ _ (two4_mk bx b0) (fun hHeld => ?_)
      clear hK' KK
      try simp only [List.setIfInBounds_toArray, List.set_cons_zero, List.set_cons_succ]
      refine wpAnyH_ready (rs := [3]) (by kernel_rfl) (by simp) ?_
      refine AllReadyH.cons rfl (fun KK hK' => ?_) AllReadyH.nil
      go_simp
      refine (eqNet_true NX M7 h1 h2).mono ?_
      rintro e w8 ⟨rfl, bb⟩
      replace b0 := b0.below bb
      replace N0 := N0.below bb
      replace bw := bw.below bb
      replace NX := NX.below bb
      replace bx := bx.below bb
      replace OZ := OZ.below bb
      replace N1 := N1.below bb
      replace bg := bg.below bb
      replace bW := bW.trans (bb.mono bW.size)
      clear bb
      clear M7
      try go_wp2_with fail
      clear hHeld
      refine hK'.out _ _ (two4_mk bx b0) (fun hHeld => ?_)
      clear hK' KK
      try simp only [List.setIfInBounds_toArray, List.set_cons_zero, List.set_cons_succ]
      refine wpAnyH_take (i := 4) (v := .bool false) rfl (by kernel_rfl) (by kernel_rfl) (by kernel_rfl) (fun _ _ _ h => h) (Or.inl ⟨by kernel_rfl, ?_⟩) hHeld ?_
      · intro w' hSw; go_simp
      try simp only [Act.put, List.setIfInBounds_toArray, List.set_cons_zero, List.set_cons_succ, List.getElem_toArray, List.getElem_cons_succ, List.getElem_cons_zero]
      refine wpAnyH_done (by kernel_rfl) ?_ _
      clear hHeld
      go_wp2_with fail
      refine (toInts_any (hF.below bW) h5).mono ?_
      rintro e w8' ⟨g9, rfl, hg9, O9, b⟩
      replace b0 := b0.below b
      replace N0 := N0.below b
      replace bw := bw.below b
      replace NX := NX.below b
      replace bx := bx.below b
      replace OZ := OZ.below b
      replace N1 := N1.below b
      replace bg := bg.below b
      replace bW := bW.trans (b.mono bW.size)
      clear b
      go_wp2_with fail
      refine (eqInts_true OZ.row O9.row (OZ.lt) (O9.lt) h5).mono ?_
      rintro e w8'' ⟨rfl, b⟩
      replace b0 := b0.below b
      replace N0 := N0.below b
      replace bw := bw.below b
      replace NX := NX.below b
      replace bx := bx.below b
      replace OZ := OZ.below b
      replace N1 := N1.below b
      replace bg := bg.below b
      replace bW := bW.trans (b.mono bW.size)
      clear b
      clear O9 hg9
      obtain ⟨c0, c1, c2, c3, -⟩ := bx.open4
      go_wp2_with fail
      refine (markNet_any NX h1 h2 1 (by omega)).mono ?_
      rintro e w9 ⟨rfl, -, t9⟩
      clear c0 c1 c2 c3
      obtain ⟨K9, hK9⟩ : ∃ K : Nat, 1 + lr + lu = K := ⟨_, rfl⟩
      have hK9' : K9 ≤ 3000000 := by omega
      rw [hK9]
      replace b0 := b0.turn t9 (.inl (by have := bW3; omega))
      replace N0 := N0.turn t9 (.inl (by omega))
      replace bw := bw.turn t9 (.inl (by omega))
      replace bx := bx.turn t9 (.inr (by omega))
      replace OZ := OZ.turn t9 (.inr (by omega))
      replace N1 := N1.turn t9 (.inr (by omega))
      replace bg := bg.turn t9 (.inr (by omega))
      replace bW := t9.below bW (by omega) bW.size
      clear NX t9
      go_wp2_with fail
      have AZ := arr_of_made OZ (Nat.le_refl _) hgz
      refine (markArr_any AZ h5 K9 (by omega)).mono ?_
      rintro e w9' ⟨rfl, -, t9⟩
      obtain ⟨K8, hK8⟩ : ∃ K : Int, ((K9 + lf : Nat) : Int) = K := ⟨_, rfl⟩
      have hK8' : ¬ K8 < 0 := by omega
      rw [hK8]
      have t8 := Turn.of_made t9 lz hgz
      replace b0 := b0.turn t8 (.inl (by have := bW3; omega))
      replace N0 := N0.turn t8 (.inl (by omega))
      replace bw := bw.turn t8 (.inl (by omega))
      replace bx := bx.turn t8 (.inl (by omega))
      replace N1 := N1.turn t8 (.inr (by omega))
      replace bg := bg.turn t8 (.inr (by omega))
      replace bW := t8.below bW (by omega) bW.size
      clear OZ AZ t9 t8
      obtain ⟨c0, c1, c2, c3, -⟩ := bw.open4
      obtain ⟨y0, y1, y2, y3, -⟩ := bg.open4
      go_wp2_with fail
      refine (eqNet_true N1 N0 h3 h4).mono ?_
      rintro e w10 ⟨rfl, b⟩
      clear c0 c1 c2 c3 y0 y1 y2 y3
      replace b0 := b0.below b
      replace N0 := N0.below b
      replace bw := bw.below b
      replace bx := bx.below b
      replace N1 := N1.below b
      replace bg := bg.below b
      replace bW := bW.trans (b.mono bW.size)
      clear b
      obtain ⟨y0, y1, y2, y3, -⟩ := bg.open4
      go_wp2_with fail
      refine (markNet_any N1 h3 h4 1 (by omega)).mono ?_
      rintro e w11 ⟨rfl, N1', t11⟩
      clear y0 y1 y2 y3
      replace b0 := b0.turn t11 (.inl (by have := bW3; omega))
      replace N0 := N0.turn t11 (.inl (by omega))
      replace bw := bw.turn t11 (.inl (by omega))
      replace bx := bx.turn t11 (.inl (by omega))
      replace bg := bg.turn t11 (.inr (by omega))
      replace bW := t11.below bW (by omega) bW.size
      clear N1 t11
      obtain ⟨Kq, hKq⟩ : ∃ K : Int, ((1 + lr' + lu' : Nat) : Int) = K := ⟨_, rfl⟩
      have hK0 : ¬ Kq < 0 := by omega
      have hK1 : (Kq != Kq) = false := by simp
      rw [hKq]
      obtain ⟨y0, y1, y2, y3, -⟩ := bg.open4
      go_wp2_with fail
      refine (heldNet_any 1 N1' h3 h4 (by omega)).mono ?_
      rintro e w12 ⟨rfl, b⟩
      rw [hKq]
      clear y0 y1 y2 y3
      replace b0 := b0.below b
      replace N0 := N0.below b
      replace bw := bw.below b
      replace bx := bx.below b
      replace bg := bg.below b
      replace N1' := N1'.below b
      replace bW := bW.trans (b.mono bW.size)
      clear b
      obtain ⟨c0, c1, c2, c3, -⟩ := b0.open4
      go_wp2_with fail
      refine (toNetS_any W H (hr.below bW) (hu.below bW) h1 h2).mono ?_
      rintro e w13 ⟨gk, gl, rfl, T3, b⟩
      clear c0 c1 c2 c3
      replace b0 := b0.below b
      replace N0 := N0.below b
      replace bw := bw.below b
      replace bx := bx.below b
      replace bg := bg.below b
      replace N1' := N1'.below b
      replace bW := bW.trans (b.mono bW.size)
      clear b
      go_wp2_with fail
      refine (toInts_any (hF.below bW) h5).mono ?_
      rintro e w13' ⟨gm, rfl, hgm, OM, b⟩
      have I1 := (T3.m1.bel b).ints
      have I2 := (T3.m2.bel b).ints
      have J1 := Nat.lt_of_lt_of_le T3.m1.lt b.size
      have J2 := Nat.lt_of_lt_of_le T3.m2.lt b.size
      replace b0 := b0.below b
      replace N0 := N0.below b
      replace bw := bw.below b
      replace bx := bx.below b
      replace bg := bg.below b
      replace N1' := N1'.below b
      replace bW := bW.trans (b.mono bW.size)
      clear b
      go_wp2_with fail
      refine (IM I1 I2 J1 J2 (.inr ⟨_, _, rfl, OM.lt, OM.row⟩)).mono ?_
      rintro e w14 ⟨v2, rfl, N2, b⟩
      replace b0 := b0.below b
      replace N0 := N0.below b
      replace bw := bw.below b
      replace bx := bx.below b
      replace bg := bg.below b
      replace N1' := N1'.below b
      replace bW := bW.trans (b.mono bW.size)
      clear b
      obtain ⟨x3, x3', rfl, A2, B2, ap2⟩ := N2
      obtain ⟨a2, d2, rfl, -⟩ := A2.src
      obtain ⟨a2', d2', rfl, -⟩ := B2.src
      clear T3 OM I1 I2 J1 J2 hgm
      obtain ⟨V14, hV14, bh, b, -⟩ := boxed w14 27 #[.int .i64 W', .int .i64 H', .slice a2 lr' d2, .slice a2' lu' d2']
      have N2 : NetAt w14 _ _ _ W' H' lr' r' lu' u' := ⟨_, _, rfl, A2, B2, ap2⟩
      clear A2 B2 ap2
      replace b0 := b0.below b
      replace N0 := N0.below b
      replace bw := bw.below b
      replace bx := bx.below b
      replace bg := bg.below b
      replace N1' := N1'.below b
      replace N2 := N2.below b
      replace bW := bW.trans (b.mono bW.size)
      clear b
      obtain ⟨c0, c1, c2, c3, -⟩ := bw.open4
      obtain ⟨y0, y1, y2, y3, -⟩ := bh.open4
      go_wp2_with fail
      refine (eqNet_true N2 N0 h3 h4).mono ?_
      rintro e w15 ⟨rfl, b⟩
      clear c0 c1 c2 c3 y0 y1 y2 y3
      clear hV14
      replace b0 := b0.below b
      replace N0 := N0.below b
      replace bw := bw.below b
      replace bx := bx.below b
      replace bg := bg.below b
      replace N1' := N1'.below b
      replace N2 := N2.below b
      replace bh := bh.below b
      replace bW := bW.trans (b.mono bW.size)
      clear b
      obtain ⟨y0, y1, y2, y3, -⟩ := bg.open4
      go_wp2_with fail
      refine (heldNet_any 1 N1' h3 h4 (by omega)).mono ?_
      rintro e w16 ⟨rfl, b⟩
      rw [hKq]
      replace bW := bW.trans (b.mono bW.size)
      go_wp2
      go_ret
      exact ⟨rfl, bW⟩
theorem exactShifted_of {w : World} {a a' af : Option Addr} {lr cr lu cu lf cf : Nat} {zs zs' zf : List Int} (W H : Int) (h1 : IsRow .i64 w a lr cr zs) (h2 : IsRow .i64 w a' lu cu zs') (h3 : IsRow .i64 w af lf cf zf) :
    Calls Try.prog 7 #[nV W H (.slice a lr cr) (.slice a' lu cu), .slice af lf cf] w fun e w' => e = .returned (.bool true) ∧ Below w.heap.size w w' := by
  obtain ⟨f, hs, hl, -⟩ := src_of h1
  obtain ⟨f', hs', hl', -⟩ := src_of h2
  obtain ⟨f'', hs'', hl'', -⟩ := src_of h3
  exact exactShifted_walk W H hs hs' hs'' hl hl' hl''
end Go.Proofs.Ythpmfjhhaolklaa
