/-
  Nets are drawn: walked.
-/
import Derived.Test.YtlmgdcoknpakcaaDb
namespace Go.Proofs.Ytlmgdcoknpakcaa
open Go.RowKit

/-- A drawn net: some net of one's own. -/
def NetD (w : World) (lo : Nat) (v : Value) : Prop := ∃ (W H : Int) (lr : Nat) (r : Nat → Int) (lu : Nat) (u : Nat → Int), NetAt w lo w.heap.size v W H lr r lu u ∧ lr ≤ 30 ∧ lu ≤ 30
theorem net_ne {w : World} {lo hi s : Nat} {W' H' : Int} {y1 y2 : Value} {m1 m2 : Nat} {h1 h2 : Nat → Int} (N : NetAt w lo hi (nV W' H' y1 y2) W' H' m1 h1 m2 h2) (hs : s < lo) : y1.ownBlock ≠ some s ∧ y2.ownBlock ≠ some s := by
  obtain ⟨z1, z2, e, A1, A2, -⟩ := N
  simp at e
  obtain ⟨rfl, rfl⟩ := e
  exact ⟨fun e => by have := (A1.lt e).1; omega, fun e => by have := (A2.lt e).1; omega⟩
set_option maxRecDepth 100000 in
set_option maxHeartbeats 3200000 in
theorem drawNet_any {w0 w : World} {p : Nat} {a : Option Addr} {len cap : Nat} (hc : Dr w0 p a len cap w) :
    Calls Try.prog 80 #[.pointer (some ⟨p, 0, none⟩)] w fun e w' => ∃ v, e = .returned v ∧ NetD w' w.heap.size v ∧ Dr w0 p a len cap w' := by
  obtain ⟨V, hV, a0, bV, -⟩ := boxed w 32 #[.int .i64 0, .int .i64 0, .slice none 0 0, .slice none 0 0]
  have hp : p < w.heap.size := hc.2.lt
  have hs := hc.1.size
  replace hc := hc.below bV
  go_enter Try.func80, Try.ntmps80
  go_wp2_with fail
  refine (below_dr (Dr.start hc.2) 5 (by decide) (by decide)).mono ?_
  rintro e w1 ⟨x, rfl, x0, x1, k1⟩
  replace a0 := a0.kept k1.1 (by omega)
  replace hc := k1.from hc.1
  clear k1
  go_wp2_with fail
  refine (below_dr (Dr.start hc.2) 5 (by decide) (by decide)).mono ?_
  rintro e w2 ⟨y, rfl, y0, y1, k2⟩
  replace a0 := a0.kept k2.1 (by omega)
  replace hc := k2.from hc.1
  clear k2
  go_wp2_with fail
  obtain ⟨V3, hV3, aq, b3, -⟩ := boxed w2 32 #[.int .i64 (1 + x), .int .i64 (1 + y), .slice none 0 0, .slice none 0 0]
  rw [hV3]
  obtain ⟨W, hW⟩ : ∃ W, 1 + x = W := ⟨_, rfl⟩
  obtain ⟨H, hH⟩ : ∃ H, 1 + y = H := ⟨_, rfl⟩
  obtain ⟨r, hr⟩ : ∃ q, w.heap.size = q := ⟨_, rfl⟩
  obtain ⟨q, hq⟩ : ∃ q, w2.heap.size = q := ⟨_, rfl⟩
  have hW5 : 1 ≤ W ∧ W ≤ 5 := by omega
  have hH5 : 1 ≤ H ∧ H ≤ 5 := by omega
  have lrq := a0.lt
  rw [hW, hH]
  rw [hW, hH, hq] at aq
  rw [hr] at a0 lrq hs hp ⊢
  rw [hq] at lrq
  have D : Dn w0 p a len cap r q #[.int .i64 0, .int .i64 0, .slice none 0 0, .slice none 0 0] W H (.slice none 0 0) (.slice none 0 0) 0 (fun _ => 0) 0 (fun _ => 0) V3 :=
    ⟨hc.below b3, a0.below b3, aq, lst_nil _ _ _, lst_nil _ _ _, (fun _ e => by cases e), (fun e => by cases e), (fun e => by cases e), hp, lrq, hs⟩
  clear hV hV3 a0 aq b3 hc bV hW hH
  refine (once_dn D 2 (by decide) (by decide)).mono ?_
  rintro e w4 ⟨flat, rfl, k4⟩
  replace D := k4
  clear k4
  have p1 := mul_in (a := W - 1) (b := H) (x := 5) (y := 5) (by omega) (by omega)
  have p2 := mul_in (a := W) (b := H - 1) (x := 5) (y := 5) (by omega) (by omega)
  obtain ⟨c0, c1, c2, c3, -⟩ := D.aq.open4
  have lq := D.aq.lt
  rw [hq]
  go_wp2_with fail
  obtain ⟨i0, hi0, hz0, hz1, hz2⟩ := info_parts infoI
  clear c0 c1 c2 c3 lq
  go_loopw [5] (fun s wr => ∃ (k : Int) (v1 v2 : Value) (n1 n2 : Nat) (f1 f2 : Nat → Int), (0 ≤ k ∧ k ≤ 25) ∧ ((n1 : Int) ≤ 25 ∧ n2 = 0) ∧ (n1 : Int) + k ≤ 25 ∧ s = .int .i64 k ∧ Dn w0 p a len cap r q #[.int .i64 0, .int .i64 0, .slice none 0 0, .slice none 0 0] W H v1 v2 n1 f1 n2 f2 wr) (fun s _ => (intOf s).toNat)
  case atStart => exact ⟨_, _, _, 0, 0, _, _, ⟨p1.1, by omega⟩, ⟨by omega, by omega⟩, by omega, rfl, D⟩
  case round =>
    clear D
    obtain ⟨k, v1, v2, n1, n2, f1, f2, ⟨hk0, hk1⟩, ⟨hn1, hn2⟩, hnk, rfl, D⟩ := hrel
    by_cases hlt : 0 < k
    · go_wp2_with fail
      refine (from_dn D (-3) 3 (by decide) (by decide) (by decide) (by decide)).mono ?_
      rintro e w5 ⟨x3, rfl, -, -, k5⟩
      replace D := k5
      clear k5
      go_upto_if 33 with (fail)
      go_cut [6] from 33 to 33 (fun s6 wc => ∃ X : Int, s6 = .int .i64 X ∧ w5 = wc)
      case first =>
        rcases flat with _ | _
        · go_wp2_with fail
          go_meet
          case rel => exact ⟨_, rfl, rfl⟩
        · go_wp2_with fail
          go_meet
          case rel => exact ⟨_, rfl, rfl⟩
      case rest =>
        obtain ⟨X, rfl, rfl⟩ := hcut
        obtain ⟨V6, hV6, A6, b6, -⟩ := boxed w5 2 #[.int .i64 X]
        have lq := D.aq.lt
        obtain ⟨c0, c1, c2, c3, -⟩ := D.aq.open4
        replace D := D.below b6
        clear b6
        have l6 := D.aq.lt
        have l7 := D.x2
        have hb2 : ∀ w, (Instr.buildSlice 30 1 #[(0, .int .i64 X)]).run Try.prog w = .ok (.slice (some ⟨w.heap.size, 0, none⟩) 1 1) (w.alloc (.cells #[.int .i64 X] 2)) := fun _ => by kernel_rfl
        have hnw : ∀ j u, [Value.int .i64 X][j]? = some u → V6.cell? ((⟨w5.heap.size, 0, none⟩ : Addr).add j) = some u := by rw [← hV6]; exact cell_one_new _ _ _
        clear A6
        go_wp2_with (at_builtin; refine Hid.out (?_ : Hid _))
        refine (?_ : wpList _ _ _ _ _ _)
        refine wpList_append_own_at _ rfl _ _ _ rfl (r + 1) 2 i0 _ 1 8 Try.underlying30 hi0 hz0 hz1 hz2 rfl (by omega) v1 n1 (iCells f1 n1) rfl D.o1 ⟨w5.heap.size, 0, none⟩ 1 1 [.int .i64 X] rfl rfl hnw (by intro u hu; simp at hu; subst hu; rfl) (by unfold maxLen; omega) (by omega) (by omega) ?_
        intro v' w6 hown hgrow hne hat
        obtain ⟨g', c', rfl⟩ := own_shape hown
        obtain ⟨A7, D7⟩ := D.app1 X hown hgrow hat
        clear c0 c1 c2 c3 D hV6
        obtain ⟨c0, c1, c2, c3, g0, g1, g2, g3⟩ := A7.open4
        go_wp2
        exact ⟨⟨k - 1, _, v2, n1 + 1, n2, _, f2, ⟨by omega, by omega⟩, ⟨by omega, by omega⟩, by omega, rfl, D7⟩, by simp [intOf]; omega⟩
    · have lq := D.aq.lt
      obtain ⟨c0, c1, c2, c3, -⟩ := D.aq.open4
      go_wp2_with fail
      clear c0 c1 c2 c3 lq
      go_loopw [7] (fun s wr => ∃ (k : Int) (v1 v2 : Value) (n1 n2 : Nat) (f1 f2 : Nat → Int), (0 ≤ k ∧ k ≤ 25) ∧ ((n1 : Int) ≤ 25 ∧ (n2 : Int) ≤ 25) ∧ (n2 : Int) + k ≤ 25 ∧ s = .int .i64 k ∧ Dn w0 p a len cap r q #[.int .i64 0, .int .i64 0, .slice none 0 0, .slice none 0 0] W H v1 v2 n1 f1 n2 f2 wr) (fun s _ => (intOf s).toNat)
      case atStart => exact ⟨_, _, _, n1, 0, _, _, ⟨p2.1, by omega⟩, ⟨by omega, by omega⟩, by omega, rfl, by rw [hn2] at D; exact D⟩
      case round =>
        clear D hn1 hn2 hnk hk0 hk1 hlt
        obtain ⟨k, v1, v2, n1, n2, f1, f2, ⟨hk0, hk1⟩, ⟨hn1, hn2⟩, hnk, rfl, D⟩ := hrel
        by_cases hlt : 0 < k
        · go_wp2_with fail
          refine (from_dn D (-3) 3 (by decide) (by decide) (by decide) (by decide)).mono ?_
          rintro e w5 ⟨x3, rfl, -, -, k5⟩
          replace D := k5
          clear k5
          go_upto_if 52 with (fail)
          go_cut [8] from 52 to 52 (fun s6 wc => ∃ X : Int, s6 = .int .i64 X ∧ w5 = wc)
          case first =>
            rcases flat with _ | _
            · go_wp2_with fail
              go_meet
              case rel => exact ⟨_, rfl, rfl⟩
            · go_wp2_with fail
              go_meet
              case rel => exact ⟨_, rfl, rfl⟩
          case rest =>
            obtain ⟨X, rfl, rfl⟩ := hcut
            obtain ⟨V6, hV6, A6, b6, -⟩ := boxed w5 2 #[.int .i64 X]
            have lq := D.aq.lt
            obtain ⟨c0, c1, c2, c3, -⟩ := D.aq.open4
            replace D := D.below b6
            clear b6
            have l6 := D.aq.lt
            have l7 := D.x2
            have hb2 : ∀ w, (Instr.buildSlice 30 1 #[(0, .int .i64 X)]).run Try.prog w = .ok (.slice (some ⟨w.heap.size, 0, none⟩) 1 1) (w.alloc (.cells #[.int .i64 X] 2)) := fun _ => by kernel_rfl
            have hnw : ∀ j u, [Value.int .i64 X][j]? = some u → V6.cell? ((⟨w5.heap.size, 0, none⟩ : Addr).add j) = some u := by rw [← hV6]; exact cell_one_new _ _ _
            clear A6
            go_wp2_with (at_builtin; refine Hid.out (?_ : Hid _))
            refine (?_ : wpList _ _ _ _ _ _)
            refine wpList_append_own_at _ rfl _ _ _ rfl (r + 1) 2 i0 _ 1 8 Try.underlying30 hi0 hz0 hz1 hz2 rfl (by omega) v2 n2 (iCells f2 n2) rfl D.o2 ⟨w5.heap.size, 0, none⟩ 1 1 [.int .i64 X] rfl rfl hnw (by intro u hu; simp at hu; subst hu; rfl) (by unfold maxLen; omega) (by omega) (by omega) ?_
            intro v' w6 hown hgrow hne hat
            obtain ⟨g', c', rfl⟩ := own_shape hown
            obtain ⟨A7, D7⟩ := D.app2 X hown hgrow hat
            clear c0 c1 c2 c3 D hV6
            obtain ⟨c0, c1, c2, c3, g0, g1, g2, g3⟩ := A7.open4
            go_wp2
            exact ⟨⟨k - 1, v1, _, n1, n2 + 1, f1, _, ⟨by omega, by omega⟩, ⟨by omega, by omega⟩, by omega, rfl, D7⟩, by simp [intOf]; omega⟩
        · go_wp2_with fail
          refine (below_dn D 3 (by decide) (by decide)).mono ?_
          rintro e w8 ⟨kk, rfl, kk0, kk1, k8⟩
          replace D := k8
          clear k8
          go_wp2_with fail
          go_loopw [9] (fun s wr => ∃ (k W H : Int) (v1 v2 : Value) (n1 n2 : Nat) (f1 f2 : Nat → Int), (0 ≤ k ∧ k ≤ 25) ∧ ((1 ≤ W ∧ W ≤ 5) ∧ (1 ≤ H ∧ H ≤ 5)) ∧ ((n1 : Int) ≤ 25 ∧ (n2 : Int) ≤ 25) ∧ s = .int .i64 k ∧ Dm w0 p a len cap r q #[.int .i64 0, .int .i64 0, .slice none 0 0, .slice none 0 0] W H v1 v2 n1 f1 n2 f2 wr) (fun s _ => (intOf s).toNat)
          case atStart => exact ⟨kk, _, _, _, _, _, _, _, _, ⟨by omega, by omega⟩, ⟨hW5, hH5⟩, ⟨hn1, hn2⟩, rfl, D.dm⟩
          case round =>
            clear D hn1 hn2 hnk hk0 hk1 hlt
            obtain ⟨k, W, H, v1, v2, n1, n2, f1, f2, ⟨hk0, hk1⟩, ⟨hW5, hH5⟩, ⟨hn1, hn2⟩, rfl, D⟩ := hrel
            by_cases hlt : 0 < k
            · have lq := D.aq.lt
              obtain ⟨c0, c1, c2, c3, -⟩ := D.aq.open4
              go_wp2_with fail
              clear c0 c1 c2 c3 lq
              go_cut [10, 11] from 65 to 79 (fun s10 s11 wc => Drawn w0 p a len cap r q #[.int .i64 0, .int .i64 0, .slice none 0 0, .slice none 0 0] W H v1 v2 n1 f1 n2 f2 s10 s11 wc)
              case first =>
                obtain ⟨x0, hu0, bb⟩ : ∃ u0, wr.drew = u0 ∧ Below wr.heap.size wr u0 := ⟨_, rfl, (Below.refl _ _).drew⟩
                replace D := D.below bb
                clear bb
                refine wp_region_held_drew (S := One4 q W H v1 v2) (by kernel_rfl) (by rw [hu0]; exact one4_mk D.aq) (fun hHeld => ?_)
                rw [hu0] at hHeld ⊢
                clear hu0
                change wpAnyH _ _ _ _ _ 18 #[false, false, false, false, false, false, false, false, false, false, false, false, false, false, false, false, false, false] _ _
                refine wpAnyH_take (i := 0) (v := nV W H v1 v2) rfl (by kernel_rfl) (by kernel_rfl) (by kernel_rfl) (fun _ _ _ h => h) (Or.inl ⟨by kernel_rfl, ?_⟩) hHeld ?_
                · intro w' hSw; obtain ⟨z0, z1, z2, z3⟩ := hSw; go_simp
                try simp only [Act.put, List.setIfInBounds_toArray, List.set_cons_zero, List.set_cons_succ, List.getElem_toArray, List.getElem_cons_zero]
                refine wpAnyH_take (i := 1) (v := .pointer (some ⟨p, 0, none⟩)) rfl (by kernel_rfl) (by kernel_rfl) (by kernel_rfl) (fun _ _ _ h => h) (Or.inl ⟨by kernel_rfl, ?_⟩) hHeld ?_
                · intro w' hSw; go_simp
                try simp only [Act.put, List.setIfInBounds_toArray, List.set_cons_zero, List.set_cons_succ, List.getElem_toArray, List.getElem_cons_succ, List.getElem_cons_zero]
                refine wpAnyH_take (i := 2) (v := .pointer (some ⟨q, 0, none⟩)) rfl (by kernel_rfl) (by kernel_rfl) (by kernel_rfl) (fun _ _ _ h => h) (Or.inl ⟨by kernel_rfl, ?_⟩) hHeld ?_
                · intro w' hSw; go_simp
                try simp only [Act.put, List.setIfInBounds_toArray, List.set_cons_zero, List.set_cons_succ, List.getElem_toArray, List.getElem_cons_succ, List.getElem_cons_zero]
                refine wpAnyH_take (i := 3) (v := .int .i64 W) rfl (by kernel_rfl) (by kernel_rfl) (by kernel_rfl) (fun _ _ _ h => h) (Or.inl ⟨by kernel_rfl, ?_⟩) hHeld ?_
                · intro w' hSw; obtain ⟨z0, z1, z2, z3⟩ := hSw; go_simp
                try simp only [Act.put, List.setIfInBounds_toArray, List.set_cons_zero, List.set_cons_succ, List.getElem_toArray, List.getElem_cons_succ, List.getElem_cons_zero]
                refine wpAnyH_take (i := 5) (v := .pointer (some ⟨p, 0, none⟩)) rfl (by kernel_rfl) (by kernel_rfl) (by kernel_rfl) (fun _ _ _ h => h) (Or.inl ⟨by kernel_rfl, ?_⟩) hHeld ?_
                · intro w' hSw; go_simp
                try simp only [Act.put, List.setIfInBounds_toArray, List.set_cons_zero, List.set_cons_succ, List.getElem_toArray, List.getElem_cons_succ, List.getElem_cons_zero]
                refine wpAnyH_take (i := 6) (v := .pointer (some ⟨q, 1, none⟩)) rfl (by kernel_rfl) (by kernel_rfl) (by kernel_rfl) (fun _ _ _ h => h) (Or.inl ⟨by kernel_rfl, ?_⟩) hHeld ?_
                · intro w' hSw; go_simp
                try simp only [Act.put, List.setIfInBounds_toArray, List.set_cons_zero, List.set_cons_succ, List.getElem_toArray, List.getElem_cons_succ, List.getElem_cons_zero]
                refine wpAnyH_take (i := 7) (v := .int .i64 H) rfl (by kernel_rfl) (by kernel_rfl) (by kernel_rfl) (fun _ _ _ h => h) (Or.inl ⟨by kernel_rfl, ?_⟩) hHeld ?_
                · intro w' hSw; obtain ⟨z0, z1, z2, z3⟩ := hSw; go_simp
                try simp only [Act.put, List.setIfInBounds_toArray, List.set_cons_zero, List.set_cons_succ, List.getElem_toArray, List.getElem_cons_succ, List.getElem_cons_zero]
                refine wpAnyH_take (i := 9) (v := .pointer (some ⟨p, 0, none⟩)) rfl (by kernel_rfl) (by kernel_rfl) (by kernel_rfl) (fun _ _ _ h => h) (Or.inl ⟨by kernel_rfl, ?_⟩) hHeld ?_
                · intro w' hSw; go_simp
                try simp only [Act.put, List.setIfInBounds_toArray, List.set_cons_zero, List.set_cons_succ, List.getElem_toArray, List.getElem_cons_succ, List.getElem_cons_zero]
                refine wpAnyH_ready (rs := [4, 15]) (by kernel_rfl) (by simp) ?_
                refine AllReadyH.cons rfl (fun KK hK' => ?_) (AllReadyH.cons rfl (fun KK hK' => ?_) AllReadyH.nil)
                · go_simp
                  refine (below_dr (Dr.start D.d.2) W (by omega) (by omega)).mono ?_
                  rintro e x1 ⟨xa, rfl, -, -, k9⟩
                  replace D := D.kept k9
                  try go_wp2_with fail
                  clear hHeld
                  refine hK'.out _ _ (one4_mk D.aq) (fun hHeld => ?_)
                  clear hK' KK
                  try simp only [List.setIfInBounds_toArray, List.set_cons_zero, List.set_cons_succ]
                  refine wpAnyH_ready (rs := [8, 15]) (by kernel_rfl) (by simp) ?_
                  refine AllReadyH.cons rfl (fun KK hK' => ?_) (AllReadyH.cons rfl (fun KK hK' => ?_) AllReadyH.nil)
                  · go_simp
                    refine (below_dr (Dr.start D.d.2) H (by omega) (by omega)).mono ?_
                    rintro e x2 ⟨xb, rfl, -, -, k9⟩
                    replace D := D.kept k9
                    try go_wp2_with fail
                    clear hHeld
                    refine hK'.out _ _ (one4_mk D.aq) (fun hHeld => ?_)
                    clear hK' KK
                    try simp only [List.setIfInBounds_toArray, List.set_cons_zero, List.set_cons_succ]
                    refine wpAnyH_ready (rs := [10, 15]) (by kernel_rfl) (by simp) ?_
                    refine AllReadyH.cons rfl (fun KK hK' => ?_) (AllReadyH.cons rfl (fun KK hK' => ?_) AllReadyH.nil)
                    · go_simp
                      refine (from_dr (Dr.start D.d.2) (-2) 2 (by decide) (by decide) (by decide) (by decide)).mono ?_
                      rintro e x3 ⟨xc, rfl, -, -, k9⟩
                      replace D := D.kept k9
                      try go_wp2_with fail
                      clear hHeld
                      refine hK'.out _ _ (one4_mk D.aq) (fun hHeld => ?_)
                      clear hK' KK
                      try simp only [List.setIfInBounds_toArray, List.set_cons_zero, List.set_cons_succ]
                      refine wpAnyH_ready (rs := [11, 15]) (by kernel_rfl) (by simp) ?_
                      refine AllReadyH.cons rfl (fun KK hK' => ?_) (AllReadyH.cons rfl (fun KK hK' => ?_) AllReadyH.nil)
                      · go_simp
                        have lq9 := D.aq.lt
                        refine (specSlip_tot D.net xa xb xc (by omega) (by omega)).mono ?_
                        rintro e x4 ⟨y1, y2, kb, W', H', m1, h1, m2, h2, rfl, N9, hkb, b9⟩
                        have M := mx_of N9 D.x2 lq9
                        replace D := D.below b9
                        clear b9 N9 lq9
                        try go_wp2_with fail
                        clear hHeld
                        refine hK'.out _ _ (one4_mk D.aq) (fun hHeld => ?_)
                        clear hK' KK
                        try simp only [List.setIfInBounds_toArray, List.set_cons_zero, List.set_cons_succ]
                        refine wpAnyH_take (i := 12) (v := .tuple #[nV W' H' y1 y2, .bool kb]) rfl (by kernel_rfl) (by kernel_rfl) (by kernel_rfl) (fun _ _ _ h => h) (Or.inl ⟨by kernel_rfl, ?_⟩) hHeld ?_
                        · intro w' hSw; go_simp
                        try simp only [Act.put, List.setIfInBounds_toArray, List.set_cons_zero, List.set_cons_succ, List.getElem_toArray, List.getElem_cons_succ, List.getElem_cons_zero]
                        refine wpAnyH_take (i := 13) (v := nV W' H' y1 y2) rfl (by kernel_rfl) (by kernel_rfl) (by kernel_rfl) (fun _ _ _ h => h) (Or.inl ⟨by kernel_rfl, ?_⟩) hHeld ?_
                        · intro w' hSw; go_simp
                        try simp only [Act.put, List.setIfInBounds_toArray, List.set_cons_zero, List.set_cons_succ, List.getElem_toArray, List.getElem_cons_succ, List.getElem_cons_zero]
                        refine wpAnyH_take (i := 14) (v := .bool kb) rfl (by kernel_rfl) (by kernel_rfl) (by kernel_rfl) (fun _ _ _ h => h) (Or.inl ⟨by kernel_rfl, ?_⟩) hHeld ?_
                        · intro w' hSw; go_simp
                        try simp only [Act.put, List.setIfInBounds_toArray, List.set_cons_zero, List.set_cons_succ, List.getElem_toArray, List.getElem_cons_succ, List.getElem_cons_zero]
                        refine wpAnyH_ready (rs := [15]) (by kernel_rfl) (by simp) ?_
                        refine AllReadyH.cons rfl (fun KK hK' => ?_) AllReadyH.nil
                        go_simp
                        obtain ⟨x5, hV9, am, b9, -⟩ := boxed x4 32 #[.int .i64 0, .int .i64 0, .slice none 0 0, .slice none 0 0]
                        rw [hV9]
                        have lq9 := D.aq.lt
                        have hs1 : v1.ownBlock ≠ some x4.heap.size := fun e => Nat.lt_irrefl _ (D.o1.lt e).2
                        have hs2 : v2.ownBlock ≠ some x4.heap.size := fun e => Nat.lt_irrefl _ (D.o2.lt e).2
                        have hn1 : y1.ownBlock ≠ some x4.heap.size ∧ y2.ownBlock ≠ some x4.heap.size := ⟨fun e => Nat.lt_irrefl _ (M.k1.lt e).2, fun e => Nat.lt_irrefl _ (M.k2.lt e).2⟩
                        obtain ⟨s, hss⟩ : ∃ s, x4.heap.size = s := ⟨_, rfl⟩
                        have hsq : s ≠ q := by omega
                        have hsr : r < s := by have := D.x2; omega
                        have hsp : p < s := by have := D.x1; omega
                        rw [hss] at am hs1 hs2 hn1 ⊢
                        replace D := D.below b9
                        replace M := M.below b9
                        clear b9 hV9 lq9 hss
                        clear hHeld
                        refine hK'.out _ _ (one4_mk D.aq) (fun hHeld => ?_)
                        clear hK' KK
                        try simp only [List.setIfInBounds_toArray, List.set_cons_zero, List.set_cons_succ]
                        refine wpAnyH_ready (rs := [16]) (by kernel_rfl) (by simp) ?_
                        refine AllReadyH.cons rfl (fun KK hK' => ?_) AllReadyH.nil
                        obtain ⟨y0', y1', y2', y3', g0', g1', g2', g3'⟩ := am.open4
                        obtain ⟨za1, zc1, rfl⟩ := M.k1.shape
                        obtain ⟨za2, zc2, rfl⟩ := M.k2.shape
                        go_simp
                        have am8 := put4_at am (.int .i64 W') (.int .i64 H') (.slice za1 m1 zc1) (.slice za2 m2 zc2)
                        replace D := (((D.other hsr hsq hs1 hs2 (i := 0) (.int .i64 W')).other hsr hsq hs1 hs2 (i := 1) (.int .i64 H')).other hsr hsq hs1 hs2 (i := 2) (.slice za1 m1 zc1)).other hsr hsq hs1 hs2 (i := 3) (.slice za2 m2 zc2)
                        replace M := (((M.other hn1.1 hn1.2 (i := 0) (.int .i64 W')).other hn1.1 hn1.2 (i := 1) (.int .i64 H')).other hn1.1 hn1.2 (i := 2) (.slice za1 m1 zc1)).other hn1.1 hn1.2 (i := 3) (.slice za2 m2 zc2)
                        obtain ⟨x6, hx9⟩ : ∃ u, (((x5.setCell ⟨s, 0, none⟩ (.int .i64 W')).setCell ⟨s, 1, none⟩ (.int .i64 H')).setCell ⟨s, 2, none⟩ (.slice za1 m1 zc1)).setCell ⟨s, 3, none⟩ (.slice za2 m2 zc2) = u := ⟨_, rfl⟩
                        rw [hx9] at D M am8 ⊢
                        clear am hx9 y0' y1' y2' y3' g0' g1' g2' g3'
                        have am := am8
                        clear am8
                        clear hHeld
                        refine hK'.out _ _ (one4_mk D.aq) (fun hHeld => ?_)
                        clear hK' KK
                        try simp only [List.setIfInBounds_toArray, List.set_cons_zero, List.set_cons_succ]
                        refine wpAnyH_take (i := 17) (v := .bool kb) rfl (by kernel_rfl) (by kernel_rfl) (by kernel_rfl) (fun _ _ _ h => h) (Or.inl ⟨by kernel_rfl, ?_⟩) hHeld ?_
                        · intro w' hSw; go_simp
                        try simp only [Act.put, List.setIfInBounds_toArray, List.set_cons_zero, List.set_cons_succ, List.getElem_toArray, List.getElem_cons_succ, List.getElem_cons_zero]
                        refine wpAnyH_done (by kernel_rfl) ?_ _
                        clear hHeld
                        go_wp2_with fail
                        go_meet
                        case rel => exact ⟨D, s, W', H', _, _, m1, h1, m2, h2, kb, rfl, rfl, am, hsq, M, hkb⟩
                      · go_simp
                        obtain ⟨x4, hV9, am, b9, -⟩ := boxed x3 32 #[.int .i64 0, .int .i64 0, .slice none 0 0, .slice none 0 0]
                        rw [hV9]
                        have lq9 := D.aq.lt
                        have hs1 : v1.ownBlock ≠ some x3.heap.size := fun e => Nat.lt_irrefl _ (D.o1.lt e).2
                        have hs2 : v2.ownBlock ≠ some x3.heap.size := fun e => Nat.lt_irrefl _ (D.o2.lt e).2
                        obtain ⟨s, hss⟩ : ∃ s, x3.heap.size = s := ⟨_, rfl⟩
                        have hsq : s ≠ q := by omega
                        have hsr : r < s := by have := D.x2; omega
                        have hsp : p < s := by have := D.x1; omega
                        rw [hss] at am hs1 hs2 ⊢
                        replace D := D.below b9
                        clear b9 hV9 lq9 hss
                        clear hHeld
                        refine hK'.out _ _ (one4_mk D.aq) (fun hHeld => ?_)
                        clear hK' KK
                        try simp only [List.setIfInBounds_toArray, List.set_cons_zero, List.set_cons_succ]
                        refine wpAnyH_ready (rs := [11]) (by kernel_rfl) (by simp) ?_
                        refine AllReadyH.cons rfl (fun KK hK' => ?_) AllReadyH.nil
                        go_simp
                        have lq9 := D.aq.lt
                        refine (specSlip_tot D.net xa xb xc (by omega) (by omega)).mono ?_
                        rintro e x5 ⟨y1, y2, kb, W', H', m1, h1, m2, h2, rfl, N9, hkb, b9⟩
                        have hn1 := net_ne N9 (show s < _ from am.lt)
                        have M := mx_of N9 D.x2 lq9
                        replace D := D.below b9
                        replace am := am.below b9
                        clear b9 N9 lq9
                        try go_wp2_with fail
                        clear hHeld
                        refine hK'.out _ _ (one4_mk D.aq) (fun hHeld => ?_)
                        clear hK' KK
                        try simp only [List.setIfInBounds_toArray, List.set_cons_zero, List.set_cons_succ]
                        refine wpAnyH_take (i := 12) (v := .tuple #[nV W' H' y1 y2, .bool kb]) rfl (by kernel_rfl) (by kernel_rfl) (by kernel_rfl) (fun _ _ _ h => h) (Or.inl ⟨by kernel_rfl, ?_⟩) hHeld ?_
                        · intro w' hSw; go_simp
                        try simp only [Act.put, List.setIfInBounds_toArray, List.set_cons_zero, List.set_cons_succ, List.getElem_toArray, List.getElem_cons_succ, List.getElem_cons_zero]
                        refine wpAnyH_take (i := 13) (v := nV W' H' y1 y2) rfl (by kernel_rfl) (by kernel_rfl) (by kernel_rfl) (fun _ _ _ h => h) (Or.inl ⟨by kernel_rfl, ?_⟩) hHeld ?_
                        · intro w' hSw; go_simp
                        try simp only [Act.put, List.setIfInBounds_toArray, List.set_cons_zero, List.set_cons_succ, List.getElem_toArray, List.getElem_cons_succ, List.getElem_cons_zero]
                        refine wpAnyH_take (i := 14) (v := .bool kb) rfl (by kernel_rfl) (by kernel_rfl) (by kernel_rfl) (fun _ _ _ h => h) (Or.inl ⟨by kernel_rfl, ?_⟩) hHeld ?_
                        · intro w' hSw; go_simp
                        try simp only [Act.put, List.setIfInBounds_toArray, List.set_cons_zero, List.set_cons_succ, List.getElem_toArray, List.getElem_cons_succ, List.getElem_cons_zero]
                        refine wpAnyH_ready (rs := [16]) (by kernel_rfl) (by simp) ?_
                        refine AllReadyH.cons rfl (fun KK hK' => ?_) AllReadyH.nil
                        obtain ⟨y0', y1', y2', y3', g0', g1', g2', g3'⟩ := am.open4
                        obtain ⟨za1, zc1, rfl⟩ := M.k1.shape
                        obtain ⟨za2, zc2, rfl⟩ := M.k2.shape
                        go_simp
                        have am8 := put4_at am (.int .i64 W') (.int .i64 H') (.slice za1 m1 zc1) (.slice za2 m2 zc2)
                        replace D := (((D.other hsr hsq hs1 hs2 (i := 0) (.int .i64 W')).other hsr hsq hs1 hs2 (i := 1) (.int .i64 H')).other hsr hsq hs1 hs2 (i := 2) (.slice za1 m1 zc1)).other hsr hsq hs1 hs2 (i := 3) (.slice za2 m2 zc2)
                        replace M := (((M.other hn1.1 hn1.2 (i := 0) (.int .i64 W')).other hn1.1 hn1.2 (i := 1) (.int .i64 H')).other hn1.1 hn1.2 (i := 2) (.slice za1 m1 zc1)).other hn1.1 hn1.2 (i := 3) (.slice za2 m2 zc2)
                        obtain ⟨x6, hx9⟩ : ∃ u, (((x5.setCell ⟨s, 0, none⟩ (.int .i64 W')).setCell ⟨s, 1, none⟩ (.int .i64 H')).setCell ⟨s, 2, none⟩ (.slice za1 m1 zc1)).setCell ⟨s, 3, none⟩ (.slice za2 m2 zc2) = u := ⟨_, rfl⟩
                        rw [hx9] at D M am8 ⊢
                        clear am hx9 y0' y1' y2' y3' g0' g1' g2' g3'
                        have am := am8
                        clear am8
                        clear hHeld
                        refine hK'.out _ _ (one4_mk D.aq) (fun hHeld => ?_)
                        clear hK' KK
                        try simp only [List.setIfInBounds_toArray, List.set_cons_zero, List.set_cons_succ]
                        refine wpAnyH_take (i := 17) (v := .bool kb) rfl (by kernel_rfl) (by kernel_rfl) (by kernel_rfl) (fun _ _ _ h => h) (Or.inl ⟨by kernel_rfl, ?_⟩) hHeld ?_
                        · intro w' hSw; go_simp
                        try simp only [Act.put, List.setIfInBounds_toArray, List.set_cons_zero, List.set_cons_succ, List.getElem_toArray, List.getElem_cons_succ, List.getElem_cons_zero]
                        refine wpAnyH_done (by kernel_rfl) ?_ _
                        clear hHeld
                        go_wp2_with fail
                        go_meet
                        case rel => exact ⟨D, s, W', H', _, _, m1, h1, m2, h2, kb, rfl, rfl, am, hsq, M, hkb⟩
                    · go_simp
                      obtain ⟨x3, hV9, am, b9, -⟩ := boxed x2 32 #[.int .i64 0, .int .i64 0, .slice none 0 0, .slice none 0 0]
                      rw [hV9]
                      have lq9 := D.aq.lt
                      have hs1 : v1.ownBlock ≠ some x2.heap.size := fun e => Nat.lt_irrefl _ (D.o1.lt e).2
                      have hs2 : v2.ownBlock ≠ some x2.heap.size := fun e => Nat.lt_irrefl _ (D.o2.lt e).2
                      obtain ⟨s, hss⟩ : ∃ s, x2.heap.size = s := ⟨_, rfl⟩
                      have hsq : s ≠ q := by omega
                      have hsr : r < s := by have := D.x2; omega
                      have hsp : p < s := by have := D.x1; omega
                      rw [hss] at am hs1 hs2 ⊢
                      replace D := D.below b9
                      clear b9 hV9 lq9 hss
                      clear hHeld
                      refine hK'.out _ _ (one4_mk D.aq) (fun hHeld => ?_)
                      clear hK' KK
                      try simp only [List.setIfInBounds_toArray, List.set_cons_zero, List.set_cons_succ]
                      refine wpAnyH_ready (rs := [10]) (by kernel_rfl) (by simp) ?_
                      refine AllReadyH.cons rfl (fun KK hK' => ?_) AllReadyH.nil
                      go_simp
                      refine (from_dr (Dr.start D.d.2) (-2) 2 (by decide) (by decide) (by decide) (by decide)).mono ?_
                      rintro e x4 ⟨xc, rfl, -, -, k9⟩
                      replace am := am.kept k9.1 (by omega)
                      replace D := D.kept k9
                      try go_wp2_with fail
                      clear hHeld
                      refine hK'.out _ _ (one4_mk D.aq) (fun hHeld => ?_)
                      clear hK' KK
                      try simp only [List.setIfInBounds_toArray, List.set_cons_zero, List.set_cons_succ]
                      refine wpAnyH_ready (rs := [11]) (by kernel_rfl) (by simp) ?_
                      refine AllReadyH.cons rfl (fun KK hK' => ?_) AllReadyH.nil
                      go_simp
                      have lq9 := D.aq.lt
                      refine (specSlip_tot D.net xa xb xc (by omega) (by omega)).mono ?_
                      rintro e x5 ⟨y1, y2, kb, W', H', m1, h1, m2, h2, rfl, N9, hkb, b9⟩
                      have hn1 := net_ne N9 (show s < _ from am.lt)
                      have M := mx_of N9 D.x2 lq9
                      replace D := D.below b9
                      replace am := am.below b9
                      clear b9 N9 lq9
                      try go_wp2_with fail
                      clear hHeld
                      refine hK'.out _ _ (one4_mk D.aq) (fun hHeld => ?_)
                      clear hK' KK
                      try simp only [List.setIfInBounds_toArray, List.set_cons_zero, List.set_cons_succ]
                      refine wpAnyH_take (i := 12) (v := .tuple #[nV W' H' y1 y2, .bool kb]) rfl (by kernel_rfl) (by kernel_rfl) (by kernel_rfl) (fun _ _ _ h => h) (Or.inl ⟨by kernel_rfl, ?_⟩) hHeld ?_
                      · intro w' hSw; go_simp
                      try simp only [Act.put, List.setIfInBounds_toArray, List.set_cons_zero, List.set_cons_succ, List.getElem_toArray, List.getElem_cons_succ, List.getElem_cons_zero]
                      refine wpAnyH_take (i := 13) (v := nV W' H' y1 y2) rfl (by kernel_rfl) (by kernel_rfl) (by kernel_rfl) (fun _ _ _ h => h) (Or.inl ⟨by kernel_rfl, ?_⟩) hHeld ?_
                      · intro w' hSw; go_simp
                      try simp only [Act.put, List.setIfInBounds_toArray, List.set_cons_zero, List.set_cons_succ, List.getElem_toArray, List.getElem_cons_succ, List.getElem_cons_zero]
                      refine wpAnyH_take (i := 14) (v := .bool kb) rfl (by kernel_rfl) (by kernel_rfl) (by kernel_rfl) (fun _ _ _ h => h) (Or.inl ⟨by kernel_rfl, ?_⟩) hHeld ?_
                      · intro w' hSw; go_simp
                      try simp only [Act.put, List.setIfInBounds_toArray, List.set_cons_zero, List.set_cons_succ, List.getElem_toArray, List.getElem_cons_succ, List.getElem_cons_zero]
                      refine wpAnyH_ready (rs := [16]) (by kernel_rfl) (by simp) ?_
                      refine AllReadyH.cons rfl (fun KK hK' => ?_) AllReadyH.nil
                      obtain ⟨y0', y1', y2', y3', g0', g1', g2', g3'⟩ := am.open4
                      obtain ⟨za1, zc1, rfl⟩ := M.k1.shape
                      obtain ⟨za2, zc2, rfl⟩ := M.k2.shape
                      go_simp
                      have am8 := put4_at am (.int .i64 W') (.int .i64 H') (.slice za1 m1 zc1) (.slice za2 m2 zc2)
                      replace D := (((D.other hsr hsq hs1 hs2 (i := 0) (.int .i64 W')).other hsr hsq hs1 hs2 (i := 1) (.int .i64 H')).other hsr hsq hs1 hs2 (i := 2) (.slice za1 m1 zc1)).other hsr hsq hs1 hs2 (i := 3) (.slice za2 m2 zc2)
                      replace M := (((M.other hn1.1 hn1.2 (i := 0) (.int .i64 W')).other hn1.1 hn1.2 (i := 1) (.int .i64 H')).other hn1.1 hn1.2 (i := 2) (.slice za1 m1 zc1)).other hn1.1 hn1.2 (i := 3) (.slice za2 m2 zc2)
                      obtain ⟨x6, hx9⟩ : ∃ u, (((x5.setCell ⟨s, 0, none⟩ (.int .i64 W')).setCell ⟨s, 1, none⟩ (.int .i64 H')).setCell ⟨s, 2, none⟩ (.slice za1 m1 zc1)).setCell ⟨s, 3, none⟩ (.slice za2 m2 zc2) = u := ⟨_, rfl⟩
                      rw [hx9] at D M am8 ⊢
                      clear am hx9 y0' y1' y2' y3' g0' g1' g2' g3'
                      have am := am8
                      clear am8
                      clear hHeld
                      refine hK'.out _ _ (one4_mk D.aq) (fun hHeld => ?_)
                      clear hK' KK
                      try simp only [List.setIfInBounds_toArray, List.set_cons_zero, List.set_cons_succ]
                      refine wpAnyH_take (i := 17) (v := .bool kb) rfl (by kernel_rfl) (by kernel_rfl) (by kernel_rfl) (fun _ _ _ h => h) (Or.inl ⟨by kernel_rfl, ?_⟩) hHeld ?_
                      · intro w' hSw; go_simp
                      try simp only [Act.put, List.setIfInBounds_toArray, List.set_cons_zero, List.set_cons_succ, List.getElem_toArray, List.getElem_cons_succ, List.getElem_cons_zero]
                      refine wpAnyH_done (by kernel_rfl) ?_ _
                      clear hHeld
                      go_wp2_with fail
                      go_meet
                      case rel => exact ⟨D, s, W', H', _, _, m1, h1, m2, h2, kb, rfl, rfl, am, hsq, M, hkb⟩
                  · go_simp
                    obtain ⟨x2, hV9, am, b9, -⟩ := boxed x1 32 #[.int .i64 0, .int .i64 0, .slice none 0 0, .slice none 0 0]
                    rw [hV9]
                    have lq9 := D.aq.lt
                    have hs1 : v1.ownBlock ≠ some x1.heap.size := fun e => Nat.lt_irrefl _ (D.o1.lt e).2
                    have hs2 : v2.ownBlock ≠ some x1.heap.size := fun e => Nat.lt_irrefl _ (D.o2.lt e).2
                    obtain ⟨s, hss⟩ : ∃ s, x1.heap.size = s := ⟨_, rfl⟩
                    have hsq : s ≠ q := by omega
                    have hsr : r < s := by have := D.x2; omega
                    have hsp : p < s := by have := D.x1; omega
                    rw [hss] at am hs1 hs2 ⊢
                    replace D := D.below b9
                    clear b9 hV9 lq9 hss
                    clear hHeld
                    refine hK'.out _ _ (one4_mk D.aq) (fun hHeld => ?_)
                    clear hK' KK
                    try simp only [List.setIfInBounds_toArray, List.set_cons_zero, List.set_cons_succ]
                    refine wpAnyH_ready (rs := [8]) (by kernel_rfl) (by simp) ?_
                    refine AllReadyH.cons rfl (fun KK hK' => ?_) AllReadyH.nil
                    go_simp
                    refine (below_dr (Dr.start D.d.2) H (by omega) (by omega)).mono ?_
                    rintro e x3 ⟨xb, rfl, -, -, k9⟩
                    replace am := am.kept k9.1 (by omega)
                    replace D := D.kept k9
                    try go_wp2_with fail
                    clear hHeld
                    refine hK'.out _ _ (one4_mk D.aq) (fun hHeld => ?_)
                    clear hK' KK
                    try simp only [List.setIfInBounds_toArray, List.set_cons_zero, List.set_cons_succ]
                    refine wpAnyH_ready (rs := [10]) (by kernel_rfl) (by simp) ?_
                    refine AllReadyH.cons rfl (fun KK hK' => ?_) AllReadyH.nil
                    go_simp
                    refine (from_dr (Dr.start D.d.2) (-2) 2 (by decide) (by decide) (by decide) (by decide)).mono ?_
                    rintro e x4 ⟨xc, rfl, -, -, k9⟩
                    replace am := am.kept k9.1 (by omega)
                    replace D := D.kept k9
                    try go_wp2_with fail
                    clear hHeld
                    refine hK'.out _ _ (one4_mk D.aq) (fun hHeld => ?_)
                    clear hK' KK
                    try simp only [List.setIfInBounds_toArray, List.set_cons_zero, List.set_cons_succ]
                    refine wpAnyH_ready (rs := [11]) (by kernel_rfl) (by simp) ?_
                    refine AllReadyH.cons rfl (fun KK hK' => ?_) AllReadyH.nil
                    go_simp
                    have lq9 := D.aq.lt
                    refine (specSlip_tot D.net xa xb xc (by omega) (by omega)).mono ?_
                    rintro e x5 ⟨y1, y2, kb, W', H', m1, h1, m2, h2, rfl, N9, hkb, b9⟩
                    have hn1 := net_ne N9 (show s < _ from am.lt)
                    have M := mx_of N9 D.x2 lq9
                    replace D := D.below b9
                    replace am := am.below b9
                    clear b9 N9 lq9
                    try go_wp2_with fail
                    clear hHeld
                    refine hK'.out _ _ (one4_mk D.aq) (fun hHeld => ?_)
                    clear hK' KK
                    try simp only [List.setIfInBounds_toArray, List.set_cons_zero, List.set_cons_succ]
                    refine wpAnyH_take (i := 12) (v := .tuple #[nV W' H' y1 y2, .bool kb]) rfl (by kernel_rfl) (by kernel_rfl) (by kernel_rfl) (fun _ _ _ h => h) (Or.inl ⟨by kernel_rfl, ?_⟩) hHeld ?_
                    · intro w' hSw; go_simp
                    try simp only [Act.put, List.setIfInBounds_toArray, List.set_cons_zero, List.set_cons_succ, List.getElem_toArray, List.getElem_cons_succ, List.getElem_cons_zero]
                    refine wpAnyH_take (i := 13) (v := nV W' H' y1 y2) rfl (by kernel_rfl) (by kernel_rfl) (by kernel_rfl) (fun _ _ _ h => h) (Or.inl ⟨by kernel_rfl, ?_⟩) hHeld ?_
                    · intro w' hSw; go_simp
                    try simp only [Act.put, List.setIfInBounds_toArray, List.set_cons_zero, List.set_cons_succ, List.getElem_toArray, List.getElem_cons_succ, List.getElem_cons_zero]
                    refine wpAnyH_take (i := 14) (v := .bool kb) rfl (by kernel_rfl) (by kernel_rfl) (by kernel_rfl) (fun _ _ _ h => h) (Or.inl ⟨by kernel_rfl, ?_⟩) hHeld ?_
                    · intro w' hSw; go_simp
                    try simp only [Act.put, List.setIfInBounds_toArray, List.set_cons_zero, List.set_cons_succ, List.getElem_toArray, List.getElem_cons_succ, List.getElem_cons_zero]
                    refine wpAnyH_ready (rs := [16]) (by kernel_rfl) (by simp) ?_
                    refine AllReadyH.cons rfl (fun KK hK' => ?_) AllReadyH.nil
                    obtain ⟨y0', y1', y2', y3', g0', g1', g2', g3'⟩ := am.open4
                    obtain ⟨za1, zc1, rfl⟩ := M.k1.shape
                    obtain ⟨za2, zc2, rfl⟩ := M.k2.shape
                    go_simp
                    have am8 := put4_at am (.int .i64 W') (.int .i64 H') (.slice za1 m1 zc1) (.slice za2 m2 zc2)
                    replace D := (((D.other hsr hsq hs1 hs2 (i := 0) (.int .i64 W')).other hsr hsq hs1 hs2 (i := 1) (.int .i64 H')).other hsr hsq hs1 hs2 (i := 2) (.slice za1 m1 zc1)).other hsr hsq hs1 hs2 (i := 3) (.slice za2 m2 zc2)
                    replace M := (((M.other hn1.1 hn1.2 (i := 0) (.int .i64 W')).other hn1.1 hn1.2 (i := 1) (.int .i64 H')).other hn1.1 hn1.2 (i := 2) (.slice za1 m1 zc1)).other hn1.1 hn1.2 (i := 3) (.slice za2 m2 zc2)
                    obtain ⟨x6, hx9⟩ : ∃ u, (((x5.setCell ⟨s, 0, none⟩ (.int .i64 W')).setCell ⟨s, 1, none⟩ (.int .i64 H')).setCell ⟨s, 2, none⟩ (.slice za1 m1 zc1)).setCell ⟨s, 3, none⟩ (.slice za2 m2 zc2) = u := ⟨_, rfl⟩
                    rw [hx9] at D M am8 ⊢
                    clear am hx9 y0' y1' y2' y3' g0' g1' g2' g3'
                    have am := am8
                    clear am8
                    clear hHeld
                    refine hK'.out _ _ (one4_mk D.aq) (fun hHeld => ?_)
                    clear hK' KK
                    try simp only [List.setIfInBounds_toArray, List.set_cons_zero, List.set_cons_succ]
                    refine wpAnyH_take (i := 17) (v := .bool kb) rfl (by kernel_rfl) (by kernel_rfl) (by kernel_rfl) (fun _ _ _ h => h) (Or.inl ⟨by kernel_rfl, ?_⟩) hHeld ?_
                    · intro w' hSw; go_simp
                    try simp only [Act.put, List.setIfInBounds_toArray, List.set_cons_zero, List.set_cons_succ, List.getElem_toArray, List.getElem_cons_succ, List.getElem_cons_zero]
                    refine wpAnyH_done (by kernel_rfl) ?_ _
                    clear hHeld
                    go_wp2_with fail
                    go_meet
                    case rel => exact ⟨D, s, W', H', _, _, m1, h1, m2, h2, kb, rfl, rfl, am, hsq, M, hkb⟩
                · go_simp
                  obtain ⟨x1, hV9, am, b9, -⟩ := boxed x0 32 #[.int .i64 0, .int .i64 0, .slice none 0 0, .slice none 0 0]
                  rw [hV9]
                  have lq9 := D.aq.lt
                  have hs1 : v1.ownBlock ≠ some x0.heap.size := fun e => Nat.lt_irrefl _ (D.o1.lt e).2
                  have hs2 : v2.ownBlock ≠ some x0.heap.size := fun e => Nat.lt_irrefl _ (D.o2.lt e).2
                  obtain ⟨s, hss⟩ : ∃ s, x0.heap.size = s := ⟨_, rfl⟩
                  have hsq : s ≠ q := by omega
                  have hsr : r < s := by have := D.x2; omega
                  have hsp : p < s := by have := D.x1; omega
                  rw [hss] at am hs1 hs2 ⊢
                  replace D := D.below b9
                  clear b9 hV9 lq9 hss
                  clear hHeld
                  refine hK'.out _ _ (one4_mk D.aq) (fun hHeld => ?_)
                  clear hK' KK
                  try simp only [List.setIfInBounds_toArray, List.set_cons_zero, List.set_cons_succ]
                  refine wpAnyH_ready (rs := [4]) (by kernel_rfl) (by simp) ?_
                  refine AllReadyH.cons rfl (fun KK hK' => ?_) AllReadyH.nil
                  go_simp
                  refine (below_dr (Dr.start D.d.2) W (by omega) (by omega)).mono ?_
                  rintro e x2 ⟨xa, rfl, -, -, k9⟩
                  replace am := am.kept k9.1 (by omega)
                  replace D := D.kept k9
                  try go_wp2_with fail
                  clear hHeld
                  refine hK'.out _ _ (one4_mk D.aq) (fun hHeld => ?_)
                  clear hK' KK
                  try simp only [List.setIfInBounds_toArray, List.set_cons_zero, List.set_cons_succ]
                  refine wpAnyH_ready (rs := [8]) (by kernel_rfl) (by simp) ?_
                  refine AllReadyH.cons rfl (fun KK hK' => ?_) AllReadyH.nil
                  go_simp
                  refine (below_dr (Dr.start D.d.2) H (by omega) (by omega)).mono ?_
                  rintro e x3 ⟨xb, rfl, -, -, k9⟩
                  replace am := am.kept k9.1 (by omega)
                  replace D := D.kept k9
                  try go_wp2_with fail
                  clear hHeld
                  refine hK'.out _ _ (one4_mk D.aq) (fun hHeld => ?_)
                  clear hK' KK
                  try simp only [List.setIfInBounds_toArray, List.set_cons_zero, List.set_cons_succ]
                  refine wpAnyH_ready (rs := [10]) (by kernel_rfl) (by simp) ?_
                  refine AllReadyH.cons rfl (fun KK hK' => ?_) AllReadyH.nil
                  go_simp
                  refine (from_dr (Dr.start D.d.2) (-2) 2 (by decide) (by decide) (by decide) (by decide)).mono ?_
                  rintro e x4 ⟨xc, rfl, -, -, k9⟩
                  replace am := am.kept k9.1 (by omega)
                  replace D := D.kept k9
                  try go_wp2_with fail
                  clear hHeld
                  refine hK'.out _ _ (one4_mk D.aq) (fun hHeld => ?_)
                  clear hK' KK
                  try simp only [List.setIfInBounds_toArray, List.set_cons_zero, List.set_cons_succ]
                  refine wpAnyH_ready (rs := [11]) (by kernel_rfl) (by simp) ?_
                  refine AllReadyH.cons rfl (fun KK hK' => ?_) AllReadyH.nil
                  go_simp
                  have lq9 := D.aq.lt
                  refine (specSlip_tot D.net xa xb xc (by omega) (by omega)).mono ?_
                  rintro e x5 ⟨y1, y2, kb, W', H', m1, h1, m2, h2, rfl, N9, hkb, b9⟩
                  have hn1 := net_ne N9 (show s < _ from am.lt)
                  have M := mx_of N9 D.x2 lq9
                  replace D := D.below b9
                  replace am := am.below b9
                  clear b9 N9 lq9
                  try go_wp2_with fail
                  clear hHeld
                  refine hK'.out _ _ (one4_mk D.aq) (fun hHeld => ?_)
                  clear hK' KK
                  try simp only [List.setIfInBounds_toArray, List.set_cons_zero, List.set_cons_succ]
                  refine wpAnyH_take (i := 12) (v := .tuple #[nV W' H' y1 y2, .bool kb]) rfl (by kernel_rfl) (by kernel_rfl) (by kernel_rfl) (fun _ _ _ h => h) (Or.inl ⟨by kernel_rfl, ?_⟩) hHeld ?_
                  · intro w' hSw; go_simp
                  try simp only [Act.put, List.setIfInBounds_toArray, List.set_cons_zero, List.set_cons_succ, List.getElem_toArray, List.getElem_cons_succ, List.getElem_cons_zero]
                  refine wpAnyH_take (i := 13) (v := nV W' H' y1 y2) rfl (by kernel_rfl) (by kernel_rfl) (by kernel_rfl) (fun _ _ _ h => h) (Or.inl ⟨by kernel_rfl, ?_⟩) hHeld ?_
                  · intro w' hSw; go_simp
                  try simp only [Act.put, List.setIfInBounds_toArray, List.set_cons_zero, List.set_cons_succ, List.getElem_toArray, List.getElem_cons_succ, List.getElem_cons_zero]
                  refine wpAnyH_take (i := 14) (v := .bool kb) rfl (by kernel_rfl) (by kernel_rfl) (by kernel_rfl) (fun _ _ _ h => h) (Or.inl ⟨by kernel_rfl, ?_⟩) hHeld ?_
                  · intro w' hSw; go_simp
                  try simp only [Act.put, List.setIfInBounds_toArray, List.set_cons_zero, List.set_cons_succ, List.getElem_toArray, List.getElem_cons_succ, List.getElem_cons_zero]
                  refine wpAnyH_ready (rs := [16]) (by kernel_rfl) (by simp) ?_
                  refine AllReadyH.cons rfl (fun KK hK' => ?_) AllReadyH.nil
                  obtain ⟨y0', y1', y2', y3', g0', g1', g2', g3'⟩ := am.open4
                  obtain ⟨za1, zc1, rfl⟩ := M.k1.shape
                  obtain ⟨za2, zc2, rfl⟩ := M.k2.shape
                  go_simp
                  have am8 := put4_at am (.int .i64 W') (.int .i64 H') (.slice za1 m1 zc1) (.slice za2 m2 zc2)
                  replace D := (((D.other hsr hsq hs1 hs2 (i := 0) (.int .i64 W')).other hsr hsq hs1 hs2 (i := 1) (.int .i64 H')).other hsr hsq hs1 hs2 (i := 2) (.slice za1 m1 zc1)).other hsr hsq hs1 hs2 (i := 3) (.slice za2 m2 zc2)
                  replace M := (((M.other hn1.1 hn1.2 (i := 0) (.int .i64 W')).other hn1.1 hn1.2 (i := 1) (.int .i64 H')).other hn1.1 hn1.2 (i := 2) (.slice za1 m1 zc1)).other hn1.1 hn1.2 (i := 3) (.slice za2 m2 zc2)
                  obtain ⟨x6, hx9⟩ : ∃ u, (((x5.setCell ⟨s, 0, none⟩ (.int .i64 W')).setCell ⟨s, 1, none⟩ (.int .i64 H')).setCell ⟨s, 2, none⟩ (.slice za1 m1 zc1)).setCell ⟨s, 3, none⟩ (.slice za2 m2 zc2) = u := ⟨_, rfl⟩
                  rw [hx9] at D M am8 ⊢
                  clear am hx9 y0' y1' y2' y3' g0' g1' g2' g3'
                  have am := am8
                  clear am8
                  clear hHeld
                  refine hK'.out _ _ (one4_mk D.aq) (fun hHeld => ?_)
                  clear hK' KK
                  try simp only [List.setIfInBounds_toArray, List.set_cons_zero, List.set_cons_succ]
                  refine wpAnyH_take (i := 17) (v := .bool kb) rfl (by kernel_rfl) (by kernel_rfl) (by kernel_rfl) (fun _ _ _ h => h) (Or.inl ⟨by kernel_rfl, ?_⟩) hHeld ?_
                  · intro w' hSw; go_simp
                  try simp only [Act.put, List.setIfInBounds_toArray, List.set_cons_zero, List.set_cons_succ, List.getElem_toArray, List.getElem_cons_succ, List.getElem_cons_zero]
                  refine wpAnyH_done (by kernel_rfl) ?_ _
                  clear hHeld
                  go_wp2_with fail
                  go_meet
                  case rel => exact ⟨D, s, W', H', _, _, m1, h1, m2, h2, kb, rfl, rfl, am, hsq, M, hkb⟩
              case rest =>
                obtain ⟨D, s, W', H', y1, y2, m1, h1, m2, h2, kb, rfl, rfl, am, hsq, M, hkb⟩ := hcut
                rcases kb with _ | _
                · go_wp2
                  exact ⟨⟨k - 1, W, H, v1, v2, n1, n2, f1, f2, ⟨by omega, by omega⟩, ⟨hW5, hH5⟩, ⟨hn1, hn2⟩, rfl, D⟩, by simp [intOf]; omega⟩
                · have hkk : Hid (W' = W ∧ H' = H ∧ m1 = n1 ∧ m2 = n2) := hkb rfl
                  clear hkb
                  have lq := D.aq.lt
                  have ls := am.lt
                  obtain ⟨c0, c1, c2, c3, f0, f1', f2', f3⟩ := D.aq.open4
                  obtain ⟨d0, d1, d2, d3, -⟩ := am.open4
                  obtain ⟨za1, zc1, rfl⟩ := M.k1.shape
                  obtain ⟨za2, zc2, rfl⟩ := M.k2.shape
                  have D2 := D.fill (W' := W') (H' := H') M.k1 M.k2 M.ka M.q1 M.q2
                  go_wp2
                  exact ⟨⟨k - 1, W', H', _, _, m1, m2, h1, h2, ⟨by omega, by omega⟩, ⟨by have := hkk.out; omega, by have := hkk.out; omega⟩, ⟨by have := hkk.out; omega, by have := hkk.out; omega⟩, rfl, D2⟩, by simp [intOf]; omega⟩
            · have lq := D.aq.lt
              obtain ⟨c0, c1, c2, c3, -⟩ := D.aq.open4
              obtain ⟨d0, d1, d2, d3, g0, g1, g2, g3⟩ := D.ar.open4
              obtain ⟨za1, zc1, rfl⟩ := D.o1.shape
              obtain ⟨za2, zc2, rfl⟩ := D.o2.shape
              go_wp2
              have hr1 : (Value.slice za1 n1 zc1).ownBlock ≠ some r := fun e => by have := (D.o1.lt e).1; omega
              have hr2 : (Value.slice za2 n2 zc2).ownBlock ≠ some r := fun e => by have := (D.o2.lt e).1; omega
              have ar8 := put4_at D.ar (.int .i64 W) (.int .i64 H) (.slice za1 n1 zc1) (.slice za2 n2 zc2)
              obtain ⟨r0, r1, r2, r3, -⟩ := ar8.open4
              refine bodyPost_ret (v := nV W H (.slice za1 n1 zc1) (.slice za2 n2 zc2)) (by simp [results, Try.results80, go_sem, r0, r1, r2, r3]) rfl ⟨_, rfl, ⟨W, H, n1, f1, n2, f2, ⟨_, _, rfl, ?_, ?_, D.ap⟩, by omega, by omega⟩, (((D.d.setNew hp hs _).setNew hp hs _).setNew hp hs _).setNew hp hs _⟩
              · exact ((((D.o1.setOther hr1 _).setOther hr1 _).setOther hr1 _).setOther hr1 _).arr.wide (by omega) (Nat.le_refl _)
              · exact ((((D.o2.setOther hr2 _).setOther hr2 _).setOther hr2 _).setOther hr2 _).arr.wide (by omega) (Nat.le_refl _)
end Go.Proofs.Ytlmgdcoknpakcaa
