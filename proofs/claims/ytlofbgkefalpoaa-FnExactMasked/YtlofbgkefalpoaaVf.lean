/-
  Masked, by the specification, walked.
-/
import Derived.Test.YtlofbgkefalpoaaVe
import Derived.Deep.CutRange
namespace Go.Proofs.Ytlofbgkefalpoaa
open Go.RowKit

theorem Made.bel {w w' : World} {g n k : Nat} {f : Nat → Int} (h : Made w g n k f) (hb : Below w.heap.size w w') : Made w' g n k f := by
  obtain ⟨cur, h1, h2⟩ := h
  exact ⟨cur, h1.below hb, h2⟩
theorem mk0_made {f d : Nat → Int} {k q n c : Nat} {w : World} {g : Nat} (hq : d k = (q : Int)) (hqn : q < n) (hc : n ≤ c) (h : Made w g c n (mk0 f d k)) : Made (w.setCell ⟨g, q, none⟩ (.int .i64 0)) g c n (mk0 f d (k + 1)) := by
  obtain ⟨cur, h1, h2, h3⟩ := h
  refine ⟨_, h1.set q _, by simpa using h2, fun i hi => ?_⟩
  by_cases e : i = q
  · subst e
    have l0 : i < cur.size := by omega
    simp [l0, mk0, hq]
  · have e1 : ¬ d k = (i : Int) := by omega
    have := h3 i hi
    rw [Array.getElem?_setIfInBounds, if_neg (by omega)]
    simp only [mk0, if_neg e1]
    exact this
theorem Made.at {w : World} {g c n q : Nat} {f : Nat → Int} (h : Made w g c n f) (hq : q < n) : w.cell? ⟨g, q, none⟩ = some (.int .i64 (f q)) ∧ w.frozen? ⟨g, q, none⟩ = false := by
  obtain ⟨cur, h1, h2, h3⟩ := h
  exact ⟨h1.cell q (h3 q hq), h1.frozen q⟩
set_option maxRecDepth 100000 in
set_option maxHeartbeats 8000000 in
theorem specMasked_any {w : World} {a a' : Option Addr} {len c dl dc : Nat} {f d : Nat → Int} (W H : Int) (hs : Src w a len f) (hd : Src w a' dl d) (hlen : len ≤ 1048576) (hdl : dl ≤ 1048576) :
    Calls Try.prog 25 #[fV W H (.slice a len c), .slice a' dl dc] w (MskP W H len f dl d w) := by
  have hdl' : (dl : Int) ≤ 1048576 := by omega
  have hbs : ∀ w, (Instr.buildSlice 26 0 #[]).run Try.prog w = .ok (.slice (some ⟨w.heap.size, 0, none⟩) 0 0) (w.alloc (.cells #[] 2)) := fun _ => by kernel_rfl
  obtain ⟨i0, hi0, hz0, hz1, hz2⟩ := info_parts infoI
  obtain ⟨V, hV, b0, bV, -⟩ := boxed w 28 #[.int .i64 W, .int .i64 H, .slice a len c]
  obtain ⟨V2, hV2, b2, bV2, -⟩ := boxed V 28 #[.int .i64 0, .int .i64 0, .slice none 0 0]
  have s0 := b0.lt
  have s2 := b2.lt
  replace b0 := b0.below bV2
  replace bV := bV.trans (bV2.mono bV.size)
  replace hs := hs.below bV
  clear bV2
  obtain ⟨c0, c1, c2, -⟩ := b0.open3
  go_enter Try.func25, Try.ntmps25
  go_wp2_with fail
  refine (specFrameOk_any W H hs hlen).mono ?_
  rintro e w3 ⟨rfl, b3⟩
  replace b0 := b0.below b3
  replace b2 := b2.below b3
  replace hs := hs.below b3
  replace bV := bV.trans (b3.mono bV.size)
  have s3 := b3.size
  clear c0 c1 c2 b3 hV hV2
  rcases hfr : frB W H len f with _ | _
  · have hno := frB_not hfr
    clear hbs
    obtain ⟨d0, d1, d2, f0, f1, f2⟩ := b2.open3
    go_wp2
    have a7 := put3_at b2 (.int .i64 0) (.int .i64 0) (.slice none 0 0)
    obtain ⟨p0, p1, p2, -⟩ := a7.open3
    refine bodyPost_ret (v := .tuple #[fV 0 0 (.slice none 0 0), .bool false]) (by simp [results, Try.results25, go_sem, p0, p1, p2]) rfl ?_
    exact ⟨_, _, _, _, _, _, rfl, .inr ⟨fun h => hno h.1, rfl, rfl, rfl, rfl, rfl⟩, zero_fr _ _ _, below_put3 bV (by omega) _ _ _⟩
  · have hok := frB_of hfr
    by_cases hdm : 4096 < dl
    · have hm' : (4096 : Int) < (dl : Int) := by omega
      clear hbs
      obtain ⟨d0, d1, d2, f0, f1, f2⟩ := b2.open3
      go_wp2
      have a7 := put3_at b2 (.int .i64 0) (.int .i64 0) (.slice none 0 0)
      obtain ⟨p0, p1, p2, -⟩ := a7.open3
      refine bodyPost_ret (v := .tuple #[fV 0 0 (.slice none 0 0), .bool false]) (by simp [results, Try.results25, go_sem, p0, p1, p2]) rfl ?_
      exact ⟨_, _, _, _, _, _, rfl, .inr ⟨fun h => by have := h.2.1; omega, rfl, rfl, rfl, rfl, rfl⟩, zero_fr _ _ _, below_put3 bV (by omega) _ _ _⟩
    · have hm' : ¬ (4096 : Int) < (dl : Int) := by omega
      obtain ⟨hW, hH, hl, -⟩ := hok
      have p1 := mul_in (a := W) (b := H) (x := 64) (y := 64) (by omega) (by omega)
      have hl1 : 0 < len := by
        have := Int.mul_pos (show (0 : Int) < W by omega) (show (0 : Int) < H by omega)
        omega
      have hl2 : len ≤ 4096 := by omega
      have Hl : Hid ((len : Int) = W * H) := hl
      clear hl
      rcases hs with h0 | ⟨b, off, rfl, hb, hr⟩
      · omega
      go_wp2_with fail
      go_cut [6] from 17 to 25 (fun s6 wc => ∃ q g cc, s6 = .pointer (some ⟨q, 0, none⟩) ∧ Below w.heap.size w wc ∧ At 28 wc w.heap.size #[.int .i64 W, .int .i64 H, .slice (some ⟨b, off, none⟩) len c] ∧ At 28 wc V.heap.size #[.int .i64 0, .int .i64 0, .slice none 0 0] ∧ At 28 wc q #[.int .i64 W, .int .i64 H, .slice (some ⟨g, 0, none⟩) len cc] ∧ Made wc g cc len f ∧ len ≤ cc ∧ V.heap.size < g ∧ V.heap.size < q ∧ q ≠ g)
      case first =>
        obtain ⟨u0, hu0, bb⟩ : ∃ uu, w3.drew = uu ∧ Below w3.heap.size w3 uu := ⟨_, rfl, (Below.refl _ _).drew⟩
        replace b0 := b0.below bb
        replace b2 := b2.below bb
        replace hr := hr.below hb bb
        replace hb := Nat.lt_of_lt_of_le hb bb.size
        replace bV := bV.trans (bb.mono bV.size)
        have su := bb.size
        clear bb
        refine wp_region_held_drew (S := Kb u0) (by kernel_rfl) (by rw [hu0]; exact Below.refl _ _) (fun hHeld => ?_)
        rw [hu0] at hHeld ⊢
        clear hu0
        have bu : Kb u0 u0 := Below.refl _ _
        change wpAnyH _ _ _ _ _ 11 #[false, false, false, false, false, false, false, false, false, false, false] _ _
        refine wpAnyH_take (i := 0) (v := .pointer (some ⟨w.heap.size, 0, none⟩)) rfl (by kernel_rfl) (by kernel_rfl) (by kernel_rfl) (fun _ _ _ h => h) (Or.inl ⟨by kernel_rfl, ?_⟩) hHeld ?_
        · intro w' hSw; go_simp
        try simp only [Act.put, List.setIfInBounds_toArray, List.set_cons_zero, List.set_cons_succ, List.getElem_toArray, List.getElem_cons_zero]
        refine wpAnyH_take (i := 1) (v := .int .i64 (W)) rfl (by kernel_rfl) (by kernel_rfl) (by kernel_rfl) (fun _ _ _ h => h) (Or.inl ⟨by kernel_rfl, ?_⟩) hHeld ?_
        · intro w' hSw; obtain ⟨z0, z1, z2, -⟩ := (b0.below hSw).open3; go_simp
        try simp only [Act.put, List.setIfInBounds_toArray, List.set_cons_zero, List.set_cons_succ, List.getElem_toArray, List.getElem_cons_succ, List.getElem_cons_zero]
        refine wpAnyH_take (i := 2) (v := .pointer (some ⟨w.heap.size, 1, none⟩)) rfl (by kernel_rfl) (by kernel_rfl) (by kernel_rfl) (fun _ _ _ h => h) (Or.inl ⟨by kernel_rfl, ?_⟩) hHeld ?_
        · intro w' hSw; go_simp
        try simp only [Act.put, List.setIfInBounds_toArray, List.set_cons_zero, List.set_cons_succ, List.getElem_toArray, List.getElem_cons_succ, List.getElem_cons_zero]
        refine wpAnyH_take (i := 3) (v := .int .i64 (H)) rfl (by kernel_rfl) (by kernel_rfl) (by kernel_rfl) (fun _ _ _ h => h) (Or.inl ⟨by kernel_rfl, ?_⟩) hHeld ?_
        · intro w' hSw; obtain ⟨z0, z1, z2, -⟩ := (b0.below hSw).open3; go_simp
        try simp only [Act.put, List.setIfInBounds_toArray, List.set_cons_zero, List.set_cons_succ, List.getElem_toArray, List.getElem_cons_succ, List.getElem_cons_zero]
        refine wpAnyH_take (i := 5) (v := .pointer (some ⟨w.heap.size, 2, none⟩)) rfl (by kernel_rfl) (by kernel_rfl) (by kernel_rfl) (fun _ _ _ h => h) (Or.inl ⟨by kernel_rfl, ?_⟩) hHeld ?_
        · intro w' hSw; go_simp
        try simp only [Act.put, List.setIfInBounds_toArray, List.set_cons_zero, List.set_cons_succ, List.getElem_toArray, List.getElem_cons_succ, List.getElem_cons_zero]
        refine wpAnyH_take (i := 6) (v := .slice ((some ⟨b, off, none⟩)) len c) rfl (by kernel_rfl) (by kernel_rfl) (by kernel_rfl) (fun _ _ _ h => h) (Or.inl ⟨by kernel_rfl, ?_⟩) hHeld ?_
        · intro w' hSw; obtain ⟨z0, z1, z2, -⟩ := (b0.below hSw).open3; go_simp
        try simp only [Act.put, List.setIfInBounds_toArray, List.set_cons_zero, List.set_cons_succ, List.getElem_toArray, List.getElem_cons_succ, List.getElem_cons_zero]
        refine wpAnyH_ready (rs := [4, 9]) (by kernel_rfl) (by simp) ?_
        refine AllReadyH.cons rfl (fun KK hK' => ?_) (AllReadyH.cons rfl (fun KK hK' => ?_) AllReadyH.nil)
        · go_simp
          obtain ⟨u1, hV4, P4, bb, z4⟩ := boxed u0 2 #[]
          rw [hV4]
          clear hV4
          obtain ⟨p4, hp4⟩ : ∃ q, u0.heap.size = q := ⟨_, rfl⟩
          have hp4b := bu.size
          have O4 : u1.ownsRow p4 2 1 (.slice (some ⟨p4, 0, none⟩) 0 0) 0 [] := ⟨rfl, .inr ⟨p4, 0, #[], rfl, Nat.le_refl _, hp4 ▸ P4, Nat.le_refl _, Nat.zero_le _, rfl, rfl⟩⟩
          replace bu : Kb u0 u1 := bu.trans (bb.mono bu.size)
          have hp4l : p4 < u1.heap.size ∧ u0.heap.size ≤ p4 := by omega
          rw [hp4]
          clear hp4 P4 bb z4 hp4b
          clear hHeld
          refine hK'.out _ _ (bu) (fun hHeld => ?_)
          clear hK' KK
          try simp only [List.setIfInBounds_toArray, List.set_cons_zero, List.set_cons_succ]
          refine wpAnyH_ready (rs := [7, 9]) (by kernel_rfl) (by simp) ?_
          refine AllReadyH.cons rfl (fun KK hK' => ?_) (AllReadyH.cons rfl (fun KK hK' => ?_) AllReadyH.nil)
          · refine step_append_at _ (by rfl) _ _ _ (by rfl) p4 2 i0 _ 1 8 Try.underlying26 hi0 hz0 hz1 hz2 rfl (by omega) (.slice (some ⟨p4, 0, none⟩) 0 0) 0 [] (by rfl) O4 ⟨b, off, none⟩ len c (iCells f len) (by rfl) (by rw [iCells_len]; omega) (ints_news (hr.below hb bu)) (iCells_one _ _) (by unfold maxLen; omega) (by omega) (by omega) ?_
            intro v7 u2 hown hgrow hne hat
            have Q7 : u2.ownsRow p4 2 1 v7 len (iCells f len) := by simpa using hown
            have hv7 : v7 ≠ .slice none 0 0 := fun h => ne_nil _ _ _ (hne.1 h).1
            have Bg : Below u0.heap.size u1 u2 := Below.grown (Below.refl _ _) hgrow (by have := bu.size; omega) (fun x hx => by have := ownBlock_ge O4 hx; omega)
            obtain ⟨g, cc, rfl, hg, hc, hm⟩ := made_of Q7 hv7
            have hgl := hm.lt
            have hgw : g = p4 ∨ g = u1.heap.size := by simpa only [Value.ownBlock, Option.some.injEq] using hat
            replace bu : Kb u0 u2 := bu.trans Bg
            have zz := hgrow.size
            have hgb : u0.heap.size ≤ g := by omega
            clear hat hv7 hown hgrow hne Bg Q7 O4
            clear hHeld
            refine hK'.out _ _ (bu) (fun hHeld => ?_)
            clear hK' KK
            try simp only [List.setIfInBounds_toArray, List.set_cons_zero, List.set_cons_succ]
            refine wpAnyH_take (i := 8) (v := .agg #[.int .i64 (W), .int .i64 (H), .slice ((some ⟨g, 0, none⟩)) len cc]) rfl (by kernel_rfl) (by kernel_rfl) (by kernel_rfl) (fun _ _ _ h => h) (Or.inl ⟨by kernel_rfl, ?_⟩) hHeld ?_
            · intro w' hSw; go_simp
            try simp only [Act.put, List.setIfInBounds_toArray, List.set_cons_zero, List.set_cons_succ, List.getElem_toArray, List.getElem_cons_succ, List.getElem_cons_zero]
            refine wpAnyH_ready (rs := [9]) (by kernel_rfl) (by simp) ?_
            refine AllReadyH.cons rfl (fun KK hK' => ?_) AllReadyH.nil
            go_simp
            obtain ⟨u3, hV9, Z, bb, z9⟩ := boxed u2 28 #[.int .i64 0, .int .i64 0, .slice none 0 0]
            rw [hV9]
            clear hV9
            replace hm : Made u3 g cc len f := hm.bel bb
            obtain ⟨q, hq⟩ : ∃ q, u2.heap.size = q := ⟨_, rfl⟩
            rw [hq] at Z ⊢
            have hqb : u0.heap.size ≤ q ∧ q < u3.heap.size := by have := bu.size; omega
            replace bu : Kb u0 u3 := bu.trans (bb.mono bu.size)
            have hqg : q ≠ g := by omega
            clear bb z9 hq
            clear hHeld
            refine hK'.out _ _ (bu) (fun hHeld => ?_)
            clear hK' KK
            try simp only [List.setIfInBounds_toArray, List.set_cons_zero, List.set_cons_succ]
            refine wpAnyH_ready (rs := [10]) (by kernel_rfl) (by simp) ?_
            refine AllReadyH.cons rfl (fun KK hK' => ?_) AllReadyH.nil
            obtain ⟨d0, d1, d2, f0, f1, f2⟩ := Z.open3
            go_simp
            obtain ⟨u4, hx, X, hm2, bu2⟩ : ∃ y, ((u3.setCell ⟨q, 0, none⟩ (.int .i64 W)).setCell ⟨q, 1, none⟩ (.int .i64 H)).setCell ⟨q, 2, none⟩ (.slice (some ⟨g, 0, none⟩) len cc) = y ∧ At 28 y q #[.int .i64 W, .int .i64 H, .slice (some ⟨g, 0, none⟩) len cc] ∧ Made y g cc len f ∧ Kb u0 y := ⟨_, rfl, put3_at Z _ _ _, Made.setOther (Made.setOther (Made.setOther hm (by omega) _) (by omega) _) (by omega) _, below_put3 bu (by omega) _ _ _⟩
            rw [hx]
            clear hx bu Z hm d0 d1 d2 f0 f1 f2
            have bu := bu2
            clear bu2
            clear hHeld
            refine hK'.out _ _ (bu) (fun hHeld => ?_)
            clear hK' KK
            try simp only [List.setIfInBounds_toArray, List.set_cons_zero, List.set_cons_succ]
            refine wpAnyH_done (by kernel_rfl) ?_ _
            clear hHeld
            go_wp2_with fail
            go_meet
            case rel => exact ⟨q, g, cc, rfl, bV.trans (bu.mono bV.size), b0.below bu, b2.below bu, X, hm2, hc, by omega, by omega, by omega⟩
          · go_simp
            obtain ⟨u2, hV9, Z, bb, z9⟩ := boxed u1 28 #[.int .i64 0, .int .i64 0, .slice none 0 0]
            rw [hV9]
            clear hV9
            replace O4 := own_below O4 bb
            obtain ⟨q, hq⟩ : ∃ q, u1.heap.size = q := ⟨_, rfl⟩
            rw [hq] at Z ⊢
            have hqb : u0.heap.size ≤ q ∧ q < u2.heap.size := by have := bu.size; omega
            replace bu : Kb u0 u2 := bu.trans (bb.mono bu.size)
            have hqp : q ≠ p4 := by omega
            have hp4m : p4 < u2.heap.size := by omega
            clear bb z9 hq
            clear hHeld
            refine hK'.out _ _ (bu) (fun hHeld => ?_)
            clear hK' KK
            try simp only [List.setIfInBounds_toArray, List.set_cons_zero, List.set_cons_succ]
            refine wpAnyH_ready (rs := [7]) (by kernel_rfl) (by simp) ?_
            refine AllReadyH.cons rfl (fun KK hK' => ?_) AllReadyH.nil
            refine step_append_at _ (by rfl) _ _ _ (by rfl) p4 2 i0 _ 1 8 Try.underlying26 hi0 hz0 hz1 hz2 rfl (by omega) (.slice (some ⟨p4, 0, none⟩) 0 0) 0 [] (by rfl) O4 ⟨b, off, none⟩ len c (iCells f len) (by rfl) (by rw [iCells_len]; omega) (ints_news (hr.below hb bu)) (iCells_one _ _) (by unfold maxLen; omega) (by omega) (by omega) ?_
            intro v7 u3 hown hgrow hne hat
            have Q7 : u3.ownsRow p4 2 1 v7 len (iCells f len) := by simpa using hown
            have hv7 : v7 ≠ .slice none 0 0 := fun h => ne_nil _ _ _ (hne.1 h).1
            have Bg : Below u0.heap.size u2 u3 := Below.grown (Below.refl _ _) hgrow (by have := bu.size; omega) (fun x hx => by have := ownBlock_ge O4 hx; omega)
            replace Z : At 28 u3 q #[.int .i64 0, .int .i64 0, .slice none 0 0] := (hgrow.block q Z.lt (fun e => by simp only [Value.ownBlock, Option.some.injEq] at e; omega)).trans Z
            obtain ⟨g, cc, rfl, hg, hc, hm⟩ := made_of Q7 hv7
            have hgl := hm.lt
            have hgw : g = p4 ∨ g = u2.heap.size := by simpa only [Value.ownBlock, Option.some.injEq] using hat
            replace bu : Kb u0 u3 := bu.trans Bg
            have zz := hgrow.size
            have hqg : q ≠ g := by omega
            have hgb : u0.heap.size ≤ g := by omega
            clear hat hv7 hown hgrow hne Bg Q7 O4
            clear hHeld
            refine hK'.out _ _ (bu) (fun hHeld => ?_)
            clear hK' KK
            try simp only [List.setIfInBounds_toArray, List.set_cons_zero, List.set_cons_succ]
            refine wpAnyH_take (i := 8) (v := .agg #[.int .i64 (W), .int .i64 (H), .slice ((some ⟨g, 0, none⟩)) len cc]) rfl (by kernel_rfl) (by kernel_rfl) (by kernel_rfl) (fun _ _ _ h => h) (Or.inl ⟨by kernel_rfl, ?_⟩) hHeld ?_
            · intro w' hSw; go_simp
            try simp only [Act.put, List.setIfInBounds_toArray, List.set_cons_zero, List.set_cons_succ, List.getElem_toArray, List.getElem_cons_succ, List.getElem_cons_zero]
            refine wpAnyH_ready (rs := [10]) (by kernel_rfl) (by simp) ?_
            refine AllReadyH.cons rfl (fun KK hK' => ?_) AllReadyH.nil
            obtain ⟨d0, d1, d2, f0, f1, f2⟩ := Z.open3
            go_simp
            obtain ⟨u4, hx, X, hm2, bu2⟩ : ∃ y, ((u3.setCell ⟨q, 0, none⟩ (.int .i64 W)).setCell ⟨q, 1, none⟩ (.int .i64 H)).setCell ⟨q, 2, none⟩ (.slice (some ⟨g, 0, none⟩) len cc) = y ∧ At 28 y q #[.int .i64 W, .int .i64 H, .slice (some ⟨g, 0, none⟩) len cc] ∧ Made y g cc len f ∧ Kb u0 y := ⟨_, rfl, put3_at Z _ _ _, Made.setOther (Made.setOther (Made.setOther hm (by omega) _) (by omega) _) (by omega) _, below_put3 bu (by omega) _ _ _⟩
            rw [hx]
            clear hx bu Z hm d0 d1 d2 f0 f1 f2
            have bu := bu2
            clear bu2
            clear hHeld
            refine hK'.out _ _ (bu) (fun hHeld => ?_)
            clear hK' KK
            try simp only [List.setIfInBounds_toArray, List.set_cons_zero, List.set_cons_succ]
            refine wpAnyH_done (by kernel_rfl) ?_ _
            clear hHeld
            go_wp2_with fail
            go_meet
            case rel => exact ⟨q, g, cc, rfl, bV.trans (bu.mono bV.size), b0.below bu, b2.below bu, X, hm2, hc, by omega, by omega, by omega⟩
        · go_simp
          obtain ⟨u1, hV9, Z, bb, z9⟩ := boxed u0 28 #[.int .i64 0, .int .i64 0, .slice none 0 0]
          rw [hV9]
          clear hV9
          obtain ⟨q, hq⟩ : ∃ q, u0.heap.size = q := ⟨_, rfl⟩
          rw [hq] at Z ⊢
          have hqb : u0.heap.size ≤ q ∧ q < u1.heap.size := by have := bu.size; omega
          replace bu : Kb u0 u1 := bu.trans (bb.mono bu.size)
          clear bb z9 hq
          clear hHeld
          refine hK'.out _ _ (bu) (fun hHeld => ?_)
          clear hK' KK
          try simp only [List.setIfInBounds_toArray, List.set_cons_zero, List.set_cons_succ]
          refine wpAnyH_ready (rs := [4]) (by kernel_rfl) (by simp) ?_
          refine AllReadyH.cons rfl (fun KK hK' => ?_) AllReadyH.nil
          go_simp
          obtain ⟨u2, hV4, P4, bb, z4⟩ := boxed u1 2 #[]
          rw [hV4]
          clear hV4
          replace Z := Z.below bb
          obtain ⟨p4, hp4⟩ : ∃ q, u1.heap.size = q := ⟨_, rfl⟩
          have hp4b := bu.size
          have O4 : u2.ownsRow p4 2 1 (.slice (some ⟨p4, 0, none⟩) 0 0) 0 [] := ⟨rfl, .inr ⟨p4, 0, #[], rfl, Nat.le_refl _, hp4 ▸ P4, Nat.le_refl _, Nat.zero_le _, rfl, rfl⟩⟩
          replace bu : Kb u0 u2 := bu.trans (bb.mono bu.size)
          have hp4l : p4 < u2.heap.size ∧ u0.heap.size ≤ p4 := by omega
          have hqp : q ≠ p4 := by omega
          have hqm : q < u2.heap.size := by omega
          rw [hp4]
          clear hp4 P4 bb z4 hp4b
          clear hHeld
          refine hK'.out _ _ (bu) (fun hHeld => ?_)
          clear hK' KK
          try simp only [List.setIfInBounds_toArray, List.set_cons_zero, List.set_cons_succ]
          refine wpAnyH_ready (rs := [7]) (by kernel_rfl) (by simp) ?_
          refine AllReadyH.cons rfl (fun KK hK' => ?_) AllReadyH.nil
          refine step_append_at _ (by rfl) _ _ _ (by rfl) p4 2 i0 _ 1 8 Try.underlying26 hi0 hz0 hz1 hz2 rfl (by omega) (.slice (some ⟨p4, 0, none⟩) 0 0) 0 [] (by rfl) O4 ⟨b, off, none⟩ len c (iCells f len) (by rfl) (by rw [iCells_len]; omega) (ints_news (hr.below hb bu)) (iCells_one _ _) (by unfold maxLen; omega) (by omega) (by omega) ?_
          intro v7 u3 hown hgrow hne hat
          have Q7 : u3.ownsRow p4 2 1 v7 len (iCells f len) := by simpa using hown
          have hv7 : v7 ≠ .slice none 0 0 := fun h => ne_nil _ _ _ (hne.1 h).1
          have Bg : Below u0.heap.size u2 u3 := Below.grown (Below.refl _ _) hgrow (by have := bu.size; omega) (fun x hx => by have := ownBlock_ge O4 hx; omega)
          replace Z : At 28 u3 q #[.int .i64 0, .int .i64 0, .slice none 0 0] := (hgrow.block q Z.lt (fun e => by simp only [Value.ownBlock, Option.some.injEq] at e; omega)).trans Z
          obtain ⟨g, cc, rfl, hg, hc, hm⟩ := made_of Q7 hv7
          have hgl := hm.lt
          have hgw : g = p4 ∨ g = u2.heap.size := by simpa only [Value.ownBlock, Option.some.injEq] using hat
          replace bu : Kb u0 u3 := bu.trans Bg
          have zz := hgrow.size
          have hqg : q ≠ g := by omega
          have hgb : u0.heap.size ≤ g := by omega
          clear hat hv7 hown hgrow hne Bg Q7 O4
          clear hHeld
          refine hK'.out _ _ (bu) (fun hHeld => ?_)
          clear hK' KK
          try simp only [List.setIfInBounds_toArray, List.set_cons_zero, List.set_cons_succ]
          refine wpAnyH_take (i := 8) (v := .agg #[.int .i64 (W), .int .i64 (H), .slice ((some ⟨g, 0, none⟩)) len cc]) rfl (by kernel_rfl) (by kernel_rfl) (by kernel_rfl) (fun _ _ _ h => h) (Or.inl ⟨by kernel_rfl, ?_⟩) hHeld ?_
          · intro w' hSw; go_simp
          try simp only [Act.put, List.setIfInBounds_toArray, List.set_cons_zero, List.set_cons_succ, List.getElem_toArray, List.getElem_cons_succ, List.getElem_cons_zero]
          refine wpAnyH_ready (rs := [10]) (by kernel_rfl) (by simp) ?_
          refine AllReadyH.cons rfl (fun KK hK' => ?_) AllReadyH.nil
          obtain ⟨d0, d1, d2, f0, f1, f2⟩ := Z.open3
          go_simp
          obtain ⟨u4, hx, X, hm2, bu2⟩ : ∃ y, ((u3.setCell ⟨q, 0, none⟩ (.int .i64 W)).setCell ⟨q, 1, none⟩ (.int .i64 H)).setCell ⟨q, 2, none⟩ (.slice (some ⟨g, 0, none⟩) len cc) = y ∧ At 28 y q #[.int .i64 W, .int .i64 H, .slice (some ⟨g, 0, none⟩) len cc] ∧ Made y g cc len f ∧ Kb u0 y := ⟨_, rfl, put3_at Z _ _ _, Made.setOther (Made.setOther (Made.setOther hm (by omega) _) (by omega) _) (by omega) _, below_put3 bu (by omega) _ _ _⟩
          rw [hx]
          clear hx bu Z hm d0 d1 d2 f0 f1 f2
          have bu := bu2
          clear bu2
          clear hHeld
          refine hK'.out _ _ (bu) (fun hHeld => ?_)
          clear hK' KK
          try simp only [List.setIfInBounds_toArray, List.set_cons_zero, List.set_cons_succ]
          refine wpAnyH_done (by kernel_rfl) ?_ _
          clear hHeld
          go_wp2_with fail
          go_meet
          case rel => exact ⟨q, g, cc, rfl, bV.trans (bu.mono bV.size), b0.below bu, b2.below bu, X, hm2, hc, by omega, by omega, by omega⟩
      case rest =>
        obtain ⟨qx, g, cc, rfl, bW, b0, b2, x0, hm, hc, hx1, hx2, hqg⟩ := hcut
        clear bV hb hr hbs
        have r0 : Below w.heap.size w wc ∧ At 28 wc w.heap.size #[.int .i64 W, .int .i64 H, .slice (some ⟨b, off, none⟩) len c] ∧ At 28 wc V.heap.size #[.int .i64 0, .int .i64 0, .slice none 0 0] ∧ At 28 wc qx #[.int .i64 W, .int .i64 H, .slice (some ⟨g, 0, none⟩) len cc] ∧ Made wc g cc len (mk0 f d 0) := ⟨bW, b0, b2, x0, hm⟩
        clear bW b0 b2 x0 hm
        go_wp2_with fail
        go_loopw [7] (fun s wr => ∃ k : Nat, k ≤ dl ∧ s = .int .i64 k ∧ (∀ j, j < k → 0 ≤ d j ∧ d j < len) ∧ Below w.heap.size w wr ∧ At 28 wr w.heap.size #[.int .i64 W, .int .i64 H, .slice (some ⟨b, off, none⟩) len c] ∧ At 28 wr V.heap.size #[.int .i64 0, .int .i64 0, .slice none 0 0] ∧ At 28 wr qx #[.int .i64 W, .int .i64 H, .slice (some ⟨g, 0, none⟩) len cc] ∧ Made wr g cc len (mk0 f d k)) (fun s _ => dl - (intOf s).toNat)
        case atStart => exact ⟨0, Nat.zero_le _, rfl, fun j hj => absurd hj (Nat.not_lt_zero _), r0⟩
        case round =>
          clear r0
          obtain ⟨k, hk, rfl, hall, bW, b0, b2, x0, hm⟩ := hrel
          by_cases hlt : k < dl
          · have hlt' : (k : Int) < (dl : Int) := by omega
            have hk0 : (0 : Int) ≤ (k : Int) := by omega
            rcases hd with h0 | ⟨b', off', rfl, hb', hr'⟩
            · omega
            have g0 := (bW.cell (p := ⟨b', off' + k, none⟩) hb').trans (hr' k hlt)
            by_cases q1 : d k < 0
            · have hbad : ¬ mOk W H len f dl d := fun h => by have := h.2.2 k hlt; omega
              go_wp2_with fail
              obtain ⟨u0, hu0, bb⟩ : ∃ uu, wr.drew = uu ∧ Below wr.heap.size wr uu := ⟨_, rfl, (Below.refl _ _).drew⟩
              replace b0 := b0.below bb
              replace b2 := b2.below bb
              replace x0 := x0.below bb
              replace hm : Made u0 g cc len (mk0 f d k) := hm.bel bb
              replace g0 := (bb.cell (p := ⟨b', off' + k, none⟩) (Nat.lt_of_lt_of_le hb' bW.size)).trans g0
              have hbu : b' < u0.heap.size := Nat.lt_of_lt_of_le hb' (Nat.le_trans bW.size bb.size)
              have s8 := bb.size
              replace bW := bW.trans (bb.mono bW.size)
              clear bb
              refine wp_region_held_drew (S := Kb u0) (by kernel_rfl) (by rw [hu0]; exact Below.refl _ _) (fun hHeld => ?_)
              rw [hu0] at hHeld ⊢
              clear hu0
              have bu : Kb u0 u0 := Below.refl _ _
              change wpAnyH _ _ _ _ _ 15 #[false, false, false, false, false, false, false, false, false, false, false, false, false, false, false] _ _
              refine wpAnyH_take (i := 0) (v := .slice ((some ⟨b', off', none⟩)) dl dc) rfl (by kernel_rfl) (by kernel_rfl) (by kernel_rfl) (fun _ _ _ h => h) (Or.inl ⟨by kernel_rfl, ?_⟩) hHeld ?_
              · intro w' hSw; go_simp
              try simp only [Act.put, List.setIfInBounds_toArray, List.set_cons_zero, List.set_cons_succ, List.getElem_toArray, List.getElem_cons_zero]
              refine wpAnyH_take (i := 1) (v := .int .i64 ((k : Int))) rfl (by kernel_rfl) (by kernel_rfl) (by kernel_rfl) (fun _ _ _ h => h) (Or.inl ⟨by kernel_rfl, ?_⟩) hHeld ?_
              · intro w' hSw; go_simp
              try simp only [Act.put, List.setIfInBounds_toArray, List.set_cons_zero, List.set_cons_succ, List.getElem_toArray, List.getElem_cons_succ, List.getElem_cons_zero]
              refine wpAnyH_take (i := 2) (v := .pointer (some ⟨b', off' + k, none⟩)) rfl (by kernel_rfl) (by kernel_rfl) (by kernel_rfl) (fun _ _ _ h => h) (Or.inl ⟨by kernel_rfl, ?_⟩) hHeld ?_
              · intro w' hSw; go_simp
              try simp only [Act.put, List.setIfInBounds_toArray, List.set_cons_zero, List.set_cons_succ, List.getElem_toArray, List.getElem_cons_succ, List.getElem_cons_zero]
              refine wpAnyH_take (i := 3) (v := .int .i64 (d k)) rfl (by kernel_rfl) (by kernel_rfl) (by kernel_rfl) (fun _ _ _ h => h) (Or.inl ⟨by kernel_rfl, ?_⟩) hHeld ?_
              · intro w' hSw; have z0 := (fun {w' : World} (hSw : Kb u0 w') => (Below.cell (p := ⟨b', off' + k, none⟩) hSw hbu).trans g0) hSw; go_simp
              try simp only [Act.put, List.setIfInBounds_toArray, List.set_cons_zero, List.set_cons_succ, List.getElem_toArray, List.getElem_cons_succ, List.getElem_cons_zero]
              refine wpAnyH_take (i := 4) (v := .bool true) rfl (by kernel_rfl) (by kernel_rfl) (by kernel_rfl) (fun _ _ _ h => h) (Or.inl ⟨by kernel_rfl, ?_⟩) hHeld ?_
              · intro w' hSw; go_simp
              try simp only [Act.put, List.setIfInBounds_toArray, List.set_cons_zero, List.set_cons_succ, List.getElem_toArray, List.getElem_cons_succ, List.getElem_cons_zero]
              refine wpAnyH_take (i := 5) (v := .bool true) rfl (by kernel_rfl) (by kernel_rfl) (by kernel_rfl) (fun _ _ _ h => h) (Or.inl ⟨by kernel_rfl, ?_⟩) hHeld ?_
              · intro w' hSw; go_simp
              try simp only [Act.put, List.setIfInBounds_toArray, List.set_cons_zero, List.set_cons_succ, List.getElem_toArray, List.getElem_cons_succ, List.getElem_cons_zero]
              refine wpAnyH_take (i := 6) (v := undef) rfl (by kernel_rfl) (by kernel_rfl) (by kernel_rfl) (fun _ _ _ h => h) (Or.inr ⟨by kernel_rfl, rfl⟩) hHeld ?_
              try simp only [Act.put, List.setIfInBounds_toArray, List.set_cons_zero, List.set_cons_succ, List.getElem_toArray, List.getElem_cons_succ, List.getElem_cons_zero]
              refine wpAnyH_take (i := 7) (v := undef) rfl (by kernel_rfl) (by kernel_rfl) (by kernel_rfl) (fun _ _ _ h => h) (Or.inr ⟨by kernel_rfl, rfl⟩) hHeld ?_
              try simp only [Act.put, List.setIfInBounds_toArray, List.set_cons_zero, List.set_cons_succ, List.getElem_toArray, List.getElem_cons_succ, List.getElem_cons_zero]
              refine wpAnyH_take (i := 8) (v := undef) rfl (by kernel_rfl) (by kernel_rfl) (by kernel_rfl) (fun _ _ _ h => h) (Or.inr ⟨by kernel_rfl, rfl⟩) hHeld ?_
              try simp only [Act.put, List.setIfInBounds_toArray, List.set_cons_zero, List.set_cons_succ, List.getElem_toArray, List.getElem_cons_succ, List.getElem_cons_zero]
              refine wpAnyH_take (i := 9) (v := undef) rfl (by kernel_rfl) (by kernel_rfl) (by kernel_rfl) (fun _ _ _ h => h) (Or.inr ⟨by kernel_rfl, rfl⟩) hHeld ?_
              try simp only [Act.put, List.setIfInBounds_toArray, List.set_cons_zero, List.set_cons_succ, List.getElem_toArray, List.getElem_cons_succ, List.getElem_cons_zero]
              refine wpAnyH_take (i := 10) (v := undef) rfl (by kernel_rfl) (by kernel_rfl) (by kernel_rfl) (fun _ _ _ h => h) (Or.inr ⟨by kernel_rfl, rfl⟩) hHeld ?_
              try simp only [Act.put, List.setIfInBounds_toArray, List.set_cons_zero, List.set_cons_succ, List.getElem_toArray, List.getElem_cons_succ, List.getElem_cons_zero]
              refine wpAnyH_take (i := 11) (v := undef) rfl (by kernel_rfl) (by kernel_rfl) (by kernel_rfl) (fun _ _ _ h => h) (Or.inr ⟨by kernel_rfl, rfl⟩) hHeld ?_
              try simp only [Act.put, List.setIfInBounds_toArray, List.set_cons_zero, List.set_cons_succ, List.getElem_toArray, List.getElem_cons_succ, List.getElem_cons_zero]
              refine wpAnyH_take (i := 12) (v := undef) rfl (by kernel_rfl) (by kernel_rfl) (by kernel_rfl) (fun _ _ _ h => h) (Or.inr ⟨by kernel_rfl, rfl⟩) hHeld ?_
              try simp only [Act.put, List.setIfInBounds_toArray, List.set_cons_zero, List.set_cons_succ, List.getElem_toArray, List.getElem_cons_succ, List.getElem_cons_zero]
              refine wpAnyH_take (i := 13) (v := undef) rfl (by kernel_rfl) (by kernel_rfl) (by kernel_rfl) (fun _ _ _ h => h) (Or.inr ⟨by kernel_rfl, rfl⟩) hHeld ?_
              try simp only [Act.put, List.setIfInBounds_toArray, List.set_cons_zero, List.set_cons_succ, List.getElem_toArray, List.getElem_cons_succ, List.getElem_cons_zero]
              refine wpAnyH_take (i := 14) (v := .bool true) rfl (by kernel_rfl) (by kernel_rfl) (by kernel_rfl) (fun _ _ _ h => h) (Or.inl ⟨by kernel_rfl, ?_⟩) hHeld ?_
              · intro w' hSw; go_simp
              try simp only [Act.put, List.setIfInBounds_toArray, List.set_cons_zero, List.set_cons_succ, List.getElem_toArray, List.getElem_cons_succ, List.getElem_cons_zero]
              refine wpAnyH_done (by kernel_rfl) ?_ _
              clear hHeld
              clear bu
              obtain ⟨d0, d1, d2, f0, f1, f2⟩ := b2.open3
              go_wp2
              have a7 := put3_at b2 (.int .i64 0) (.int .i64 0) (.slice none 0 0)
              obtain ⟨p0, p1, p2, -⟩ := a7.open3
              refine bodyPost_ret (v := .tuple #[fV 0 0 (.slice none 0 0), .bool false]) (by simp [results, Try.results25, go_sem, p0, p1, p2]) rfl ?_
              exact ⟨_, _, _, _, _, _, rfl, .inr ⟨hbad, rfl, rfl, rfl, rfl, rfl⟩, zero_fr _ _ _, below_put3 bW (by omega) _ _ _⟩
            · by_cases q2 : (len : Int) ≤ d k
              · have hbad : ¬ mOk W H len f dl d := fun h => by have := h.2.2 k hlt; omega
                go_wp2_with fail
                obtain ⟨u0, hu0, bb⟩ : ∃ uu, wr.drew = uu ∧ Below wr.heap.size wr uu := ⟨_, rfl, (Below.refl _ _).drew⟩
                replace b0 := b0.below bb
                replace b2 := b2.below bb
                replace x0 := x0.below bb
                replace hm : Made u0 g cc len (mk0 f d k) := hm.bel bb
                replace g0 := (bb.cell (p := ⟨b', off' + k, none⟩) (Nat.lt_of_lt_of_le hb' bW.size)).trans g0
                have hbu : b' < u0.heap.size := Nat.lt_of_lt_of_le hb' (Nat.le_trans bW.size bb.size)
                have s8 := bb.size
                replace bW := bW.trans (bb.mono bW.size)
                clear bb
                refine wp_region_held_drew (S := Kb u0) (by kernel_rfl) (by rw [hu0]; exact Below.refl _ _) (fun hHeld => ?_)
                rw [hu0] at hHeld ⊢
                clear hu0
                have bu : Kb u0 u0 := Below.refl _ _
                change wpAnyH _ _ _ _ _ 15 #[false, false, false, false, false, false, false, false, false, false, false, false, false, false, false] _ _
                refine wpAnyH_take (i := 0) (v := .slice ((some ⟨b', off', none⟩)) dl dc) rfl (by kernel_rfl) (by kernel_rfl) (by kernel_rfl) (fun _ _ _ h => h) (Or.inl ⟨by kernel_rfl, ?_⟩) hHeld ?_
                · intro w' hSw; go_simp
                try simp only [Act.put, List.setIfInBounds_toArray, List.set_cons_zero, List.set_cons_succ, List.getElem_toArray, List.getElem_cons_zero]
                refine wpAnyH_take (i := 1) (v := .int .i64 ((k : Int))) rfl (by kernel_rfl) (by kernel_rfl) (by kernel_rfl) (fun _ _ _ h => h) (Or.inl ⟨by kernel_rfl, ?_⟩) hHeld ?_
                · intro w' hSw; go_simp
                try simp only [Act.put, List.setIfInBounds_toArray, List.set_cons_zero, List.set_cons_succ, List.getElem_toArray, List.getElem_cons_succ, List.getElem_cons_zero]
                refine wpAnyH_take (i := 2) (v := .pointer (some ⟨b', off' + k, none⟩)) rfl (by kernel_rfl) (by kernel_rfl) (by kernel_rfl) (fun _ _ _ h => h) (Or.inl ⟨by kernel_rfl, ?_⟩) hHeld ?_
                · intro w' hSw; go_simp
                try simp only [Act.put, List.setIfInBounds_toArray, List.set_cons_zero, List.set_cons_succ, List.getElem_toArray, List.getElem_cons_succ, List.getElem_cons_zero]
                refine wpAnyH_take (i := 3) (v := .int .i64 (d k)) rfl (by kernel_rfl) (by kernel_rfl) (by kernel_rfl) (fun _ _ _ h => h) (Or.inl ⟨by kernel_rfl, ?_⟩) hHeld ?_
                · intro w' hSw; have z0 := (fun {w' : World} (hSw : Kb u0 w') => (Below.cell (p := ⟨b', off' + k, none⟩) hSw hbu).trans g0) hSw; go_simp
                try simp only [Act.put, List.setIfInBounds_toArray, List.set_cons_zero, List.set_cons_succ, List.getElem_toArray, List.getElem_cons_succ, List.getElem_cons_zero]
                refine wpAnyH_take (i := 4) (v := .bool false) rfl (by kernel_rfl) (by kernel_rfl) (by kernel_rfl) (fun _ _ _ h => h) (Or.inl ⟨by kernel_rfl, ?_⟩) hHeld ?_
                · intro w' hSw; go_simp
                try simp only [Act.put, List.setIfInBounds_toArray, List.set_cons_zero, List.set_cons_succ, List.getElem_toArray, List.getElem_cons_succ, List.getElem_cons_zero]
                refine wpAnyH_take (i := 5) (v := .bool false) rfl (by kernel_rfl) (by kernel_rfl) (by kernel_rfl) (fun _ _ _ h => h) (Or.inl ⟨by kernel_rfl, ?_⟩) hHeld ?_
                · intro w' hSw; go_simp
                try simp only [Act.put, List.setIfInBounds_toArray, List.set_cons_zero, List.set_cons_succ, List.getElem_toArray, List.getElem_cons_succ, List.getElem_cons_zero]
                refine wpAnyH_take (i := 6) (v := .slice ((some ⟨b', off', none⟩)) dl dc) rfl (by kernel_rfl) (by kernel_rfl) (by kernel_rfl) (fun _ _ _ h => h) (Or.inl ⟨by kernel_rfl, ?_⟩) hHeld ?_
                · intro w' hSw; go_simp
                try simp only [Act.put, List.setIfInBounds_toArray, List.set_cons_zero, List.set_cons_succ, List.getElem_toArray, List.getElem_cons_succ, List.getElem_cons_zero]
                refine wpAnyH_take (i := 7) (v := .int .i64 ((k : Int))) rfl (by kernel_rfl) (by kernel_rfl) (by kernel_rfl) (fun _ _ _ h => h) (Or.inl ⟨by kernel_rfl, ?_⟩) hHeld ?_
                · intro w' hSw; go_simp
                try simp only [Act.put, List.setIfInBounds_toArray, List.set_cons_zero, List.set_cons_succ, List.getElem_toArray, List.getElem_cons_succ, List.getElem_cons_zero]
                refine wpAnyH_take (i := 8) (v := .pointer (some ⟨b', off' + k, none⟩)) rfl (by kernel_rfl) (by kernel_rfl) (by kernel_rfl) (fun _ _ _ h => h) (Or.inl ⟨by kernel_rfl, ?_⟩) hHeld ?_
                · intro w' hSw; go_simp
                try simp only [Act.put, List.setIfInBounds_toArray, List.set_cons_zero, List.set_cons_succ, List.getElem_toArray, List.getElem_cons_succ, List.getElem_cons_zero]
                refine wpAnyH_take (i := 9) (v := .int .i64 (d k)) rfl (by kernel_rfl) (by kernel_rfl) (by kernel_rfl) (fun _ _ _ h => h) (Or.inl ⟨by kernel_rfl, ?_⟩) hHeld ?_
                · intro w' hSw; have z0 := (fun {w' : World} (hSw : Kb u0 w') => (Below.cell (p := ⟨b', off' + k, none⟩) hSw hbu).trans g0) hSw; go_simp
                try simp only [Act.put, List.setIfInBounds_toArray, List.set_cons_zero, List.set_cons_succ, List.getElem_toArray, List.getElem_cons_succ, List.getElem_cons_zero]
                refine wpAnyH_take (i := 10) (v := .pointer (some ⟨w.heap.size, 2, none⟩)) rfl (by kernel_rfl) (by kernel_rfl) (by kernel_rfl) (fun _ _ _ h => h) (Or.inl ⟨by kernel_rfl, ?_⟩) hHeld ?_
                · intro w' hSw; go_simp
                try simp only [Act.put, List.setIfInBounds_toArray, List.set_cons_zero, List.set_cons_succ, List.getElem_toArray, List.getElem_cons_succ, List.getElem_cons_zero]
                refine wpAnyH_take (i := 11) (v := .slice ((some ⟨b, off, none⟩)) len c) rfl (by kernel_rfl) (by kernel_rfl) (by kernel_rfl) (fun _ _ _ h => h) (Or.inl ⟨by kernel_rfl, ?_⟩) hHeld ?_
                · intro w' hSw; obtain ⟨z0, z1, z2, -⟩ := (b0.below hSw).open3; go_simp
                try simp only [Act.put, List.setIfInBounds_toArray, List.set_cons_zero, List.set_cons_succ, List.getElem_toArray, List.getElem_cons_succ, List.getElem_cons_zero]
                refine wpAnyH_take (i := 12) (v := .int .i64 (len)) rfl (by kernel_rfl) (by kernel_rfl) (by kernel_rfl) (fun _ _ _ h => h) (Or.inl ⟨by kernel_rfl, ?_⟩) hHeld ?_
                · intro w' hSw; go_simp
                try simp only [Act.put, List.setIfInBounds_toArray, List.set_cons_zero, List.set_cons_succ, List.getElem_toArray, List.getElem_cons_succ, List.getElem_cons_zero]
                refine wpAnyH_take (i := 13) (v := .bool true) rfl (by kernel_rfl) (by kernel_rfl) (by kernel_rfl) (fun _ _ _ h => h) (Or.inl ⟨by kernel_rfl, ?_⟩) hHeld ?_
                · intro w' hSw; go_simp
                try simp only [Act.put, List.setIfInBounds_toArray, List.set_cons_zero, List.set_cons_succ, List.getElem_toArray, List.getElem_cons_succ, List.getElem_cons_zero]
                refine wpAnyH_take (i := 14) (v := .bool true) rfl (by kernel_rfl) (by kernel_rfl) (by kernel_rfl) (fun _ _ _ h => h) (Or.inl ⟨by kernel_rfl, ?_⟩) hHeld ?_
                · intro w' hSw; go_simp
                try simp only [Act.put, List.setIfInBounds_toArray, List.set_cons_zero, List.set_cons_succ, List.getElem_toArray, List.getElem_cons_succ, List.getElem_cons_zero]
                refine wpAnyH_done (by kernel_rfl) ?_ _
                clear hHeld
                clear bu
                obtain ⟨d0, d1, d2, f0, f1, f2⟩ := b2.open3
                go_wp2
                have a7 := put3_at b2 (.int .i64 0) (.int .i64 0) (.slice none 0 0)
                obtain ⟨p0, p1, p2, -⟩ := a7.open3
                refine bodyPost_ret (v := .tuple #[fV 0 0 (.slice none 0 0), .bool false]) (by simp [results, Try.results25, go_sem, p0, p1, p2]) rfl ?_
                exact ⟨_, _, _, _, _, _, rfl, .inr ⟨hbad, rfl, rfl, rfl, rfl, rfl⟩, zero_fr _ _ _, below_put3 bW (by omega) _ _ _⟩
              · obtain ⟨q, hq⟩ : ∃ q : Nat, d k = (q : Int) := ⟨(d k).toNat, by omega⟩
                have hqn : q < len := by omega
                have hq1 : (q : Int) < (len : Int) := by omega
                have hq2 : ¬ ((len : Int) ≤ (q : Int)) := by omega
                have hq3 : ¬ (q : Int) < 0 := by omega
                rw [hq] at g0
                go_wp2_with fail
                obtain ⟨u0, hu0, bb⟩ : ∃ uu, wr.drew = uu ∧ Below wr.heap.size wr uu := ⟨_, rfl, (Below.refl _ _).drew⟩
                replace b0 := b0.below bb
                replace b2 := b2.below bb
                replace x0 := x0.below bb
                replace hm : Made u0 g cc len (mk0 f d k) := hm.bel bb
                replace g0 := (bb.cell (p := ⟨b', off' + k, none⟩) (Nat.lt_of_lt_of_le hb' bW.size)).trans g0
                have hbu : b' < u0.heap.size := Nat.lt_of_lt_of_le hb' (Nat.le_trans bW.size bb.size)
                have s8 := bb.size
                replace bW := bW.trans (bb.mono bW.size)
                clear bb
                refine wp_region_held_drew (S := Kb u0) (by kernel_rfl) (by rw [hu0]; exact Below.refl _ _) (fun hHeld => ?_)
                rw [hu0] at hHeld ⊢
                clear hu0
                have bu : Kb u0 u0 := Below.refl _ _
                change wpAnyH _ _ _ _ _ 15 #[false, false, false, false, false, false, false, false, false, false, false, false, false, false, false] _ _
                refine wpAnyH_take (i := 0) (v := .slice ((some ⟨b', off', none⟩)) dl dc) rfl (by kernel_rfl) (by kernel_rfl) (by kernel_rfl) (fun _ _ _ h => h) (Or.inl ⟨by kernel_rfl, ?_⟩) hHeld ?_
                · intro w' hSw; go_simp
                try simp only [Act.put, List.setIfInBounds_toArray, List.set_cons_zero, List.set_cons_succ, List.getElem_toArray, List.getElem_cons_zero]
                refine wpAnyH_take (i := 1) (v := .int .i64 ((k : Int))) rfl (by kernel_rfl) (by kernel_rfl) (by kernel_rfl) (fun _ _ _ h => h) (Or.inl ⟨by kernel_rfl, ?_⟩) hHeld ?_
                · intro w' hSw; go_simp
                try simp only [Act.put, List.setIfInBounds_toArray, List.set_cons_zero, List.set_cons_succ, List.getElem_toArray, List.getElem_cons_succ, List.getElem_cons_zero]
                refine wpAnyH_take (i := 2) (v := .pointer (some ⟨b', off' + k, none⟩)) rfl (by kernel_rfl) (by kernel_rfl) (by kernel_rfl) (fun _ _ _ h => h) (Or.inl ⟨by kernel_rfl, ?_⟩) hHeld ?_
                · intro w' hSw; go_simp
                try simp only [Act.put, List.setIfInBounds_toArray, List.set_cons_zero, List.set_cons_succ, List.getElem_toArray, List.getElem_cons_succ, List.getElem_cons_zero]
                refine wpAnyH_take (i := 3) (v := .int .i64 ((q : Int))) rfl (by kernel_rfl) (by kernel_rfl) (by kernel_rfl) (fun _ _ _ h => h) (Or.inl ⟨by kernel_rfl, ?_⟩) hHeld ?_
                · intro w' hSw; have z0 := (fun {w' : World} (hSw : Kb u0 w') => (Below.cell (p := ⟨b', off' + k, none⟩) hSw hbu).trans g0) hSw; go_simp
                try simp only [Act.put, List.setIfInBounds_toArray, List.set_cons_zero, List.set_cons_succ, List.getElem_toArray, List.getElem_cons_succ, List.getElem_cons_zero]
                refine wpAnyH_take (i := 4) (v := .bool false) rfl (by kernel_rfl) (by kernel_rfl) (by kernel_rfl) (fun _ _ _ h => h) (Or.inl ⟨by kernel_rfl, ?_⟩) hHeld ?_
                · intro w' hSw; go_simp
                try simp only [Act.put, List.setIfInBounds_toArray, List.set_cons_zero, List.set_cons_succ, List.getElem_toArray, List.getElem_cons_succ, List.getElem_cons_zero]
                refine wpAnyH_take (i := 5) (v := .bool false) rfl (by kernel_rfl) (by kernel_rfl) (by kernel_rfl) (fun _ _ _ h => h) (Or.inl ⟨by kernel_rfl, ?_⟩) hHeld ?_
                · intro w' hSw; go_simp
                try simp only [Act.put, List.setIfInBounds_toArray, List.set_cons_zero, List.set_cons_succ, List.getElem_toArray, List.getElem_cons_succ, List.getElem_cons_zero]
                refine wpAnyH_take (i := 6) (v := .slice ((some ⟨b', off', none⟩)) dl dc) rfl (by kernel_rfl) (by kernel_rfl) (by kernel_rfl) (fun _ _ _ h => h) (Or.inl ⟨by kernel_rfl, ?_⟩) hHeld ?_
                · intro w' hSw; go_simp
                try simp only [Act.put, List.setIfInBounds_toArray, List.set_cons_zero, List.set_cons_succ, List.getElem_toArray, List.getElem_cons_succ, List.getElem_cons_zero]
                refine wpAnyH_take (i := 7) (v := .int .i64 ((k : Int))) rfl (by kernel_rfl) (by kernel_rfl) (by kernel_rfl) (fun _ _ _ h => h) (Or.inl ⟨by kernel_rfl, ?_⟩) hHeld ?_
                · intro w' hSw; go_simp
                try simp only [Act.put, List.setIfInBounds_toArray, List.set_cons_zero, List.set_cons_succ, List.getElem_toArray, List.getElem_cons_succ, List.getElem_cons_zero]
                refine wpAnyH_take (i := 8) (v := .pointer (some ⟨b', off' + k, none⟩)) rfl (by kernel_rfl) (by kernel_rfl) (by kernel_rfl) (fun _ _ _ h => h) (Or.inl ⟨by kernel_rfl, ?_⟩) hHeld ?_
                · intro w' hSw; go_simp
                try simp only [Act.put, List.setIfInBounds_toArray, List.set_cons_zero, List.set_cons_succ, List.getElem_toArray, List.getElem_cons_succ, List.getElem_cons_zero]
                refine wpAnyH_take (i := 9) (v := .int .i64 ((q : Int))) rfl (by kernel_rfl) (by kernel_rfl) (by kernel_rfl) (fun _ _ _ h => h) (Or.inl ⟨by kernel_rfl, ?_⟩) hHeld ?_
                · intro w' hSw; have z0 := (fun {w' : World} (hSw : Kb u0 w') => (Below.cell (p := ⟨b', off' + k, none⟩) hSw hbu).trans g0) hSw; go_simp
                try simp only [Act.put, List.setIfInBounds_toArray, List.set_cons_zero, List.set_cons_succ, List.getElem_toArray, List.getElem_cons_succ, List.getElem_cons_zero]
                refine wpAnyH_take (i := 10) (v := .pointer (some ⟨w.heap.size, 2, none⟩)) rfl (by kernel_rfl) (by kernel_rfl) (by kernel_rfl) (fun _ _ _ h => h) (Or.inl ⟨by kernel_rfl, ?_⟩) hHeld ?_
                · intro w' hSw; go_simp
                try simp only [Act.put, List.setIfInBounds_toArray, List.set_cons_zero, List.set_cons_succ, List.getElem_toArray, List.getElem_cons_succ, List.getElem_cons_zero]
                refine wpAnyH_take (i := 11) (v := .slice ((some ⟨b, off, none⟩)) len c) rfl (by kernel_rfl) (by kernel_rfl) (by kernel_rfl) (fun _ _ _ h => h) (Or.inl ⟨by kernel_rfl, ?_⟩) hHeld ?_
                · intro w' hSw; obtain ⟨z0, z1, z2, -⟩ := (b0.below hSw).open3; go_simp
                try simp only [Act.put, List.setIfInBounds_toArray, List.set_cons_zero, List.set_cons_succ, List.getElem_toArray, List.getElem_cons_succ, List.getElem_cons_zero]
                refine wpAnyH_take (i := 12) (v := .int .i64 (len)) rfl (by kernel_rfl) (by kernel_rfl) (by kernel_rfl) (fun _ _ _ h => h) (Or.inl ⟨by kernel_rfl, ?_⟩) hHeld ?_
                · intro w' hSw; go_simp
                try simp only [Act.put, List.setIfInBounds_toArray, List.set_cons_zero, List.set_cons_succ, List.getElem_toArray, List.getElem_cons_succ, List.getElem_cons_zero]
                refine wpAnyH_take (i := 13) (v := .bool false) rfl (by kernel_rfl) (by kernel_rfl) (by kernel_rfl) (fun _ _ _ h => h) (Or.inl ⟨by kernel_rfl, ?_⟩) hHeld ?_
                · intro w' hSw; go_simp
                try simp only [Act.put, List.setIfInBounds_toArray, List.set_cons_zero, List.set_cons_succ, List.getElem_toArray, List.getElem_cons_succ, List.getElem_cons_zero]
                refine wpAnyH_take (i := 14) (v := .bool false) rfl (by kernel_rfl) (by kernel_rfl) (by kernel_rfl) (fun _ _ _ h => h) (Or.inl ⟨by kernel_rfl, ?_⟩) hHeld ?_
                · intro w' hSw; go_simp
                try simp only [Act.put, List.setIfInBounds_toArray, List.set_cons_zero, List.set_cons_succ, List.getElem_toArray, List.getElem_cons_succ, List.getElem_cons_zero]
                refine wpAnyH_done (by kernel_rfl) ?_ _
                clear hHeld
                clear bu
                go_wp2_with fail
                obtain ⟨u9, hu0, bb⟩ : ∃ uu, u0.drew = uu ∧ Below u0.heap.size u0 uu := ⟨_, rfl, (Below.refl _ _).drew⟩
                replace b0 := b0.below bb
                replace b2 := b2.below bb
                replace x0 := x0.below bb
                replace hm : Made u9 g cc len (mk0 f d k) := hm.bel bb
                replace g0 := (bb.cell (p := ⟨b', off' + k, none⟩) hbu).trans g0
                have s9 := bb.size
                replace bW := bW.trans (bb.mono bW.size)
                clear bb
                refine wp_region_held_drew (S := fun w' => At 28 w' qx #[.int .i64 W, .int .i64 H, .slice (some ⟨g, 0, none⟩) len cc] ∧ w'.cell? ⟨b', off' + k, none⟩ = some (.int .i64 (q : Int))) (by kernel_rfl) (by rw [hu0]; exact ⟨x0, g0⟩) (fun hHeld => ?_)
                rw [hu0] at hHeld ⊢
                clear hu0
                change wpAnyH _ _ _ _ _ 8 #[false, false, false, false, false, false, false, false] _ _
                refine wpAnyH_take (i := 0) (v := .pointer (some ⟨qx, 2, none⟩)) rfl (by kernel_rfl) (by kernel_rfl) (by kernel_rfl) (fun _ _ _ h => h) (Or.inl ⟨by kernel_rfl, ?_⟩) hHeld ?_
                · intro w' hSw; go_simp
                try simp only [Act.put, List.setIfInBounds_toArray, List.set_cons_zero, List.set_cons_succ, List.getElem_toArray, List.getElem_cons_zero]
                refine wpAnyH_take (i := 1) (v := .slice (some ⟨g, 0, none⟩) len cc) rfl (by kernel_rfl) (by kernel_rfl) (by kernel_rfl) (fun _ _ _ h => h) (Or.inl ⟨by kernel_rfl, ?_⟩) hHeld ?_
                · intro w' hSw; obtain ⟨h1, z9⟩ := hSw; obtain ⟨z0, z1, z2, -⟩ := h1.open3; go_simp
                try simp only [Act.put, List.setIfInBounds_toArray, List.set_cons_zero, List.set_cons_succ, List.getElem_toArray, List.getElem_cons_succ, List.getElem_cons_zero]
                refine wpAnyH_take (i := 2) (v := .slice ((some ⟨b', off', none⟩)) dl dc) rfl (by kernel_rfl) (by kernel_rfl) (by kernel_rfl) (fun _ _ _ h => h) (Or.inl ⟨by kernel_rfl, ?_⟩) hHeld ?_
                · intro w' hSw; go_simp
                try simp only [Act.put, List.setIfInBounds_toArray, List.set_cons_zero, List.set_cons_succ, List.getElem_toArray, List.getElem_cons_succ, List.getElem_cons_zero]
                refine wpAnyH_take (i := 3) (v := .int .i64 ((k : Int))) rfl (by kernel_rfl) (by kernel_rfl) (by kernel_rfl) (fun _ _ _ h => h) (Or.inl ⟨by kernel_rfl, ?_⟩) hHeld ?_
                · intro w' hSw; go_simp
                try simp only [Act.put, List.setIfInBounds_toArray, List.set_cons_zero, List.set_cons_succ, List.getElem_toArray, List.getElem_cons_succ, List.getElem_cons_zero]
                refine wpAnyH_take (i := 4) (v := .pointer (some ⟨b', off' + k, none⟩)) rfl (by kernel_rfl) (by kernel_rfl) (by kernel_rfl) (fun _ _ _ h => h) (Or.inl ⟨by kernel_rfl, ?_⟩) hHeld ?_
                · intro w' hSw; go_simp
                try simp only [Act.put, List.setIfInBounds_toArray, List.set_cons_zero, List.set_cons_succ, List.getElem_toArray, List.getElem_cons_succ, List.getElem_cons_zero]
                refine wpAnyH_take (i := 5) (v := .int .i64 ((q : Int))) rfl (by kernel_rfl) (by kernel_rfl) (by kernel_rfl) (fun _ _ _ h => h) (Or.inl ⟨by kernel_rfl, ?_⟩) hHeld ?_
                · intro w' hSw; obtain ⟨h1, z9⟩ := hSw; obtain ⟨z0, z1, z2, -⟩ := h1.open3; go_simp
                try simp only [Act.put, List.setIfInBounds_toArray, List.set_cons_zero, List.set_cons_succ, List.getElem_toArray, List.getElem_cons_succ, List.getElem_cons_zero]
                refine wpAnyH_take (i := 6) (v := .pointer (some ⟨g, q, none⟩)) rfl (by kernel_rfl) (by kernel_rfl) (by kernel_rfl) (fun _ _ _ h => h) (Or.inl ⟨by kernel_rfl, ?_⟩) hHeld ?_
                · intro w' hSw; go_simp
                try simp only [Act.put, List.setIfInBounds_toArray, List.set_cons_zero, List.set_cons_succ, List.getElem_toArray, List.getElem_cons_succ, List.getElem_cons_zero]
                refine wpAnyH_ready (rs := [7]) (by kernel_rfl) (by simp) ?_
                refine AllReadyH.cons rfl (fun KK hK' => ?_) AllReadyH.nil
                obtain ⟨z0, y0⟩ := hm.at hqn
                go_simp
                obtain ⟨u1, hx, x1, B0, B2, HM, bW2, g1, hs9⟩ : ∃ y, u9.setCell ⟨g, q, none⟩ (.int .i64 0) = y ∧ At 28 y qx #[.int .i64 W, .int .i64 H, .slice (some ⟨g, 0, none⟩) len cc] ∧ At 28 y w.heap.size #[.int .i64 W, .int .i64 H, .slice (some ⟨b, off, none⟩) len c] ∧ At 28 y V.heap.size #[.int .i64 0, .int .i64 0, .slice none 0 0] ∧ Made y g cc len (mk0 f d (k + 1)) ∧ Below w.heap.size w y ∧ y.cell? ⟨b', off' + k, none⟩ = some (.int .i64 (q : Int)) ∧ u9.heap.size ≤ y.heap.size := ⟨_, rfl, x0.setOther (by omega) _, b0.setOther (by omega) _, b2.setOther (by omega) _, mk0_made hq hqn hc hm, bW.setCell (show w.heap.size ≤ g by omega) _, (World.cell?_of_block (w := u9) (Below.heap_setCell _ _ _ _ (show b' ≠ g by omega))).trans g0, by simp [World.setCell]⟩
                rw [hx]
                clear hx z0 y0 hm b0 b2 x0 g0 bW
                have x0 := x1
                have g0 := g1
                clear x1 g1
                clear hHeld
                refine hK'.out _ _ (⟨x0, g0⟩) (fun hHeld => ?_)
                clear hK' KK
                try simp only [List.setIfInBounds_toArray, List.set_cons_zero, List.set_cons_succ]
                refine wpAnyH_done (by kernel_rfl) ?_ _
                clear hHeld
                go_wp2
                refine ⟨⟨k + 1, by omega, by go_num, fun j hj => ?_, bW2, B0, B2, x0, HM⟩, by simp [intOf]; omega⟩
                by_cases e : j = k
                · subst e; omega
                · exact hall j (by omega)
          · have hlt' : ¬ (k : Int) < (dl : Int) := by omega
            obtain rfl : k = dl := by omega
            obtain ⟨c0, c1, c2, -⟩ := x0.open3
            obtain ⟨d0, d1, d2, f0, f1, f2⟩ := b2.open3
            go_wp2
            have a7 := put3_at b2 (.int .i64 W) (.int .i64 H) (.slice (some ⟨g, 0, none⟩) len cc)
            obtain ⟨p0, p1, p2, -⟩ := a7.open3
            refine bodyPost_ret (v := .tuple #[fV W H (.slice (some ⟨g, 0, none⟩) len cc), .bool true]) (by simp [results, Try.results25, go_sem, p0, p1, p2]) rfl ?_
            have oo := Made.setOther (Made.setOther (Made.setOther (q := V.heap.size) (i := 0) hm (by omega) (.int .i64 W)) (q := V.heap.size) (i := 1) (by omega) (.int .i64 H)) (q := V.heap.size) (i := 2) (by omega) (.slice (some ⟨g, 0, none⟩) len cc)
            exact ⟨_, _, _, _, _, _, rfl, .inl ⟨⟨frB_of hfr, by omega, hall⟩, rfl, rfl, rfl, rfl, rfl⟩, ⟨_, rfl, arr_of_made oo hc (by omega)⟩, below_put3 bW (by omega) _ _ _⟩
end Go.Proofs.Ytlofbgkefalpoaa
