/-
  A lab and a deed drawn: walked.
-/
import Derived.Test.YtnjnffemidaopaaL17zi
namespace Go.Proofs.Ytnjnffemidaopaa
open Go.RowKit

/-- What the draw of a lab and a deed tells. -/
def LdD (w : World) (e : Ending) (w' : World) : Prop := ∃ vS vJ n f m g T x0 x1 x2 x3, e = .returned (.tuple #[labV vS vJ T, deedV x0 x1 x2 x3]) ∧ n ≤ 100 ∧ m ≤ 300 ∧ ArK 3 37 w' w.heap.size w'.heap.size vS n f ∧ ArK 4 39 w' w.heap.size w'.heap.size vJ m g ∧ Below w.heap.size w w'
set_option maxRecDepth 100000 in
set_option maxHeartbeats 12800000 in
theorem drawDo_any (hD : DeedC) {w : World} {a : Option Addr} {len cap : Nat} (hr : Row w w.heap.size a len) :
    Calls Try.prog 10 #[.slice a len cap] w (LdD w) := by
  obtain ⟨W1, hW1, A2, A3, B1, hsz⟩ := bx2n w 27 29 #[.slice none 0 0, .slice none 0 0, .int .i64 0] #[.int .i64 0, .int .i64 0, .int .i64 0, .int .i64 0]
  obtain ⟨q2, hq2⟩ : ∃ q, w.heap.size = q := ⟨_, rfl⟩
  obtain ⟨q3, hq3⟩ : ∃ q, q2 + 1 = q := ⟨_, rfl⟩
  rw [hq2] at A2 A3
  rw [hq3] at A3
  have hq2w : w.heap.size ≤ q2 := by omega
  have hq3w : w.heap.size ≤ q3 := by omega
  have h23 : q2 ≠ q3 := by omega
  have hr1 : Row W1 W1.heap.size a len := by
    have h0 := hr.kept (Kept.of_below B1) (Nat.le_refl _)
    refine ⟨h0.1, h0.2.imp id ?_⟩
    rintro ⟨b, off, e, hb, hcell⟩
    exact ⟨b, off, e, Nat.lt_of_lt_of_le hb B1.size, hcell⟩
  go_enter Try.func10, Try.ntmps10
  go_wp2_with fail
  refine (new_any hr1).mono ?_
  rintro e w1 ⟨rfl, B, hc⟩
  obtain ⟨p, hp⟩ : ∃ q, W1.heap.size = q := ⟨_, rfl⟩
  rw [hp] at hc ⊢
  have hpw : w.heap.size ≤ p := by have := B1.size; omega
  have hp2 : q2 ≠ p := by have := A2.lt; omega
  have hp3 : q3 ≠ p := by have := A3.lt; omega
  replace A2 := A2.below B
  replace A3 := A3.below B
  replace B1 := B1.trans (B.mono B1.size)
  have hbs1 := B1.size
  clear hW1 hq2 hq3 hsz hp B hr hr1
  go_wp2_with fail
  refine (draw17_any hD hc).mono ?_
  rintro e w2 ⟨vS, vJ, n, f, m, g, T, rfl, hn, hm, hT, S6, J6, hk, hc2⟩
  replace A2 := A2.keptL hk hp2
  replace A3 := A3.keptL hk hp3
  obtain ⟨sS, cS, rfl, -, -⟩ := S6.ls
  obtain ⟨sJ, cJ, rfl, -, -⟩ := J6.ls
  obtain ⟨V3, hV3, A5, b3, -⟩ := boxed w2 27 #[.slice sS n cS, .slice sJ m cJ, .int .i64 T]
  obtain ⟨q5, hq5⟩ : ∃ q, w2.heap.size = q := ⟨_, rfl⟩
  rw [hq5] at A5
  have hq5w : w1.heap.size ≤ q5 := by have := hk.size; omega
  have h25 : q2 ≠ q5 := by have := A2.lt; omega
  have h35 : q3 ≠ q5 := by have := A3.lt; omega
  replace A2 := A2.below b3
  replace A3 := A3.below b3
  have R : DB w1 V3 p a len cap q5 (.slice sS n cS) (.slice sJ m cJ) n f m g T := ⟨⟨A5, (S6.below b3).fit, (J6.below b3).fit, hq5w⟩, hc2.kept b3, hk.trans (Kept.of_below b3), hc.lt⟩
  clear S6 J6 A5 b3 hc2 hk hc
  go_wp2_with fail
  clear hV3 hq5
  refine (once_dr R.st 16 (by omega) (by omega)).mono ?_
  rintro e w4 ⟨b, rfl, hd⟩
  replace R := R.draw hd
  replace A2 := A2.keptL hd.1 hp2
  replace A3 := A3.keptL hd.1 hp3
  clear hd
  cases b
  · skip
    go_wp2_with fail
    obtain ⟨u0, hu0, bb⟩ : ∃ uu, w4.drew = uu ∧ Below w4.heap.size w4 uu := ⟨_, rfl, (Below.refl _ _).drew⟩
    replace R := R.below bb
    replace A2 := A2.below bb
    replace A3 := A3.below bb
    clear bb
    refine wp_region_held_drew (S := AnyW) (by kernel_rfl) (by rw [hu0]; exact trivial) (fun hHeld => ?_)
    rw [hu0] at hHeld ⊢
    clear hu0
    change wpAnyH _ _ _ _ _ 5 #[false, false, false, false, false] _ _
    refine wpAnyH_take (i := 1) (v := .pointer (some ⟨p, 0, none⟩)) rfl (by kernel_rfl) (by kernel_rfl) (by kernel_rfl) (fun _ _ _ h => h) (Or.inl ⟨by kernel_rfl, ?_⟩) hHeld ?_
    · intro w' hSw; go_simp
    try simp only [Act.put, List.setIfInBounds_toArray, List.set_cons_zero, List.set_cons_succ, List.getElem_toArray, List.getElem_cons_succ, List.getElem_cons_zero]
    refine wpAnyH_ready (rs := [0, 2]) (by kernel_rfl) (by simp) ?_
    refine AllReadyH.cons rfl (fun KK hK' => ?_) (AllReadyH.cons rfl (fun KK hK' => ?_) AllReadyH.nil)
    · obtain ⟨z0, z1, z2, -⟩ := R.lk.bx.open3
      go_simp
      clear z0 z1 z2
      clear hHeld
      refine hK'.out _ _ (trivial) (fun hHeld => ?_)
      clear hK' KK
      try simp only [List.setIfInBounds_toArray, List.set_cons_zero]
      refine wpAnyH_ready (rs := [2]) (by kernel_rfl) (by simp) ?_
      refine AllReadyH.cons rfl (fun KK hK' => ?_) AllReadyH.nil
      go_simp
      refine (hD _ _ p a len cap R.st).mono ?_
      rintro e u2 ⟨x0, x1, x2, x3, rfl, hd⟩
      replace R := R.draw hd
      replace A2 := A2.keptL hd.1 hp2
      replace A3 := A3.keptL hd.1 hp3
      clear hd
      try go_wp2_with fail
      clear hHeld
      refine hK'.out _ _ (trivial) (fun hHeld => ?_)
      clear hK' KK
      try simp only [List.setIfInBounds_toArray, List.set_cons_zero, List.set_cons_succ]
      refine wpAnyH_ready (rs := [3]) (by kernel_rfl) (by simp) ?_
      refine AllReadyH.cons rfl (fun KK hK' => ?_) AllReadyH.nil
      obtain ⟨z0, z1, z2, y0, y1, y2⟩ := A2.open3
      go_simp
      have a7 := put3_at A2 (.slice sS n cS) (.slice sJ m cJ) (.int .i64 T)
      have U := put3_only u2 q2 (.slice sS n cS) (.slice sJ m cJ) (.int .i64 T)
      have S7 := (R.lk.S.only U (apart_box (R.lk.S.box A2 (by decide)))).fit
      have J7 := (R.lk.J.only U (apart_box (R.lk.J.box A2 (by decide)))).fit
      have a3 := A3.only U (ownb (Ne.symm h23))
      have B7 := below_put3 (below_kept B1 R.kp hpw hbs1) hq2w (.slice sS n cS) (.slice sJ m cJ) (.int .i64 T)
      obtain ⟨u3, hv⟩ : ∃ V, ((u2.setCell ⟨q2, 0, none⟩ (.slice sS n cS)).setCell ⟨q2, 1, none⟩ (.slice sJ m cJ)).setCell ⟨q2, 2, none⟩ (.int .i64 T) = V := ⟨_, rfl⟩
      rw [hv] at a7 S7 J7 a3 B7 ⊢
      clear hv z0 z1 z2 y0 y1 y2 U R A2 A3
      clear hHeld
      refine hK'.out _ _ (trivial) (fun hHeld => ?_)
      clear hK' KK
      try simp only [List.setIfInBounds_toArray, List.set_cons_zero, List.set_cons_succ]
      refine wpAnyH_ready (rs := [4]) (by kernel_rfl) (by simp) ?_
      refine AllReadyH.cons rfl (fun KK hK' => ?_) AllReadyH.nil
      obtain ⟨c0, c1, c2, c3, -⟩ := Deed.box a3
      obtain ⟨f0, f1, f2, f3⟩ := Deed.boxF a3
      go_simp
      have a8 := Deed.putBox a3 (.int .i64 x0) (.int .i64 x1) (.int .i64 x2) (.int .i64 x3)
      have a9 := (((a7.setOther h23 (i := 0) (.int .i64 x0)).setOther h23 (i := 1) (.int .i64 x1)).setOther h23 (i := 2) (.int .i64 x2)).setOther h23 (i := 3) (.int .i64 x3)
      have U : Only (.slice (some ⟨q3, 0, none⟩) 0 0) u3 ((((u3.setCell ⟨q3, 0, none⟩ (.int .i64 x0)).setCell ⟨q3, 1, none⟩ (.int .i64 x1)).setCell ⟨q3, 2, none⟩ (.int .i64 x2)).setCell ⟨q3, 3, none⟩ (.int .i64 x3)) := .of_kept (a := ⟨q3, 0, none⟩) (Kept.set (Kept.set (Kept.set (Kept.set (Kept.refl q3 u3) (.int .i64 x0)) (.int .i64 x1)) (.int .i64 x2)) (.int .i64 x3))
      have S8 := ((S7.only U (apart_box (S7.box a3 (by decide)))).fit).wide hbs1 (Nat.le_refl _)
      have J8 := ((J7.only U (apart_box (J7.box a3 (by decide)))).fit).wide hbs1 (Nat.le_refl _)
      have B8 := (((B7.setCell (p := ⟨q3, 0, none⟩) hq3w (.int .i64 x0)).setCell (p := ⟨q3, 1, none⟩) hq3w (.int .i64 x1)).setCell (p := ⟨q3, 2, none⟩) hq3w (.int .i64 x2)).setCell (p := ⟨q3, 3, none⟩) hq3w (.int .i64 x3)
      obtain ⟨u4, hv⟩ : ∃ V, ((((u3.setCell ⟨q3, 0, none⟩ (.int .i64 x0)).setCell ⟨q3, 1, none⟩ (.int .i64 x1)).setCell ⟨q3, 2, none⟩ (.int .i64 x2)).setCell ⟨q3, 3, none⟩ (.int .i64 x3)) = V := ⟨_, rfl⟩
      rw [hv] at a8 a9 S8 J8 B8 ⊢
      clear hv c0 c1 c2 c3 f0 f1 f2 f3 U S7 J7 B7 a7 a3
      clear hHeld
      refine hK'.out _ _ (trivial) (fun hHeld => ?_)
      clear hK' KK
      try simp only [List.setIfInBounds_toArray, List.set_cons_zero, List.set_cons_succ]
      refine wpAnyH_done (by kernel_rfl) ?_ _
      clear hHeld
      obtain ⟨p0, p1, p2, -⟩ := a9.open3
      obtain ⟨r0, r1, r2, r3, -⟩ := Deed.box a8
      go_wp2
      refine bodyPost_ret (v := .tuple #[labV (.slice sS n cS) (.slice sJ m cJ) T, deedV x0 x1 x2 x3]) (by simp [results, Try.results10, go_sem, p0, p1, p2, r0, r1, r2, r3]) rfl ?_
      exact ⟨_, _, _, _, _, _, _, _, _, _, _, rfl, hn, hm, S8, J8, B8⟩
    · go_simp
      refine (hD _ _ p a len cap R.st).mono ?_
      rintro e u1 ⟨x0, x1, x2, x3, rfl, hd⟩
      replace R := R.draw hd
      replace A2 := A2.keptL hd.1 hp2
      replace A3 := A3.keptL hd.1 hp3
      clear hd
      try go_wp2_with fail
      clear hHeld
      refine hK'.out _ _ (trivial) (fun hHeld => ?_)
      clear hK' KK
      try simp only [List.setIfInBounds_toArray, List.set_cons_zero, List.set_cons_succ]
      refine wpAnyH_ready (rs := [0]) (by kernel_rfl) (by simp) ?_
      refine AllReadyH.cons rfl (fun KK hK' => ?_) AllReadyH.nil
      obtain ⟨z0, z1, z2, -⟩ := R.lk.bx.open3
      go_simp
      clear z0 z1 z2
      clear hHeld
      refine hK'.out _ _ (trivial) (fun hHeld => ?_)
      clear hK' KK
      try simp only [List.setIfInBounds_toArray, List.set_cons_zero]
      refine wpAnyH_ready (rs := [3]) (by kernel_rfl) (by simp) ?_
      refine AllReadyH.cons rfl (fun KK hK' => ?_) AllReadyH.nil
      obtain ⟨z0, z1, z2, y0, y1, y2⟩ := A2.open3
      go_simp
      have a7 := put3_at A2 (.slice sS n cS) (.slice sJ m cJ) (.int .i64 T)
      have U := put3_only u1 q2 (.slice sS n cS) (.slice sJ m cJ) (.int .i64 T)
      have S7 := (R.lk.S.only U (apart_box (R.lk.S.box A2 (by decide)))).fit
      have J7 := (R.lk.J.only U (apart_box (R.lk.J.box A2 (by decide)))).fit
      have a3 := A3.only U (ownb (Ne.symm h23))
      have B7 := below_put3 (below_kept B1 R.kp hpw hbs1) hq2w (.slice sS n cS) (.slice sJ m cJ) (.int .i64 T)
      obtain ⟨u3, hv⟩ : ∃ V, ((u1.setCell ⟨q2, 0, none⟩ (.slice sS n cS)).setCell ⟨q2, 1, none⟩ (.slice sJ m cJ)).setCell ⟨q2, 2, none⟩ (.int .i64 T) = V := ⟨_, rfl⟩
      rw [hv] at a7 S7 J7 a3 B7 ⊢
      clear hv z0 z1 z2 y0 y1 y2 U R A2 A3
      clear hHeld
      refine hK'.out _ _ (trivial) (fun hHeld => ?_)
      clear hK' KK
      try simp only [List.setIfInBounds_toArray, List.set_cons_zero, List.set_cons_succ]
      refine wpAnyH_ready (rs := [4]) (by kernel_rfl) (by simp) ?_
      refine AllReadyH.cons rfl (fun KK hK' => ?_) AllReadyH.nil
      obtain ⟨c0, c1, c2, c3, -⟩ := Deed.box a3
      obtain ⟨f0, f1, f2, f3⟩ := Deed.boxF a3
      go_simp
      have a8 := Deed.putBox a3 (.int .i64 x0) (.int .i64 x1) (.int .i64 x2) (.int .i64 x3)
      have a9 := (((a7.setOther h23 (i := 0) (.int .i64 x0)).setOther h23 (i := 1) (.int .i64 x1)).setOther h23 (i := 2) (.int .i64 x2)).setOther h23 (i := 3) (.int .i64 x3)
      have U : Only (.slice (some ⟨q3, 0, none⟩) 0 0) u3 ((((u3.setCell ⟨q3, 0, none⟩ (.int .i64 x0)).setCell ⟨q3, 1, none⟩ (.int .i64 x1)).setCell ⟨q3, 2, none⟩ (.int .i64 x2)).setCell ⟨q3, 3, none⟩ (.int .i64 x3)) := .of_kept (a := ⟨q3, 0, none⟩) (Kept.set (Kept.set (Kept.set (Kept.set (Kept.refl q3 u3) (.int .i64 x0)) (.int .i64 x1)) (.int .i64 x2)) (.int .i64 x3))
      have S8 := ((S7.only U (apart_box (S7.box a3 (by decide)))).fit).wide hbs1 (Nat.le_refl _)
      have J8 := ((J7.only U (apart_box (J7.box a3 (by decide)))).fit).wide hbs1 (Nat.le_refl _)
      have B8 := (((B7.setCell (p := ⟨q3, 0, none⟩) hq3w (.int .i64 x0)).setCell (p := ⟨q3, 1, none⟩) hq3w (.int .i64 x1)).setCell (p := ⟨q3, 2, none⟩) hq3w (.int .i64 x2)).setCell (p := ⟨q3, 3, none⟩) hq3w (.int .i64 x3)
      obtain ⟨u4, hv⟩ : ∃ V, ((((u3.setCell ⟨q3, 0, none⟩ (.int .i64 x0)).setCell ⟨q3, 1, none⟩ (.int .i64 x1)).setCell ⟨q3, 2, none⟩ (.int .i64 x2)).setCell ⟨q3, 3, none⟩ (.int .i64 x3)) = V := ⟨_, rfl⟩
      rw [hv] at a8 a9 S8 J8 B8 ⊢
      clear hv c0 c1 c2 c3 f0 f1 f2 f3 U S7 J7 B7 a7 a3
      clear hHeld
      refine hK'.out _ _ (trivial) (fun hHeld => ?_)
      clear hK' KK
      try simp only [List.setIfInBounds_toArray, List.set_cons_zero, List.set_cons_succ]
      refine wpAnyH_done (by kernel_rfl) ?_ _
      clear hHeld
      obtain ⟨p0, p1, p2, -⟩ := a9.open3
      obtain ⟨r0, r1, r2, r3, -⟩ := Deed.box a8
      go_wp2
      refine bodyPost_ret (v := .tuple #[labV (.slice sS n cS) (.slice sJ m cJ) T, deedV x0 x1 x2 x3]) (by simp [results, Try.results10, go_sem, p0, p1, p2, r0, r1, r2, r3]) rfl ?_
      exact ⟨_, _, _, _, _, _, _, _, _, _, _, rfl, hn, hm, S8, J8, B8⟩
  · obtain ⟨z0, z1, z2, y0, y1, y2⟩ := R.lk.bx.open3
    go_wp2_with fail
    refine (spoil_any R.cur (ark_ls R.lk.S) (ark_ls R.lk.J) hn hm (ark_c R.lk.S) (ark_c R.lk.J) hT).mono ?_
    rintro e w5 ⟨vS, vJ, n', f', m', g', T', rfl, hn', hm', S6, J6, hk, hc2⟩
    replace A2 := A2.keptL hk hp2
    replace A3 := A3.keptL hk hp3
    have hlo := R.kp.size
    have bx := R.lk.bx.keptL hk (by have := R.pN; omega)
    have K5 := R.kp.trans hk
    replace S6 := S6.wide hlo (Nat.le_refl _)
    replace J6 := J6.wide hlo (Nat.le_refl _)
    obtain ⟨sS', cS', rfl, -, -⟩ := S6.ls
    obtain ⟨sJ', cJ', rfl, -, -⟩ := J6.ls
    have hpN := R.pN
    clear z0 z1 z2 y0 y1 y2 R hk hlo hT hn hm
    obtain ⟨z0, z1, z2, y0, y1, y2⟩ := bx.open3
    have bx2 := put3_at bx (.slice sS' n' cS') (.slice sJ' m' cJ') (.int .i64 T')
    have U := put3_only w5 q5 (.slice sS' n' cS') (.slice sJ' m' cJ') (.int .i64 T')
    have bl := below_put3 (Below.refl w1.heap.size w5) hq5w (.slice sS' n' cS') (.slice sJ' m' cJ') (.int .i64 T')
    have a2 := A2.only U (ownb h25)
    have a3 := A3.only U (ownb h35)
    have R : DB w1 _ p a len cap q5 (.slice sS' n' cS') (.slice sJ' m' cJ') n' f' m' g' T' := ⟨⟨bx2, (S6.only U (apart_box (S6.box bx (by decide)))).fit, (J6.only U (apart_box (J6.box bx (by decide)))).fit, hq5w⟩, hc2.belowN bl hpN, K5.belowN bl (Nat.le_refl _), hpN⟩
    obtain ⟨w6, hw6⟩ : ∃ V, ((w5.setCell ⟨q5, 0, none⟩ (.slice sS' n' cS')).setCell ⟨q5, 1, none⟩ (.slice sJ' m' cJ')).setCell ⟨q5, 2, none⟩ (.int .i64 T') = V := ⟨_, rfl⟩
    rw [hw6] at R a2 a3
    clear A2 A3 bx bx2 U bl S6 J6 hc2 K5
    go_wp2_with fail
    clear hw6 z0 z1 z2 y0 y1 y2
    rename At 27 w6 q2 _ => A2
    rename At 29 w6 q3 _ => A3
    go_wp2_with fail
    obtain ⟨u0, hu0, bb⟩ : ∃ uu, w6.drew = uu ∧ Below w6.heap.size w6 uu := ⟨_, rfl, (Below.refl _ _).drew⟩
    replace R := R.below bb
    replace A2 := A2.below bb
    replace A3 := A3.below bb
    clear bb
    refine wp_region_held_drew (S := AnyW) (by kernel_rfl) (by rw [hu0]; exact trivial) (fun hHeld => ?_)
    rw [hu0] at hHeld ⊢
    clear hu0
    change wpAnyH _ _ _ _ _ 5 #[false, false, false, false, false] _ _
    refine wpAnyH_take (i := 1) (v := .pointer (some ⟨p, 0, none⟩)) rfl (by kernel_rfl) (by kernel_rfl) (by kernel_rfl) (fun _ _ _ h => h) (Or.inl ⟨by kernel_rfl, ?_⟩) hHeld ?_
    · intro w' hSw; go_simp
    try simp only [Act.put, List.setIfInBounds_toArray, List.set_cons_zero, List.set_cons_succ, List.getElem_toArray, List.getElem_cons_succ, List.getElem_cons_zero]
    refine wpAnyH_ready (rs := [0, 2]) (by kernel_rfl) (by simp) ?_
    refine AllReadyH.cons rfl (fun KK hK' => ?_) (AllReadyH.cons rfl (fun KK hK' => ?_) AllReadyH.nil)
    · obtain ⟨z0, z1, z2, -⟩ := R.lk.bx.open3
      go_simp
      clear z0 z1 z2
      clear hHeld
      refine hK'.out _ _ (trivial) (fun hHeld => ?_)
      clear hK' KK
      try simp only [List.setIfInBounds_toArray, List.set_cons_zero]
      refine wpAnyH_ready (rs := [2]) (by kernel_rfl) (by simp) ?_
      refine AllReadyH.cons rfl (fun KK hK' => ?_) AllReadyH.nil
      go_simp
      refine (hD _ _ p a len cap R.st).mono ?_
      rintro e u2 ⟨x0, x1, x2, x3, rfl, hd⟩
      replace R := R.draw hd
      replace A2 := A2.keptL hd.1 hp2
      replace A3 := A3.keptL hd.1 hp3
      clear hd
      try go_wp2_with fail
      clear hHeld
      refine hK'.out _ _ (trivial) (fun hHeld => ?_)
      clear hK' KK
      try simp only [List.setIfInBounds_toArray, List.set_cons_zero, List.set_cons_succ]
      refine wpAnyH_ready (rs := [3]) (by kernel_rfl) (by simp) ?_
      refine AllReadyH.cons rfl (fun KK hK' => ?_) AllReadyH.nil
      obtain ⟨z0, z1, z2, y0, y1, y2⟩ := A2.open3
      go_simp
      have a7 := put3_at A2 (.slice sS' n' cS') (.slice sJ' m' cJ') (.int .i64 T')
      have U := put3_only u2 q2 (.slice sS' n' cS') (.slice sJ' m' cJ') (.int .i64 T')
      have S7 := (R.lk.S.only U (apart_box (R.lk.S.box A2 (by decide)))).fit
      have J7 := (R.lk.J.only U (apart_box (R.lk.J.box A2 (by decide)))).fit
      have a3 := A3.only U (ownb (Ne.symm h23))
      have B7 := below_put3 (below_kept B1 R.kp hpw hbs1) hq2w (.slice sS' n' cS') (.slice sJ' m' cJ') (.int .i64 T')
      obtain ⟨u3, hv⟩ : ∃ V, ((u2.setCell ⟨q2, 0, none⟩ (.slice sS' n' cS')).setCell ⟨q2, 1, none⟩ (.slice sJ' m' cJ')).setCell ⟨q2, 2, none⟩ (.int .i64 T') = V := ⟨_, rfl⟩
      rw [hv] at a7 S7 J7 a3 B7 ⊢
      clear hv z0 z1 z2 y0 y1 y2 U R A2 A3
      clear hHeld
      refine hK'.out _ _ (trivial) (fun hHeld => ?_)
      clear hK' KK
      try simp only [List.setIfInBounds_toArray, List.set_cons_zero, List.set_cons_succ]
      refine wpAnyH_ready (rs := [4]) (by kernel_rfl) (by simp) ?_
      refine AllReadyH.cons rfl (fun KK hK' => ?_) AllReadyH.nil
      obtain ⟨c0, c1, c2, c3, -⟩ := Deed.box a3
      obtain ⟨f0, f1, f2, f3⟩ := Deed.boxF a3
      go_simp
      have a8 := Deed.putBox a3 (.int .i64 x0) (.int .i64 x1) (.int .i64 x2) (.int .i64 x3)
      have a9 := (((a7.setOther h23 (i := 0) (.int .i64 x0)).setOther h23 (i := 1) (.int .i64 x1)).setOther h23 (i := 2) (.int .i64 x2)).setOther h23 (i := 3) (.int .i64 x3)
      have U : Only (.slice (some ⟨q3, 0, none⟩) 0 0) u3 ((((u3.setCell ⟨q3, 0, none⟩ (.int .i64 x0)).setCell ⟨q3, 1, none⟩ (.int .i64 x1)).setCell ⟨q3, 2, none⟩ (.int .i64 x2)).setCell ⟨q3, 3, none⟩ (.int .i64 x3)) := .of_kept (a := ⟨q3, 0, none⟩) (Kept.set (Kept.set (Kept.set (Kept.set (Kept.refl q3 u3) (.int .i64 x0)) (.int .i64 x1)) (.int .i64 x2)) (.int .i64 x3))
      have S8 := ((S7.only U (apart_box (S7.box a3 (by decide)))).fit).wide hbs1 (Nat.le_refl _)
      have J8 := ((J7.only U (apart_box (J7.box a3 (by decide)))).fit).wide hbs1 (Nat.le_refl _)
      have B8 := (((B7.setCell (p := ⟨q3, 0, none⟩) hq3w (.int .i64 x0)).setCell (p := ⟨q3, 1, none⟩) hq3w (.int .i64 x1)).setCell (p := ⟨q3, 2, none⟩) hq3w (.int .i64 x2)).setCell (p := ⟨q3, 3, none⟩) hq3w (.int .i64 x3)
      obtain ⟨u4, hv⟩ : ∃ V, ((((u3.setCell ⟨q3, 0, none⟩ (.int .i64 x0)).setCell ⟨q3, 1, none⟩ (.int .i64 x1)).setCell ⟨q3, 2, none⟩ (.int .i64 x2)).setCell ⟨q3, 3, none⟩ (.int .i64 x3)) = V := ⟨_, rfl⟩
      rw [hv] at a8 a9 S8 J8 B8 ⊢
      clear hv c0 c1 c2 c3 f0 f1 f2 f3 U S7 J7 B7 a7 a3
      clear hHeld
      refine hK'.out _ _ (trivial) (fun hHeld => ?_)
      clear hK' KK
      try simp only [List.setIfInBounds_toArray, List.set_cons_zero, List.set_cons_succ]
      refine wpAnyH_done (by kernel_rfl) ?_ _
      clear hHeld
      obtain ⟨p0, p1, p2, -⟩ := a9.open3
      obtain ⟨r0, r1, r2, r3, -⟩ := Deed.box a8
      go_wp2
      refine bodyPost_ret (v := .tuple #[labV (.slice sS' n' cS') (.slice sJ' m' cJ') T', deedV x0 x1 x2 x3]) (by simp [results, Try.results10, go_sem, p0, p1, p2, r0, r1, r2, r3]) rfl ?_
      exact ⟨_, _, _, _, _, _, _, _, _, _, _, rfl, hn', hm', S8, J8, B8⟩
    · go_simp
      refine (hD _ _ p a len cap R.st).mono ?_
      rintro e u1 ⟨x0, x1, x2, x3, rfl, hd⟩
      replace R := R.draw hd
      replace A2 := A2.keptL hd.1 hp2
      replace A3 := A3.keptL hd.1 hp3
      clear hd
      try go_wp2_with fail
      clear hHeld
      refine hK'.out _ _ (trivial) (fun hHeld => ?_)
      clear hK' KK
      try simp only [List.setIfInBounds_toArray, List.set_cons_zero, List.set_cons_succ]
      refine wpAnyH_ready (rs := [0]) (by kernel_rfl) (by simp) ?_
      refine AllReadyH.cons rfl (fun KK hK' => ?_) AllReadyH.nil
      obtain ⟨z0, z1, z2, -⟩ := R.lk.bx.open3
      go_simp
      clear z0 z1 z2
      clear hHeld
      refine hK'.out _ _ (trivial) (fun hHeld => ?_)
      clear hK' KK
      try simp only [List.setIfInBounds_toArray, List.set_cons_zero]
      refine wpAnyH_ready (rs := [3]) (by kernel_rfl) (by simp) ?_
      refine AllReadyH.cons rfl (fun KK hK' => ?_) AllReadyH.nil
      obtain ⟨z0, z1, z2, y0, y1, y2⟩ := A2.open3
      go_simp
      have a7 := put3_at A2 (.slice sS' n' cS') (.slice sJ' m' cJ') (.int .i64 T')
      have U := put3_only u1 q2 (.slice sS' n' cS') (.slice sJ' m' cJ') (.int .i64 T')
      have S7 := (R.lk.S.only U (apart_box (R.lk.S.box A2 (by decide)))).fit
      have J7 := (R.lk.J.only U (apart_box (R.lk.J.box A2 (by decide)))).fit
      have a3 := A3.only U (ownb (Ne.symm h23))
      have B7 := below_put3 (below_kept B1 R.kp hpw hbs1) hq2w (.slice sS' n' cS') (.slice sJ' m' cJ') (.int .i64 T')
      obtain ⟨u3, hv⟩ : ∃ V, ((u1.setCell ⟨q2, 0, none⟩ (.slice sS' n' cS')).setCell ⟨q2, 1, none⟩ (.slice sJ' m' cJ')).setCell ⟨q2, 2, none⟩ (.int .i64 T') = V := ⟨_, rfl⟩
      rw [hv] at a7 S7 J7 a3 B7 ⊢
      clear hv z0 z1 z2 y0 y1 y2 U R A2 A3
      clear hHeld
      refine hK'.out _ _ (trivial) (fun hHeld => ?_)
      clear hK' KK
      try simp only [List.setIfInBounds_toArray, List.set_cons_zero, List.set_cons_succ]
      refine wpAnyH_ready (rs := [4]) (by kernel_rfl) (by simp) ?_
      refine AllReadyH.cons rfl (fun KK hK' => ?_) AllReadyH.nil
      obtain ⟨c0, c1, c2, c3, -⟩ := Deed.box a3
      obtain ⟨f0, f1, f2, f3⟩ := Deed.boxF a3
      go_simp
      have a8 := Deed.putBox a3 (.int .i64 x0) (.int .i64 x1) (.int .i64 x2) (.int .i64 x3)
      have a9 := (((a7.setOther h23 (i := 0) (.int .i64 x0)).setOther h23 (i := 1) (.int .i64 x1)).setOther h23 (i := 2) (.int .i64 x2)).setOther h23 (i := 3) (.int .i64 x3)
      have U : Only (.slice (some ⟨q3, 0, none⟩) 0 0) u3 ((((u3.setCell ⟨q3, 0, none⟩ (.int .i64 x0)).setCell ⟨q3, 1, none⟩ (.int .i64 x1)).setCell ⟨q3, 2, none⟩ (.int .i64 x2)).setCell ⟨q3, 3, none⟩ (.int .i64 x3)) := .of_kept (a := ⟨q3, 0, none⟩) (Kept.set (Kept.set (Kept.set (Kept.set (Kept.refl q3 u3) (.int .i64 x0)) (.int .i64 x1)) (.int .i64 x2)) (.int .i64 x3))
      have S8 := ((S7.only U (apart_box (S7.box a3 (by decide)))).fit).wide hbs1 (Nat.le_refl _)
      have J8 := ((J7.only U (apart_box (J7.box a3 (by decide)))).fit).wide hbs1 (Nat.le_refl _)
      have B8 := (((B7.setCell (p := ⟨q3, 0, none⟩) hq3w (.int .i64 x0)).setCell (p := ⟨q3, 1, none⟩) hq3w (.int .i64 x1)).setCell (p := ⟨q3, 2, none⟩) hq3w (.int .i64 x2)).setCell (p := ⟨q3, 3, none⟩) hq3w (.int .i64 x3)
      obtain ⟨u4, hv⟩ : ∃ V, ((((u3.setCell ⟨q3, 0, none⟩ (.int .i64 x0)).setCell ⟨q3, 1, none⟩ (.int .i64 x1)).setCell ⟨q3, 2, none⟩ (.int .i64 x2)).setCell ⟨q3, 3, none⟩ (.int .i64 x3)) = V := ⟨_, rfl⟩
      rw [hv] at a8 a9 S8 J8 B8 ⊢
      clear hv c0 c1 c2 c3 f0 f1 f2 f3 U S7 J7 B7 a7 a3
      clear hHeld
      refine hK'.out _ _ (trivial) (fun hHeld => ?_)
      clear hK' KK
      try simp only [List.setIfInBounds_toArray, List.set_cons_zero, List.set_cons_succ]
      refine wpAnyH_done (by kernel_rfl) ?_ _
      clear hHeld
      obtain ⟨p0, p1, p2, -⟩ := a9.open3
      obtain ⟨r0, r1, r2, r3, -⟩ := Deed.box a8
      go_wp2
      refine bodyPost_ret (v := .tuple #[labV (.slice sS' n' cS') (.slice sJ' m' cJ') T', deedV x0 x1 x2 x3]) (by simp [results, Try.results10, go_sem, p0, p1, p2, r0, r1, r2, r3]) rfl ?_
      exact ⟨_, _, _, _, _, _, _, _, _, _, _, rfl, hn', hm', S8, J8, B8⟩
end Go.Proofs.Ytnjnffemidaopaa
