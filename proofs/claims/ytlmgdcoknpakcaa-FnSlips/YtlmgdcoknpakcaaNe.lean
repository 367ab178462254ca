/-
  Loops around rectangles of nets by the specification, walked.
-/
import Derived.Test.YtlmgdcoknpakcaaNd
namespace Go.Proofs.Ytlmgdcoknpakcaa
open Go.RowKit

set_option maxRecDepth 100000 in
set_option maxHeartbeats 3200000 in
theorem specAround_yes {w : World} {a a' : Option Addr} {lr lu cr cu : Nat} {r u : Nat → Int} (W H x0 y0 x1 y1 : Int) (hr : Src w a lr r) (hu : Src w a' lu u) (hlr : lr ≤ 1048576) (hlu : lu ≤ 1048576) (hok : netOk W H lr r lu u = true) (hx : 0 ≤ x0 ∧ x0 < x1 ∧ x1 < W) (hy : 0 ≤ y0 ∧ y0 < y1 ∧ y1 < H) :
    Calls Try.prog 15 #[nV W H (.slice a lr cr) (.slice a' lu cu), .int .i64 x0, .int .i64 y0, .int .i64 x1, .int .i64 y1] w fun e w' => e = .returned (.tuple #[.int .i64 (arT W r u x0 y0 x1 y1), .bool true]) ∧ Below w.heap.size w w' := by
  obtain ⟨V, hV, b0, bV, -⟩ := boxed w 32 #[.int .i64 W, .int .i64 H, .slice a lr cr, .slice a' lu cu]
  replace hr := hr.below bV
  replace hu := hu.below bV
  obtain ⟨hW, hH, -⟩ := netOk_of_true hok
  obtain ⟨q, hq⟩ : ∃ q, w.heap.size = q := ⟨_, rfl⟩
  rw [hq] at b0
  obtain ⟨c0, c1, c2, c3, -⟩ := b0.open4
  go_enter Try.func15, Try.ntmps15
  go_wp2_with fail
  refine (specNetOk_any W H hr hu hlr hlu).mono ?_
  rintro e w1 ⟨rfl, b1⟩
  rw [hok]
  replace b0 := b0.below b1
  replace hr := hr.below b1
  replace hu := hu.below b1
  replace bV := bV.trans (b1.mono bV.size)
  clear c0 c1 c2 c3 b1
  obtain ⟨c0, c1, c2, c3, -⟩ := b0.open4
  have B0 := b0
  clear hV
  go_wp2
  clear c0 c1 c2 c3
  go_loopw [12, 13] (fun s t wr => ∃ k : Nat, x0 + k ≤ x1 ∧ s = .int .i64 (sm (lower W r x0 y0 y1) k) ∧ t = .int .i64 (x0 + k) ∧ Kb w1 wr) (fun _ t _ => (x1 - intOf t).toNat)
  case atStart => exact ⟨0, by omega, rfl, by simp, Below.refl _ _⟩
  case round =>
    obtain ⟨k, hk, rfl, rfl, hbel⟩ := hrel
    obtain ⟨S, hS⟩ : ∃ S, sm (lower W r x0 y0 y1) k = S := ⟨_, rfl⟩
    obtain ⟨X, hX⟩ : ∃ X, x0 + (k : Int) = X := ⟨_, rfl⟩
    have hSb := lower_in hok hx.1 (y0 := y0) (y1 := y1) (by omega) (by omega) (k := k) (by omega)
    rw [hS] at hSb ⊢
    rw [hX]
    replace b0 := b0.below hbel
    have lq := b0.lt
    obtain ⟨c0, c1, c2, c3, -⟩ := b0.open4
    by_cases hlt : X < x1
    · obtain ⟨j0, hj0, l0, e0, p0b⟩ := right_at hok (x := X) (y := y0) (by omega) (by omega)
      obtain ⟨j1, hj1, l1, e1, p1b⟩ := right_at hok (x := X) (y := y1) (by omega) (by omega)
      have hnext : sm (lower W r x0 y0 y1) (k + 1) = S + (r j0 - r j1) := by simp only [sm, hS, lower]; rw [hX, e0, e1]
      obtain ⟨p0, hp0⟩ : ∃ p, rt W r X y0 = p := ⟨_, rfl⟩
      obtain ⟨p1, hp1⟩ : ∃ p, rt W r X y1 = p := ⟨_, rfl⟩
      rw [← e0, hp0] at p0b hnext
      rw [← e1, hp1] at p1b hnext
      have w1' : IntKind.i64.wrap (S + p0) = S + p0 := IntWalk.i64_in _ (by omega)
      have w2' : IntKind.i64.wrap (S + p0 - p1) = S + p0 - p1 := IntWalk.i64_in _ (by omega)
      go_wp2_with fail
      obtain ⟨u0, hu0, bb⟩ : ∃ u0, wr.drew = u0 ∧ Below wr.heap.size wr u0 := ⟨_, rfl, (Below.refl _ _).drew⟩
      replace b0 := b0.below bb
      have F : Kb wr u0 := bb
      clear bb
      refine wp_region_held_drew (S := Kb wr) (by kernel_rfl) (by rw [hu0]; exact F) (fun hHeld => ?_)
      rw [hu0] at hHeld ⊢
      clear hu0
      change wpAnyH _ _ _ _ _ 12 #[false, false, false, false, false, false, false, false, false, false, false, false] _ _
      refine wpAnyH_take (i := 0) (v := .int .i64 S) rfl (by kernel_rfl) (by kernel_rfl) (by kernel_rfl) (fun _ _ _ h => h) (Or.inl ⟨by kernel_rfl, ?_⟩) hHeld ?_
      · intro w' hSw; go_simp
      try simp only [Act.put, List.setIfInBounds_toArray, List.set_cons_zero, List.set_cons_succ, List.getElem_toArray, List.getElem_cons_zero]
      refine wpAnyH_take (i := 1) (v := nV W H (.slice a lr cr) (.slice a' lu cu)) rfl (by kernel_rfl) (by kernel_rfl) (by kernel_rfl) (fun _ _ _ h => h) (Or.inl ⟨by kernel_rfl, ?_⟩) hHeld ?_
      · intro w' hSw; obtain ⟨hc, hf⟩ := bcell hSw; go_simp
      try simp only [Act.put, List.setIfInBounds_toArray, List.set_cons_zero, List.set_cons_succ, List.getElem_toArray, List.getElem_cons_succ, List.getElem_cons_zero]
      refine wpAnyH_take (i := 2) (v := .int .i64 X) rfl (by kernel_rfl) (by kernel_rfl) (by kernel_rfl) (fun _ _ _ h => h) (Or.inl ⟨by kernel_rfl, ?_⟩) hHeld ?_
      · intro w' hSw; go_simp
      try simp only [Act.put, List.setIfInBounds_toArray, List.set_cons_zero, List.set_cons_succ, List.getElem_toArray, List.getElem_cons_succ, List.getElem_cons_zero]
      refine wpAnyH_take (i := 3) (v := .int .i64 y0) rfl (by kernel_rfl) (by kernel_rfl) (by kernel_rfl) (fun _ _ _ h => h) (Or.inl ⟨by kernel_rfl, ?_⟩) hHeld ?_
      · intro w' hSw; go_simp
      try simp only [Act.put, List.setIfInBounds_toArray, List.set_cons_zero, List.set_cons_succ, List.getElem_toArray, List.getElem_cons_succ, List.getElem_cons_zero]
      refine wpAnyH_take (i := 6) (v := nV W H (.slice a lr cr) (.slice a' lu cu)) rfl (by kernel_rfl) (by kernel_rfl) (by kernel_rfl) (fun _ _ _ h => h) (Or.inl ⟨by kernel_rfl, ?_⟩) hHeld ?_
      · intro w' hSw; obtain ⟨hc, hf⟩ := bcell hSw; go_simp
      try simp only [Act.put, List.setIfInBounds_toArray, List.set_cons_zero, List.set_cons_succ, List.getElem_toArray, List.getElem_cons_succ, List.getElem_cons_zero]
      refine wpAnyH_take (i := 7) (v := .int .i64 X) rfl (by kernel_rfl) (by kernel_rfl) (by kernel_rfl) (fun _ _ _ h => h) (Or.inl ⟨by kernel_rfl, ?_⟩) hHeld ?_
      · intro w' hSw; go_simp
      try simp only [Act.put, List.setIfInBounds_toArray, List.set_cons_zero, List.set_cons_succ, List.getElem_toArray, List.getElem_cons_succ, List.getElem_cons_zero]
      refine wpAnyH_take (i := 8) (v := .int .i64 y1) rfl (by kernel_rfl) (by kernel_rfl) (by kernel_rfl) (fun _ _ _ h => h) (Or.inl ⟨by kernel_rfl, ?_⟩) hHeld ?_
      · intro w' hSw; go_simp
      try simp only [Act.put, List.setIfInBounds_toArray, List.set_cons_zero, List.set_cons_succ, List.getElem_toArray, List.getElem_cons_succ, List.getElem_cons_zero]
      refine wpAnyH_ready (rs := [4]) (by kernel_rfl) (by simp) ?_
      refine AllReadyH.cons rfl (fun KK hK' => ?_) AllReadyH.nil
      go_simp
      refine (specRight_any W H X y0 (hr.below (hbel.below F)) hlr hW ⟨by omega, by omega⟩ ⟨by omega, by omega⟩ (by rw [hj0]; exact_mod_cast l0)).mono ?_
      rintro e u1 ⟨rfl, b1⟩
      replace F := F.below b1
      rw [hp0]
      try go_wp2_with fail
      clear hHeld
      refine hK'.out _ _ (F) (fun hHeld => ?_)
      clear hK' KK
      try simp only [List.setIfInBounds_toArray, List.set_cons_zero, List.set_cons_succ]
      refine wpAnyH_take (i := 5) (v := .int .i64 (S + p0)) rfl (by kernel_rfl) (by kernel_rfl) (by kernel_rfl) (fun _ _ _ h => h) (Or.inl ⟨by kernel_rfl, ?_⟩) hHeld ?_
      · intro w' hSw; go_simp
      try simp only [Act.put, List.setIfInBounds_toArray, List.set_cons_zero, List.set_cons_succ, List.getElem_toArray, List.getElem_cons_succ, List.getElem_cons_zero]
      refine wpAnyH_ready (rs := [9]) (by kernel_rfl) (by simp) ?_
      refine AllReadyH.cons rfl (fun KK hK' => ?_) AllReadyH.nil
      go_simp
      refine (specRight_any W H X y1 (hr.below (hbel.below F)) hlr hW ⟨by omega, by omega⟩ ⟨by omega, by omega⟩ (by rw [hj1]; exact_mod_cast l1)).mono ?_
      rintro e u2 ⟨rfl, b2⟩
      replace F := F.below b2
      rw [hp1]
      try go_wp2_with fail
      clear hHeld
      refine hK'.out _ _ (F) (fun hHeld => ?_)
      clear hK' KK
      try simp only [List.setIfInBounds_toArray, List.set_cons_zero, List.set_cons_succ]
      refine wpAnyH_take (i := 10) (v := .int .i64 (S + p0 - p1)) rfl (by kernel_rfl) (by kernel_rfl) (by kernel_rfl) (fun _ _ _ h => h) (Or.inl ⟨by kernel_rfl, ?_⟩) hHeld ?_
      · intro w' hSw; go_simp
      try simp only [Act.put, List.setIfInBounds_toArray, List.set_cons_zero, List.set_cons_succ, List.getElem_toArray, List.getElem_cons_succ, List.getElem_cons_zero]
      refine wpAnyH_ready (rs := [11]) (by kernel_rfl) (by simp) ?_
      refine AllReadyH.cons rfl (fun KK hK' => ?_) AllReadyH.nil
      go_simp
      clear hHeld
      refine hK'.out _ _ (F) (fun hHeld => ?_)
      clear hK' KK
      try simp only [List.setIfInBounds_toArray, List.set_cons_zero, List.set_cons_succ]
      refine wpAnyH_done (by kernel_rfl) ?_ _
      clear hHeld
      go_wp2
      refine ⟨⟨k + 1, by omega, by rw [hnext]; congr 1; omega, by go_num, hbel.below (Below.trans (Below.refl _ _) F)⟩, by simp [intOf]; omega⟩
    · have hXe : X = x1 := by omega
      have hkx : k = (x1 - x0).toNat := by omega
      have hSx : sm (lower W r x0 y0 y1) (x1 - x0).toNat = S := by rw [← hkx]; exact hS
      clear c0 c1 c2 c3 lq b0
      go_wp2
      go_loopw [12, 14] (fun s t w2 => ∃ k : Nat, y0 + k ≤ y1 ∧ s = .int .i64 (S + sm (sides W u x0 y0 x1) k) ∧ t = .int .i64 (y0 + k) ∧ Kb w1 w2) (fun _ t _ => (y1 - intOf t).toNat)
      case atStart => exact ⟨0, by omega, by simp [sm], by simp, hbel⟩
      case round =>
        clear hbel hk hX hkx hS
        obtain ⟨k, hk, rfl, rfl, hbel⟩ := hrel
        obtain ⟨D, hD⟩ : ∃ D, sm (sides W u x0 y0 x1) k = D := ⟨_, rfl⟩
        obtain ⟨Y, hY⟩ : ∃ Y, y0 + (k : Int) = Y := ⟨_, rfl⟩
        have hDb := sides_in hok hy.1 (x0 := x0) (x1 := x1) (by omega) (by omega) (k := k) (by omega)
        rw [hD] at hDb ⊢
        rw [hY]
        have b0 := B0.below hbel
        have lq := b0.lt
        obtain ⟨c0, c1, c2, c3, -⟩ := b0.open4
        by_cases hlt : Y < y1
        · obtain ⟨j0, hj0, l0, e0, p0b⟩ := up_at hok (x := x1) (y := Y) (by omega) (by omega)
          obtain ⟨j1, hj1, l1, e1, p1b⟩ := up_at hok (x := x0) (y := Y) (by omega) (by omega)
          have hnext : sm (sides W u x0 y0 x1) (k + 1) = D + (u j0 - u j1) := by simp only [sm, hD, sides]; rw [hY, e0, e1]
          obtain ⟨p0, hp0⟩ : ∃ p, ut W u x1 Y = p := ⟨_, rfl⟩
          obtain ⟨p1, hp1⟩ : ∃ p, ut W u x0 Y = p := ⟨_, rfl⟩
          rw [← e0, hp0] at p0b hnext
          rw [← e1, hp1] at p1b hnext
          obtain ⟨S', hS'⟩ : ∃ S', S + D = S' := ⟨_, rfl⟩
          rw [hS']
          have w1' : IntKind.i64.wrap (S' + p0) = S' + p0 := IntWalk.i64_in _ (by omega)
          have w2' : IntKind.i64.wrap (S' + p0 - p1) = S' + p0 - p1 := IntWalk.i64_in _ (by omega)
          go_wp2_with fail
          obtain ⟨u0, hu0, bb⟩ : ∃ u0, wr.drew = u0 ∧ Below wr.heap.size wr u0 := ⟨_, rfl, (Below.refl _ _).drew⟩
          replace b0 := b0.below bb
          have F : Kb wr u0 := bb
          clear bb
          refine wp_region_held_drew (S := Kb wr) (by kernel_rfl) (by rw [hu0]; exact F) (fun hHeld => ?_)
          rw [hu0] at hHeld ⊢
          clear hu0
          change wpAnyH _ _ _ _ _ 12 #[false, false, false, false, false, false, false, false, false, false, false, false] _ _
          refine wpAnyH_take (i := 0) (v := .int .i64 S') rfl (by kernel_rfl) (by kernel_rfl) (by kernel_rfl) (fun _ _ _ h => h) (Or.inl ⟨by kernel_rfl, ?_⟩) hHeld ?_
          · intro w' hSw; go_simp
          try simp only [Act.put, List.setIfInBounds_toArray, List.set_cons_zero, List.set_cons_succ, List.getElem_toArray, List.getElem_cons_zero]
          refine wpAnyH_take (i := 1) (v := nV W H (.slice a lr cr) (.slice a' lu cu)) rfl (by kernel_rfl) (by kernel_rfl) (by kernel_rfl) (fun _ _ _ h => h) (Or.inl ⟨by kernel_rfl, ?_⟩) hHeld ?_
          · intro w' hSw; obtain ⟨hc, hf⟩ := bcell hSw; go_simp
          try simp only [Act.put, List.setIfInBounds_toArray, List.set_cons_zero, List.set_cons_succ, List.getElem_toArray, List.getElem_cons_succ, List.getElem_cons_zero]
          refine wpAnyH_take (i := 2) (v := .int .i64 x1) rfl (by kernel_rfl) (by kernel_rfl) (by kernel_rfl) (fun _ _ _ h => h) (Or.inl ⟨by kernel_rfl, ?_⟩) hHeld ?_
          · intro w' hSw; go_simp
          try simp only [Act.put, List.setIfInBounds_toArray, List.set_cons_zero, List.set_cons_succ, List.getElem_toArray, List.getElem_cons_succ, List.getElem_cons_zero]
          refine wpAnyH_take (i := 3) (v := .int .i64 Y) rfl (by kernel_rfl) (by kernel_rfl) (by kernel_rfl) (fun _ _ _ h => h) (Or.inl ⟨by kernel_rfl, ?_⟩) hHeld ?_
          · intro w' hSw; go_simp
          try simp only [Act.put, List.setIfInBounds_toArray, List.set_cons_zero, List.set_cons_succ, List.getElem_toArray, List.getElem_cons_succ, List.getElem_cons_zero]
          refine wpAnyH_take (i := 6) (v := nV W H (.slice a lr cr) (.slice a' lu cu)) rfl (by kernel_rfl) (by kernel_rfl) (by kernel_rfl) (fun _ _ _ h => h) (Or.inl ⟨by kernel_rfl, ?_⟩) hHeld ?_
          · intro w' hSw; obtain ⟨hc, hf⟩ := bcell hSw; go_simp
          try simp only [Act.put, List.setIfInBounds_toArray, List.set_cons_zero, List.set_cons_succ, List.getElem_toArray, List.getElem_cons_succ, List.getElem_cons_zero]
          refine wpAnyH_take (i := 7) (v := .int .i64 x0) rfl (by kernel_rfl) (by kernel_rfl) (by kernel_rfl) (fun _ _ _ h => h) (Or.inl ⟨by kernel_rfl, ?_⟩) hHeld ?_
          · intro w' hSw; go_simp
          try simp only [Act.put, List.setIfInBounds_toArray, List.set_cons_zero, List.set_cons_succ, List.getElem_toArray, List.getElem_cons_succ, List.getElem_cons_zero]
          refine wpAnyH_take (i := 8) (v := .int .i64 Y) rfl (by kernel_rfl) (by kernel_rfl) (by kernel_rfl) (fun _ _ _ h => h) (Or.inl ⟨by kernel_rfl, ?_⟩) hHeld ?_
          · intro w' hSw; go_simp
          try simp only [Act.put, List.setIfInBounds_toArray, List.set_cons_zero, List.set_cons_succ, List.getElem_toArray, List.getElem_cons_succ, List.getElem_cons_zero]
          refine wpAnyH_ready (rs := [4]) (by kernel_rfl) (by simp) ?_
          refine AllReadyH.cons rfl (fun KK hK' => ?_) AllReadyH.nil
          go_simp
          refine (specUp_any W H x1 Y (hu.below (hbel.below F)) hlu hW ⟨by omega, by omega⟩ ⟨by omega, by omega⟩ (by rw [hj0]; exact_mod_cast l0)).mono ?_
          rintro e u1 ⟨rfl, b1⟩
          replace F := F.below b1
          rw [hp0]
          try go_wp2_with fail
          clear hHeld
          refine hK'.out _ _ (F) (fun hHeld => ?_)
          clear hK' KK
          try simp only [List.setIfInBounds_toArray, List.set_cons_zero, List.set_cons_succ]
          refine wpAnyH_take (i := 5) (v := .int .i64 (S' + p0)) rfl (by kernel_rfl) (by kernel_rfl) (by kernel_rfl) (fun _ _ _ h => h) (Or.inl ⟨by kernel_rfl, ?_⟩) hHeld ?_
          · intro w' hSw; go_simp
          try simp only [Act.put, List.setIfInBounds_toArray, List.set_cons_zero, List.set_cons_succ, List.getElem_toArray, List.getElem_cons_succ, List.getElem_cons_zero]
          refine wpAnyH_ready (rs := [9]) (by kernel_rfl) (by simp) ?_
          refine AllReadyH.cons rfl (fun KK hK' => ?_) AllReadyH.nil
          go_simp
          refine (specUp_any W H x0 Y (hu.below (hbel.below F)) hlu hW ⟨by omega, by omega⟩ ⟨by omega, by omega⟩ (by rw [hj1]; exact_mod_cast l1)).mono ?_
          rintro e u2 ⟨rfl, b2⟩
          replace F := F.below b2
          rw [hp1]
          try go_wp2_with fail
          clear hHeld
          refine hK'.out _ _ (F) (fun hHeld => ?_)
          clear hK' KK
          try simp only [List.setIfInBounds_toArray, List.set_cons_zero, List.set_cons_succ]
          refine wpAnyH_take (i := 10) (v := .int .i64 (S' + p0 - p1)) rfl (by kernel_rfl) (by kernel_rfl) (by kernel_rfl) (fun _ _ _ h => h) (Or.inl ⟨by kernel_rfl, ?_⟩) hHeld ?_
          · intro w' hSw; go_simp
          try simp only [Act.put, List.setIfInBounds_toArray, List.set_cons_zero, List.set_cons_succ, List.getElem_toArray, List.getElem_cons_succ, List.getElem_cons_zero]
          refine wpAnyH_ready (rs := [11]) (by kernel_rfl) (by simp) ?_
          refine AllReadyH.cons rfl (fun KK hK' => ?_) AllReadyH.nil
          go_simp
          clear hHeld
          refine hK'.out _ _ (F) (fun hHeld => ?_)
          clear hK' KK
          try simp only [List.setIfInBounds_toArray, List.set_cons_zero, List.set_cons_succ]
          refine wpAnyH_done (by kernel_rfl) ?_ _
          clear hHeld
          go_wp2
          refine ⟨⟨k + 1, by omega, by rw [hnext]; congr 1; omega, by go_num, hbel.below (Below.trans (Below.refl _ _) F)⟩, by simp [intOf]; omega⟩
        · have hYe : Y = y1 := by omega
          have hky : k = (y1 - y0).toNat := by omega
          go_wp2
          refine bodyPost_ret (v := .tuple #[.int .i64 (S + D), .bool true]) (by simp [results, Try.results15, go_sem]) rfl ⟨?_, by rw [← hq]; exact bV.trans (Below.mono hbel bV.size)⟩
          rw [show arT W r u x0 y0 x1 y1 = S + D by unfold arT; rw [hSx, ← hky, hD]]
end Go.Proofs.Ytlmgdcoknpakcaa
