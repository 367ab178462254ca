/-
  The grid and the steps ahead, by the program, walked.
-/
import Derived.Test.YtfgehmcloeebkaaZa
import Derived.Test.YtfgehmcloeebkaaYb
namespace Go.Proofs.Ytfgehmcloeebkaa
open Go.RowKit

theorem unfolded_any (v : Int) (w : World) (h : 0 ≤ v ∧ v ≤ 3000000) : Calls Try.prog 67 #[.int .i64 v] w fun e w' => e = .returned (.int .i64 (unf v)) ∧ w = w' := by
  have ht : v.tmod 2 = v % 2 := Int.tmod_eq_emod_of_nonneg h.1
  by_cases hv : v % 2 = 1
  · have hq : (-(v + 1)).tdiv 2 = unf v := by
      unfold unf
      rw [if_pos hv, Int.neg_tdiv, Int.tdiv_eq_ediv_of_nonneg (by omega)]
    have hv' : (v % 2 == 1) = true := by simpa using hv
    have wr1 : IntKind.i64.wrap (-(v + 1)) = -(v + 1) := IntWalk.i64_in _ (by omega)
    have wr2 : IntKind.i64.wrap (unf v) = unf v := IntWalk.i64_in _ (by unfold unf; split <;> omega)
    generalize unf v = U at hq wr2 ⊢
    go_enter Try.func67, Try.ntmps67
    go_wp2
    go_ret
    exact ⟨rfl, rfl⟩
  · have hq : v.tdiv 2 = unf v := by
      unfold unf
      rw [if_neg hv, Int.tdiv_eq_ediv_of_nonneg h.1]
    have hv' : (v % 2 == 1) = false := by simpa using hv
    have wr2 : IntKind.i64.wrap (unf v) = unf v := IntWalk.i64_in _ (by unfold unf; split <;> omega)
    generalize unf v = U at hq wr2 ⊢
    go_enter Try.func67, Try.ntmps67
    go_wp2
    go_ret
    exact ⟨rfl, rfl⟩
set_option maxRecDepth 100000 in
set_option maxHeartbeats 4000000 in
theorem gridAhead_any {w : World} {a : Option Addr} {n c : Nat} {F : Nat → Int} (hs : SrcB w a n F) (hn : n ≤ 1048576) (hF : ∀ i, i < n → 0 ≤ F i ∧ F i ≤ 255) :
    Calls Try.prog 43 #[.slice a n c] w fun e w' => ∃ X0 X1 : Int, ∃ o : Bool, e = .returned (.tuple #[gV X0 X1, .bool o]) ∧ Below w.heap.size w w' ∧ (hdr F n → o = true ∧ X0 = F 0 ∧ X1 = F 1) ∧ (¬ hdr F n → o = false) := by
  have hn' : (n : Int) ≤ 1048576 := by omega
  obtain ⟨V, hV, r0, bW, -⟩ := boxed w 56 #[.int .i64 0, .int .i64 0]
  go_enter Try.func43, Try.ntmps43
  by_cases h2 : n < 2
  · have h2' : (n : Int) < 2 := by omega
    obtain ⟨d0, d1, f0, f1⟩ := r0.open2
    go_wp2
    have a7 := (r0.set 0 (.int .i64 0)).set 1 (.int .i64 0)
    obtain ⟨p0, p1, -⟩ := a7.open2
    refine bodyPost_ret (v := .tuple #[gV 0 0, .bool false]) (by simp [results, Try.results43, go_sem, p0, p1]) rfl ?_
    exact ⟨_, _, _, rfl, (bW.setCell (Nat.le_refl _) _).setCell (Nat.le_refl _) _, fun h => by have := h.1; omega, fun _ => rfl⟩
  · have h2' : ¬ (n : Int) < 2 := by omega
    replace hs := hs.below bW
    rcases hs with h0 | ⟨b, off, rfl, hb, hr⟩
    · omega
    have g0 := hr 0 (by omega)
    have g1 := hr 1 (by omega)
    have hF0 := hF 0 (by omega)
    have hF1 := hF 1 (by omega)
    have hh : hdr F n ↔ sideB (F 0) (F 1) = true := by
      simp only [hdr, sideB, Bool.and_eq_true, decide_eq_true_eq]
      omega
    have HH : Hid (hdr F n ↔ sideB (F 0) (F 1) = true) := hh
    obtain ⟨X0, hX0⟩ : ∃ X, F 0 = X := ⟨_, rfl⟩
    obtain ⟨X1, hX1⟩ : ∃ X, F 1 = X := ⟨_, rfl⟩
    rw [hX0] at g0 hF0 HH
    rw [hX1] at g1 hF1 HH
    have HX : Hid (F 0 = X0 ∧ F 1 = X1) := ⟨hX0, hX1⟩
    rw [Nat.add_zero] at g0
    have n0 : ¬ n = 0 := by omega
    have wr0 : IntKind.i64.wrap X0 = X0 := IntWalk.i64_in _ (by omega)
    have wr1 : IntKind.i64.wrap X1 = X1 := IntWalk.i64_in _ (by omega)
    have l1 : (1 : Int) < (n : Int) := by omega
    have l0 : (0 : Int) < (n : Int) := by omega
    clear hX0 hX1 hh
    go_wp2_with fail
    obtain ⟨u0, hu0, bb⟩ : ∃ uu, V.drew = uu ∧ Below V.heap.size V uu := ⟨_, rfl, (Below.refl _ _).drew⟩
    replace r0 := r0.below bb
    replace g0 := (bb.cell (p := ⟨b, off, none⟩) hb).trans g0
    replace g1 := (bb.cell (p := ⟨b, off + 1, none⟩) hb).trans g1
    have hbu : b < u0.heap.size := Nat.lt_of_lt_of_le hb bb.size
    replace bW := bW.trans (bb.mono bW.size)
    have zu := r0.lt
    clear bb
    refine wp_region_held_drew (S := Kb u0) (by kernel_rfl) (by rw [hu0]; exact Below.refl _ _) (fun hHeld => ?_)
    rw [hu0] at hHeld ⊢
    clear hu0
    have bu : Kb u0 u0 := Below.refl _ _
    change wpAnyH _ _ _ _ _ 11 #[false, false, false, false, false, false, false, false, false, false, false] _ _
    refine wpAnyH_take (i := 0) (v := .slice ((some ⟨b, off, none⟩)) n c) rfl (by kernel_rfl) (by kernel_rfl) (by kernel_rfl) (fun _ _ _ h => h) (Or.inl ⟨by kernel_rfl, ?_⟩) hHeld ?_
    · intro w' hSw; go_simp
    try simp only [Act.put, List.setIfInBounds_toArray, List.set_cons_zero, List.set_cons_succ, List.getElem_toArray, List.getElem_cons_zero]
    refine wpAnyH_take (i := 1) (v := .pointer (some ⟨b, off, none⟩)) rfl (by kernel_rfl) (by kernel_rfl) (by kernel_rfl) (fun _ _ _ h => h) (Or.inl ⟨by kernel_rfl, ?_⟩) hHeld ?_
    · intro w' hSw; go_simp
    try simp only [Act.put, List.setIfInBounds_toArray, List.set_cons_zero, List.set_cons_succ, List.getElem_toArray, List.getElem_cons_succ, List.getElem_cons_zero]
    refine wpAnyH_take (i := 2) (v := .int .u8 X0) rfl (by kernel_rfl) (by kernel_rfl) (by kernel_rfl) (fun _ _ _ h => h) (Or.inl ⟨by kernel_rfl, ?_⟩) hHeld ?_
    · intro w' hSw; have z0 := (fun {w' : World} (hSw : Kb u0 w') => (Below.cell (p := ⟨b, off, none⟩) hSw hbu).trans g0) hSw; go_simp
    try simp only [Act.put, List.setIfInBounds_toArray, List.set_cons_zero, List.set_cons_succ, List.getElem_toArray, List.getElem_cons_succ, List.getElem_cons_zero]
    refine wpAnyH_take (i := 3) (v := .int .i64 (X0)) rfl (by kernel_rfl) (by kernel_rfl) (by kernel_rfl) (fun _ _ _ h => h) (Or.inl ⟨by kernel_rfl, ?_⟩) hHeld ?_
    · intro w' hSw; go_simp
    try simp only [Act.put, List.setIfInBounds_toArray, List.set_cons_zero, List.set_cons_succ, List.getElem_toArray, List.getElem_cons_succ, List.getElem_cons_zero]
    refine wpAnyH_take (i := 4) (v := .slice ((some ⟨b, off, none⟩)) n c) rfl (by kernel_rfl) (by kernel_rfl) (by kernel_rfl) (fun _ _ _ h => h) (Or.inl ⟨by kernel_rfl, ?_⟩) hHeld ?_
    · intro w' hSw; go_simp
    try simp only [Act.put, List.setIfInBounds_toArray, List.set_cons_zero, List.set_cons_succ, List.getElem_toArray, List.getElem_cons_succ, List.getElem_cons_zero]
    refine wpAnyH_take (i := 5) (v := .pointer (some ⟨b, off + 1, none⟩)) rfl (by kernel_rfl) (by kernel_rfl) (by kernel_rfl) (fun _ _ _ h => h) (Or.inl ⟨by kernel_rfl, ?_⟩) hHeld ?_
    · intro w' hSw; go_simp
    try simp only [Act.put, List.setIfInBounds_toArray, List.set_cons_zero, List.set_cons_succ, List.getElem_toArray, List.getElem_cons_succ, List.getElem_cons_zero]
    refine wpAnyH_take (i := 6) (v := .int .u8 X1) rfl (by kernel_rfl) (by kernel_rfl) (by kernel_rfl) (fun _ _ _ h => h) (Or.inl ⟨by kernel_rfl, ?_⟩) hHeld ?_
    · intro w' hSw; have z0 := (fun {w' : World} (hSw : Kb u0 w') => (Below.cell (p := ⟨b, off + 1, none⟩) hSw hbu).trans g1) hSw; go_simp
    try simp only [Act.put, List.setIfInBounds_toArray, List.set_cons_zero, List.set_cons_succ, List.getElem_toArray, List.getElem_cons_succ, List.getElem_cons_zero]
    refine wpAnyH_take (i := 7) (v := .int .i64 (X1)) rfl (by kernel_rfl) (by kernel_rfl) (by kernel_rfl) (fun _ _ _ h => h) (Or.inl ⟨by kernel_rfl, ?_⟩) hHeld ?_
    · intro w' hSw; go_simp
    try simp only [Act.put, List.setIfInBounds_toArray, List.set_cons_zero, List.set_cons_succ, List.getElem_toArray, List.getElem_cons_succ, List.getElem_cons_zero]
    refine wpAnyH_take (i := 8) (v := .agg #[.int .i64 (X0), .int .i64 (X1)]) rfl (by kernel_rfl) (by kernel_rfl) (by kernel_rfl) (fun _ _ _ h => h) (Or.inl ⟨by kernel_rfl, ?_⟩) hHeld ?_
    · intro w' hSw; go_simp
    try simp only [Act.put, List.setIfInBounds_toArray, List.set_cons_zero, List.set_cons_succ, List.getElem_toArray, List.getElem_cons_succ, List.getElem_cons_zero]
    refine wpAnyH_ready (rs := [9]) (by kernel_rfl) (by simp) ?_
    refine AllReadyH.cons rfl (fun KK hK' => ?_) AllReadyH.nil
    go_simp
    obtain ⟨u1, hV9, Z, bb, -⟩ := boxed u0 56 #[.int .i64 0, .int .i64 0]
    rw [hV9]
    clear hV9
    replace r0 := r0.below bb
    replace bu : Kb u0 u1 := bu.trans (bb.mono bu.size)
    clear bb
    clear hHeld
    refine hK'.out _ _ (bu) (fun hHeld => ?_)
    clear hK' KK
    try simp only [List.setIfInBounds_toArray, List.set_cons_zero, List.set_cons_succ]
    refine wpAnyH_ready (rs := [10]) (by kernel_rfl) (by simp) ?_
    refine AllReadyH.cons rfl (fun KK hK' => ?_) AllReadyH.nil
    obtain ⟨d0, d1, f0, f1⟩ := Z.open2
    go_simp
    obtain ⟨u2, hx, X, r2, bu2⟩ : ∃ y, (u1.setCell ⟨u0.heap.size, 0, none⟩ (.int .i64 X0)).setCell ⟨u0.heap.size, 1, none⟩ (.int .i64 X1) = y ∧ At 56 y u0.heap.size #[.int .i64 X0, .int .i64 X1] ∧ At 56 y w.heap.size #[.int .i64 0, .int .i64 0] ∧ Kb u0 y := ⟨_, rfl, by simpa using (Z.set 0 (.int .i64 X0)).set 1 (.int .i64 X1), (r0.setOther (by omega) _).setOther (by omega) _, (bu.setCell (Nat.le_refl _) _).setCell (Nat.le_refl _) _⟩
    rw [hx]
    clear hx bu Z d0 d1 f0 f1 r0
    have bu := bu2
    clear bu2
    clear hHeld
    refine hK'.out _ _ (bu) (fun hHeld => ?_)
    clear hK' KK
    try simp only [List.setIfInBounds_toArray, List.set_cons_zero, List.set_cons_succ]
    refine wpAnyH_done (by kernel_rfl) ?_ _
    clear hHeld
    replace bW := bW.trans (bu.mono bW.size)
    clear g0 g1
    go_wp2_with fail
    have zz := bu.size
    clear bu
    obtain ⟨u3, hu0, bb⟩ : ∃ uu, u2.drew = uu ∧ Below u2.heap.size u2 uu := ⟨_, rfl, (Below.refl _ _).drew⟩
    replace X := X.below bb
    replace r2 := r2.below bb
    replace bW := bW.trans (bb.mono bW.size)
    have zz3 := bb.size
    clear bb
    refine wp_region_held_drew (S := fun w' => At 56 w' u0.heap.size #[.int .i64 X0, .int .i64 X1]) (by kernel_rfl) (by rw [hu0]; exact X) (fun hHeld => ?_)
    rw [hu0] at hHeld ⊢
    clear hu0
    change wpAnyH _ _ _ _ _ 5 #[false, false, false, false, false] _ _
    refine wpAnyH_take (i := 0) (v := .agg #[.int .i64 (X0), .int .i64 (X1)]) rfl (by kernel_rfl) (by kernel_rfl) (by kernel_rfl) (fun _ _ _ h => h) (Or.inl ⟨by kernel_rfl, ?_⟩) hHeld ?_
    · intro w' hSw; obtain ⟨z0, z1, -⟩ := hSw.open2; go_simp
    try simp only [Act.put, List.setIfInBounds_toArray, List.set_cons_zero, List.set_cons_succ, List.getElem_toArray, List.getElem_cons_zero]
    refine wpAnyH_take (i := 1) (v := .agg #[.int .i64 (X0), .int .i64 (X1)]) rfl (by kernel_rfl) (by kernel_rfl) (by kernel_rfl) (fun _ _ _ h => h) (Or.inl ⟨by kernel_rfl, ?_⟩) hHeld ?_
    · intro w' hSw; obtain ⟨z0, z1, -⟩ := hSw.open2; go_simp
    try simp only [Act.put, List.setIfInBounds_toArray, List.set_cons_zero, List.set_cons_succ, List.getElem_toArray, List.getElem_cons_succ, List.getElem_cons_zero]
    refine wpAnyH_ready (rs := [2]) (by kernel_rfl) (by simp) ?_
    refine AllReadyH.cons rfl (fun KK hK' => ?_) AllReadyH.nil
    go_simp
    refine (right_any X0 X1 _).mono ?_
    rintro e u4 ⟨rfl, bb⟩
    replace X := X.below bb
    replace r2 := r2.below bb
    replace bW := bW.trans (bb.mono bW.size)
    have zz4 := bb.size
    clear bb
    try go_wp2_with fail
    clear hHeld
    refine hK'.out _ _ (X) (fun hHeld => ?_)
    clear hK' KK
    try simp only [List.setIfInBounds_toArray, List.set_cons_zero, List.set_cons_succ]
    refine wpAnyH_ready (rs := [3]) (by kernel_rfl) (by simp) ?_
    refine AllReadyH.cons rfl (fun KK hK' => ?_) AllReadyH.nil
    obtain ⟨d0, d1, f0, f1⟩ := r2.open2
    go_simp
    obtain ⟨u5, hx, X5, r5, bW5⟩ : ∃ y, (u4.setCell ⟨w.heap.size, 0, none⟩ (.int .i64 X0)).setCell ⟨w.heap.size, 1, none⟩ (.int .i64 X1) = y ∧ At 56 y u0.heap.size #[.int .i64 X0, .int .i64 X1] ∧ At 56 y w.heap.size #[.int .i64 X0, .int .i64 X1] ∧ Below w.heap.size w y := ⟨_, rfl, (X.setOther (by omega) _).setOther (by omega) _, by simpa using (r2.set 0 (.int .i64 X0)).set 1 (.int .i64 X1), (bW.setCell (Nat.le_refl _) _).setCell (Nat.le_refl _) _⟩
    rw [hx]
    clear hx d0 d1 f0 f1 r2 X bW
    have X := X5
    clear X5
    clear hHeld
    refine hK'.out _ _ (X) (fun hHeld => ?_)
    clear hK' KK
    try simp only [List.setIfInBounds_toArray, List.set_cons_zero, List.set_cons_succ]
    refine wpAnyH_take (i := 4) (v := .bool (sideB X0 X1)) rfl (by kernel_rfl) (by kernel_rfl) (by kernel_rfl) (fun _ _ _ h => h) (Or.inl ⟨by kernel_rfl, ?_⟩) hHeld ?_
    · intro w' hSw; go_simp
    try simp only [Act.put, List.setIfInBounds_toArray, List.set_cons_zero, List.set_cons_succ, List.getElem_toArray, List.getElem_cons_succ, List.getElem_cons_zero]
    refine wpAnyH_done (by kernel_rfl) ?_ _
    clear hHeld
    go_wp2
    obtain ⟨p0, p1, -⟩ := r5.open2
    refine bodyPost_ret (v := .tuple #[gV X0 X1, .bool (sideB X0 X1)]) (by simp [results, Try.results43, go_sem, p0, p1]) rfl ?_
    refine ⟨_, _, _, rfl, bW5, fun h => ⟨HH.out.1 h, HX.out.1.symm, HX.out.2.symm⟩, fun h => ?_⟩
    rw [Bool.eq_false_iff]
    exact fun e => h (HH.out.2 e)
end Go.Proofs.Ytfgehmcloeebkaa
