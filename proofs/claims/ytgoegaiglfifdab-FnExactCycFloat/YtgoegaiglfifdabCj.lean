/-
  A cyclotomic number in floats, by the program and by the specification: walked.
-/
import Derived.Test.YtgoegaiglfifdabOrd
import Derived.Test.YtgoegaiglfifdabCb
namespace Go.Proofs.Ytgoegaiglfifdab
open Go.RowKit Fl

/-- Two floats that are the same value are told so. -/
theorem same_true {x y : Nat} (h : ab .f64 x = ab .f64 y) (w : World) : Calls Try.prog 10 #[.float .f64 x, .float .f64 y] w fun e w' => e = .returned (.bool true) ∧ Below w.heap.size w w' := by
  replace h : (if isn Ieee.double x = true then none else some x) = if isn Ieee.double y = true then none else some y := h
  by_cases hx : isn Ieee.double x = true
  · have hy : isn Ieee.double y = true := by
      by_cases hy : isn Ieee.double y = true
      · exact hy
      · rw [if_pos hx, if_neg hy] at h; cases h
    have h1 := ord_nan (y := x) (.inl hx)
    have h2 := ord_nan (y := y) (.inl hy)
    clear h
    go_enter Try.func10, Try.ntmps10
    go_wp2
    go_ret
    exact ⟨rfl, Below.refl _ _⟩
  · by_cases hy : isn Ieee.double y = true
    · rw [if_neg hx, if_pos hy] at h; cases h
    · rw [if_neg hx, if_neg hy] at h
      cases h
      have hx : isn Ieee.double x = false := by simpa using hx
      have h1 := ord_self hx
      clear hy
      by_cases hr : rung Ieee.double x = 0
      · have h2 := ord_zero hx hr
        have h3 := fun w => ord_quo hr w
        cases hs : sgn Ieee.double x <;> rw [hs] at h3
        all_goals
          clear hs hr hx
          go_enter Try.func10, Try.ntmps10
          go_wp2
          go_ret
          exact ⟨rfl, below_drewN (Below.refl _ _) _⟩
      · have h2 : (FloatKind.f64.format.order x 0 == some .eq) = false := by
          cases hs : sgn Ieee.double x
          · rw [ord_pos hx hr hs]; rfl
          · rw [ord_neg hx hr hs]; rfl
        clear hr hx
        go_enter Try.func10, Try.ntmps10
        go_wp2
        go_ret
        exact ⟨rfl, Below.refl _ _⟩

/-- What is told: each operation by itself. -/
def FloR (a b c d : Int) (re im : Nat) : Prop :=
  ∃ x0 x1 x2 y0 y1 y2, FR .mul .f64 4605975682916830378 (floatOfInt .f64 b) x0 ∧ FR .add .f64 (floatOfInt .f64 a) x0 x1 ∧ FR .mul .f64 4602678819172646912 (floatOfInt .f64 c) x2 ∧ FR .add .f64 x1 x2 re ∧
    FR .mul .f64 4602678819172646912 (floatOfInt .f64 b) y0 ∧ FR .mul .f64 4605975682916830378 (floatOfInt .f64 c) y1 ∧ FR .add .f64 y0 y1 y2 ∧ FR .add .f64 y2 (floatOfInt .f64 d) im
theorem specFloat_any (a b c d : Int) (w : World) : Calls Try.prog 7 #[cV a b c d] w fun e w' => ∃ re im, e = .returned (.tuple #[.float .f64 re, .float .f64 im]) ∧ (if cOk a b c d then FloR a b c d re im else re = 0 ∧ im = 0) ∧ Below w.heap.size w w' := by
  obtain ⟨W, hW, b0, bW, -⟩ := boxed w 29 #[.int .i64 a, .int .i64 b, .int .i64 c, .int .i64 d]
  obtain ⟨c0, c1, c2, c3, -⟩ := b0.open4
  cases hk : cOk a b c d
  · simp only [Bool.false_eq_true, if_false]
    go_enter Try.func7, Try.ntmps7
    go_wp2_with (go_at_call 18; refine (specOk_any _ _ _ _ _).mono ?_; rintro e w2 ⟨rfl, hb2⟩; rw [hk]; replace bW := bW.trans (hb2.mono bW.size))
    go_ret2
    exact ⟨_, _, rfl, ⟨rfl, rfl⟩, bW⟩
  · simp only [if_true]
    go_enter Try.func7, Try.ntmps7
    go_wp2_with (go_at_call 18; refine (specOk_any _ _ _ _ _).mono ?_; rintro e w2 ⟨rfl, hb2⟩; rw [hk]; clear c0 c1 c2 c3; replace b0 := b0.below hb2; replace bW := bW.trans (hb2.mono bW.size); obtain ⟨c0, c1, c2, c3, -⟩ := b0.open4; clear hb2)
    go_region_with (fail)
    all_goals
      go_wp2
      go_ret2
      refine ⟨_, _, rfl, ⟨_, _, _, _, _, _, fv_FR .., fv_FR .., fv_FR .., fv_FR .., fv_FR .., fv_FR .., fv_FR .., fv_FR ..⟩, ?_⟩
      first | exact below_drewN bW _ | exact below_drewN (below_drewN bW _) _ | exact (below_drewN bW _).drew | exact below_drewN (below_drewN bW _).drew _ | exact below_drewN (below_drewN (below_drewN bW _) _) _
theorem implFloat_any (a b c d : Int) (w : World) : Calls Try.prog 9 #[cV a b c d] w fun e w' => ∃ re im, e = .returned (.tuple #[.float .f64 re, .float .f64 im]) ∧ (if cOk a b c d then FloR a b c d re im else re = 0 ∧ im = 0) ∧ Below w.heap.size w w' := by
  obtain ⟨W, hW, b0, bW, -⟩ := boxed w 29 #[.int .i64 a, .int .i64 b, .int .i64 c, .int .i64 d]
  obtain ⟨c0, c1, c2, c3, -⟩ := b0.open4
  cases hk : cOk a b c d
  · simp only [Bool.false_eq_true, if_false]
    go_enter Try.func9, Try.ntmps9
    go_wp2_with (go_at_call 19; refine (implOk_any _ _ _ _ _).mono ?_; rintro e w2 ⟨rfl, hb2⟩; rw [hk]; replace bW := bW.trans (hb2.mono bW.size))
    go_ret2
    exact ⟨_, _, rfl, ⟨rfl, rfl⟩, bW⟩
  · simp only [if_true]
    go_enter Try.func9, Try.ntmps9
    go_wp2_with (go_at_call 19; refine (implOk_any _ _ _ _ _).mono ?_; rintro e w2 ⟨rfl, hb2⟩; rw [hk]; clear c0 c1 c2 c3; replace b0 := b0.below hb2; replace bW := bW.trans (hb2.mono bW.size); obtain ⟨c0, c1, c2, c3, -⟩ := b0.open4; clear hb2)
    go_region_with (fail)
    all_goals go_wp2_with (fail)
    all_goals go_region_with (fail)
    all_goals
      go_wp2
      go_ret2
      refine ⟨_, _, rfl, ⟨_, _, _, _, _, _, fv_FR .., fv_FR .., fv_FR .., fv_FR .., fv_FR .., fv_FR .., fv_FR .., fv_FR ..⟩, ?_⟩
      first | exact below_drewN bW _ | exact below_drewN (below_drewN bW _) _ | exact (below_drewN bW _).drew | exact below_drewN (below_drewN bW _).drew _ | exact below_drewN (below_drewN (below_drewN bW _) _) _
theorem flo_same {a b c d : Int} {x y x' y' : Nat} (h : if cOk a b c d then FloR a b c d x y else x = 0 ∧ y = 0) (h' : if cOk a b c d then FloR a b c d x' y' else x' = 0 ∧ y' = 0) : ab .f64 x' = ab .f64 x ∧ ab .f64 y' = ab .f64 y := by
  by_cases hk : cOk a b c d = true
  · rw [if_pos hk] at h h'
    obtain ⟨x0, x1, x2, y0, y1, y2, a1, a2, a3, a4, a5, a6, a7, a8⟩ := h
    obtain ⟨u0, u1, u2, v0, v1, v2, b1, b2, b3, b4, b5, b6, b7, b8⟩ := h'
    have e1 := a1.ab_eq; have e2 := a2.ab_eq; have e3 := a3.ab_eq; have e4 := a4.ab_eq
    have e5 := a5.ab_eq; have e6 := a6.ab_eq; have e7 := a7.ab_eq; have e8 := a8.ab_eq
    have f1 := b1.ab_eq; have f2 := b2.ab_eq; have f3 := b3.ab_eq; have f4 := b4.ab_eq
    have f5 := b5.ab_eq; have f6 := b6.ab_eq; have f7 := b7.ab_eq; have f8 := b8.ab_eq
    constructor
    · rw [f4, e4, f2, e2, f1, e1, f3, e3]
    · rw [f8, e8, f7, e7, f5, e5, f6, e6]
  · rw [if_neg hk] at h h'
    obtain ⟨rfl, rfl⟩ := h
    obtain ⟨rfl, rfl⟩ := h'
    exact ⟨rfl, rfl⟩
theorem toCyc_any (a b c d : Int) (w : World) : Calls Try.prog 8 #[cV a b c d] w fun e w' => e = .returned (cV a b c d) ∧ Below w.heap.size w w' := by
  go_enter Try.func8, Try.ntmps8
  go_wp2
  exact bodyPost_ret (v := cV a b c d) (by simp [results, Try.results8, go_sem]) rfl ⟨rfl, (below_alloc _ _).trans (((below_alloc _ _).trans ((below_alloc _ _).mono (by simp))).mono (by simp))⟩
theorem exactCycFloat_walk (a b c d : Int) (w : World) : Calls Try.prog 4 #[cV a b c d] w fun e w' => e = .returned (.bool true) ∧ Below w.heap.size w w' := by
  obtain ⟨W, hW, b0, bW, -⟩ := boxed w 25 #[.int .i64 a, .int .i64 b, .int .i64 c, .int .i64 d]
  go_enter Try.func4, Try.ntmps4
  obtain ⟨c0, c1, c2, c3, -⟩ := b0.open4
  go_wp2_with (first
    | (go_at_call 8; refine (toCyc_any _ _ _ _ _).mono ?_; rintro e w2 ⟨rfl, hb2⟩; clear c0 c1 c2 c3; replace b0 := b0.below hb2; replace bW := bW.trans (hb2.mono bW.size); obtain ⟨c0, c1, c2, c3, -⟩ := b0.open4; clear hb2)
    | (go_at_call 7; refine (specFloat_any _ _ _ _ _).mono ?_; rintro e w2 ⟨x, y, rfl, hxy, hb2⟩; clear c0 c1 c2 c3; replace b0 := b0.below hb2; replace bW := bW.trans (hb2.mono bW.size); obtain ⟨c0, c1, c2, c3, -⟩ := b0.open4; have HX : Hid (if cOk a b c d then FloR a b c d x y else x = 0 ∧ y = 0) := hxy; clear hb2 hxy)
    | (go_at_call 9; refine (implFloat_any _ _ _ _ _).mono ?_; rintro e w2 ⟨x', y', rfl, hxy, hb2⟩; clear c0 c1 c2 c3; replace bW := bW.trans (hb2.mono bW.size); have HX' : Hid (if cOk a b c d then FloR a b c d x' y' else x' = 0 ∧ y' = 0) := hxy; clear hb2 hxy))
  obtain ⟨E1, E2⟩ := flo_same HX.out HX'.out
  have H1 : Hid (ab .f64 x' = ab .f64 x) := E1
  have H2 : Hid (ab .f64 y' = ab .f64 y) := E2
  clear E1 E2 HX HX'
  refine (same_true H1.out _).mono ?_
  rintro e w3 ⟨rfl, hb3⟩
  replace bW := bW.trans (hb3.mono bW.size)
  go_wp2_with (fail)
  refine (same_true H2.out _).mono ?_
  rintro e w4 ⟨rfl, hb4⟩
  replace bW := bW.trans (hb4.mono bW.size)
  go_wp2
  go_ret
  exact ⟨rfl, bW⟩
end Go.Proofs.Ytgoegaiglfifdab
