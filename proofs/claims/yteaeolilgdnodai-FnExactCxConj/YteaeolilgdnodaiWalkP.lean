/-
  The conjugate and the quotient, the program's and the specification's, walked; and how the laws compare floats.
-/
import Derived.Test.YteaeolilgdnodaiRows
import Derived.Test.YteaeolilgdnodaiOrd
namespace Go.Proofs.Yteaeolilgdnodai
open Go.RowKit Fl

@[go_sem] theorem build25 (a b : Nat) (w : World) : (Instr.build 25 #[(0, .float .f64 a), (1, .float .f64 b)]).run Try.prog w = .ok (.agg #[.float .f64 a, .float .f64 b]) w := run_build w 25 _ _ (by kernel_rfl)

/-- Two floats that are the same value are told so. -/
theorem same_true {x y : Nat} (h : ab .f64 x = ab .f64 y) (w : World) : Calls Try.prog 14 #[.float .f64 x, .float .f64 y] w fun e w' => e = .returned (.bool true) ∧ Below w.heap.size w w' := by
  replace h : (if isn Ieee.double x = true then none else some x) = if isn Ieee.double y = true then none else some y := h
  by_cases hx : isn Ieee.double x = true
  · have hy : isn Ieee.double y = true := by
      by_cases hy : isn Ieee.double y = true
      · exact hy
      · rw [if_pos hx, if_neg hy] at h; cases h
    have h1 := ord_nan (y := x) (.inl hx)
    have h2 := ord_nan (y := y) (.inl hy)
    clear h
    go_enter Try.func14, Try.ntmps14
    go_wp2
    go_ret
    exact ⟨rfl, Below.refl _ _⟩
  · by_cases hy : isn Ieee.double y = true
    · rw [if_neg hx, if_pos hy] at h; cases h
    · rw [if_neg hx, if_neg hy] at h
      cases h
      have hx : isn Ieee.double x = false := by simpa using hx
      have h1 := ord_self hx
      clear hy
      by_cases hr : rung Ieee.double x = 0
      · have h2 := ord_zero hx hr
        have h3 := fun w => ord_quo hr w
        cases hs : sgn Ieee.double x <;> rw [hs] at h3
        all_goals
          clear hs hr hx
          go_enter Try.func14, Try.ntmps14
          go_wp2
          go_ret
          exact ⟨rfl, below_drewN (Below.refl _ _) _⟩
      · have h2 : (FloatKind.f64.format.order x 0 == some .eq) = false := by
          cases hs : sgn Ieee.double x
          · rw [ord_pos hx hr hs]; rfl
          · rw [ord_neg hx hr hs]; rfl
        clear hr hx
        go_enter Try.func14, Try.ntmps14
        go_wp2
        go_ret
        exact ⟨rfl, Below.refl _ _⟩

theorem eqCx_true {a b c d : Nat} (h1 : ab .f64 a = ab .f64 c) (h2 : ab .f64 b = ab .f64 d) (w : World) :
    Calls Try.prog 8 #[.agg #[.float .f64 a, .float .f64 b], .agg #[.float .f64 c, .float .f64 d]] w fun e w' => e = .returned (.bool true) ∧ Below w.heap.size w w' := by
  obtain ⟨W, hW, b0, b1, bW⟩ := pairBoxes w 25 25 (.float .f64 a) (.float .f64 b) (.float .f64 c) (.float .f64 d)
  have H1 : Hid (ab .f64 a = ab .f64 c) := h1
  have H2 : Hid (ab .f64 b = ab .f64 d) := h2
  clear h1 h2
  obtain ⟨p0, p1, -, -⟩ := b0.open
  obtain ⟨q0, q1, -, -⟩ := b1.open
  go_enter Try.func8, Try.ntmps8
  go_wp2_with fail
  clear hW
  refine (same_true H1.out _).mono ?_
  rintro e w1 ⟨rfl, hb⟩
  replace bW := bW.trans (hb.mono bW.size)
  obtain ⟨-, p1, -, -⟩ := (b0.below hb).open
  obtain ⟨-, q1, -, -⟩ := (b1.below hb).open
  clear hb b0 b1
  go_wp2_with fail
  refine (same_true H2.out _).mono ?_
  rintro e w2 ⟨rfl, hb⟩
  replace bW := bW.trans (hb.mono bW.size)
  clear hb
  go_wp2
  go_ret
  exact ⟨rfl, bW⟩

theorem toCx_any (a b : Nat) (w : World) :
    Calls Try.prog 6 #[.agg #[.float .f64 a, .float .f64 b]] w fun e w' => e = .returned (.agg #[.float .f64 a, .float .f64 b]) ∧ Below w.heap.size w w' := by
  go_enter Try.func6, Try.ntmps6
  go_wp2
  exact bodyPost_ret (v := .agg #[.float .f64 a, .float .f64 b]) (by simp [results, Try.results6, go_sem]) rfl ⟨rfl, (((Below.refl _ _).alloc (Nat.le_refl _) _).alloc (by simp) _).alloc (by simp <;> omega) _⟩

theorem specConj_any (a b : Nat) (w : World) :
    Calls Try.prog 5 #[.agg #[.float .f64 a, .float .f64 b]] w fun e w' => e = .returned (.agg #[.float .f64 a, .float .f64 (Op.negFloat .f64 b)]) ∧ Below w.heap.size w w' := by
  go_enter Try.func5, Try.ntmps5
  go_wp2
  exact bodyPost_ret (v := .agg #[.float .f64 a, .float .f64 (Op.negFloat .f64 b)]) (by simp [results, Try.results5, go_sem]) rfl ⟨rfl, ((Below.refl _ _).alloc (Nat.le_refl _) _).alloc (by simp) _⟩

theorem mulWide_any (a b c d : Nat) (w : World) :
    Calls Try.prog 17 #[.complex .f64 a b, .complex .f64 c d] w fun e w' => ∃ re im, e = .returned (.complex .f64 re im) ∧ MulR .f64 a b c d re im ∧ Below w.heap.size w w' := by
  go_enter Try.func17, Try.ntmps17
  go_wp2
  go_ret
  exact ⟨_, _, rfl, ⟨_, _, _, _, fv_FR .., fv_FR .., fv_FR .., fv_FR .., fv_FR .., fv_FR ..⟩, below_drewN (Below.refl _ _) _⟩

theorem conjWide_any (a b : Nat) (w : World) :
    Calls Try.prog 12 #[.complex .f64 a b] w fun e w' => e = .returned (.complex .f64 a (Op.negFloat .f64 b)) ∧ w' = w := by
  go_enter Try.func12, Try.ntmps12
  go_wp2
  go_ret
  exact ⟨rfl, rfl⟩

theorem wideOf_any (a b : Nat) (w : World) :
    Calls Try.prog 13 #[.agg #[.float .f64 a, .float .f64 b]] w fun e w' => e = .returned (.complex .f64 a b) ∧ Below w.heap.size w w' := by
  go_enter Try.func13, Try.ntmps13
  go_wp2
  go_ret
  exact ⟨rfl, below_alloc _ _⟩

theorem cxOf_any (a b : Nat) (w : World) :
    Calls Try.prog 11 #[.complex .f64 a b] w fun e w' => e = .returned (.agg #[.float .f64 a, .float .f64 b]) ∧ Below w.heap.size w w' := by
  go_enter Try.func11, Try.ntmps11
  go_wp2
  exact bodyPost_ret (v := .agg #[.float .f64 a, .float .f64 b]) (by simp [results, Try.results11, go_sem]) rfl ⟨rfl, below_alloc _ _⟩

theorem implConj_any (a b : Nat) (w : World) :
    Calls Try.prog 7 #[.agg #[.float .f64 a, .float .f64 b]] w fun e w' => e = .returned (.agg #[.float .f64 a, .float .f64 (Op.negFloat .f64 b)]) ∧ Below w.heap.size w w' := by
  obtain ⟨W, hW, b0, b1, bW⟩ := pairBoxes w 25 25 (.float .f64 a) (.float .f64 b) (.float .f64 0) (.float .f64 0)
  obtain ⟨p0, p1, p2, p3⟩ := b0.open
  go_enter Try.func7, Try.ntmps7
  go_wp2_with (first | (go_at_call 13; refine (wideOf_any _ _ _).mono ?_; rintro e w1 ⟨rfl, hb⟩; replace b1 := b1.below hb; replace bW := bW.trans (hb.mono bW.size)) | (go_at_call 12; refine (conjWide_any _ _ _).mono ?_; rintro e w1 ⟨rfl, rfl⟩) | (go_at_call 11; refine (cxOf_any _ _ _).mono ?_; rintro e w1 ⟨rfl, hb⟩; replace b1 := b1.below hb; replace bW := bW.trans (hb.mono bW.size); obtain ⟨q0, q1, q2, q3⟩ := b1.open))
  exact bodyPost_ret (v := .agg #[.float .f64 a, .float .f64 (Op.negFloat .f64 b)]) (by simp [results, Try.results7, go_sem, q0, q1]) rfl ⟨rfl, (bW.setCell (Nat.le_succ _) _).setCell (Nat.le_succ _) _⟩

theorem exactConj_walk (a b : Nat) (w : World) :
    Calls Try.prog 3 #[.agg #[.float .f64 a, .float .f64 b]] w fun e w' => e = .returned (.bool true) ∧ Below w.heap.size w w' := by
  obtain ⟨W, hW⟩ : ∃ W, w.alloc (.cells #[.float .f64 a, .float .f64 b] 24) = W := ⟨_, rfl⟩
  have b0 : BoxT 24 W w.heap.size (.float .f64 a) (.float .f64 b) := by subst hW; exact boxT_new _ _ _ _ rfl
  have bW : Below w.heap.size w W := by subst hW; exact below_alloc _ _
  obtain ⟨p0, p1, -, -⟩ := b0.open
  go_enter Try.func3, Try.ntmps3
  go_wp2_with fail
  clear hW
  refine (toCx_any _ _ _).mono ?_
  rintro e w1 ⟨rfl, hb⟩
  replace b0 := b0.below hb
  replace bW := bW.trans (hb.mono bW.size)
  clear hb p0 p1
  go_wp2_with fail
  refine (specConj_any _ _ _).mono ?_
  rintro e w2 ⟨rfl, hb⟩
  replace b0 := b0.below hb
  replace bW := bW.trans (hb.mono bW.size)
  clear hb
  obtain ⟨V, hV⟩ : ∃ V, w2.alloc (.cells #[.float .f64 a, .float .f64 (Op.negFloat .f64 b)] 25) = V := ⟨_, rfl⟩
  have b1 : BoxT 25 V w2.heap.size (.float .f64 a) (.float .f64 (Op.negFloat .f64 b)) := by subst hV; exact boxT_new _ _ _ _ rfl
  replace b0 : BoxT 24 V w.heap.size (.float .f64 a) (.float .f64 b) := by subst hV; exact b0.below (below_alloc _ _)
  replace bW : Below w.heap.size w V := by subst hV; exact bW.trans ((below_alloc _ _).mono bW.size)
  obtain ⟨p0, p1, -, -⟩ := b0.open
  go_wp2_with fail
  clear hV
  refine (toCx_any _ _ _).mono ?_
  rintro e w3 ⟨rfl, hb⟩
  replace b1 := b1.below hb
  replace bW := bW.trans (hb.mono bW.size)
  clear hb p0 p1 b0
  go_wp2_with fail
  refine (implConj_any _ _ _).mono ?_
  rintro e w4 ⟨rfl, hb⟩
  replace b1 := b1.below hb
  replace bW := bW.trans (hb.mono bW.size)
  clear hb
  obtain ⟨U, hU⟩ : ∃ U, w4.alloc (.cells #[.float .f64 a, .float .f64 (Op.negFloat .f64 b)] 25) = U := ⟨_, rfl⟩
  have b2 : BoxT 25 U w4.heap.size (.float .f64 a) (.float .f64 (Op.negFloat .f64 b)) := by subst hU; exact boxT_new _ _ _ _ rfl
  replace b1 : BoxT 25 U w2.heap.size (.float .f64 a) (.float .f64 (Op.negFloat .f64 b)) := by subst hU; exact b1.below (below_alloc _ _)
  replace bW : Below w.heap.size w U := by subst hU; exact bW.trans ((below_alloc _ _).mono bW.size)
  obtain ⟨p0, p1, -, -⟩ := b1.open
  obtain ⟨q0, q1, -, -⟩ := b2.open
  go_wp2_with fail
  clear hU
  refine (eqCx_true rfl rfl _).mono ?_
  rintro e w5 ⟨rfl, hb⟩
  replace bW := bW.trans (hb.mono bW.size)
  clear hb
  go_wp2
  go_ret
  exact ⟨rfl, bW⟩

end Go.Proofs.Yteaeolilgdnodai
