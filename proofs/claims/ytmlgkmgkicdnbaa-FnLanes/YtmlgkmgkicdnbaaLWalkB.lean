/-
  The specification's order of floats and of complex numbers, walked.
-/
import Derived.Test.YtmlgkmgkicdnbaaLWalkA
namespace Go.Proofs.Ytmlgkmgkicdnbaa
open Go.RowKit Fl

/-- The rank of a float: below 0, minus nought, nought, above 0, NaN. -/
def rk (x : Nat) : Int :=
  if isn Ieee.double x then 4
  else if rung Ieee.double x = 0 then (if sgn Ieee.double x then 1 else 2)
  else if sgn Ieee.double x then 0 else 3

theorem dbl_ok : Ieee.double.binade ≤ Ieee.double.infRung := by decide
theorem isn_zero : isn Ieee.double 0 = false := by decide +kernel
theorem ival_zero : ival Ieee.double 0 = 0 := by
  have h1 : sgn Ieee.double 0 = false := by decide +kernel
  have h2 : rung Ieee.double 0 = 0 := by decide +kernel
  unfold ival; rw [h1, h2, val_zero]; rfl

theorem ord_self {x : Nat} (h : isn Ieee.double x = false) : FloatKind.f64.format.order x x = some .eq := by
  show Ieee.double.order x x = _
  rw [order_ival _ dbl_ok h h]; simp
theorem ord_nan {x y : Nat} (h : isn Ieee.double x = true ∨ isn Ieee.double y = true) : FloatKind.f64.format.order x y = none := order_nan Ieee.double h

theorem val_pos {r : Nat} (h : r ≠ 0) : 0 < val Ieee.double r := by
  have := val_mono Ieee.double (show 0 < r by omega)
  rw [val_zero] at this; exact this

theorem ord_neg {x : Nat} (h : isn Ieee.double x = false) (hr : rung Ieee.double x ≠ 0) (hs : sgn Ieee.double x = true) : FloatKind.f64.format.order x 0 = some .lt := by
  show Ieee.double.order x 0 = _
  rw [order_ival _ dbl_ok h isn_zero, ival_zero]
  have := val_pos hr
  rw [Int.compare_eq_lt.2 (by unfold ival; rw [hs]; simp; omega)]
theorem ord_pos {x : Nat} (h : isn Ieee.double x = false) (hr : rung Ieee.double x ≠ 0) (hs : sgn Ieee.double x = false) : FloatKind.f64.format.order x 0 = some .gt := by
  show Ieee.double.order x 0 = _
  rw [order_ival _ dbl_ok h isn_zero, ival_zero]
  have := val_pos hr
  rw [Int.compare_eq_gt.2 (by unfold ival; rw [hs]; simp; omega)]
theorem ord_zero {x : Nat} (h : isn Ieee.double x = false) (hr : rung Ieee.double x = 0) : FloatKind.f64.format.order x 0 = some .eq := by
  show Ieee.double.order x 0 = _
  rw [order_ival _ dbl_ok h isn_zero, ival_zero]
  have : ival Ieee.double x = 0 := by unfold ival; rw [hr, val_zero]; simp
  rw [this]; simp

theorem read_zero {x : Nat} (hr : rung Ieee.double x = 0) : Ieee.double.read x = .number (sgn Ieee.double x) 0 Ieee.double.leastPlace := by
  rw [read_eq, hr]; rfl

/-- 1 / x of a nought: infinity with its sign. -/
theorem quo_nought {x : Nat} (hr : rung Ieee.double x = 0) : floatBits .quo .f64 4607182418800017408 x = some (Ieee.double.word (sgn Ieee.double x) Ieee.double.infRung) := by
  show Ieee.double.div 4607182418800017408 x = _
  have h1 : Ieee.double.read 4607182418800017408 = .number false 4503599627370496 (-52) := by decide +kernel
  unfold Ieee.Format.div
  rw [read_zero hr, h1]
  simp [Ieee.Datum.quotient, Ieee.Format.write]

theorem ord_quo {x : Nat} (hr : rung Ieee.double x = 0) (w : World) : FloatKind.f64.format.order (fv .quo .f64 4607182418800017408 x w) 0 = some (if sgn Ieee.double x then .lt else .gt) := by
  unfold fv
  rw [quo_nought hr]
  dsimp only
  cases sgn Ieee.double x <;> decide +kernel

theorem minus_yes {x : Nat} (h : isn Ieee.double x = false) (hr : rung Ieee.double x = 0) (hs : sgn Ieee.double x = true) (w : World) :
    Calls Try.prog 63 #[.float .f64 x] w fun e w' => e = .returned (.bool true) ∧ Below w.heap.size w w' := by
  have h1 := ord_zero h hr
  have h2 := fun w => ord_quo hr w
  rw [hs] at h2
  go_enter Try.func63, Try.ntmps63
  go_wp2
  go_ret
  exact ⟨rfl, below_drewN (Below.refl _ _) _⟩
theorem minus_no {x : Nat} (h : isn Ieee.double x = false) (hr : rung Ieee.double x = 0) (hs : sgn Ieee.double x = false) (w : World) :
    Calls Try.prog 63 #[.float .f64 x] w fun e w' => e = .returned (.bool false) ∧ Below w.heap.size w w' := by
  have h1 := ord_zero h hr
  have h2 := fun w => ord_quo hr w
  rw [hs] at h2
  go_enter Try.func63, Try.ntmps63
  go_wp2
  go_ret
  exact ⟨rfl, below_drewN (Below.refl _ _) _⟩

theorem rank_any (x : Nat) (w : World) : Calls Try.prog 50 #[.float .f64 x] w fun e w' => e = .returned (.int .i64 (rk x)) ∧ Below w.heap.size w w' := by
  by_cases h : isn Ieee.double x = true
  · have h1 := ord_nan (y := x) (.inl h)
    have e : rk x = 4 := by unfold rk; rw [if_pos h]
    rw [e]
    go_enter Try.func50, Try.ntmps50
    go_wp2
    go_ret
    exact ⟨rfl, Below.refl _ _⟩
  · have h : isn Ieee.double x = false := by simpa using h
    have h1 := ord_self h
    by_cases hr : rung Ieee.double x = 0
    · have h2 := ord_zero h hr
      by_cases hs : sgn Ieee.double x = true
      · have e : rk x = 1 := by unfold rk; simp [h, hr, hs]
        rw [e]
        go_enter Try.func50, Try.ntmps50
        go_wp2_with (go_at_call 63; refine (minus_yes h hr hs _).mono ?_; rintro e w1 ⟨rfl, hb⟩)
        go_ret
        exact ⟨rfl, hb⟩
      · have hs : sgn Ieee.double x = false := by simpa using hs
        have e : rk x = 2 := by unfold rk; simp [h, hr, hs]
        rw [e]
        go_enter Try.func50, Try.ntmps50
        go_wp2_with (go_at_call 63; refine (minus_no h hr hs _).mono ?_; rintro e w1 ⟨rfl, hb⟩)
        go_ret
        exact ⟨rfl, hb⟩
    · by_cases hs : sgn Ieee.double x = true
      · have h2 := ord_neg h hr hs
        have e : rk x = 0 := by unfold rk; simp [h, hr, hs]
        rw [e]
        go_enter Try.func50, Try.ntmps50
        go_wp2
        go_ret
        exact ⟨rfl, Below.refl _ _⟩
      · have hs : sgn Ieee.double x = false := by simpa using hs
        have h2 := ord_pos h hr hs
        have e : rk x = 3 := by unfold rk; simp [h, hr, hs]
        rw [e]
        go_enter Try.func50, Try.ntmps50
        go_wp2
        go_ret
        exact ⟨rfl, Below.refl _ _⟩

/-- The order of two floats as the specification tells it. -/
def lo (x y : Nat) : Int :=
  if rk x < rk y then -1
  else if rk y < rk x then 1
  else if FloatKind.f64.format.order x y = some .lt then -1
  else if FloatKind.f64.format.order x y = some .gt then 1 else 0

theorem order_any (x y : Nat) (w : World) : Calls Try.prog 32 #[.float .f64 x, .float .f64 y] w fun e w' => e = .returned (.int .i64 (lo x y)) ∧ Below w.heap.size w w' := by
  by_cases h1 : rk x < rk y
  · have e : lo x y = -1 := by unfold lo; rw [if_pos h1]
    rw [e]
    go_enter Try.func32, Try.ntmps32
    go_wp2_with (go_at_call 50; refine (rank_any _ _).mono ?_; rintro e w1 ⟨rfl, hb⟩)
    go_ret
    exact ⟨rfl, Below.trans ‹Below w.heap.size w _› (Below.mono hb (Below.size ‹Below w.heap.size w _›))⟩
  · by_cases h2 : rk y < rk x
    · have e : lo x y = 1 := by unfold lo; rw [if_neg h1, if_pos h2]
      have h3 : (rk x == rk y) = false := by simp; omega
      rw [e]
      go_enter Try.func32, Try.ntmps32
      go_wp2_with (go_at_call 50; refine (rank_any _ _).mono ?_; rintro e w1 ⟨rfl, hb⟩)
      go_ret
      exact ⟨rfl, Below.trans ‹Below w.heap.size w _› (Below.mono hb (Below.size ‹Below w.heap.size w _›))⟩
    · have h3 : rk x = rk y := by omega
      have h4 : (rk x == rk y) = true := by simp [h3]
      by_cases h5 : FloatKind.f64.format.order x y = some .lt
      · have e : lo x y = -1 := by unfold lo; rw [if_neg h1, if_neg h2, if_pos h5]
        rw [e]
        clear h3
        go_enter Try.func32, Try.ntmps32
        go_wp2_with (go_at_call 50; refine (rank_any _ _).mono ?_; rintro e w1 ⟨rfl, hb⟩)
        go_ret
        exact ⟨rfl, Below.trans ‹Below w.heap.size w _› (Below.mono hb (Below.size ‹Below w.heap.size w _›))⟩
      · have h5' : (FloatKind.f64.format.order x y == some .lt) = false := by simpa using h5
        by_cases h6 : FloatKind.f64.format.order x y = some .gt
        · have e : lo x y = 1 := by unfold lo; rw [if_neg h1, if_neg h2, if_neg h5, if_pos h6]
          rw [e]
          clear h3 h5 h5'
          go_enter Try.func32, Try.ntmps32
          go_wp2_with (go_at_call 50; refine (rank_any _ _).mono ?_; rintro e w1 ⟨rfl, hb⟩)
          go_ret
          exact ⟨rfl, Below.trans ‹Below w.heap.size w _› (Below.mono hb (Below.size ‹Below w.heap.size w _›))⟩
        · have h6' : (FloatKind.f64.format.order x y == some .gt) = false := by simpa using h6
          have e : lo x y = 0 := by unfold lo; rw [if_neg h1, if_neg h2, if_neg h5, if_neg h6]
          rw [e]
          clear h3 h5 h6
          go_enter Try.func32, Try.ntmps32
          go_wp2_with (go_at_call 50; refine (rank_any _ _).mono ?_; rintro e w1 ⟨rfl, hb⟩)
          go_ret
          exact ⟨rfl, Below.trans ‹Below w.heap.size w _› (Below.mono hb (Below.size ‹Below w.heap.size w _›))⟩

/-- Behind a call that keeps what was there: old cells and marks read as before (two rules for the walk). -/
theorem bcell {W w1 : World} (hb : Below W.heap.size W w1) : (∀ b o, b < W.heap.size → w1.cell? ⟨b, o, none⟩ = W.cell? ⟨b, o, none⟩) ∧ (∀ b o, b < W.heap.size → w1.frozen? ⟨b, o, none⟩ = W.frozen? ⟨b, o, none⟩) :=
  ⟨fun b o h => hb.cell (p := ⟨b, o, none⟩) h, fun b o h => hb.frozen (p := ⟨b, o, none⟩) h⟩

/-- The order of two complex numbers. -/
def clo (a b c d : Nat) : Int := if lo a c = 0 then lo b d else lo a c

theorem cxOrder_any (a b c d : Nat) (w : World) :
    Calls Try.prog 9 #[.agg #[.float .f64 a, .float .f64 b], .agg #[.float .f64 c, .float .f64 d]] w fun e w' => e = .returned (.int .i64 (clo a b c d)) ∧ Below w.heap.size w w' := by
  by_cases h : lo a c = 0
  · have e : clo a b c d = lo b d := by unfold clo; rw [if_pos h]
    have h' : (lo a c == 0) = true := by simp [h]
    rw [e]
    clear h
    go_enter Try.func9, Try.ntmps9
    go_wp2_with (go_at_call 32; refine (order_any _ _ _).mono ?_; rintro e w1 ⟨rfl, hb⟩; obtain ⟨hc, hf⟩ := bcell hb)
    go_ret
    rename_i w0 hb0 _ _
    exact ⟨rfl, (((Below.refl _ _).alloc (Nat.le_refl _) _).alloc (by simp) _).trans ((hb0.mono (by simp <;> omega)).trans (hb.mono (by have := hb0.size; simp at this; omega)))⟩
  · have e : clo a b c d = lo a c := by unfold clo; rw [if_neg h]
    have h' : (lo a c == 0) = false := by simpa using h
    rw [e]
    clear h
    go_enter Try.func9, Try.ntmps9
    go_wp2_with (go_at_call 32; refine (order_any _ _ _).mono ?_; rintro e w1 ⟨rfl, hb⟩; obtain ⟨hc, hf⟩ := bcell hb)
    go_ret
    exact ⟨rfl, (((Below.refl _ _).alloc (Nat.le_refl _) _).alloc (by simp) _).trans (hb.mono (by simp <;> omega))⟩

theorem lo_same {x y : Nat} (h : ab .f64 x = ab .f64 y) : lo x y = 0 := by
  replace h : (if isn Ieee.double x = true then none else some x) = if isn Ieee.double y = true then none else some y := h
  by_cases hx : isn Ieee.double x = true
  · have hy : isn Ieee.double y = true := by
      by_cases hy : isn Ieee.double y = true
      · exact hy
      · rw [if_pos hx, if_neg hy] at h; cases h
    unfold lo rk
    rw [ord_nan (.inl hx), hx, hy]; simp
  · by_cases hy : isn Ieee.double y = true
    · rw [if_neg hx, if_pos hy] at h; cases h
    · rw [if_neg hx, if_neg hy] at h
      cases h
      have hx : isn Ieee.double x = false := by simpa using hx
      unfold lo
      rw [ord_self hx]; simp

end Go.Proofs.Ytmlgkmgkicdnbaa
