/-
  The orders of complex numbers, the program's and the specification's, and the widening, walked; how the laws compare floats.
-/
import Derived.Test.YteaeolilgdnodajRows
import Derived.Test.YteaeolilgdnodajOrd
import Derived.Test.YteaeolilgdnodajCfv
namespace Go.Proofs.Yteaeolilgdnodaj
open Go.RowKit Fl

@[go_sem] theorem build25 (a b : Nat) (w : World) : (Instr.build 26 #[(0, .float .f64 a), (1, .float .f64 b)]).run Try.prog w = .ok (.agg #[.float .f64 a, .float .f64 b]) w := run_build w 26 _ _ (by kernel_rfl)
/-- Two floats that are the same value are told so. -/
theorem same_true {x y : Nat} (h : ab .f64 x = ab .f64 y) (w : World) : Calls Try.prog 41 #[.float .f64 x, .float .f64 y] w fun e w' => e = .returned (.bool true) ∧ Below w.heap.size w w' := by
  replace h : (if isn Ieee.double x = true then none else some x) = if isn Ieee.double y = true then none else some y := h
  by_cases hx : isn Ieee.double x = true
  · have hy : isn Ieee.double y = true := by
      by_cases hy : isn Ieee.double y = true
      · exact hy
      · rw [if_pos hx, if_neg hy] at h; cases h
    have h1 := ord_nan (y := x) (.inl hx)
    have h2 := ord_nan (y := y) (.inl hy)
    clear h
    go_enter Try.func41, Try.ntmps41
    go_wp2
    go_ret
    exact ⟨rfl, Below.refl _ _⟩
  · by_cases hy : isn Ieee.double y = true
    · rw [if_neg hx, if_pos hy] at h; cases h
    · rw [if_neg hx, if_neg hy] at h
      cases h
      have hx : isn Ieee.double x = false := by simpa using hx
      have h1 := ord_self hx
      clear hy
      by_cases hr : rung Ieee.double x = 0
      · have h2 := ord_zero hx hr
        have h3 := fun w => ord_quo hr w
        cases hs : sgn Ieee.double x <;> rw [hs] at h3
        all_goals
          clear hs hr hx
          go_enter Try.func41, Try.ntmps41
          go_wp2
          go_ret
          exact ⟨rfl, below_drewN (Below.refl _ _) _⟩
      · have h2 : (FloatKind.f64.format.order x 0 == some .eq) = false := by
          cases hs : sgn Ieee.double x
          · rw [ord_pos hx hr hs]; rfl
          · rw [ord_neg hx hr hs]; rfl
        clear hr hx
        go_enter Try.func41, Try.ntmps41
        go_wp2
        go_ret
        exact ⟨rfl, Below.refl _ _⟩
theorem eqCx_true {a b c d : Nat} (h1 : ab .f64 a = ab .f64 c) (h2 : ab .f64 b = ab .f64 d) (w : World) :
    Calls Try.prog 16 #[.agg #[.float .f64 a, .float .f64 b], .agg #[.float .f64 c, .float .f64 d]] w fun e w' => e = .returned (.bool true) ∧ Below w.heap.size w w' := by
  obtain ⟨W, hW, b0, b1, bW⟩ := pairBoxes w 26 26 (.float .f64 a) (.float .f64 b) (.float .f64 c) (.float .f64 d)
  have H1 : Hid (ab .f64 a = ab .f64 c) := h1
  have H2 : Hid (ab .f64 b = ab .f64 d) := h2
  clear h1 h2
  obtain ⟨p0, p1, -, -⟩ := b0.open
  obtain ⟨q0, q1, -, -⟩ := b1.open
  go_enter Try.func16, Try.ntmps16
  go_wp2_with fail
  clear hW
  refine (same_true H1.out _).mono ?_
  rintro e w1 ⟨rfl, hb⟩
  replace bW := bW.trans (hb.mono bW.size)
  obtain ⟨-, p1, -, -⟩ := (b0.below hb).open
  obtain ⟨-, q1, -, -⟩ := (b1.below hb).open
  clear hb b0 b1
  go_wp2_with fail
  refine (same_true H2.out _).mono ?_
  rintro e w2 ⟨rfl, hb⟩
  replace bW := bW.trans (hb.mono bW.size)
  clear hb
  go_wp2
  go_ret
  exact ⟨rfl, bW⟩
theorem toCx_any (a b : Nat) (w : World) :
    Calls Try.prog 10 #[.agg #[.float .f64 a, .float .f64 b]] w fun e w' => e = .returned (.agg #[.float .f64 a, .float .f64 b]) ∧ Below w.heap.size w w' := by
  go_enter Try.func10, Try.ntmps10
  go_wp2
  exact bodyPost_ret (v := .agg #[.float .f64 a, .float .f64 b]) (by simp [results, Try.results10, go_sem]) rfl ⟨rfl, (((Below.refl _ _).alloc (Nat.le_refl _) _).alloc (by simp) _).alloc (by simp <;> omega) _⟩
theorem wideOf_any (a b : Nat) (w : World) :
    Calls Try.prog 39 #[.agg #[.float .f64 a, .float .f64 b]] w fun e w' => e = .returned (.complex .f64 a b) ∧ Below w.heap.size w w' := by
  go_enter Try.func39, Try.ntmps39
  go_wp2
  go_ret
  exact ⟨rfl, below_alloc _ _⟩
theorem cxOf_any (a b : Nat) (w : World) :
    Calls Try.prog 40 #[.complex .f64 a b] w fun e w' => e = .returned (.agg #[.float .f64 a, .float .f64 b]) ∧ Below w.heap.size w w' := by
  go_enter Try.func40, Try.ntmps40
  go_wp2
  exact bodyPost_ret (v := .agg #[.float .f64 a, .float .f64 b]) (by simp [results, Try.results40, go_sem]) rfl ⟨rfl, below_alloc _ _⟩


/-- Block q holds two cells, and stands in w as it stood. -/
def Box (w : World) (q : Nat) (v0 v1 : Value) : Prop := w.heap[q]? = some (.cells #[v0, v1] 26)
theorem Box.lt {w : World} {q : Nat} {v0 v1 : Value} (h : Box w q v0 v1) : q < w.heap.size := (Array.getElem?_eq_some_iff.1 h).1
theorem Box.kept {w w' : World} {p q : Nat} {v0 v1 : Value} (h : Box w q v0 v1) (hk : Kept p w w') (hq : q ≠ p) : Box w' q v0 v1 := (hk.block q h.lt hq).trans h
theorem Box.below {w w' : World} {q : Nat} {v0 v1 : Value} (h : Box w q v0 v1) (hk : Below w.heap.size w w') : Box w' q v0 v1 := (hk.block q h.lt).trans h
theorem Box.open {w : World} {q : Nat} {v0 v1 : Value} (h : Box w q v0 v1) : w.cell? ⟨q, 0, none⟩ = some v0 ∧ w.cell? ⟨q, 1, none⟩ = some v1 ∧ w.frozen? ⟨q, 0, none⟩ = false ∧ w.frozen? ⟨q, 1, none⟩ = false := by
  simp [World.cell?, World.frozen?, show w.heap[q]? = _ from h]
theorem box_new (w : World) (v0 v1 : Value) : Box (w.alloc (.cells #[v0, v1] 26)) w.heap.size v0 v1 := heap_alloc_new w _
theorem box_new' (w : World) (v0 v1 : Value) {q : Nat} (hq : q = w.heap.size) : Box (w.alloc (.cells #[v0, v1] 26)) q v0 v1 := hq ▸ heap_alloc_new w _

theorem minus_yes {x : Nat} (h : isn Ieee.double x = false) (hr : rung Ieee.double x = 0) (hs : sgn Ieee.double x = true) (w : World) :
    Calls Try.prog 53 #[.float .f64 x] w fun e w' => e = .returned (.bool true) ∧ Below w.heap.size w w' := by
  have h1 := ord_zero h hr
  have h2 := fun w => ord_quo hr w
  rw [hs] at h2
  go_enter Try.func53, Try.ntmps53
  go_wp2
  go_ret
  exact ⟨rfl, below_drewN (Below.refl _ _) _⟩
theorem minus_no {x : Nat} (h : isn Ieee.double x = false) (hr : rung Ieee.double x = 0) (hs : sgn Ieee.double x = false) (w : World) :
    Calls Try.prog 53 #[.float .f64 x] w fun e w' => e = .returned (.bool false) ∧ Below w.heap.size w w' := by
  have h1 := ord_zero h hr
  have h2 := fun w => ord_quo hr w
  rw [hs] at h2
  go_enter Try.func53, Try.ntmps53
  go_wp2
  go_ret
  exact ⟨rfl, below_drewN (Below.refl _ _) _⟩
theorem rank_any (x : Nat) (w : World) : Calls Try.prog 47 #[.float .f64 x] w fun e w' => e = .returned (.int .i64 (rk x)) ∧ Below w.heap.size w w' := by
  by_cases h : isn Ieee.double x = true
  · have h1 := ord_nan (y := x) (.inl h)
    have e : rk x = 4 := by unfold rk; rw [if_pos h]
    rw [e]
    go_enter Try.func47, Try.ntmps47
    go_wp2
    go_ret
    exact ⟨rfl, Below.refl _ _⟩
  · have h : isn Ieee.double x = false := by simpa using h
    have h1 := ord_self h
    by_cases hr : rung Ieee.double x = 0
    · have h2 := ord_zero h hr
      by_cases hs : sgn Ieee.double x = true
      · have e : rk x = 1 := by unfold rk; simp [h, hr, hs]
        rw [e]
        go_enter Try.func47, Try.ntmps47
        go_wp2_with (go_at_call 53; refine (minus_yes h hr hs _).mono ?_; rintro e w1 ⟨rfl, hb⟩)
        go_ret
        exact ⟨rfl, hb⟩
      · have hs : sgn Ieee.double x = false := by simpa using hs
        have e : rk x = 2 := by unfold rk; simp [h, hr, hs]
        rw [e]
        go_enter Try.func47, Try.ntmps47
        go_wp2_with (go_at_call 53; refine (minus_no h hr hs _).mono ?_; rintro e w1 ⟨rfl, hb⟩)
        go_ret
        exact ⟨rfl, hb⟩
    · by_cases hs : sgn Ieee.double x = true
      · have h2 := ord_neg h hr hs
        have e : rk x = 0 := by unfold rk; simp [h, hr, hs]
        rw [e]
        go_enter Try.func47, Try.ntmps47
        go_wp2
        go_ret
        exact ⟨rfl, Below.refl _ _⟩
      · have hs : sgn Ieee.double x = false := by simpa using hs
        have h2 := ord_pos h hr hs
        have e : rk x = 3 := by unfold rk; simp [h, hr, hs]
        rw [e]
        go_enter Try.func47, Try.ntmps47
        go_wp2
        go_ret
        exact ⟨rfl, Below.refl _ _⟩
theorem order_any (x y : Nat) (w : World) : Calls Try.prog 34 #[.float .f64 x, .float .f64 y] w fun e w' => e = .returned (.int .i64 (lo x y)) ∧ Below w.heap.size w w' := by
  by_cases h1 : rk x < rk y
  · have e : lo x y = -1 := by unfold lo; rw [if_pos h1]
    rw [e]
    go_enter Try.func34, Try.ntmps34
    go_wp2_with (go_at_call 47; refine (rank_any _ _).mono ?_; rintro e w1 ⟨rfl, hb⟩)
    go_ret
    exact ⟨rfl, Below.trans ‹Below w.heap.size w _› (Below.mono hb (Below.size ‹Below w.heap.size w _›))⟩
  · by_cases h2 : rk y < rk x
    · have e : lo x y = 1 := by unfold lo; rw [if_neg h1, if_pos h2]
      have h3 : (rk x == rk y) = false := by simp; omega
      rw [e]
      go_enter Try.func34, Try.ntmps34
      go_wp2_with (go_at_call 47; refine (rank_any _ _).mono ?_; rintro e w1 ⟨rfl, hb⟩)
      go_ret
      exact ⟨rfl, Below.trans ‹Below w.heap.size w _› (Below.mono hb (Below.size ‹Below w.heap.size w _›))⟩
    · have h3 : rk x = rk y := by omega
      have h4 : (rk x == rk y) = true := by simp [h3]
      by_cases h5 : FloatKind.f64.format.order x y = some .lt
      · have e : lo x y = -1 := by unfold lo; rw [if_neg h1, if_neg h2, if_pos h5]
        rw [e]
        clear h3
        go_enter Try.func34, Try.ntmps34
        go_wp2_with (go_at_call 47; refine (rank_any _ _).mono ?_; rintro e w1 ⟨rfl, hb⟩)
        go_ret
        exact ⟨rfl, Below.trans ‹Below w.heap.size w _› (Below.mono hb (Below.size ‹Below w.heap.size w _›))⟩
      · have h5' : (FloatKind.f64.format.order x y == some .lt) = false := by simpa using h5
        by_cases h6 : FloatKind.f64.format.order x y = some .gt
        · have e : lo x y = 1 := by unfold lo; rw [if_neg h1, if_neg h2, if_neg h5, if_pos h6]
          rw [e]
          clear h3 h5 h5'
          go_enter Try.func34, Try.ntmps34
          go_wp2_with (go_at_call 47; refine (rank_any _ _).mono ?_; rintro e w1 ⟨rfl, hb⟩)
          go_ret
          exact ⟨rfl, Below.trans ‹Below w.heap.size w _› (Below.mono hb (Below.size ‹Below w.heap.size w _›))⟩
        · have h6' : (FloatKind.f64.format.order x y == some .gt) = false := by simpa using h6
          have e : lo x y = 0 := by unfold lo; rw [if_neg h1, if_neg h2, if_neg h5, if_neg h6]
          rw [e]
          clear h3 h5 h6
          go_enter Try.func34, Try.ntmps34
          go_wp2_with (go_at_call 47; refine (rank_any _ _).mono ?_; rintro e w1 ⟨rfl, hb⟩)
          go_ret
          exact ⟨rfl, Below.trans ‹Below w.heap.size w _› (Below.mono hb (Below.size ‹Below w.heap.size w _›))⟩
theorem cxOrder_any (a b c d : Nat) (w : World) :
    Calls Try.prog 9 #[.agg #[.float .f64 a, .float .f64 b], .agg #[.float .f64 c, .float .f64 d]] w fun e w' => e = .returned (.int .i64 (clo a b c d)) ∧ Below w.heap.size w w' := by
  by_cases h : lo a c = 0
  · have e : clo a b c d = lo b d := by unfold clo; rw [if_pos h]
    have h' : (lo a c == 0) = true := by simp [h]
    rw [e]
    clear h
    go_enter Try.func9, Try.ntmps9
    go_wp2_with (go_at_call 34; refine (order_any _ _ _).mono ?_; rintro e w1 ⟨rfl, hb⟩; obtain ⟨hc, hf⟩ := bcell hb)
    go_ret
    rename_i w0 hb0 _ _
    exact ⟨rfl, (((Below.refl _ _).alloc (Nat.le_refl _) _).alloc (by simp) _).trans ((hb0.mono (by simp <;> omega)).trans (hb.mono (by have := hb0.size; simp at this; omega)))⟩
  · have e : clo a b c d = lo a c := by unfold clo; rw [if_neg h]
    have h' : (lo a c == 0) = false := by simpa using h
    rw [e]
    clear h
    go_enter Try.func9, Try.ntmps9
    go_wp2_with (go_at_call 34; refine (order_any _ _ _).mono ?_; rintro e w1 ⟨rfl, hb⟩; obtain ⟨hc, hf⟩ := bcell hb)
    go_ret
    exact ⟨rfl, (((Below.refl _ _).alloc (Nat.le_refl _) _).alloc (by simp) _).trans (hb.mono (by simp <;> omega))⟩

@[go_sem] theorem run_fbits (x : Nat) (w : World) : (callFunc 50 #[.float .f64 x]).run Try.prog w = .ok (.value (.int .u64 x)) w := by
  rw [run_callFunc_extern (e := Extern.MathFloatBits.float64bits) Try.func50 (by kernel_rfl) (by kernel_rfl) (by kernel_rfl) (by kernel_rfl)]
  rfl
theorem signbit_any {x : Nat} (hx : x < 2 ^ 64) (w : World) : Calls Try.prog 51 #[.float .f64 x] w fun e w' => e = .returned (.bool (sgn Ieee.double x)) ∧ w = w' := by
  rw [sgn_iff hx]
  by_cases h : 2 ^ 63 ≤ x
  · have hw : wrap64 (x : Int) = (x : Int) - 2 ^ 64 := by unfold wrap64; omega
    have e : decide (2 ^ 63 ≤ x) = true := by simpa using h
    have hlt : wrap64 (x : Int) < 0 := by omega
    rw [e]
    clear hw
    go_enter Try.func51, Try.ntmps51
    go_wp2
    go_ret
    exact ⟨rfl, rfl⟩
  · have hw : wrap64 (x : Int) = (x : Int) := by unfold wrap64; omega
    have e : decide (2 ^ 63 ≤ x) = false := by simpa using h
    have hlt : ¬ (x : Int) < 0 := by omega
    rw [e]
    go_enter Try.func51, Try.ntmps51
    go_wp2
    go_ret
    exact ⟨rfl, rfl⟩
theorem isNaN_any (x : Nat) (w : World) : Calls Try.prog 49 #[.float .f64 x] w fun e w' => e = .returned (.bool (isn Ieee.double x)) ∧ w = w' := by
  by_cases h : isn Ieee.double x = true
  · have h1 := ord_nan (y := x) (.inl h)
    rw [h]
    go_enter Try.func49, Try.ntmps49
    go_wp2
    go_ret
    exact ⟨rfl, rfl⟩
  · have h : isn Ieee.double x = false := by simpa using h
    have h1 := ord_self h
    rw [h]
    go_enter Try.func49, Try.ntmps49
    go_wp2
    go_ret
    exact ⟨rfl, rfl⟩
theorem floatRank_any {x : Nat} (hx : x < 2 ^ 64) (w : World) : Calls Try.prog 36 #[.float .f64 x] w fun e w' => e = .returned (.int .i64 (key x)) ∧ w = w' := by
  have ha := and_rung hx
  have hl := rung_lt x
  have hn := fun w => isNaN_any x w
  have hs := fun w => signbit_any hx w
  by_cases h : isn Ieee.double x = true
  · rw [h] at hn
    have e : key x = 9223372036854775807 := by unfold key; rw [if_pos h]
    rw [e]
    go_enter Try.func36, Try.ntmps36
    go_wp2_with (go_at_call 49; refine (hn _).mono ?_; rintro e w1 ⟨rfl, rfl⟩)
    go_ret
    exact ⟨rfl, rfl⟩
  · have h : isn Ieee.double x = false := by simpa using h
    rw [h] at hn
    by_cases hg : sgn Ieee.double x = true
    · rw [hg] at hs
      have e : key x = -1 - (rung Ieee.double x : Int) := by unfold key; simp [h, hg]
      rw [e]
      clear hx h hg
      generalize rung Ieee.double x = r at *
      go_enter Try.func36, Try.ntmps36
      go_wp2_with (first | (go_at_call 49; refine (hn _).mono ?_; rintro e w1 ⟨rfl, rfl⟩) | (go_at_call 51; refine (hs _).mono ?_; rintro e w1 ⟨rfl, rfl⟩))
      go_ret
      exact ⟨rfl, rfl⟩
    · have hg : sgn Ieee.double x = false := by simpa using hg
      rw [hg] at hs
      have e : key x = (rung Ieee.double x : Int) := by unfold key; simp [h, hg]
      rw [e]
      clear hx h hg
      generalize rung Ieee.double x = r at *
      go_enter Try.func36, Try.ntmps36
      go_wp2_with (first | (go_at_call 49; refine (hn _).mono ?_; rintro e w1 ⟨rfl, rfl⟩) | (go_at_call 51; refine (hs _).mono ?_; rintro e w1 ⟨rfl, rfl⟩))
      go_ret
      exact ⟨rfl, rfl⟩

theorem compare_any (a b : Int) (w : World) : Calls Try.prog 35 #[.int .i64 a, .int .i64 b] w fun e w' => e = .returned (.int .i64 (cmpI a b)) ∧ w' = w := by
  by_cases h1 : a < b
  · have e : cmpI a b = -1 := by unfold cmpI; rw [if_pos h1]
    rw [e]
    go_enter Try.func35, Try.ntmps35
    go_wp2
    go_ret
    exact ⟨rfl, rfl⟩
  · by_cases h2 : b < a
    · have e : cmpI a b = 1 := by unfold cmpI; rw [if_neg h1, if_pos h2]
      rw [e]
      go_enter Try.func35, Try.ntmps35
      go_wp2
      go_ret
      exact ⟨rfl, rfl⟩
    · have e : cmpI a b = 0 := by unfold cmpI; rw [if_neg h1, if_neg h2]
      rw [e]
      go_enter Try.func35, Try.ntmps35
      go_wp2
      go_ret
      exact ⟨rfl, rfl⟩
theorem floatRank_same {x : Nat} (hx : x < 2 ^ 64) (w : World) : Calls Try.prog 36 #[.float .f64 x] w fun e w' => e = .returned (.int .i64 (key x)) ∧ w' = w :=
  (floatRank_any hx w).mono fun _ _ ⟨h1, h2⟩ => ⟨h1, h2.symm⟩
theorem or_first (a : Int) (q : Nat) (w : World) (h : a ≠ 0) (h0 : w.cell? ⟨q, 0, none⟩ = some (.int .i64 a)) :
    Calls Try.prog 37 #[.slice (some ⟨q, 0, none⟩) 2 2] w fun e w' => e = .returned (.int .i64 a) ∧ w' = w := by
  have hn : (a != 0) = true := by simpa using h
  clear h
  go_enter Try.func37, Try.ntmps37
  go_wp2
  refine wp_loop_rounds 1 ?_
  rw [rounds_succ]
  go_wp2
  go_ret
  exact ⟨rfl, rfl⟩
theorem or_second (b : Int) (q : Nat) (w : World) (h0 : w.cell? ⟨q, 0, none⟩ = some (.int .i64 0)) (h1 : w.cell? ⟨q, 1, none⟩ = some (.int .i64 b)) :
    Calls Try.prog 37 #[.slice (some ⟨q, 0, none⟩) 2 2] w fun e w' => e = .returned (.int .i64 b) ∧ w' = w := by
  by_cases h : b = 0
  · subst h
    go_enter Try.func37, Try.ntmps37
    go_wp2
    refine wp_loop_rounds 3 ?_
    rw [rounds_succ]
    go_wp2
    rw [rounds_succ]
    go_wp2
    rw [rounds_succ]
    go_wp2
    go_ret
    exact ⟨rfl, rfl⟩
  · have hn : (b != 0) = true := by simpa using h
    clear h
    go_enter Try.func37, Try.ntmps37
    go_wp2
    refine wp_loop_rounds 2 ?_
    rw [rounds_succ]
    go_wp2
    rw [rounds_succ]
    go_wp2
    go_ret
    exact ⟨rfl, rfl⟩
theorem implOrder_any {a b c d : Nat} (ha : a < 2 ^ 64) (hb : b < 2 ^ 64) (hc : c < 2 ^ 64) (hd : d < 2 ^ 64) (w : World) :
    Calls Try.prog 11 #[.agg #[.float .f64 a, .float .f64 b], .agg #[.float .f64 c, .float .f64 d]] w fun e w' => e = .returned (.int .i64 (cko a b c d)) ∧ Below w.heap.size w w' := by
  obtain ⟨W, hW⟩ : ∃ W, (w.alloc (.cells #[.float .f64 a, .float .f64 b] 26)).alloc (.cells #[.float .f64 c, .float .f64 d] 26) = W := ⟨_, rfl⟩
  have bW : Below w.heap.size w W := by subst hW; exact (below_alloc _ _).trans ((below_alloc _ _).mono (by simp))
  have b0 : Box W w.heap.size (.float .f64 a) (.float .f64 b) := by subst hW; exact (box_new _ _ _).below (below_alloc _ _)
  have b1 : Box W (w.heap.size + 1) (.float .f64 c) (.float .f64 d) := by subst hW; exact box_new' _ _ _ (by simp)
  obtain ⟨p0, p1, p2, p3⟩ := b0.open
  obtain ⟨q0, q1, q2, q3⟩ := b1.open
  go_enter Try.func11, Try.ntmps11
  go_wp2
  clear hW
  go_quiet ((first | (go_at_call 36; exact Calls.quiet_of_same (floatRank_same (by assumption) _)) | (go_at_call 35; exact Calls.quiet_of_same (compare_any _ _ _))))
  go_wp2
  generalize hV : W.drewN nq = V
  have bV : Below w.heap.size w V := by subst hV; exact below_drewN bW _
  replace p1 : V.cell? ⟨w.heap.size, 1, none⟩ = some (.float .f64 b) := by subst hV; exact p1
  replace q1 : V.cell? ⟨w.heap.size + 1, 1, none⟩ = some (.float .f64 d) := by subst hV; exact q1
  clear hV p0 p2 p3 q0 q2 q3 bW b0 b1
  go_quiet ((first | (go_at_call 36; exact Calls.quiet_of_same (floatRank_same (by assumption) _)) | (go_at_call 35; exact Calls.quiet_of_same (compare_any _ _ _))))
  go_wp2_with fail
  have hfin : Below w.heap.size w ((V.drewN nq).alloc (.cells #[.int .i64 (cmpI (key a) (key c)), .int .i64 (cmpI (key b) (key d))] 3)) := (below_drewN bV _).alloc bV.size _
  have c0 : ((V.drewN nq).alloc (.cells #[.int .i64 (cmpI (key a) (key c)), .int .i64 (cmpI (key b) (key d))] 3)).cell? ⟨V.heap.size, 0, none⟩ = some (.int .i64 (cmpI (key a) (key c))) := 
    World.cell?_alloc_at (w := V.drewN nq) _ _ _ _ rfl
  have c1 : ((V.drewN nq).alloc (.cells #[.int .i64 (cmpI (key a) (key c)), .int .i64 (cmpI (key b) (key d))] 3)).cell? ⟨V.heap.size, 1, none⟩ = some (.int .i64 (cmpI (key b) (key d))) := 
    World.cell?_alloc_at (w := V.drewN nq) _ _ _ _ rfl
  by_cases h : cmpI (key a) (key c) = 0
  · have e : cko a b c d = cmpI (key b) (key d) := by unfold cko ko; rw [if_pos h]
    refine (or_second (cmpI (key b) (key d)) _ _ (by rw [c0, h]) c1).mono ?_
    rintro e w1 ⟨rfl, rfl⟩
    clear c0 c1 h
    go_wp2
    go_ret
    rw [e]
    exact ⟨rfl, hfin⟩
  · have e : cko a b c d = cmpI (key a) (key c) := by unfold cko ko; rw [if_neg h]
    refine (or_first (cmpI (key a) (key c)) _ _ h c0).mono ?_
    rintro e w1 ⟨rfl, rfl⟩
    clear c0 c1 h
    go_wp2
    go_ret
    rw [e]
    exact ⟨rfl, hfin⟩


/-- What the law's regions read. -/
abbrev S7 (W : World) (n a b c d : Nat) (w' : World) : Prop :=
  (w'.cell? ⟨n, 0, none⟩ = some (.float .f64 a) ∧ w'.cell? ⟨n, 1, none⟩ = some (.float .f64 b) ∧ w'.cell? ⟨n + 1, 0, none⟩ = some (.float .f64 c) ∧ w'.cell? ⟨n + 1, 1, none⟩ = some (.float .f64 d)) ∧ Below W.heap.size W w'

set_option maxHeartbeats 800000 in
theorem exactOrder_walk {a b c d : Nat} (ha : a < 2 ^ 64) (hb : b < 2 ^ 64) (hc : c < 2 ^ 64) (hd : d < 2 ^ 64) (w : World) :
    Calls Try.prog 3 #[.agg #[.float .f64 a, .float .f64 b], .agg #[.float .f64 c, .float .f64 d]] w fun e w' => e = .returned (.bool true) ∧ Below w.heap.size w w' := by
  obtain ⟨V, hW, b0, b1, bW⟩ := pairBoxes w 24 24 (.float .f64 a) (.float .f64 b) (.float .f64 c) (.float .f64 d)
  have mk : Hid (∀ w', Below V.heap.size V w' → S7 V w.heap.size a b c d w') := fun w' h => ⟨⟨(b0.below h).open.1, (b0.below h).open.2.1, (b1.below h).open.1, (b1.below h).open.2.1⟩, h⟩
  have hcl := clo_eq a b c d
  go_enter Try.func3, Try.ntmps3
  go_wp2_with fail
  clear hW
  go_region_held3 (fun w' => S7 V w.heap.size a b c d w')
    (first | exact mk.out _ (Below.refl _ _).drew | (have hq : S7 _ _ _ _ _ _ _ := ‹_›; exact mk.out _ (hq.2.trans (hb3.mono hq.2.size))))
    (first | (go_at_call 10; refine (toCx_any _ _ _).mono ?_; rintro e w3 ⟨rfl, hb3⟩) | (go_at_call 9; refine (cxOrder_any _ _ _ _ _).mono ?_; rintro e w3 ⟨rfl, hb3⟩))
  have hq : S7 _ _ _ _ _ _ _ := ‹_›
  replace b0 := b0.below hq.2
  replace b1 := b1.below hq.2
  replace bW := bW.trans (hq.2.mono bW.size)
  clear hq mk
  have mk : Hid (∀ w', Below w3.heap.size w3 w' → S7 w3 w.heap.size a b c d w') := fun w' h => ⟨⟨(b0.below h).open.1, (b0.below h).open.2.1, (b1.below h).open.1, (b1.below h).open.2.1⟩, h⟩
  go_wp2_with fail
  go_region_held3 (fun w' => S7 w3 w.heap.size a b c d w')
    (first | exact mk.out _ (Below.refl _ _).drew | (have hq : S7 w3 _ _ _ _ _ _ := ‹_›; exact mk.out _ (hq.2.trans (hb4.mono hq.2.size))))
    (first | (go_at_call 10; refine (toCx_any _ _ _).mono ?_; rintro e w4 ⟨rfl, hb4⟩) | (go_at_call 11; refine (implOrder_any ha hb hc hd _).mono ?_; rintro e w4 ⟨rfl, hb4⟩))
  have hq : S7 w3 _ _ _ _ _ _ := ‹_›
  replace bW := bW.trans (hq.2.mono bW.size)
  clear hq mk b0 b1
  go_wp2
  go_ret
  exact ⟨rfl, bW⟩

end Go.Proofs.Yteaeolilgdnodaj
