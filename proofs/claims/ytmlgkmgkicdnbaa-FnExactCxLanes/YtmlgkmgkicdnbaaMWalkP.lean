/-
  The orders of complex numbers, the program's and the specification's, and the widening, walked; how the laws compare floats.
-/
import Derived.Test.YtmlgkmgkicdnbaaRows
import Derived.Test.YtmlgkmgkicdnbaaMOrd
import Derived.Test.YtmlgkmgkicdnbaaMCfv
namespace Go.Proofs.Ytmlgkmgkicdnbaa
open Go.RowKit Fl

@[go_sem] theorem build25 (a b : Nat) (w : World) : (Instr.build 28 #[(0, .float .f64 a), (1, .float .f64 b)]).run Try.prog w = .ok (.agg #[.float .f64 a, .float .f64 b]) w := run_build w 28 _ _ (by kernel_rfl)
/-- Two floats that are the same value are told so. -/
theorem same_true {x y : Nat} (h : ab .f64 x = ab .f64 y) (w : World) : Calls Try.prog 47 #[.float .f64 x, .float .f64 y] w fun e w' => e = .returned (.bool true) ∧ Below w.heap.size w w' := by
  replace h : (if isn Ieee.double x = true then none else some x) = if isn Ieee.double y = true then none else some y := h
  by_cases hx : isn Ieee.double x = true
  · have hy : isn Ieee.double y = true := by
      by_cases hy : isn Ieee.double y = true
      · exact hy
      · rw [if_pos hx, if_neg hy] at h; cases h
    have h1 := ord_nan (y := x) (.inl hx)
    have h2 := ord_nan (y := y) (.inl hy)
    clear h
    go_enter Try.func47, Try.ntmps47
    go_wp2
    go_ret
    exact ⟨rfl, Below.refl _ _⟩
  · by_cases hy : isn Ieee.double y = true
    · rw [if_neg hx, if_pos hy] at h; cases h
    · rw [if_neg hx, if_neg hy] at h
      cases h
      have hx : isn Ieee.double x = false := by simpa using hx
      have h1 := ord_self hx
      clear hy
      by_cases hr : rung Ieee.double x = 0
      · have h2 := ord_zero hx hr
        have h3 := fun w => ord_quo hr w
        cases hs : sgn Ieee.double x <;> rw [hs] at h3
        all_goals
          clear hs hr hx
          go_enter Try.func47, Try.ntmps47
          go_wp2
          go_ret
          exact ⟨rfl, below_drewN (Below.refl _ _) _⟩
      · have h2 : (FloatKind.f64.format.order x 0 == some .eq) = false := by
          cases hs : sgn Ieee.double x
          · rw [ord_pos hx hr hs]; rfl
          · rw [ord_neg hx hr hs]; rfl
        clear hr hx
        go_enter Try.func47, Try.ntmps47
        go_wp2
        go_ret
        exact ⟨rfl, Below.refl _ _⟩
theorem eqCx_true {a b c d : Nat} (h1 : ab .f64 a = ab .f64 c) (h2 : ab .f64 b = ab .f64 d) (w : World) :
    Calls Try.prog 23 #[.agg #[.float .f64 a, .float .f64 b], .agg #[.float .f64 c, .float .f64 d]] w fun e w' => e = .returned (.bool true) ∧ Below w.heap.size w w' := by
  obtain ⟨W, hW, b0, b1, bW⟩ := pairBoxes w 28 28 (.float .f64 a) (.float .f64 b) (.float .f64 c) (.float .f64 d)
  have H1 : Hid (ab .f64 a = ab .f64 c) := h1
  have H2 : Hid (ab .f64 b = ab .f64 d) := h2
  clear h1 h2
  obtain ⟨p0, p1, -, -⟩ := b0.open
  obtain ⟨q0, q1, -, -⟩ := b1.open
  go_enter Try.func23, Try.ntmps23
  go_wp2_with fail
  clear hW
  refine (same_true H1.out _).mono ?_
  rintro e w1 ⟨rfl, hb⟩
  replace bW := bW.trans (hb.mono bW.size)
  obtain ⟨-, p1, -, -⟩ := (b0.below hb).open
  obtain ⟨-, q1, -, -⟩ := (b1.below hb).open
  clear hb b0 b1
  go_wp2_with fail
  refine (same_true H2.out _).mono ?_
  rintro e w2 ⟨rfl, hb⟩
  replace bW := bW.trans (hb.mono bW.size)
  clear hb
  go_wp2
  go_ret
  exact ⟨rfl, bW⟩
theorem toCx_any (a b : Nat) (w : World) :
    Calls Try.prog 46 #[.agg #[.float .f64 a, .float .f64 b]] w fun e w' => e = .returned (.agg #[.float .f64 a, .float .f64 b]) ∧ Below w.heap.size w w' := by
  go_enter Try.func46, Try.ntmps46
  go_wp2
  exact bodyPost_ret (v := .agg #[.float .f64 a, .float .f64 b]) (by simp [results, Try.results46, go_sem]) rfl ⟨rfl, (((Below.refl _ _).alloc (Nat.le_refl _) _).alloc (by simp) _).alloc (by simp <;> omega) _⟩
theorem wideOf_any (a b : Nat) (w : World) :
    Calls Try.prog 29 #[.agg #[.float .f64 a, .float .f64 b]] w fun e w' => e = .returned (.complex .f64 a b) ∧ Below w.heap.size w w' := by
  go_enter Try.func29, Try.ntmps29
  go_wp2
  go_ret
  exact ⟨rfl, below_alloc _ _⟩
theorem cxOf_any (a b : Nat) (w : World) :
    Calls Try.prog 30 #[.complex .f64 a b] w fun e w' => e = .returned (.agg #[.float .f64 a, .float .f64 b]) ∧ Below w.heap.size w w' := by
  go_enter Try.func30, Try.ntmps30
  go_wp2
  exact bodyPost_ret (v := .agg #[.float .f64 a, .float .f64 b]) (by simp [results, Try.results30, go_sem]) rfl ⟨rfl, below_alloc _ _⟩


/-- Block q holds two cells, and stands in w as it stood. -/
def Box (w : World) (q : Nat) (v0 v1 : Value) : Prop := w.heap[q]? = some (.cells #[v0, v1] 28)
theorem Box.lt {w : World} {q : Nat} {v0 v1 : Value} (h : Box w q v0 v1) : q < w.heap.size := (Array.getElem?_eq_some_iff.1 h).1
theorem Box.kept {w w' : World} {p q : Nat} {v0 v1 : Value} (h : Box w q v0 v1) (hk : Kept p w w') (hq : q ≠ p) : Box w' q v0 v1 := (hk.block q h.lt hq).trans h
theorem Box.below {w w' : World} {q : Nat} {v0 v1 : Value} (h : Box w q v0 v1) (hk : Below w.heap.size w w') : Box w' q v0 v1 := (hk.block q h.lt).trans h
theorem Box.open {w : World} {q : Nat} {v0 v1 : Value} (h : Box w q v0 v1) : w.cell? ⟨q, 0, none⟩ = some v0 ∧ w.cell? ⟨q, 1, none⟩ = some v1 ∧ w.frozen? ⟨q, 0, none⟩ = false ∧ w.frozen? ⟨q, 1, none⟩ = false := by
  simp [World.cell?, World.frozen?, show w.heap[q]? = _ from h]
theorem box_new (w : World) (v0 v1 : Value) : Box (w.alloc (.cells #[v0, v1] 28)) w.heap.size v0 v1 := heap_alloc_new w _
theorem box_new' (w : World) (v0 v1 : Value) {q : Nat} (hq : q = w.heap.size) : Box (w.alloc (.cells #[v0, v1] 28)) q v0 v1 := hq ▸ heap_alloc_new w _

theorem minus_yes {x : Nat} (h : isn Ieee.double x = false) (hr : rung Ieee.double x = 0) (hs : sgn Ieee.double x = true) (w : World) :
    Calls Try.prog 63 #[.float .f64 x] w fun e w' => e = .returned (.bool true) ∧ Below w.heap.size w w' := by
  have h1 := ord_zero h hr
  have h2 := fun w => ord_quo hr w
  rw [hs] at h2
  go_enter Try.func63, Try.ntmps63
  go_wp2
  go_ret
  exact ⟨rfl, below_drewN (Below.refl _ _) _⟩
theorem minus_no {x : Nat} (h : isn Ieee.double x = false) (hr : rung Ieee.double x = 0) (hs : sgn Ieee.double x = false) (w : World) :
    Calls Try.prog 63 #[.float .f64 x] w fun e w' => e = .returned (.bool false) ∧ Below w.heap.size w w' := by
  have h1 := ord_zero h hr
  have h2 := fun w => ord_quo hr w
  rw [hs] at h2
  go_enter Try.func63, Try.ntmps63
  go_wp2
  go_ret
  exact ⟨rfl, below_drewN (Below.refl _ _) _⟩
theorem rank_any (x : Nat) (w : World) : Calls Try.prog 50 #[.float .f64 x] w fun e w' => e = .returned (.int .i64 (rk x)) ∧ Below w.heap.size w w' := by
  by_cases h : isn Ieee.double x = true
  · have h1 := ord_nan (y := x) (.inl h)
    have e : rk x = 4 := by unfold rk; rw [if_pos h]
    rw [e]
    go_enter Try.func50, Try.ntmps50
    go_wp2
    go_ret
    exact ⟨rfl, Below.refl _ _⟩
  · have h : isn Ieee.double x = false := by simpa using h
    have h1 := ord_self h
    by_cases hr : rung Ieee.double x = 0
    · have h2 := ord_zero h hr
      by_cases hs : sgn Ieee.double x = true
      · have e : rk x = 1 := by unfold rk; simp [h, hr, hs]
        rw [e]
        go_enter Try.func50, Try.ntmps50
        go_wp2_with (go_at_call 63; refine (minus_yes h hr hs _).mono ?_; rintro e w1 ⟨rfl, hb⟩)
        go_ret
        exact ⟨rfl, hb⟩
      · have hs : sgn Ieee.double x = false := by simpa using hs
        have e : rk x = 2 := by unfold rk; simp [h, hr, hs]
        rw [e]
        go_enter Try.func50, Try.ntmps50
        go_wp2_with (go_at_call 63; refine (minus_no h hr hs _).mono ?_; rintro e w1 ⟨rfl, hb⟩)
        go_ret
        exact ⟨rfl, hb⟩
    · by_cases hs : sgn Ieee.double x = true
      · have h2 := ord_neg h hr hs
        have e : rk x = 0 := by unfold rk; simp [h, hr, hs]
        rw [e]
        go_enter Try.func50, Try.ntmps50
        go_wp2
        go_ret
        exact ⟨rfl, Below.refl _ _⟩
      · have hs : sgn Ieee.double x = false := by simpa using hs
        have h2 := ord_pos h hr hs
        have e : rk x = 3 := by unfold rk; simp [h, hr, hs]
        rw [e]
        go_enter Try.func50, Try.ntmps50
        go_wp2
        go_ret
        exact ⟨rfl, Below.refl _ _⟩
theorem order_any (x y : Nat) (w : World) : Calls Try.prog 32 #[.float .f64 x, .float .f64 y] w fun e w' => e = .returned (.int .i64 (lo x y)) ∧ Below w.heap.size w w' := by
  by_cases h1 : rk x < rk y
  · have e : lo x y = -1 := by unfold lo; rw [if_pos h1]
    rw [e]
    go_enter Try.func32, Try.ntmps32
    go_wp2_with (go_at_call 50; refine (rank_any _ _).mono ?_; rintro e w1 ⟨rfl, hb⟩)
    go_ret
    exact ⟨rfl, Below.trans ‹Below w.heap.size w _› (Below.mono hb (Below.size ‹Below w.heap.size w _›))⟩
  · by_cases h2 : rk y < rk x
    · have e : lo x y = 1 := by unfold lo; rw [if_neg h1, if_pos h2]
      have h3 : (rk x == rk y) = false := by simp; omega
      rw [e]
      go_enter Try.func32, Try.ntmps32
      go_wp2_with (go_at_call 50; refine (rank_any _ _).mono ?_; rintro e w1 ⟨rfl, hb⟩)
      go_ret
      exact ⟨rfl, Below.trans ‹Below w.heap.size w _› (Below.mono hb (Below.size ‹Below w.heap.size w _›))⟩
    · have h3 : rk x = rk y := by omega
      have h4 : (rk x == rk y) = true := by simp [h3]
      by_cases h5 : FloatKind.f64.format.order x y = some .lt
      · have e : lo x y = -1 := by unfold lo; rw [if_neg h1, if_neg h2, if_pos h5]
        rw [e]
        clear h3
        go_enter Try.func32, Try.ntmps32
        go_wp2_with (go_at_call 50; refine (rank_any _ _).mono ?_; rintro e w1 ⟨rfl, hb⟩)
        go_ret
        exact ⟨rfl, Below.trans ‹Below w.heap.size w _› (Below.mono hb (Below.size ‹Below w.heap.size w _›))⟩
      · have h5' : (FloatKind.f64.format.order x y == some .lt) = false := by simpa using h5
        by_cases h6 : FloatKind.f64.format.order x y = some .gt
        · have e : lo x y = 1 := by unfold lo; rw [if_neg h1, if_neg h2, if_neg h5, if_pos h6]
          rw [e]
          clear h3 h5 h5'
          go_enter Try.func32, Try.ntmps32
          go_wp2_with (go_at_call 50; refine (rank_any _ _).mono ?_; rintro e w1 ⟨rfl, hb⟩)
          go_ret
          exact ⟨rfl, Below.trans ‹Below w.heap.size w _› (Below.mono hb (Below.size ‹Below w.heap.size w _›))⟩
        · have h6' : (FloatKind.f64.format.order x y == some .gt) = false := by simpa using h6
          have e : lo x y = 0 := by unfold lo; rw [if_neg h1, if_neg h2, if_neg h5, if_neg h6]
          rw [e]
          clear h3 h5 h6
          go_enter Try.func32, Try.ntmps32
          go_wp2_with (go_at_call 50; refine (rank_any _ _).mono ?_; rintro e w1 ⟨rfl, hb⟩)
          go_ret
          exact ⟨rfl, Below.trans ‹Below w.heap.size w _› (Below.mono hb (Below.size ‹Below w.heap.size w _›))⟩
theorem cxOrder_any (a b c d : Nat) (w : World) :
    Calls Try.prog 9 #[.agg #[.float .f64 a, .float .f64 b], .agg #[.float .f64 c, .float .f64 d]] w fun e w' => e = .returned (.int .i64 (clo a b c d)) ∧ Below w.heap.size w w' := by
  by_cases h : lo a c = 0
  · have e : clo a b c d = lo b d := by unfold clo; rw [if_pos h]
    have h' : (lo a c == 0) = true := by simp [h]
    rw [e]
    clear h
    go_enter Try.func9, Try.ntmps9
    go_wp2_with (go_at_call 32; refine (order_any _ _ _).mono ?_; rintro e w1 ⟨rfl, hb⟩; obtain ⟨hc, hf⟩ := bcell hb)
    go_ret
    rename_i w0 hb0 _ _
    exact ⟨rfl, (((Below.refl _ _).alloc (Nat.le_refl _) _).alloc (by simp) _).trans ((hb0.mono (by simp <;> omega)).trans (hb.mono (by have := hb0.size; simp at this; omega)))⟩
  · have e : clo a b c d = lo a c := by unfold clo; rw [if_neg h]
    have h' : (lo a c == 0) = false := by simpa using h
    rw [e]
    clear h
    go_enter Try.func9, Try.ntmps9
    go_wp2_with (go_at_call 32; refine (order_any _ _ _).mono ?_; rintro e w1 ⟨rfl, hb⟩; obtain ⟨hc, hf⟩ := bcell hb)
    go_ret
    exact ⟨rfl, (((Below.refl _ _).alloc (Nat.le_refl _) _).alloc (by simp) _).trans (hb.mono (by simp <;> omega))⟩

/-- What the law's regions read. -/
abbrev S7 (W : World) (n a b c d : Nat) (w' : World) : Prop :=
  (w'.cell? ⟨n, 0, none⟩ = some (.float .f64 a) ∧ w'.cell? ⟨n, 1, none⟩ = some (.float .f64 b) ∧ w'.cell? ⟨n + 1, 0, none⟩ = some (.float .f64 c) ∧ w'.cell? ⟨n + 1, 1, none⟩ = some (.float .f64 d)) ∧ Below W.heap.size W w'

end Go.Proofs.Ytmlgkmgkicdnbaa
