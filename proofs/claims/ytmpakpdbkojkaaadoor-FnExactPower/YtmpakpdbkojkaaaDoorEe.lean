/-
  Reflections, and the power by which an atom scatters: walked.
-/
import Derived.Test.YtmpakpdbkojkaaaDoorEb
import Derived.Test.YtmpakpdbkojkaaaDoorMm
namespace Go.Proofs.YtmpakpdbkojkaaaDoor
open Go.RowKit

abbrev hV (h k l : Int) : Value := .agg #[.int .i64 h, .int .i64 k, .int .i64 l]
/-- Which reflections there are. -/
def hOk (h k l : Int) : Bool := decide (-100 ≤ h ∧ h ≤ 100) && (decide (-100 ≤ k ∧ k ≤ 100) && decide (-100 ≤ l ∧ l ≤ 100))
theorem hOk_in {h k l : Int} (e : hOk h k l = true) : (-100 ≤ h ∧ h ≤ 100) ∧ (-100 ≤ k ∧ k ≤ 100) ∧ (-100 ≤ l ∧ l ≤ 100) := by
  simpa [hOk] using e
theorem hright_any (h k l : Int) (w : World) : Calls Tryd.prog 44 #[hV h k l] w fun e w' => e = .returned (.bool (hOk h k l)) ∧ Below w.heap.size w w' := by
  obtain ⟨W, hW, b0, bW, -⟩ := boxed w 37 #[.int .i64 h, .int .i64 k, .int .i64 l]
  obtain ⟨c0, c1, c2, -⟩ := b0.open3
  by_cases i0 : -100 ≤ h ∧ h ≤ 100
  · by_cases i1 : -100 ≤ k ∧ k ≤ 100
    · go_enter Tryd.func44, Tryd.ntmps44
      go_wp2_with (go_at_call 34; refine (within_any _ _ _ (by decide) (by decide)).mono ?_; rintro e w3 ⟨rfl, rfl⟩)
      go_ret
      exact ⟨congrArg (fun b => Ending.returned (Value.bool b)) (show (decide (-100 ≤ l) && decide (l ≤ 100)) = hOk h k l from by rw [Bool.eq_iff_iff]; simp [hOk, i0, i1]), bW⟩
    · go_enter Tryd.func44, Tryd.ntmps44
      go_wp2_with (go_at_call 34; refine (within_any _ _ _ (by decide) (by decide)).mono ?_; rintro e w3 ⟨rfl, rfl⟩)
      go_ret
      exact ⟨congrArg (fun b => Ending.returned (Value.bool b)) (show false = hOk h k l from by rw [Bool.eq_iff_iff]; simp [hOk, i1]), bW⟩
  · go_enter Tryd.func44, Tryd.ntmps44
    go_wp2_with (go_at_call 34; refine (within_any _ _ _ (by decide) (by decide)).mono ?_; rintro e w3 ⟨rfl, rfl⟩)
    go_ret
    exact ⟨congrArg (fun b => Ending.returned (Value.bool b)) (show false = hOk h k l from by rw [Bool.eq_iff_iff]; simp [hOk, i0]), bW⟩
theorem l5Hkl_any (h k l : Int) (w : World) : Calls Tryd.prog 41 #[hV h k l] w fun e w' => e = .returned (.bool (hOk h k l)) ∧ Below w.heap.size w w' := by
  obtain ⟨W, hW, b0, bW, -⟩ := boxed w 37 #[.int .i64 h, .int .i64 k, .int .i64 l]
  obtain ⟨c0, c1, c2, -⟩ := b0.open3
  by_cases i0 : -100 ≤ h ∧ h ≤ 100
  · by_cases i1 : -100 ≤ k ∧ k ≤ 100
    · go_enter Tryd.func41, Tryd.ntmps41
      go_wp2_with (go_at_call 29; refine (in_any _ _ _ _).mono ?_; rintro e w3 ⟨rfl, rfl⟩)
      go_ret
      exact ⟨congrArg (fun b => Ending.returned (Value.bool b)) (show (decide (-100 ≤ l) && decide (l ≤ 100)) = hOk h k l from by rw [Bool.eq_iff_iff]; simp [hOk, i0, i1]), bW⟩
    · go_enter Tryd.func41, Tryd.ntmps41
      go_wp2_with (go_at_call 29; refine (in_any _ _ _ _).mono ?_; rintro e w3 ⟨rfl, rfl⟩)
      go_ret
      exact ⟨congrArg (fun b => Ending.returned (Value.bool b)) (show false = hOk h k l from by rw [Bool.eq_iff_iff]; simp [hOk, i1]), bW⟩
  · go_enter Tryd.func41, Tryd.ntmps41
    go_wp2_with (go_at_call 29; refine (in_any _ _ _ _).mono ?_; rintro e w3 ⟨rfl, rfl⟩)
    go_ret
    exact ⟨congrArg (fun b => Ending.returned (Value.bool b)) (show false = hOk h k l from by rw [Bool.eq_iff_iff]; simp [hOk, i0]), bW⟩
/-- The power, and that nothing on the way is too great. -/
theorem power_num {x y z h k l : Int} (hx : 0 ≤ x ∧ x ≤ 11) (hy : 0 ≤ y ∧ y ≤ 11) (hz : 0 ≤ z ∧ z ≤ 11) (hh : -100 ≤ h ∧ h ≤ 100) (hk : -100 ≤ k ∧ k ≤ 100) (hl : -100 ≤ l ∧ l ≤ 100) :
    (-1100 ≤ h * x ∧ h * x ≤ 1100) ∧ (-1100 ≤ k * y ∧ k * y ≤ 1100) ∧ (-1100 ≤ l * z ∧ l * z ≤ 1100) := by
  have p1 := prod_le (x := h) (y := x) (M := 100) (N := 11) hh (by omega)
  have p2 := prod_le (x := k) (y := y) (M := 100) (N := 11) hk (by omega)
  have p3 := prod_le (x := l) (y := z) (M := 100) (N := 11) hl (by omega)
  omega
theorem power_any (x y z f h k l : Int) (w : World) (p1 : -1100 ≤ h * x ∧ h * x ≤ 1100) (p2 : -1100 ≤ k * y ∧ k * y ≤ 1100) (p3 : -1100 ≤ l * z ∧ l * z ≤ 1100) :
    Calls Tryd.prog 45 #[cV x y z f, hV h k l] w fun e w' => e = .returned (.int .i64 (h * x + k * y + l * z)) ∧ Below w.heap.size w w' := by
  obtain ⟨W, hW, b0, b1, bW, -⟩ := boxed2 w 55 37 #[.int .i64 x, .int .i64 y, .int .i64 z, .int .i64 f] #[.int .i64 h, .int .i64 k, .int .i64 l]
  obtain ⟨c0, c1, c2, c3, -⟩ := b0.open4
  obtain ⟨d0, d1, d2, -⟩ := b1.open3
  go_enter Tryd.func45, Tryd.ntmps45
  go_wp2
  go_ret
  exact ⟨rfl, bW⟩
/-- The power of atom j, from 0 to 11. -/
def pw (f : Nat → Int) (h k l : Int) (j : Nat) : Nat := ((h * f (j * 4) + k * f (j * 4 + 1) + l * f (j * 4 + 2)) % 12).toNat
theorem pw_lt (f : Nat → Int) (h k l : Int) (j : Nat) : pw f h k l j < 12 := by
  unfold pw
  omega
theorem pw_eq (f : Nat → Int) (h k l : Int) (j : Nat) : (h * f (j * 4) + k * f (j * 4 + 1) + l * f (j * 4 + 2)) % 12 = (pw f h k l j : Int) := by
  unfold pw
  omega
/-- How much atom j scatters. -/
def amt (f : Nat → Int) (j : Nat) : Int := f (j * 4 + 3)
end Go.Proofs.YtmpakpdbkojkaaaDoor
