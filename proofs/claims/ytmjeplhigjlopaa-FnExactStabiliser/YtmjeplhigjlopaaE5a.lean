/-
  Reflections: small functions, walked.
-/
import Derived.Test.YtmjeplhigjlopaaGm
import Derived.Test.YtmjeplhigjlopaaOpH
namespace Go.Proofs.Ytmjeplhigjlopaa
open Go.RowKit

abbrev hV (x y z : Int) : Value := .agg #[.int .i64 x, .int .i64 y, .int .i64 z]
def r100 (x : Int) : Prop := -100 ≤ x ∧ x ≤ 100
def hkR (x y z : Int) : Prop := r100 x ∧ r100 y ∧ r100 z
abbrev shV (x y z p : Int) : Value := .agg #[.int .i64 x, .int .i64 y, .int .i64 z, .int .i64 p]
theorem shkl_any (x y z s : Int) (w : World) : Calls Try.prog 88 #[shV x y z s] w fun e w' => e = .returned (hV x y z) ∧ Below w.heap.size w w' := by
  go_enter Try.func88, Try.ntmps88
  go_wp2
  exact bodyPost_ret (v := hV x y z) (by simp [results, Try.results88, go_sem]) rfl ⟨rfl, (below_alloc _ _).trans ((below_alloc _ _).mono (by simp))⟩
theorem toHkl_any (x y z : Int) (w : World) : Calls Try.prog 33 #[hV x y z] w fun e w' => e = .returned (hV x y z) ∧ Below w.heap.size w w' := by
  go_enter Try.func33, Try.ntmps33
  go_wp2
  exact bodyPost_ret (v := hV x y z) (by simp [results, Try.results33, go_sem]) rfl ⟨rfl, ((below_alloc _ _).trans ((below_alloc _ _).mono (by simp))).trans ((below_alloc _ _).mono (by simp; omega))⟩
theorem hkRight_any (x y z : Int) (w : World) (b : Bool) (hb : Hid (b = true ↔ hkR x y z)) : Calls Try.prog 62 #[hV x y z] w fun e w' => e = .returned (.bool b) ∧ Below w.heap.size w w' := by
  have X := fun w => within_any x 100 w (by omega) (by omega)
  have Y := fun w => within_any y 100 w (by omega) (by omega)
  have Z := fun w => within_any z 100 w (by omega) (by omega)
  obtain ⟨W, hW, a1, bW, -⟩ := boxed w 54 #[.int .i64 x, .int .i64 y, .int .i64 z]
  obtain ⟨c0, c1, c2, -⟩ := a1.open3
  clear a1
  by_cases hx : r100 x
  case neg =>
    obtain rfl : b = false := by cases b; rfl; exact absurd (hb.out.1 rfl).1 hx
    rw [show decide (-100 ≤ x ∧ x ≤ 100) = false from decide_eq_false hx] at X
    clear hb hx
    go_enter Try.func62, Try.ntmps62
    go_wp2_with (go_at_call 86; refine (X _).mono ?_; rintro e w2 ⟨rfl, rfl⟩)
    go_ret
    exact ⟨rfl, bW⟩
  rw [show decide (-100 ≤ x ∧ x ≤ 100) = true from decide_eq_true hx] at X
  by_cases hy : r100 y
  case neg =>
    obtain rfl : b = false := by cases b; rfl; exact absurd (hb.out.1 rfl).2.1 hy
    rw [show decide (-100 ≤ y ∧ y ≤ 100) = false from decide_eq_false hy] at Y
    clear hb hx hy
    go_enter Try.func62, Try.ntmps62
    go_wp2_with (first | (go_at_call_of 86 (Value.int IntKind.i64 x); refine (X _).mono ?_; rintro e w2 ⟨rfl, rfl⟩) | (go_at_call_of 86 (Value.int IntKind.i64 y); refine (Y _).mono ?_; rintro e w2 ⟨rfl, rfl⟩))
    go_ret
    exact ⟨rfl, bW⟩
  rw [show decide (-100 ≤ y ∧ y ≤ 100) = true from decide_eq_true hy] at Y
  have hz : b = decide (-100 ≤ z ∧ z ≤ 100) := by
    rw [Bool.eq_iff_iff, hb.out, decide_eq_true_eq]
    exact ⟨fun h => h.2.2, fun h => ⟨hx, hy, h⟩⟩
  replace Z : ∀ w, Calls Try.prog 86 #[.int .i64 z, .int .i64 100] w fun e w' => e = .returned (.bool b) ∧ w = w' := by rw [hz]; exact Z
  clear hb hx hy hz
  go_enter Try.func62, Try.ntmps62
  go_wp2_with (first | (go_at_call_of 86 (Value.int IntKind.i64 x); refine (X _).mono ?_; rintro e w2 ⟨rfl, rfl⟩) | (go_at_call_of 86 (Value.int IntKind.i64 y); refine (Y _).mono ?_; rintro e w2 ⟨rfl, rfl⟩) | (go_at_call_of 86 (Value.int IntKind.i64 z); refine (Z _).mono ?_; rintro e w2 ⟨rfl, rfl⟩))
  go_ret
  exact ⟨rfl, bW⟩
theorem l5Hkl_any (x y z : Int) (w : World) (b : Bool) (hb : Hid (b = true ↔ hkR x y z)) : Calls Try.prog 60 #[hV x y z] w fun e w' => e = .returned (.bool b) ∧ Below w.heap.size w w' := by
  have X := fun w => in_any x (-100) 100 w
  have Y := fun w => in_any y (-100) 100 w
  have Z := fun w => in_any z (-100) 100 w
  obtain ⟨W, hW, a1, bW, -⟩ := boxed w 54 #[.int .i64 x, .int .i64 y, .int .i64 z]
  obtain ⟨c0, c1, c2, -⟩ := a1.open3
  clear a1
  by_cases hx : r100 x
  case neg =>
    obtain rfl : b = false := by cases b; rfl; exact absurd (hb.out.1 rfl).1 hx
    rw [show decide (-100 ≤ x ∧ x ≤ 100) = false from decide_eq_false hx] at X
    clear hb hx
    go_enter Try.func60, Try.ntmps60
    go_wp2_with (go_at_call 82; refine (X _).mono ?_; rintro e w2 ⟨rfl, rfl⟩)
    go_ret
    exact ⟨rfl, bW⟩
  rw [show decide (-100 ≤ x ∧ x ≤ 100) = true from decide_eq_true hx] at X
  by_cases hy : r100 y
  case neg =>
    obtain rfl : b = false := by cases b; rfl; exact absurd (hb.out.1 rfl).2.1 hy
    rw [show decide (-100 ≤ y ∧ y ≤ 100) = false from decide_eq_false hy] at Y
    clear hb hx hy
    go_enter Try.func60, Try.ntmps60
    go_wp2_with (first | (go_at_call_of 82 (Value.int IntKind.i64 x); refine (X _).mono ?_; rintro e w2 ⟨rfl, rfl⟩) | (go_at_call_of 82 (Value.int IntKind.i64 y); refine (Y _).mono ?_; rintro e w2 ⟨rfl, rfl⟩))
    go_ret
    exact ⟨rfl, bW⟩
  rw [show decide (-100 ≤ y ∧ y ≤ 100) = true from decide_eq_true hy] at Y
  have hz : b = decide (-100 ≤ z ∧ z ≤ 100) := by
    rw [Bool.eq_iff_iff, hb.out, decide_eq_true_eq]
    exact ⟨fun h => h.2.2, fun h => ⟨hx, hy, h⟩⟩
  replace Z : ∀ w, Calls Try.prog 82 #[.int .i64 z, .int .i64 (-100), .int .i64 100] w fun e w' => e = .returned (.bool b) ∧ w = w' := by rw [hz]; exact Z
  clear hb hx hy hz
  go_enter Try.func60, Try.ntmps60
  go_wp2_with (first | (go_at_call_of 82 (Value.int IntKind.i64 x); refine (X _).mono ?_; rintro e w2 ⟨rfl, rfl⟩) | (go_at_call_of 82 (Value.int IntKind.i64 y); refine (Y _).mono ?_; rintro e w2 ⟨rfl, rfl⟩) | (go_at_call_of 82 (Value.int IntKind.i64 z); refine (Z _).mono ?_; rintro e w2 ⟨rfl, rfl⟩))
  go_ret
  exact ⟨rfl, bW⟩
end Go.Proofs.Ytmjeplhigjlopaa
