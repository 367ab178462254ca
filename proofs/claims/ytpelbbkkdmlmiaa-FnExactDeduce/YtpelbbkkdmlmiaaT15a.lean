/-
  Reflections with signs: small functions, walked; what both sides count.
-/
import Derived.Test.YtpelbbkkdmlmiaaCa
import Derived.Test.YtpelbbkkdmlmiaaRSigned3
namespace Go.Proofs.Ytpelbbkkdmlmiaa
open Go.RowKit

abbrev hV (x y z : Int) : Value := .agg #[.int .i64 x, .int .i64 y, .int .i64 z]
def r100 (x : Int) : Prop := -100 ≤ x ∧ x ≤ 100
def hkR (x y z : Int) : Prop := r100 x ∧ r100 y ∧ r100 z
def sgR (s : Int) : Prop := s = 1 ∨ s = -1
/-- Two reflections are one. -/
def same3 (x y z x' y' z' : Int) : Prop := x = x' ∧ y = y' ∧ z = z'
theorem hkl_any (x y z s : Int) (w : World) : Calls Try.prog 31 #[signed3V x y z s] w fun e w' => e = .returned (hV x y z) ∧ Below w.heap.size w w' := by
  go_enter Try.func31, Try.ntmps31
  go_wp2
  exact bodyPost_ret (v := hV x y z) (by simp [results, Try.results31, go_sem]) rfl ⟨rfl, (below_alloc _ _).trans ((below_alloc _ _).mono (by simp))⟩
theorem plus_any3 {x y z x' y' z' : Int} (h : hkR x y z) (h' : hkR x' y' z') (w : World) : Calls Try.prog 52 #[hV x y z, hV x' y' z'] w fun e w' => e = .returned (hV (x + x') (y + y') (z + z')) ∧ Below w.heap.size w w' := by
  obtain ⟨⟨a1, a2⟩, ⟨a3, a4⟩, a5, a6⟩ := h
  obtain ⟨⟨b1, b2⟩, ⟨b3, b4⟩, b5, b6⟩ := h'
  go_enter Try.func52, Try.ntmps52
  go_wp2
  exact bodyPost_ret (v := hV (x + x') (y + y') (z + z')) (by simp [results, Try.results52, go_sem]) rfl ⟨rfl, ((below_alloc _ _).trans ((below_alloc _ _).mono (by simp))).trans ((below_alloc _ _).mono (by simp; omega))⟩
theorem toHkl_any (x y z : Int) (w : World) : Calls Try.prog 14 #[hV x y z] w fun e w' => e = .returned (hV x y z) ∧ Below w.heap.size w w' := by
  go_enter Try.func14, Try.ntmps14
  go_wp2
  exact bodyPost_ret (v := hV x y z) (by simp [results, Try.results14, go_sem]) rfl ⟨rfl, ((below_alloc _ _).trans ((below_alloc _ _).mono (by simp))).trans ((below_alloc _ _).mono (by simp; omega))⟩
theorem hkRight_any (x y z : Int) (w : World) (b : Bool) (hb : Hid (b = true ↔ hkR x y z)) : Calls Try.prog 35 #[hV x y z] w fun e w' => e = .returned (.bool b) ∧ Below w.heap.size w w' := by
  have X := fun w => within_any x 100 w (by omega) (by omega)
  have Y := fun w => within_any y 100 w (by omega) (by omega)
  have Z := fun w => within_any z 100 w (by omega) (by omega)
  obtain ⟨W, hW, a1, bW, -⟩ := boxed w 33 #[.int .i64 x, .int .i64 y, .int .i64 z]
  obtain ⟨c0, c1, c2, -⟩ := a1.open3
  clear a1
  by_cases hx : r100 x
  case neg =>
    obtain rfl : b = false := by cases b; rfl; exact absurd (hb.out.1 rfl).1 hx
    rw [show decide (-100 ≤ x ∧ x ≤ 100) = false from decide_eq_false hx] at X
    clear hb hx
    go_enter Try.func35, Try.ntmps35
    go_wp2_with (go_at_call 53; refine (X _).mono ?_; rintro e w2 ⟨rfl, rfl⟩)
    go_ret
    exact ⟨rfl, bW⟩
  rw [show decide (-100 ≤ x ∧ x ≤ 100) = true from decide_eq_true hx] at X
  by_cases hy : r100 y
  case neg =>
    obtain rfl : b = false := by cases b; rfl; exact absurd (hb.out.1 rfl).2.1 hy
    rw [show decide (-100 ≤ y ∧ y ≤ 100) = false from decide_eq_false hy] at Y
    clear hb hx hy
    go_enter Try.func35, Try.ntmps35
    go_wp2_with (first | (go_at_call_of 53 (Value.int IntKind.i64 x); refine (X _).mono ?_; rintro e w2 ⟨rfl, rfl⟩) | (go_at_call_of 53 (Value.int IntKind.i64 y); refine (Y _).mono ?_; rintro e w2 ⟨rfl, rfl⟩))
    go_ret
    exact ⟨rfl, bW⟩
  rw [show decide (-100 ≤ y ∧ y ≤ 100) = true from decide_eq_true hy] at Y
  have hz : b = decide (-100 ≤ z ∧ z ≤ 100) := by
    rw [Bool.eq_iff_iff, hb.out, decide_eq_true_eq]
    exact ⟨fun h => h.2.2, fun h => ⟨hx, hy, h⟩⟩
  replace Z : ∀ w, Calls Try.prog 53 #[.int .i64 z, .int .i64 100] w fun e w' => e = .returned (.bool b) ∧ w = w' := by rw [hz]; exact Z
  clear hb hx hy hz
  go_enter Try.func35, Try.ntmps35
  go_wp2_with (first | (go_at_call_of 53 (Value.int IntKind.i64 x); refine (X _).mono ?_; rintro e w2 ⟨rfl, rfl⟩) | (go_at_call_of 53 (Value.int IntKind.i64 y); refine (Y _).mono ?_; rintro e w2 ⟨rfl, rfl⟩) | (go_at_call_of 53 (Value.int IntKind.i64 z); refine (Z _).mono ?_; rintro e w2 ⟨rfl, rfl⟩))
  go_ret
  exact ⟨rfl, bW⟩
theorem l5Hkl_any (x y z : Int) (w : World) (b : Bool) (hb : Hid (b = true ↔ hkR x y z)) : Calls Try.prog 33 #[hV x y z] w fun e w' => e = .returned (.bool b) ∧ Below w.heap.size w w' := by
  have X := fun w => in_any x (-100) 100 w
  have Y := fun w => in_any y (-100) 100 w
  have Z := fun w => in_any z (-100) 100 w
  obtain ⟨W, hW, a1, bW, -⟩ := boxed w 33 #[.int .i64 x, .int .i64 y, .int .i64 z]
  obtain ⟨c0, c1, c2, -⟩ := a1.open3
  clear a1
  by_cases hx : r100 x
  case neg =>
    obtain rfl : b = false := by cases b; rfl; exact absurd (hb.out.1 rfl).1 hx
    rw [show decide (-100 ≤ x ∧ x ≤ 100) = false from decide_eq_false hx] at X
    clear hb hx
    go_enter Try.func33, Try.ntmps33
    go_wp2_with (go_at_call 34; refine (X _).mono ?_; rintro e w2 ⟨rfl, rfl⟩)
    go_ret
    exact ⟨rfl, bW⟩
  rw [show decide (-100 ≤ x ∧ x ≤ 100) = true from decide_eq_true hx] at X
  by_cases hy : r100 y
  case neg =>
    obtain rfl : b = false := by cases b; rfl; exact absurd (hb.out.1 rfl).2.1 hy
    rw [show decide (-100 ≤ y ∧ y ≤ 100) = false from decide_eq_false hy] at Y
    clear hb hx hy
    go_enter Try.func33, Try.ntmps33
    go_wp2_with (first | (go_at_call_of 34 (Value.int IntKind.i64 x); refine (X _).mono ?_; rintro e w2 ⟨rfl, rfl⟩) | (go_at_call_of 34 (Value.int IntKind.i64 y); refine (Y _).mono ?_; rintro e w2 ⟨rfl, rfl⟩))
    go_ret
    exact ⟨rfl, bW⟩
  rw [show decide (-100 ≤ y ∧ y ≤ 100) = true from decide_eq_true hy] at Y
  have hz : b = decide (-100 ≤ z ∧ z ≤ 100) := by
    rw [Bool.eq_iff_iff, hb.out, decide_eq_true_eq]
    exact ⟨fun h => h.2.2, fun h => ⟨hx, hy, h⟩⟩
  replace Z : ∀ w, Calls Try.prog 34 #[.int .i64 z, .int .i64 (-100), .int .i64 100] w fun e w' => e = .returned (.bool b) ∧ w = w' := by rw [hz]; exact Z
  clear hb hx hy hz
  go_enter Try.func33, Try.ntmps33
  go_wp2_with (first | (go_at_call_of 34 (Value.int IntKind.i64 x); refine (X _).mono ?_; rintro e w2 ⟨rfl, rfl⟩) | (go_at_call_of 34 (Value.int IntKind.i64 y); refine (Y _).mono ?_; rintro e w2 ⟨rfl, rfl⟩) | (go_at_call_of 34 (Value.int IntKind.i64 z); refine (Z _).mono ?_; rintro e w2 ⟨rfl, rfl⟩))
  go_ret
  exact ⟨rfl, bW⟩
/-- A reflection with a sign. -/
def sOk (x y z s : Int) : Prop := hkR x y z ∧ sgR s
theorem sRight_any (x y z s : Int) (w : World) (b : Bool) (hb : Hid (b = true ↔ sOk x y z s)) : Calls Try.prog 49 #[signed3V x y z s] w fun e w' => e = .returned (.bool b) ∧ Below w.heap.size w w' := by
  obtain ⟨W, hW, a1, bW, -⟩ := boxed w 49 #[.int .i64 x, .int .i64 y, .int .i64 z, .int .i64 s]
  obtain ⟨c0, c1, c2, c3, -⟩ := a1.open4
  have K := fun w => hkl_any x y z s w
  by_cases hx : hkR x y z
  case neg =>
    obtain rfl : b = false := by cases b; rfl; exact absurd (hb.out.1 rfl).1 hx
    have R := fun w => hkRight_any x y z w false (show (false = true ↔ _) from ⟨fun h => by simp at h, fun h => absurd h hx⟩)
    clear hb hx a1
    go_enter Try.func49, Try.ntmps49
    go_wp2_with (first | (go_at_call 31; refine (K _).mono ?_; rintro e w2 ⟨rfl, b2⟩) | (go_at_call 35; refine (R _).mono ?_; rintro e w3 ⟨rfl, b3⟩))
    go_ret
    exact ⟨rfl, (bW.trans (b2.mono bW.size)).trans (b3.mono (Nat.le_trans bW.size b2.size))⟩
  have R := fun w => hkRight_any x y z w true (show (true = true ↔ _) from ⟨fun _ => hx, fun _ => rfl⟩)
  have hs : b = (decide (s = 1) || decide (s = -1)) := by
    rw [Bool.eq_iff_iff, hb.out, Bool.or_eq_true, decide_eq_true_eq, decide_eq_true_eq]
    exact ⟨fun h => h.2, fun h => ⟨hx, h⟩⟩
  clear hb hx
  go_enter Try.func49, Try.ntmps49
  go_wp2_with (first | (go_at_call 31; refine (K _).mono ?_; rintro e w2 ⟨rfl, b2⟩; have a2 := a1.below b2) | (go_at_call 35; refine (R _).mono ?_; rintro e w3 ⟨rfl, b3⟩; have c4 := (a2.below b3).cell 3 rfl))
  all_goals
    go_ret
    refine ⟨?_, (bW.trans (b2.mono bW.size)).trans (b3.mono (Nat.le_trans bW.size b2.size))⟩
    subst hs
    first | rfl | (simp_all; done)
end Go.Proofs.Ytpelbbkkdmlmiaa
