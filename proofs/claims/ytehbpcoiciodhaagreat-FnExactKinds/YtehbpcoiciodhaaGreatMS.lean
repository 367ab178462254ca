/-
  Reflections: small functions, walked.
-/
import Derived.Test.YtehbpcoiciodhaaGreatGm
import Derived.Test.YtehbpcoiciodhaaGreatMC
import Derived.Deep.CutRange
namespace Go.Proofs.YtehbpcoiciodhaaGreat
open Go.RowKit

abbrev hV (x y z : Int) : Value := .agg #[.int .i64 x, .int .i64 y, .int .i64 z]
def r100 (x : Int) : Prop := -100 ≤ x ∧ x ≤ 100
def hkR (x y z : Int) : Prop := r100 x ∧ r100 y ∧ r100 z
abbrev shV (x y z p : Int) : Value := .agg #[.int .i64 x, .int .i64 y, .int .i64 z, .int .i64 p]
theorem shkl_any (x y z s : Int) (w : World) : Calls Tryz.prog 86 #[shV x y z s] w fun e w' => e = .returned (hV x y z) ∧ Below w.heap.size w w' := by
  go_enter Tryz.func86, Tryz.ntmps86
  go_wp2
  exact bodyPost_ret (v := hV x y z) (by simp [results, Tryz.results86, go_sem]) rfl ⟨rfl, (below_alloc _ _).trans ((below_alloc _ _).mono (by simp))⟩
theorem toHkl_any (x y z : Int) (w : World) : Calls Tryz.prog 45 #[hV x y z] w fun e w' => e = .returned (hV x y z) ∧ Below w.heap.size w w' := by
  go_enter Tryz.func45, Tryz.ntmps45
  go_wp2
  exact bodyPost_ret (v := hV x y z) (by simp [results, Tryz.results45, go_sem]) rfl ⟨rfl, ((below_alloc _ _).trans ((below_alloc _ _).mono (by simp))).trans ((below_alloc _ _).mono (by simp; omega))⟩
theorem hkRight_any (x y z : Int) (w : World) (b : Bool) (hb : Hid (b = true ↔ hkR x y z)) : Calls Tryz.prog 84 #[hV x y z] w fun e w' => e = .returned (.bool b) ∧ Below w.heap.size w w' := by
  have X := fun w => within_any x 100 w (by omega) (by omega)
  have Y := fun w => within_any y 100 w (by omega) (by omega)
  have Z := fun w => within_any z 100 w (by omega) (by omega)
  obtain ⟨W, hW, a1, bW, -⟩ := boxed w 70 #[.int .i64 x, .int .i64 y, .int .i64 z]
  obtain ⟨c0, c1, c2, -⟩ := a1.open3
  clear a1
  by_cases hx : r100 x
  case neg =>
    obtain rfl : b = false := by cases b; rfl; exact absurd (hb.out.1 rfl).1 hx
    rw [show decide (-100 ≤ x ∧ x ≤ 100) = false from decide_eq_false hx] at X
    clear hb hx
    go_enter Tryz.func84, Tryz.ntmps84
    go_wp2_with (go_at_call 115; refine (X _).mono ?_; rintro e w2 ⟨rfl, rfl⟩)
    go_ret
    exact ⟨rfl, bW⟩
  rw [show decide (-100 ≤ x ∧ x ≤ 100) = true from decide_eq_true hx] at X
  by_cases hy : r100 y
  case neg =>
    obtain rfl : b = false := by cases b; rfl; exact absurd (hb.out.1 rfl).2.1 hy
    rw [show decide (-100 ≤ y ∧ y ≤ 100) = false from decide_eq_false hy] at Y
    clear hb hx hy
    go_enter Tryz.func84, Tryz.ntmps84
    go_wp2_with (first | (go_at_call_of 115 (Value.int IntKind.i64 x); refine (X _).mono ?_; rintro e w2 ⟨rfl, rfl⟩) | (go_at_call_of 115 (Value.int IntKind.i64 y); refine (Y _).mono ?_; rintro e w2 ⟨rfl, rfl⟩))
    go_ret
    exact ⟨rfl, bW⟩
  rw [show decide (-100 ≤ y ∧ y ≤ 100) = true from decide_eq_true hy] at Y
  have hz : b = decide (-100 ≤ z ∧ z ≤ 100) := by
    rw [Bool.eq_iff_iff, hb.out, decide_eq_true_eq]
    exact ⟨fun h => h.2.2, fun h => ⟨hx, hy, h⟩⟩
  replace Z : ∀ w, Calls Tryz.prog 115 #[.int .i64 z, .int .i64 100] w fun e w' => e = .returned (.bool b) ∧ w = w' := by rw [hz]; exact Z
  clear hb hx hy hz
  go_enter Tryz.func84, Tryz.ntmps84
  go_wp2_with (first | (go_at_call_of 115 (Value.int IntKind.i64 x); refine (X _).mono ?_; rintro e w2 ⟨rfl, rfl⟩) | (go_at_call_of 115 (Value.int IntKind.i64 y); refine (Y _).mono ?_; rintro e w2 ⟨rfl, rfl⟩) | (go_at_call_of 115 (Value.int IntKind.i64 z); refine (Z _).mono ?_; rintro e w2 ⟨rfl, rfl⟩))
  go_ret
  exact ⟨rfl, bW⟩
theorem l5Hkl_any (x y z : Int) (w : World) (b : Bool) (hb : Hid (b = true ↔ hkR x y z)) : Calls Tryz.prog 80 #[hV x y z] w fun e w' => e = .returned (.bool b) ∧ Below w.heap.size w w' := by
  have X := fun w => in_any x (-100) 100 w
  have Y := fun w => in_any y (-100) 100 w
  have Z := fun w => in_any z (-100) 100 w
  obtain ⟨W, hW, a1, bW, -⟩ := boxed w 70 #[.int .i64 x, .int .i64 y, .int .i64 z]
  obtain ⟨c0, c1, c2, -⟩ := a1.open3
  clear a1
  by_cases hx : r100 x
  case neg =>
    obtain rfl : b = false := by cases b; rfl; exact absurd (hb.out.1 rfl).1 hx
    rw [show decide (-100 ≤ x ∧ x ≤ 100) = false from decide_eq_false hx] at X
    clear hb hx
    go_enter Tryz.func80, Tryz.ntmps80
    go_wp2_with (go_at_call 66; refine (X _).mono ?_; rintro e w2 ⟨rfl, rfl⟩)
    go_ret
    exact ⟨rfl, bW⟩
  rw [show decide (-100 ≤ x ∧ x ≤ 100) = true from decide_eq_true hx] at X
  by_cases hy : r100 y
  case neg =>
    obtain rfl : b = false := by cases b; rfl; exact absurd (hb.out.1 rfl).2.1 hy
    rw [show decide (-100 ≤ y ∧ y ≤ 100) = false from decide_eq_false hy] at Y
    clear hb hx hy
    go_enter Tryz.func80, Tryz.ntmps80
    go_wp2_with (first | (go_at_call_of 66 (Value.int IntKind.i64 x); refine (X _).mono ?_; rintro e w2 ⟨rfl, rfl⟩) | (go_at_call_of 66 (Value.int IntKind.i64 y); refine (Y _).mono ?_; rintro e w2 ⟨rfl, rfl⟩))
    go_ret
    exact ⟨rfl, bW⟩
  rw [show decide (-100 ≤ y ∧ y ≤ 100) = true from decide_eq_true hy] at Y
  have hz : b = decide (-100 ≤ z ∧ z ≤ 100) := by
    rw [Bool.eq_iff_iff, hb.out, decide_eq_true_eq]
    exact ⟨fun h => h.2.2, fun h => ⟨hx, hy, h⟩⟩
  replace Z : ∀ w, Calls Tryz.prog 66 #[.int .i64 z, .int .i64 (-100), .int .i64 100] w fun e w' => e = .returned (.bool b) ∧ w = w' := by rw [hz]; exact Z
  clear hb hx hy hz
  go_enter Tryz.func80, Tryz.ntmps80
  go_wp2_with (first | (go_at_call_of 66 (Value.int IntKind.i64 x); refine (X _).mono ?_; rintro e w2 ⟨rfl, rfl⟩) | (go_at_call_of 66 (Value.int IntKind.i64 y); refine (Y _).mono ?_; rintro e w2 ⟨rfl, rfl⟩) | (go_at_call_of 66 (Value.int IntKind.i64 z); refine (Z _).mono ?_; rintro e w2 ⟨rfl, rfl⟩))
  go_ret
  exact ⟨rfl, bW⟩
end Go.Proofs.YtehbpcoiciodhaaGreat
/-
  What an operator makes of a reflection, by the program: walked.
-/
namespace Go.Proofs.YtehbpcoiciodhaaGreat
open Go.RowKit

theorem At.open4f {t : TypeId} {w : World} {q : Nat} {v0 v1 v2 v3 : Value} (h : At t w q #[v0, v1, v2, v3]) : w.cell? ⟨q, 0, none⟩ = some v0 ∧ w.cell? ⟨q, 1, none⟩ = some v1 ∧ w.cell? ⟨q, 2, none⟩ = some v2 ∧ w.cell? ⟨q, 3, none⟩ = some v3 ∧ w.frozen? ⟨q, 0, none⟩ = false ∧ w.frozen? ⟨q, 1, none⟩ = false ∧ w.frozen? ⟨q, 2, none⟩ = false ∧ w.frozen? ⟨q, 3, none⟩ = false :=
  ⟨h.cell 0 rfl, h.cell 1 rfl, h.cell 2 rfl, h.cell 3 rfl, h.frozen 0, h.frozen 1, h.frozen 2, h.frozen 3⟩
theorem put4s_at {t : TypeId} {w : World} {q : Nat} {u0 u1 u2 u3 : Value} (h : At t w q #[u0, u1, u2, u3]) (v0 v1 v2 v3 : Value) : At t ((((w.setCell ⟨q, 0, none⟩ v0).setCell ⟨q, 1, none⟩ v1).setCell ⟨q, 2, none⟩ v2).setCell ⟨q, 3, none⟩ v3) q #[v0, v1, v2, v3] := by
  have := (((h.set 0 v0).set 1 v1).set 2 v2).set 3 v3
  simpa using this
theorem put4s_other {t : TypeId} {w : World} {q p : Nat} {vs : Array Value} (h : At t w q vs) (hq : q ≠ p) (v0 v1 v2 v3 : Value) : At t ((((w.setCell ⟨p, 0, none⟩ v0).setCell ⟨p, 1, none⟩ v1).setCell ⟨p, 2, none⟩ v2).setCell ⟨p, 3, none⟩ v3) q vs := (((h.setOther hq v0).setOther hq v1).setOther hq v2).setOther hq v3
theorem put3c_at {t : TypeId} {w : World} {q : Nat} {u0 u1 u2 : Value} (h : At t w q #[u0, u1, u2]) (v0 v1 v2 : Value) : At t (((w.setCell ⟨q, 0, none⟩ v0).setCell ⟨q, 1, none⟩ v1).setCell ⟨q, 2, none⟩ v2) q #[v0, v1, v2] := by
  have := ((h.set 0 v0).set 1 v1).set 2 v2
  simpa using this
theorem put3c_other {t : TypeId} {w : World} {q p : Nat} {vs : Array Value} (h : At t w q vs) (hq : q ≠ p) (v0 v1 v2 : Value) : At t (((w.setCell ⟨p, 0, none⟩ v0).setCell ⟨p, 1, none⟩ v1).setCell ⟨p, 2, none⟩ v2) q vs := ((h.setOther hq v0).setOther hq v1).setOther hq v2
/-- All that lay there lies there still. -/
abbrev Kb (u w : World) : Prop := Below u.heap.size u w
/-- What is read. -/
def RdS (q1 qm qt : Nat) (x y z : Int) (k : Nat → Int) (w : World) : Prop := At 70 w q1 #[.int .i64 x, .int .i64 y, .int .i64 z] ∧ At 91 w qm (matA k) ∧ At 93 w qt #[.int .i64 (k 9), .int .i64 (k 10), .int .i64 (k 11)]
/-- Two arrays that were taken out. -/
def Cut2 (k : Nat → Int) (wv : World) (s5 s6 : Value) (wc : World) : Prop := ∃ qm qt, s5 = .pointer (some ⟨qm, 0, none⟩) ∧ s6 = .pointer (some ⟨qt, 0, none⟩) ∧ At 91 wc qm (matA k) ∧ At 93 wc qt #[.int .i64 (k 9), .int .i64 (k 10), .int .i64 (k 11)] ∧ Below wv.heap.size wv wc
/-- An operator's numbers are small. -/
def smK (k : Nat → Int) : Prop := ∀ i, i < 12 → -24 ≤ k i ∧ k i ≤ 24
end Go.Proofs.YtehbpcoiciodhaaGreat
