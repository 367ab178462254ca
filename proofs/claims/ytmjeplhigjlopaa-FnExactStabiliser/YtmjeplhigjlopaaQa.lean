/-
  Points: the program's and the specification's.
-/
import Derived.Test.YtmjeplhigjlopaaOpF
import Derived.Test.YtmjeplhigjlopaaOpG
import Derived.Test.YtmjeplhigjlopaaOpH
namespace Go.Proofs.Ytmjeplhigjlopaa
open Go.RowKit
def pV (x y z : Int) : Value := .agg #[.int .i64 x, .int .i64 y, .int .i64 z]
/-- A point of the cell. -/
def inP (x y z : Int) : Prop := (0 ≤ x ∧ x ≤ 23) ∧ (0 ≤ y ∧ y ≤ 23) ∧ (0 ≤ z ∧ z ≤ 23)
instance (x y z : Int) : Decidable (inP x y z) := by unfold inP; infer_instance
theorem pright_any (x y z : Int) (w : World) : Calls Try.prog 58 #[pV x y z] w fun e w' => e = .returned (.bool (decide (inP x y z))) ∧ Below w.heap.size w w' := by
  obtain ⟨W, hW, b0, bW, -⟩ := boxed w 48 #[.int .i64 x, .int .i64 y, .int .i64 z]
  obtain ⟨c0, c1, c2, -⟩ := b0.open3
  unfold pV
  go_enter Try.func58, Try.ntmps58
  go_wp2
  all_goals
    go_ret
    refine ⟨congrArg (fun b => Ending.returned (Value.bool b)) ?_, bW⟩
    rw [Bool.eq_iff_iff]
    simp only [decide_eq_true_eq, Bool.false_eq_true, false_iff]
    unfold inP
    omega
/-- What deed tells: the closure, its operator in a block of its own. -/
def dV (q : Nat) : Value := .func (.func 83) #[] #[.pointer (some ⟨q, 0, none⟩)]
theorem deed_any (f h : Nat → Int) (w : World) : Calls Try.prog 59 #[.agg (opA f h)] w fun e w' => e = .returned (dV w.heap.size) ∧ At 77 w' w.heap.size (opA f h) ∧ w'.heap.size = w.heap.size + 1 ∧ Below w.heap.size w w' := by
  obtain ⟨W, hW, b0, bW, z⟩ := boxed w 77 (opA f h)
  unfold opA at hW ⊢
  go_enter Try.func59, Try.ntmps59
  go_wp2
  go_ret
  exact ⟨rfl, b0, z, bW⟩
theorem l5Point_any (x y z : Int) (w : World) : Calls Try.prog 56 #[pV x y z] w fun e w' => e = .returned (.bool (decide (inP x y z))) ∧ Below w.heap.size w w' := by
  obtain ⟨W, hW, b0, bW, -⟩ := boxed w 48 #[.int .i64 x, .int .i64 y, .int .i64 z]
  obtain ⟨c0, c1, c2, -⟩ := b0.open3
  unfold pV
  go_enter Try.func56, Try.ntmps56
  go_wp2
  all_goals
    go_ret
    refine ⟨congrArg (fun b => Ending.returned (Value.bool b)) ?_, bW⟩
    rw [Bool.eq_iff_iff]
    simp only [decide_eq_true_eq, Bool.false_eq_true, false_iff]
    unfold inP
    omega
end Go.Proofs.Ytmjeplhigjlopaa
