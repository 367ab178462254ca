/-
  For every cyclotomic number the law FnExactCycFloat answers true: the program tells both its floats as the specification. No condition.
-/
import Derived.Test.YtgoegaiglfifdabRows
import Derived.Test.YtgoegaiglfifdabKit
import Derived.Test.YtgoegaiglfifdabCj
import Derived.WalkKit
import Derived.ProofKit
import Derived.OpenShut
import Derived.ShutString
import Derived.ChangeOld
import Derived.Below
import Derived.Lib.SmallJoins
namespace Go.Proofs.Ytgoegaiglfifdab.fnExactCycFloat
open Go.ChangeShapes Go.WideShapes Go.ChangeAt Go.RowKit Go.Joins
open Go.Proofs.Ytgoegaiglfifdab (IsRow)
set_option linter.unusedVariables false

theorem own : ownKnob Try.prog.godebug = none := by kernel_rfl
theorem laidOut : laidOutB Try.prog = true := by kernel_rfl

set_option maxRecDepth 100000 in
theorem lifted (os : Os) (started : os.Started) (H : Type) (enc : TypeId × Value → H) :
    ReturnsInHanded {} Try.checked os 4 .any (Rows.fnExactCycFloatSpec.pre6 enc Try.prog Try.f4 Rows.fnExactCycFloatRow.domain false) (Rows.fnExactCycFloatSpec.post enc Try.prog Try.f4 false true false false) := by
  refine returnsInHanded_of_change (C := Try.checked) own started (by kernel_rfl) Try.func4
    (ChangeSpec.witness6 (enc := enc) (C := Try.checked) false ⟨#[], #[.agg #[.int .i64 0, .int .i64 0, .int .i64 0, .int .i64 0]], []⟩ 8 (by kernel_rfl) (by kernel_rfl) (by kernel_rfl) (by kernel_rfl)) ?_
  intro W base args ds gs before hval0 hW hcnd _
  have hval : ∀ (j : Nat) t v, Try.f4.params[j]? = some t → args[j]? = some v → Value.okWide Try.prog W .any base t v := hval0
  have hW' := hW
  obtain ⟨p, q, hA0, hV, rfl, hfz, hnd⟩ := hW
  have hA : DataW.TrodAll enc Try.prog W 0 (fun _ => true) true Try.f4.params.toList args.toList ds p := hA0
  rw [Try.params4] at hA hval
  obtain ⟨v0, vs0, d0, ds0, p0, q0, hargs, rfl, rfl, h0, r0⟩ := trodAll_cons hA
  obtain ⟨rfl, rfl, rfl⟩ := trodAll_nil r0
  obtain rfl : args = #[v0] := by cases args; simp_all
  obtain ⟨rfl, rfl⟩ := trodVars_none hV
  have k0 := h0
  have lt0 : ∀ x ∈ p0, x.block < W.heap.size := by obtain ⟨m, hm⟩ := k0; exact DataW.trod_lt m _ _ _ hm
  obtain ⟨c0, e0, f0, j0, s0, t0, u0, o0, m0, hv0, hd0, hp0, hs0, ht0, hu0, ho0⟩ := open_agg4 Try.underlying25 (by kernel_rfl) (by kernel_rfl) (hval 0 25 v0 rfl rfl) h0
  subst hv0
  obtain ⟨x0, ex0, _, wx0⟩ := DataW.trod_int Try.underlying2 hs0
  obtain ⟨y0, ey0, _, wy0⟩ := DataW.trod_int Try.underlying2 ht0
  obtain ⟨z0, ez0, _, wz0⟩ := DataW.trod_int Try.underlying2 hu0
  obtain ⟨g0, eg0, _, wg0⟩ := DataW.trod_int Try.underlying2 ho0
  simp at ex0 ey0 ez0 eg0
  subst ex0 ey0 ez0 eg0
  clear hA0 hval0
  refine (exactCycFloat_walk x0 y0 z0 g0 W).mono fun e W' ⟨he, bel⟩ => ?_
  subst he
  exact ⟨_, rfl, _, _, _, [], _, [], hW', trodAll_mk1 (shut_bool Try.underlying4 _), (trodAll_cons_mk (Below.trod laidOut (by kernel_rfl) (of_decide_eq_true (by kernel_rfl)) k0 bel lt0) trodAll_mk0), rfl, bel.frame _, fun h => by cases h⟩

theorem over : Rows.fnExactCycFloatRow.holds Try.pinned (OpenSpec.ofChange Rows.fnExactCycFloatSpec) :=
  OpenClaim.holds_of_wide 4 Try.f4 rfl rfl rfl rfl rfl rfl rfl ⟨rfl, rfl, rfl, rfl, rfl⟩ rfl rfl rfl rfl rfl (by kernel_rfl) Try.func4 (by kernel_rfl)
    (of_decide_eq_true (by kernel_rfl)) (by unfold Func.isWrapper; first | (rw [if_pos (by decide +kernel)]; kernel_rfl) | (rw [if_neg (by decide +kernel)]; exact ⟨rfl, rfl⟩))
    (fun os started H enc _ => lifted os started H enc)

end Go.Proofs.Ytgoegaiglfifdab.fnExactCycFloat
namespace Go.Proofs.Ytgoegaiglfifdab
/-- The statement. -/
theorem fnExactCycFloat_holds : Rows.FnExactCycFloatSaid := fnExactCycFloat.over
#print axioms fnExactCycFloat_holds
end Go.Proofs.Ytgoegaiglfifdab
