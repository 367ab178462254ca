/-
  For every two cyclotomic numbers the law FnExactCycAdd answers true: the program tells their sum as the specification. No condition.
-/
import Derived.Test.YtgoegaiglfifdaaRows
import Derived.Test.YtgoegaiglfifdaaKit
import Derived.Test.YtgoegaiglfifdaaCe
import Derived.WalkKit
import Derived.ProofKit
import Derived.OpenShut
import Derived.ShutString
import Derived.ChangeOld
import Derived.Below
import Derived.Lib.SmallJoins
namespace Go.Proofs.Ytgoegaiglfifdaa.fnExactCycAdd
open Go.ChangeShapes Go.WideShapes Go.ChangeAt Go.RowKit Go.Joins
open Go.Proofs.Ytgoegaiglfifdaa (IsRow)
set_option linter.unusedVariables false

theorem own : ownKnob Try.prog.godebug = none := by kernel_rfl
theorem laidOut : laidOutB Try.prog = true := by kernel_rfl

set_option maxRecDepth 100000 in
theorem lifted (os : Os) (started : os.Started) (H : Type) (enc : TypeId × Value → H) :
    ReturnsInHanded {} Try.checked os 5 .any (Rows.fnExactCycAddSpec.pre6 enc Try.prog Try.f5 Rows.fnExactCycAddRow.domain false) (Rows.fnExactCycAddSpec.post enc Try.prog Try.f5 false true false false) := by
  refine returnsInHanded_of_change (C := Try.checked) own started (by kernel_rfl) Try.func5
    (ChangeSpec.witness6 (enc := enc) (C := Try.checked) false ⟨#[], #[.agg #[.int .i64 0, .int .i64 0, .int .i64 0, .int .i64 0], .agg #[.int .i64 0, .int .i64 0, .int .i64 0, .int .i64 0]], []⟩ 8 (by kernel_rfl) (by kernel_rfl) (by kernel_rfl) (by kernel_rfl)) ?_
  intro W base args ds gs before hval0 hW hcnd _
  have hval : ∀ (j : Nat) t v, Try.f5.params[j]? = some t → args[j]? = some v → Value.okWide Try.prog W .any base t v := hval0
  have hW' := hW
  obtain ⟨p, q, hA0, hV, rfl, hfz, hnd⟩ := hW
  have hA : DataW.TrodAll enc Try.prog W 0 (fun _ => true) true Try.f5.params.toList args.toList ds p := hA0
  rw [Try.params5] at hA hval
  obtain ⟨v0, vs0, d0, ds0, p0, q0, hargs, rfl, rfl, h0, r0⟩ := trodAll_cons hA
  obtain ⟨v1, vs1, d1, ds1, p1, q1, rfl, rfl, rfl, h1, r1⟩ := trodAll_cons r0
  obtain ⟨rfl, rfl, rfl⟩ := trodAll_nil r1
  obtain rfl : args = #[v0, v1] := by cases args; simp_all
  obtain ⟨rfl, rfl⟩ := trodVars_none hV
  have k0 := h0
  have lt0 : ∀ x ∈ p0, x.block < W.heap.size := by obtain ⟨m, hm⟩ := k0; exact DataW.trod_lt m _ _ _ hm
  obtain ⟨c0, e0, f0, j0, s0, t0, u0, o0, m0, hv0, hd0, hp0, hs0, ht0, hu0, ho0⟩ := open_agg4 Try.underlying30 (by kernel_rfl) (by kernel_rfl) (hval 0 30 v0 rfl rfl) h0
  subst hv0
  obtain ⟨x0, ex0, _, wx0⟩ := DataW.trod_int Try.underlying2 hs0
  obtain ⟨y0, ey0, _, wy0⟩ := DataW.trod_int Try.underlying2 ht0
  obtain ⟨z0, ez0, _, wz0⟩ := DataW.trod_int Try.underlying2 hu0
  obtain ⟨g0, eg0, _, wg0⟩ := DataW.trod_int Try.underlying2 ho0
  simp at ex0 ey0 ez0 eg0
  subst ex0 ey0 ez0 eg0
  have k1 := h1
  have lt1 : ∀ x ∈ p1, x.block < W.heap.size := by obtain ⟨m, hm⟩ := k1; exact DataW.trod_lt m _ _ _ hm
  obtain ⟨c1, e1, f1, j1, s1, t1, u1, o1, m1, hv1, hd1, hp1, hs1, ht1, hu1, ho1⟩ := open_agg4 Try.underlying30 (by kernel_rfl) (by kernel_rfl) (hval 1 30 v1 rfl rfl) h1
  subst hv1
  obtain ⟨x1, ex1, _, wx1⟩ := DataW.trod_int Try.underlying2 hs1
  obtain ⟨y1, ey1, _, wy1⟩ := DataW.trod_int Try.underlying2 ht1
  obtain ⟨z1, ez1, _, wz1⟩ := DataW.trod_int Try.underlying2 hu1
  obtain ⟨g1, eg1, _, wg1⟩ := DataW.trod_int Try.underlying2 ho1
  simp at ex1 ey1 ez1 eg1
  subst ex1 ey1 ez1 eg1
  clear hA0 hval0
  refine (exactCycAdd_walk x0 y0 z0 g0 x1 y1 z1 g1 W).mono fun e W' ⟨he, bel⟩ => ?_
  subst he
  exact ⟨_, rfl, _, _, _, [], _, [], hW', trodAll_mk1 (shut_bool Try.underlying4 _), (trodAll_cons_mk (Below.trod laidOut (by kernel_rfl) (of_decide_eq_true (by kernel_rfl)) k0 bel lt0) (trodAll_cons_mk (Below.trod laidOut (by kernel_rfl) (of_decide_eq_true (by kernel_rfl)) k1 bel lt1) trodAll_mk0)), rfl, bel.frame _, fun h => by cases h⟩

theorem over : Rows.fnExactCycAddRow.holds Try.pinned (OpenSpec.ofChange Rows.fnExactCycAddSpec) :=
  OpenClaim.holds_of_wide 5 Try.f5 rfl rfl rfl rfl rfl rfl rfl ⟨rfl, rfl, rfl, rfl, rfl⟩ rfl rfl rfl rfl rfl (by kernel_rfl) Try.func5 (by kernel_rfl)
    (of_decide_eq_true (by kernel_rfl)) (by unfold Func.isWrapper; first | (rw [if_pos (by decide +kernel)]; kernel_rfl) | (rw [if_neg (by decide +kernel)]; exact ⟨rfl, rfl⟩))
    (fun os started H enc _ => lifted os started H enc)

end Go.Proofs.Ytgoegaiglfifdaa.fnExactCycAdd
namespace Go.Proofs.Ytgoegaiglfifdaa
/-- The statement. -/
theorem fnExactCycAdd_holds : Rows.FnExactCycAddSaid := fnExactCycAdd.over
#print axioms fnExactCycAdd_holds
end Go.Proofs.Ytgoegaiglfifdaa
