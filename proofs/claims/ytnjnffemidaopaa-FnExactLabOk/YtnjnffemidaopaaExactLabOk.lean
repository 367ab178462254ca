/-
  FnExactLabOk: at every lab the program LabOk answers as its model, and writes into no argument; no condition.
-/
import Derived.Test.YtnjnffemidaopaaRows
import Derived.Test.YtnjnffemidaopaaL17g
import Derived.Test.YtnjnffemidaopaaRoSample
import Derived.Test.YtnjnffemidaopaaRoJob
import Derived.WalkKit
import Derived.ProofKit
import Derived.OpenShut
import Derived.ShutString
import Derived.ChangeOld
import Derived.Below
import Derived.ChangeMaps5
import Derived.Lib.SmallJoins
namespace Go.Proofs.Ytnjnffemidaopaa.fnExactLabOk
open Go.ChangeShapes Go.WideShapes Go.ChangeAt Go.RowKit Go.Joins
open Go.Proofs.Ytnjnffemidaopaa (IsRow)
set_option linter.unusedVariables false

theorem own : ownKnob Try.prog.godebug = none := by kernel_rfl
theorem laidOut : laidOutB Try.prog = true := by kernel_rfl

set_option maxRecDepth 100000 in
theorem lifted (os : Os) (started : os.Started) (H : Type) (enc : TypeId × Value → H) :
    ReturnsInHanded {} Try.checked os 6 .any (Rows.fnExactLabOkSpec.pre6 enc Try.prog Try.f6 Rows.fnExactLabOkRow.domain false) (Rows.fnExactLabOkSpec.post enc Try.prog Try.f6 false true false false) := by
  refine returnsInHanded_of_change (C := Try.checked) own started (by kernel_rfl) Try.func6
    (ChangeSpec.witness6 (enc := enc) (C := Try.checked) false ⟨#[], #[.agg #[.slice none 0 0, .slice none 0 0, .int .i64 0]], []⟩ 8 (by kernel_rfl) (by kernel_rfl) (by kernel_rfl) (by kernel_rfl)) ?_
  intro W base args ds gs before hval0 hW hcnd _
  have hval : ∀ (j : Nat) t v, Try.f6.params[j]? = some t → args[j]? = some v → Value.okWide Try.prog W .any base t v := hval0
  have hW' := hW
  obtain ⟨p, q, hA0, hV, rfl, hfz, hnd⟩ := hW
  have hA : DataW.TrodAll enc Try.prog W 0 (fun _ => true) true Try.f6.params.toList args.toList ds p := hA0
  rw [Try.params6] at hA hval
  obtain ⟨v0, vs0, d0, ds0, p0, q0, hargs, rfl, rfl, h0, r0⟩ := trodAll_cons hA
  obtain ⟨rfl, rfl, rfl⟩ := trodAll_nil r0
  obtain rfl : args = #[v0] := by cases args; simp_all
  obtain ⟨rfl, rfl⟩ := trodVars_none hV
  have k0 := h0
  have lt0 : ∀ x ∈ p0, x.block < W.heap.size := by obtain ⟨m, hm⟩ := k0; exact DataW.trod_lt m _ _ _ hm
  obtain ⟨c0, e0, f0, s0, t0, u0, m0, hv0, hd0, hp0, hs0, ht0, hu0⟩ := open_agg3 Try.underlying48 (by kernel_rfl) (by kernel_rfl) (hval 0 48 v0 rfl rfl) h0
  subst hv0
  obtain ⟨pS0, nS0, capS0, rfl⟩ : ∃ p N cap, c0 = .slice p N cap := by
    rcases Go.Deep.open_slice Try.underlying45 hs0 with ⟨hc, _⟩ | ⟨ad, l, c, m, n, D, Pl, hc, _⟩
    · exact ⟨none, 0, 0, (List.cons.inj hc).1⟩
    · exact ⟨some ad, l, c, (List.cons.inj hc).1⟩
  obtain ⟨fS0, hS0, hnS0, hwS0⟩ := Go.Proofs.Ytnjnffemidaopaa.recs_ofSample hs0
  obtain ⟨pJ0, nJ0, capJ0, rfl⟩ : ∃ p N cap, e0 = .slice p N cap := by
    rcases Go.Deep.open_slice Try.underlying46 ht0 with ⟨hc, _⟩ | ⟨ad, l, c, m, n, D, Pl, hc, _⟩
    · exact ⟨none, 0, 0, (List.cons.inj hc).1⟩
    · exact ⟨some ad, l, c, (List.cons.inj hc).1⟩
  obtain ⟨fJ0, hJ0, hnJ0, hwJ0⟩ := Go.Proofs.Ytnjnffemidaopaa.recs_ofJob ht0
  obtain ⟨z0, ez0, _, wz0⟩ := DataW.trod_int Try.underlying2 hu0
  obtain rfl := (List.cons.inj ez0).1
  clear hA0 hval0
  refine (Go.Proofs.Ytnjnffemidaopaa.exactLabOk_walk hS0 hnS0 hJ0 hnJ0).mono fun e W' ⟨he, bel⟩ => ?_
  subst he
  exact ⟨_, rfl, _, _, _, [], _, [], hW', trodAll_mk1 (shut_bool Try.underlying4 _), (trodAll_cons_mk (Below.trod laidOut (by kernel_rfl) (of_decide_eq_true (by kernel_rfl)) k0 bel lt0) trodAll_mk0), rfl, bel.frame _, fun h => by cases h⟩

theorem over : Rows.fnExactLabOkRow.holds Try.pinned (OpenSpec.ofChange Rows.fnExactLabOkSpec) :=
  OpenClaim.holds_of_wide 6 Try.f6 rfl rfl rfl rfl rfl rfl rfl ⟨rfl, rfl, rfl, rfl, rfl⟩ rfl rfl rfl rfl rfl (by kernel_rfl) Try.func6 (by kernel_rfl)
    (of_decide_eq_true (by kernel_rfl)) (by unfold Func.isWrapper; first | (rw [if_pos (by decide +kernel)]; kernel_rfl) | (rw [if_neg (by decide +kernel)]; exact ⟨rfl, rfl⟩))
    (fun os started H enc _ => lifted os started H enc)

end Go.Proofs.Ytnjnffemidaopaa.fnExactLabOk
namespace Go.Proofs.Ytnjnffemidaopaa
/-- The statement. -/
theorem fnExactLabOk_holds : Rows.FnExactLabOkSaid := fnExactLabOk.over
#print axioms fnExactLabOk_holds
end Go.Proofs.Ytnjnffemidaopaa
