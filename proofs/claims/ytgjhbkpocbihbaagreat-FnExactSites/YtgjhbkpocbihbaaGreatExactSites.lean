/-
  Of every list of operators Sites answers as the specification, and leaves them as they were; its answer lies in memory of its own, behind another call too. No condition.
-/
import Derived.Test.YtgjhbkpocbihbaaGreatRows
import Derived.Test.YtgjhbkpocbihbaaGreatSi6
import Derived.WalkKit
import Derived.ProofKit
import Derived.OpenShut
import Derived.ShutString
import Derived.ChangeOld
import Derived.Below
import Derived.ChangeMaps5
import Derived.Deep.SlicePairs
import Derived.Lib.SmallJoins
namespace Go.Proofs.YtgjhbkpocbihbaaGreat.fnExactSites
open Go.ChangeShapes Go.WideShapes Go.ChangeAt Go.RowKit Go.Joins
open Go.Proofs.YtgjhbkpocbihbaaGreat (IsRow)
set_option linter.unusedVariables false

theorem own : ownKnob Tryz.prog.godebug = none := by kernel_rfl
theorem laidOut : laidOutB Tryz.prog = true := by kernel_rfl

set_option maxRecDepth 100000 in
theorem lifted (os : Os) (started : os.Started) (H : Type) (enc : TypeId × Value → H) :
    ReturnsInHanded {} Tryz.checked os 4 .any (Rows.fnExactSitesSpec.pre6 enc Tryz.prog Tryz.f4 Rows.fnExactSitesRow.domain false) (Rows.fnExactSitesSpec.post enc Tryz.prog Tryz.f4 false true false false) := by
  refine returnsInHanded_of_change (C := Tryz.checked) own started (by kernel_rfl) Tryz.func4
    (ChangeSpec.witness6 (enc := enc) (C := Tryz.checked) false ⟨#[], #[.slice none 0 0], []⟩ 8 (by kernel_rfl) (by kernel_rfl) (by kernel_rfl) (by kernel_rfl)) ?_
  intro W base args ds gs before hval0 hW hcnd _
  have hval : ∀ (j : Nat) t v, Tryz.f4.params[j]? = some t → args[j]? = some v → Value.okWide Tryz.prog W .any base t v := hval0
  have hW' := hW
  obtain ⟨p, q, hA0, hV, rfl, hfz, hnd⟩ := hW
  have hA : DataW.TrodAll enc Tryz.prog W 0 (fun _ => true) true Tryz.f4.params.toList args.toList ds p := hA0
  rw [Tryz.params4] at hA hval
  obtain ⟨v0, vs0, d0, ds0, p0, q0, hargs, rfl, rfl, h0, r0⟩ := trodAll_cons hA
  obtain ⟨rfl, rfl, rfl⟩ := trodAll_nil r0
  obtain rfl : args = #[v0] := by cases args; simp_all
  obtain ⟨rfl, rfl⟩ := trodVars_none hV
  have k0 := h0
  have lt0 : ∀ x ∈ p0, x.block < W.heap.size := by obtain ⟨m, hm⟩ := k0; exact DataW.trod_lt m _ _ _ hm
  obtain ⟨a0, len0, cap0, rfl⟩ := okWide_slice Tryz.underlying32 (hval 0 32 v0 rfl rfl)
  obtain ⟨A0, hS0, hn0⟩ : ∃ A, Go.Proofs.YtgjhbkpocbihbaaGreat.OpsS W a0 len0 A ∧ len0 ≤ maxLen := by
    obtain ⟨fuel, hf⟩ := h0
    rcases Go.Deep.open_slice_pairs Tryz.underlying32 Tryz.underlying71 (by kernel_rfl) rfl rfl (by kernel_rfl) (by kernel_rfl) hf with ⟨hcs, _⟩ | ⟨x, l, c, m, n, V0, V1, D0, D1, P0, P1, hcs, _, hl, hm, hmm, _, hc⟩
    · have e := (List.cons.inj hcs).1
      cases e
      exact ⟨fun _ => ⟨0, fun _ => 0, 0, fun _ => 0⟩, .inl rfl, Nat.zero_le _⟩
    · have e := (List.cons.inj hcs).1
      cases e
      have hlm : len0 ≤ m := by rw [hmm]; split <;> omega
      have op : ∀ (V : Value) (D : DataW H) (P : List MemPlace), DataW.trod enc Tryz.prog W 0 (fun _ => true) true n 50 [V] = some (D, P) → ∃ a len cap zs, V = .slice a len cap ∧ IsRow .i64 W a len cap zs := by
        intro V D P h
        rcases open_ints (show Tryz.prog.underlying 50 = some (.slice 2) by kernel_rfl) Tryz.underlying2 (by kernel_rfl) h with ⟨hcs, _⟩ | ⟨x, l, c, zs, hcs, _, hl, hm, hz, _, hcell, hwz⟩
        · exact ⟨none, 0, 0, [], (List.cons.inj hcs).1, .inl ⟨rfl, rfl, rfl, rfl⟩⟩
        · exact ⟨some x, l, c, zs, (List.cons.inj hcs).1, .inr ⟨_, rfl, hl, hm, by simpa using hz, hcell, hwz⟩⟩
      obtain ⟨A, hA⟩ := Go.Proofs.YtgjhbkpocbihbaaGreat.opsS_of (w := W) (x := x) (n := len0) (V0 := V0) (V1 := V1) (fun i hi => ⟨(hc i (by omega)).1, (hc i (by omega)).2.1⟩) (fun i hi => op _ _ _ (hc i (by omega)).2.2.1) (fun i hi => op _ _ _ (hc i (by omega)).2.2.2)
      exact ⟨A, hA, Nat.le_trans hl hm⟩
  clear hA0 hval0
  refine (exactSites_walk hS0 hn0).mono fun e W' ⟨he, bel⟩ => ?_
  subst he
  exact ⟨_, rfl, _, _, _, [], _, [], hW', trodAll_mk1 (shut_bool Tryz.underlying4 _), (trodAll_cons_mk (Below.trod laidOut (by kernel_rfl) (of_decide_eq_true (by kernel_rfl)) k0 bel lt0) trodAll_mk0), rfl, bel.frame _, fun h => by cases h⟩

theorem over : Rows.fnExactSitesRow.holds Tryz.pinned (OpenSpec.ofChange Rows.fnExactSitesSpec) :=
  OpenClaim.holds_of_wide 4 Tryz.f4 rfl rfl rfl rfl rfl rfl rfl ⟨rfl, rfl, rfl, rfl, rfl⟩ rfl rfl rfl rfl rfl (by kernel_rfl) Tryz.func4 (by kernel_rfl)
    (of_decide_eq_true (by kernel_rfl)) (by unfold Func.isWrapper; first | (rw [if_pos (by decide +kernel)]; kernel_rfl) | (rw [if_neg (by decide +kernel)]; exact ⟨rfl, rfl⟩))
    (fun os started H enc _ => lifted os started H enc)

end Go.Proofs.YtgjhbkpocbihbaaGreat.fnExactSites
namespace Go.Proofs.YtgjhbkpocbihbaaGreat
/-- The statement. -/
theorem fnExactSites_holds : Rows.FnExactSitesSaid := fnExactSites.over
#print axioms fnExactSites_holds
end Go.Proofs.YtgjhbkpocbihbaaGreat
