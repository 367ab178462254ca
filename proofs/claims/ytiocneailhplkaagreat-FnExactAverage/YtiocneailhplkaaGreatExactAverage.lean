/-
  Of every map and every list of operators Average answers as the specification, and leaves both as they were; its answer lies in memory of its own, behind another call too. No condition.
-/
import Derived.Test.YtiocneailhplkaaGreatRows
import Derived.Test.YtiocneailhplkaaGreatAv7
import Derived.WalkKit
import Derived.ProofKit
import Derived.OpenShut
import Derived.ShutString
import Derived.ChangeOld
import Derived.Below
import Derived.ChangeMaps5
import Derived.Deep.SlicePairs
import Derived.Lib.SmallJoins
namespace Go.Proofs.YtiocneailhplkaaGreat.fnExactAverage
open Go.ChangeShapes Go.WideShapes Go.ChangeAt Go.RowKit Go.Joins
open Go.Proofs.YtiocneailhplkaaGreat (IsRow)
set_option linter.unusedVariables false

theorem own : ownKnob Tryz.prog.godebug = none := by kernel_rfl
theorem laidOut : laidOutB Tryz.prog = true := by kernel_rfl

set_option maxRecDepth 100000 in
theorem lifted (os : Os) (started : os.Started) (H : Type) (enc : TypeId × Value → H) :
    ReturnsInHanded {} Tryz.checked os 4 .any (Rows.fnExactAverageSpec.pre6 enc Tryz.prog Tryz.f4 Rows.fnExactAverageRow.domain false) (Rows.fnExactAverageSpec.post enc Tryz.prog Tryz.f4 false true false false) := by
  refine returnsInHanded_of_change (C := Tryz.checked) own started (by kernel_rfl) Tryz.func4
    (ChangeSpec.witness6 (enc := enc) (C := Tryz.checked) false ⟨#[], #[.agg #[.int .i64 0, .slice none 0 0], .slice none 0 0], []⟩ 8 (by kernel_rfl) (by kernel_rfl) (by kernel_rfl) (by kernel_rfl)) ?_
  intro W base args ds gs before hval0 hW hcnd _
  have hval : ∀ (j : Nat) t v, Tryz.f4.params[j]? = some t → args[j]? = some v → Value.okWide Tryz.prog W .any base t v := hval0
  have hW' := hW
  obtain ⟨p, q, hA0, hV, rfl, hfz, hnd⟩ := hW
  have hA : DataW.TrodAll enc Tryz.prog W 0 (fun _ => true) true Tryz.f4.params.toList args.toList ds p := hA0
  rw [Tryz.params4] at hA hval
  obtain ⟨v0, vs0, d0, ds0, p0, q0, hargs, rfl, rfl, h0, r0⟩ := trodAll_cons hA
  obtain ⟨v1, vs1, d1, ds1, p1, q1, rfl, rfl, rfl, h1, r1⟩ := trodAll_cons r0
  obtain ⟨rfl, rfl, rfl⟩ := trodAll_nil r1
  obtain rfl : args = #[v0, v1] := by cases args; simp_all
  obtain ⟨rfl, rfl⟩ := trodVars_none hV
  have k0 := h0
  have lt0 : ∀ x ∈ p0, x.block < W.heap.size := by obtain ⟨m, hm⟩ := k0; exact DataW.trod_lt m _ _ _ hm
  obtain ⟨va0, vb0, ya0, yb0, m0, hv0, hd0, hp0, ha0, hb0⟩ := open_agg2 Tryz.underlying34 (by kernel_rfl) (by kernel_rfl) (hval 0 34 v0 rfl rfl) h0
  subst hv0
  obtain ⟨n0, en0, _, wn0⟩ := DataW.trod_int Tryz.underlying2 ha0
  simp at en0
  subst en0
  obtain ⟨a0, len0, cap0, zs0, hvb0, hr0⟩ : ∃ a len cap zs, vb0 = .slice a len cap ∧ IsRow .i64 W a len cap zs := by
    rcases open_ints Tryz.underlying24 Tryz.underlying2 (by kernel_rfl) hb0 with ⟨hcs, _⟩ | ⟨x, l, c, zs, hcs, _, hl, hm, hz, _, hcell, hwz⟩
    · exact ⟨none, 0, 0, [], (List.cons.inj hcs).1, .inl ⟨rfl, rfl, rfl, rfl⟩⟩
    · exact ⟨some x, l, c, zs, (List.cons.inj hcs).1, .inr ⟨_, rfl, hl, hm, by simpa using hz, hcell, hwz⟩⟩
  subst hvb0
  have k1 := h1
  have lt1 : ∀ x ∈ p1, x.block < W.heap.size := by obtain ⟨m, hm⟩ := k1; exact DataW.trod_lt m _ _ _ hm
  obtain ⟨a1, len1, cap1, rfl⟩ := okWide_slice Tryz.underlying35 (hval 1 35 v1 rfl rfl)
  obtain ⟨A1, hS1, hn1⟩ : ∃ A, Go.Proofs.YtiocneailhplkaaGreat.OpsS W a1 len1 A ∧ len1 ≤ maxLen := by
    obtain ⟨fuel, hf⟩ := h1
    rcases Go.Deep.open_slice_pairs Tryz.underlying35 Tryz.underlying73 (by kernel_rfl) rfl rfl (by kernel_rfl) (by kernel_rfl) hf with ⟨hcs, _⟩ | ⟨x, l, c, m, n, V0, V1, D0, D1, P0, P1, hcs, _, hl, hm, hmm, _, hc⟩
    · have e := (List.cons.inj hcs).1
      cases e
      exact ⟨fun _ => ⟨0, fun _ => 0, 0, fun _ => 0⟩, .inl rfl, Nat.zero_le _⟩
    · have e := (List.cons.inj hcs).1
      cases e
      have hlm : len1 ≤ m := by rw [hmm]; split <;> omega
      have op : ∀ (V : Value) (D : DataW H) (P : List MemPlace), DataW.trod enc Tryz.prog W 0 (fun _ => true) true n 24 [V] = some (D, P) → ∃ a len cap zs, V = .slice a len cap ∧ IsRow .i64 W a len cap zs := by
        intro V D P h
        rcases open_ints (show Tryz.prog.underlying 24 = some (.slice 2) by kernel_rfl) Tryz.underlying2 (by kernel_rfl) h with ⟨hcs, _⟩ | ⟨x, l, c, zs, hcs, _, hl, hm, hz, _, hcell, hwz⟩
        · exact ⟨none, 0, 0, [], (List.cons.inj hcs).1, .inl ⟨rfl, rfl, rfl, rfl⟩⟩
        · exact ⟨some x, l, c, zs, (List.cons.inj hcs).1, .inr ⟨_, rfl, hl, hm, by simpa using hz, hcell, hwz⟩⟩
      obtain ⟨A, hA⟩ := Go.Proofs.YtiocneailhplkaaGreat.opsS_of (w := W) (x := x) (n := len1) (V0 := V0) (V1 := V1) (fun i hi => ⟨(hc i (by omega)).1, (hc i (by omega)).2.1⟩) (fun i hi => op _ _ _ (hc i (by omega)).2.2.1) (fun i hi => op _ _ _ (hc i (by omega)).2.2.2)
      exact ⟨A, hA, Nat.le_trans hl hm⟩
  clear hA0 hval0
  refine (average_of wn0 hr0 hS1 hn1).mono fun e W' ⟨he, bel⟩ => ?_
  subst he
  exact ⟨_, rfl, _, _, _, [], _, [], hW', trodAll_mk1 (shut_bool Tryz.underlying4 _), (trodAll_cons_mk (Below.trod laidOut (by kernel_rfl) (of_decide_eq_true (by kernel_rfl)) k0 bel lt0) (trodAll_cons_mk (Below.trod laidOut (by kernel_rfl) (of_decide_eq_true (by kernel_rfl)) k1 bel lt1) trodAll_mk0)), rfl, bel.frame _, fun h => by cases h⟩

theorem over : Rows.fnExactAverageRow.holds Tryz.pinned (OpenSpec.ofChange Rows.fnExactAverageSpec) :=
  OpenClaim.holds_of_wide 4 Tryz.f4 rfl rfl rfl rfl rfl rfl rfl ⟨rfl, rfl, rfl, rfl, rfl⟩ rfl rfl rfl rfl rfl (by kernel_rfl) Tryz.func4 (by kernel_rfl)
    (of_decide_eq_true (by kernel_rfl)) (by unfold Func.isWrapper; first | (rw [if_pos (by decide +kernel)]; kernel_rfl) | (rw [if_neg (by decide +kernel)]; exact ⟨rfl, rfl⟩))
    (fun os started H enc _ => lifted os started H enc)

end Go.Proofs.YtiocneailhplkaaGreat.fnExactAverage
namespace Go.Proofs.YtiocneailhplkaaGreat
/-- The statement. -/
theorem fnExactAverage_holds : Rows.FnExactAverageSaid := fnExactAverage.over
#print axioms fnExactAverage_holds
end Go.Proofs.YtiocneailhplkaaGreat
