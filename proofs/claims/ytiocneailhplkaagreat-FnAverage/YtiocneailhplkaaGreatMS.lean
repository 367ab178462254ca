/-
  Reflections: small functions, walked.
-/
import Derived.Test.YtiocneailhplkaaGreatGm
import Derived.Test.YtiocneailhplkaaGreatMC
import Derived.Deep.CutRange
namespace Go.Proofs.YtiocneailhplkaaGreat
open Go.RowKit

abbrev hV (x y z : Int) : Value := .agg #[.int .i64 x, .int .i64 y, .int .i64 z]
def r100 (x : Int) : Prop := -100 ≤ x ∧ x ≤ 100
def hkR (x y z : Int) : Prop := r100 x ∧ r100 y ∧ r100 z
abbrev shV (x y z p : Int) : Value := .agg #[.int .i64 x, .int .i64 y, .int .i64 z, .int .i64 p]
end Go.Proofs.YtiocneailhplkaaGreat
/-
  What an operator makes of a reflection, by the program: walked.
-/
namespace Go.Proofs.YtiocneailhplkaaGreat
open Go.RowKit

theorem At.open4f {t : TypeId} {w : World} {q : Nat} {v0 v1 v2 v3 : Value} (h : At t w q #[v0, v1, v2, v3]) : w.cell? ⟨q, 0, none⟩ = some v0 ∧ w.cell? ⟨q, 1, none⟩ = some v1 ∧ w.cell? ⟨q, 2, none⟩ = some v2 ∧ w.cell? ⟨q, 3, none⟩ = some v3 ∧ w.frozen? ⟨q, 0, none⟩ = false ∧ w.frozen? ⟨q, 1, none⟩ = false ∧ w.frozen? ⟨q, 2, none⟩ = false ∧ w.frozen? ⟨q, 3, none⟩ = false :=
  ⟨h.cell 0 rfl, h.cell 1 rfl, h.cell 2 rfl, h.cell 3 rfl, h.frozen 0, h.frozen 1, h.frozen 2, h.frozen 3⟩
theorem put4s_at {t : TypeId} {w : World} {q : Nat} {u0 u1 u2 u3 : Value} (h : At t w q #[u0, u1, u2, u3]) (v0 v1 v2 v3 : Value) : At t ((((w.setCell ⟨q, 0, none⟩ v0).setCell ⟨q, 1, none⟩ v1).setCell ⟨q, 2, none⟩ v2).setCell ⟨q, 3, none⟩ v3) q #[v0, v1, v2, v3] := by
  have := (((h.set 0 v0).set 1 v1).set 2 v2).set 3 v3
  simpa using this
theorem put4s_other {t : TypeId} {w : World} {q p : Nat} {vs : Array Value} (h : At t w q vs) (hq : q ≠ p) (v0 v1 v2 v3 : Value) : At t ((((w.setCell ⟨p, 0, none⟩ v0).setCell ⟨p, 1, none⟩ v1).setCell ⟨p, 2, none⟩ v2).setCell ⟨p, 3, none⟩ v3) q vs := (((h.setOther hq v0).setOther hq v1).setOther hq v2).setOther hq v3
theorem put3c_at {t : TypeId} {w : World} {q : Nat} {u0 u1 u2 : Value} (h : At t w q #[u0, u1, u2]) (v0 v1 v2 : Value) : At t (((w.setCell ⟨q, 0, none⟩ v0).setCell ⟨q, 1, none⟩ v1).setCell ⟨q, 2, none⟩ v2) q #[v0, v1, v2] := by
  have := ((h.set 0 v0).set 1 v1).set 2 v2
  simpa using this
theorem put3c_other {t : TypeId} {w : World} {q p : Nat} {vs : Array Value} (h : At t w q vs) (hq : q ≠ p) (v0 v1 v2 : Value) : At t (((w.setCell ⟨p, 0, none⟩ v0).setCell ⟨p, 1, none⟩ v1).setCell ⟨p, 2, none⟩ v2) q vs := ((h.setOther hq v0).setOther hq v1).setOther hq v2
/-- All that lay there lies there still. -/
abbrev Kb (u w : World) : Prop := Below u.heap.size u w
/-- Two arrays that were taken out. -/
def Cut2 (k : Nat → Int) (wv : World) (s5 s6 : Value) (wc : World) : Prop := ∃ qm qt, s5 = .pointer (some ⟨qm, 0, none⟩) ∧ s6 = .pointer (some ⟨qt, 0, none⟩) ∧ At 88 wc qm (matA k) ∧ At 66 wc qt #[.int .i64 (k 9), .int .i64 (k 10), .int .i64 (k 11)] ∧ Below wv.heap.size wv wc
/-- An operator's numbers are small. -/
def smK (k : Nat → Int) : Prop := ∀ i, i < 12 → -24 ≤ k i ∧ k i ≤ 24
end Go.Proofs.YtiocneailhplkaaGreat
