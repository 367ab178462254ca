/-
  A slice of bytes that came in, as the walks take it.
-/
import Derived.Test.YtmlgkmgkicdnbaaLWalkC
import Derived.ProofKit
import Derived.OpenShut
namespace Go.Proofs.Ytmlgkmgkicdnbaa
open Go.ChangeShapes Go.WideShapes Go.ChangeAt Go.RowKit

/-- What is told of the slice that came in. -/
def IsRow (k : IntKind) (w : World) (a : Option Addr) (len cap : Nat) (zs : List Int) : Prop :=
  (a = none ∧ len = 0 ∧ cap = 0 ∧ zs = []) ∨
  ∃ x, a = some x ∧ len ≤ cap ∧ cap ≤ maxLen ∧ zs.length = cap ∧ (∀ i, i < zs.length → w.cell? (x.add i) = some (.int k (zs.getD i 0))) ∧ ∀ n ∈ zs, (Lit.int k n).wf = true

theorem row_of {w : World} {a : Option Addr} {len cap : Nat} {zs : List Int} (h : IsRow .u8 w a len cap zs) : Row w w.heap.size a len := by
  rcases h with ⟨rfl, rfl, rfl, rfl⟩ | ⟨x, rfl, hl, hm, hz, hcell, hwz⟩
  · exact ⟨Nat.zero_le _, .inl rfl⟩
  · refine ⟨Nat.le_trans hl hm, ?_⟩
    by_cases h0 : len = 0
    · exact .inl h0
    · obtain ⟨b, off, spot⟩ := x
      have hc := hcell 0 (by omega)
      have hspot : spot = none := by simpa [Addr.add] using World.cell?_spot hc
      subst hspot
      refine .inr ⟨b, off, rfl, ?_, fun j hj => ?_⟩
      · refine Nat.lt_of_not_le fun hb => ?_
        have : w.heap[b]? = none := Array.getElem?_eq_none hb
        simp [Addr.add, World.cell?, this] at hc
      · have hj' : j < zs.length := by omega
        have hb := range_u8 hwz j
        refine ⟨zs[j]?.getD 0, hb.1, hb.2, ?_⟩
        have hcj := hcell j hj'
        by_cases e : j = 0
        · subst e; simpa [Addr.add] using hcj
        · simpa [Addr.add, e] using hcj

end Go.Proofs.Ytmlgkmgkicdnbaa
