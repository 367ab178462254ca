/-
  The law on which nets are right, walked.
-/
import Derived.Test.YtlmgdcoknpakcaaNb
namespace Go.Proofs.Ytlmgdcoknpakcaa
open Go.RowKit

/-- What a region reads of two boxes of nets. -/
def Two4 (q1 q2 : Nat) (W H : Int) (a b c d : Value) (w : World) : Prop := (w.cell? ⟨q1, 0, none⟩ = some (.int .i64 W) ∧ w.cell? ⟨q1, 1, none⟩ = some (.int .i64 H) ∧ w.cell? ⟨q1, 2, none⟩ = some a ∧ w.cell? ⟨q1, 3, none⟩ = some b) ∧ w.cell? ⟨q2, 0, none⟩ = some (.int .i64 W) ∧ w.cell? ⟨q2, 1, none⟩ = some (.int .i64 H) ∧ w.cell? ⟨q2, 2, none⟩ = some c ∧ w.cell? ⟨q2, 3, none⟩ = some d
theorem two4_mk {s t : TypeId} {w : World} {q1 q2 : Nat} {W H : Int} {a b c d : Value} (h1 : At s w q1 #[.int .i64 W, .int .i64 H, a, b]) (h2 : At t w q2 #[.int .i64 W, .int .i64 H, c, d]) : Two4 q1 q2 W H a b c d w := ⟨⟨h1.cell 0 rfl, h1.cell 1 rfl, h1.cell 2 rfl, h1.cell 3 rfl⟩, h2.cell 0 rfl, h2.cell 1 rfl, h2.cell 2 rfl, h2.cell 3 rfl⟩
end Go.Proofs.Ytlmgdcoknpakcaa
