/-
  Act by the specification, walked.
-/
import Derived.Test.YtfmbljmcdidocaaGreatMR
namespace Go.Proofs.YtfmbljmcdidocaaGreat
open Go.RowKit
/-- What the region reads. -/
def S5 (q p b1 o1 b2 o2 cap cap' : Nat) (f h : Nat → Int) (x y z : Int) (w' : World) : Prop :=
  (w'.cell? ⟨q, 0, none⟩ = some (.slice (some ⟨b1, o1, none⟩) 9 cap) ∧ w'.cell? ⟨q, 1, none⟩ = some (.slice (some ⟨b2, o2, none⟩) 3 cap')) ∧ (w'.cell? ⟨p, 0, none⟩ = some (.int .i64 x) ∧ w'.cell? ⟨p, 1, none⟩ = some (.int .i64 y) ∧ w'.cell? ⟨p, 2, none⟩ = some (.int .i64 z)) ∧ (∀ i, i < 9 → w'.cell? ⟨b1, o1 + i, none⟩ = some (.int .i64 (f i))) ∧ ∀ i, i < 3 → w'.cell? ⟨b2, o2 + i, none⟩ = some (.int .i64 (h i))
end Go.Proofs.YtfmbljmcdidocaaGreat
