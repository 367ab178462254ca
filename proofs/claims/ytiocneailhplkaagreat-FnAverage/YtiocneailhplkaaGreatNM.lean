/-
  Act by the program, walked.
-/
import Derived.Test.YtiocneailhplkaaGreatMR
import Derived.Test.YtiocneailhplkaaGreatQd
namespace Go.Proofs.YtiocneailhplkaaGreat
open Go.RowKit
/-- What Act tells. -/
def actT (n k : Nat) (f h : Nat → Int) (x y z : Int) : Value := if isOp n f k h ∧ inP x y z then .tuple #[.agg (vA (actV f h (p3 x y z))), .bool true] else .tuple #[.agg (vA fun _ => 0), .bool false]
end Go.Proofs.YtiocneailhplkaaGreat
/-
  Act by the specification; points taken over and compared.
-/
namespace Go.Proofs.YtiocneailhplkaaGreat
open Go.RowKit
end Go.Proofs.YtiocneailhplkaaGreat
