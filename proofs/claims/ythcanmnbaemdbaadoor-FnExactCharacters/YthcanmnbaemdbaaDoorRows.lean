/-
  NARROWER THAN 'FOR EVERY INPUT', by the rows' own cells (each row's printed sentence says how): FnCyc: laid · FnExactCharacters: laid · FnExactReduced: laid.
  DERIVED. THE GIVEN ROWS OF THIS SEAT. 3 by the template 'for every input the law returns true; each argument reads behind the call as it read before'; 0 by the template 'total and deterministic' (their statements: YthcanmnbaemdbaaDoorTotals.lean).
  GIVEN WITH THE SEED: the statements are not yours to turn. If you find one false, say at which input.
  Laid BY PROGRAM, IN A SANDBOX (cutbox-rows.mjs): the forced cells as the released guide's own fill.sh prints them over the translation acc3f3d7a78e692b… (all of the seat's roots in one cut). By AI agents, Wed Nov 11 2026. No macro, syntax, notation, axiom, sorry.
-/
import Derived.Test.YthcanmnbaemdbaaDoorChecked
import GoSem.Claim
import GoSem.ClaimJoined
import GoSem.ClaimMapViews
import Derived.JoinedTies
import Derived.KernelRfl
namespace Go.Proofs.YthcanmnbaemdbaaDoor
/- THE CELL 'sum', in the pinned program and in every row, IS THE sha256 OF THE DUMP (.gsa) THAT YthcanmnbaemdbaaDoorProg.lean LOADS. Nothing in Lean hashes anything: it is a label: what it is worth is what the hold of that sum in a sandbox is worth. -/
noncomputable def Tryd.pinned : Pinned := { name := "ythcanmnbaemdbaadoor", sum := "acc3f3d7a78e692b71b6b8963e435bf33940bb260ffcc4551288f6b51beea580", checked := Tryd.checked }
namespace Rows
def none {H : Type} : Left H := { results := [], args := [] }

/- WHAT THE LISTED PACKAGE-LEVEL VARIABLES READ AS WHEN THE CALL BEGINS. Each datum BY PROGRAM (the guide's laid-datum.mjs) off the statement by which the dump's own 'gosem.cut.vars' lays the variable. In a bare row this is a premise. The card (YthcanmnbaemdbaaDoorCards.lean) ties it to the program's text. -/
def laid_loop_example_g00055_impl_rootPowers {H : Type} : DataW H := .agg [.agg [.lit (.int .i64 1), .lit (.int .i64 0), .lit (.int .i64 0), .lit (.int .i64 0)], .agg [.lit (.int .i64 0), .lit (.int .i64 1), .lit (.int .i64 0), .lit (.int .i64 0)], .agg [.lit (.int .i64 0), .lit (.int .i64 0), .lit (.int .i64 1), .lit (.int .i64 0)], .agg [.lit (.int .i64 0), .lit (.int .i64 0), .lit (.int .i64 0), .lit (.int .i64 1)], .agg [.lit (.int .i64 (-1)), .lit (.int .i64 0), .lit (.int .i64 1), .lit (.int .i64 0)], .agg [.lit (.int .i64 0), .lit (.int .i64 (-1)), .lit (.int .i64 0), .lit (.int .i64 1)], .agg [.lit (.int .i64 (-1)), .lit (.int .i64 0), .lit (.int .i64 0), .lit (.int .i64 0)], .agg [.lit (.int .i64 0), .lit (.int .i64 (-1)), .lit (.int .i64 0), .lit (.int .i64 0)], .agg [.lit (.int .i64 0), .lit (.int .i64 0), .lit (.int .i64 (-1)), .lit (.int .i64 0)], .agg [.lit (.int .i64 0), .lit (.int .i64 0), .lit (.int .i64 0), .lit (.int .i64 (-1))], .agg [.lit (.int .i64 1), .lit (.int .i64 0), .lit (.int .i64 (-1)), .lit (.int .i64 0)], .agg [.lit (.int .i64 0), .lit (.int .i64 1), .lit (.int .i64 0), .lit (.int .i64 (-1))]]

/-- 'laws.FnCyc': WHATEVER THE INPUT: true; the input reads as it did. -/
def fnCycSpec : ChangeSpec := { name := "fnCyc", vars := ["loop.example/g00055/impl.rootPowers"], fn := fun _ => fun
  | [d1, d2, g1] => { results := [.lit (.bool true)], args := [d1, d2], vars := [g1] }
  | _ => none }
def fnCycRow : OpenClaim := { program := "ythcanmnbaemdbaadoor", sum := "acc3f3d7a78e692b71b6b8963e435bf33940bb260ffcc4551288f6b51beea580", func := "loop.example/g00055/laws.FnCyc", spec := "fnCyc", named := ["loop.example/g00055/impl.rootPowers"], apart := false, laid := [("loop.example/g00055/impl.rootPowers", laid_loop_example_g00055_impl_rootPowers)] }
def FnCycSaid : Prop := fnCycRow.holds Tryd.pinned (OpenSpec.ofChange fnCycSpec)

/-- ITS FALSE NEIGHBOUR: 'it returns false'. Refute it at one input. -/
def fnCycWrong : ChangeSpec := { name := "fnCyc", vars := ["loop.example/g00055/impl.rootPowers"], fn := fun _ => fun
  | [d1, d2, g1] => { results := [.lit (.bool false)], args := [d1, d2], vars := [g1] }
  | _ => none }
def FnCycWrongFalsely : Prop := fnCycRow.holds Tryd.pinned (OpenSpec.ofChange fnCycWrong)

/-- 'laws.FnExactCharacters': WHATEVER THE INPUT: true; the input reads as it did. -/
def fnExactCharactersSpec : ChangeSpec := { name := "fnExactCharacters", vars := ["loop.example/g00055/impl.rootPowers"], fn := fun _ => fun
  | [d, g1] => { results := [.lit (.bool true)], args := [d], vars := [g1] }
  | _ => none }
def fnExactCharactersRow : OpenClaim := { program := "ythcanmnbaemdbaadoor", sum := "acc3f3d7a78e692b71b6b8963e435bf33940bb260ffcc4551288f6b51beea580", func := "loop.example/g00055/laws.FnExactCharacters", spec := "fnExactCharacters", named := ["loop.example/g00055/impl.rootPowers"], apart := false, laid := [("loop.example/g00055/impl.rootPowers", laid_loop_example_g00055_impl_rootPowers)] }
def FnExactCharactersSaid : Prop := fnExactCharactersRow.holds Tryd.pinned (OpenSpec.ofChange fnExactCharactersSpec)

/-- ITS FALSE NEIGHBOUR: 'it returns false'. Refute it at one input. -/
def fnExactCharactersWrong : ChangeSpec := { name := "fnExactCharacters", vars := ["loop.example/g00055/impl.rootPowers"], fn := fun _ => fun
  | [d, g1] => { results := [.lit (.bool false)], args := [d], vars := [g1] }
  | _ => none }
def FnExactCharactersWrongFalsely : Prop := fnExactCharactersRow.holds Tryd.pinned (OpenSpec.ofChange fnExactCharactersWrong)

/-- 'laws.FnExactReduced': WHATEVER THE INPUT: true; the input reads as it did. -/
def fnExactReducedSpec : ChangeSpec := { name := "fnExactReduced", vars := ["loop.example/g00055/impl.rootPowers"], fn := fun _ => fun
  | [d1, d2, g1] => { results := [.lit (.bool true)], args := [d1, d2], vars := [g1] }
  | _ => none }
def fnExactReducedRow : OpenClaim := { program := "ythcanmnbaemdbaadoor", sum := "acc3f3d7a78e692b71b6b8963e435bf33940bb260ffcc4551288f6b51beea580", func := "loop.example/g00055/laws.FnExactReduced", spec := "fnExactReduced", named := ["loop.example/g00055/impl.rootPowers"], apart := false, laid := [("loop.example/g00055/impl.rootPowers", laid_loop_example_g00055_impl_rootPowers)] }
def FnExactReducedSaid : Prop := fnExactReducedRow.holds Tryd.pinned (OpenSpec.ofChange fnExactReducedSpec)

/-- ITS FALSE NEIGHBOUR: 'it returns false'. Refute it at one input. -/
def fnExactReducedWrong : ChangeSpec := { name := "fnExactReduced", vars := ["loop.example/g00055/impl.rootPowers"], fn := fun _ => fun
  | [d1, d2, g1] => { results := [.lit (.bool false)], args := [d1, d2], vars := [g1] }
  | _ => none }
def FnExactReducedWrongFalsely : Prop := fnExactReducedRow.holds Tryd.pinned (OpenSpec.ofChange fnExactReducedWrong)

/- THE SECOND FORM. 'bulk': how many values and letters a reading holds, each counted each time it is reached (what is shared counts as often as it is met; a slice's spare places count too). A statement '..UptoSaid' is the law's where the arguments, and the package variables that the reading takes, are together of bulk at most 1048576: NARROWER than '..Said'. Prove '..Said' where nothing that the law and all that it calls make is longer than what came in: it says more and counts as full. Else prove '..UptoSaid'. A law counts once. -/
mutual
def uptoBulk {H : Type} : DataW H → Nat
  | .lit (.string bytes) => bytes.length + 1
  | .lit _ => 1
  | .nil => 1
  | .ptr d => uptoBulk d + 1
  | .slice elems spare => uptoBulkAll elems + uptoBulkAll spare + 1
  | .agg parts => uptoBulkAll parts + 1
  | .iface _ d => uptoBulk d + 1
  | .map entries => uptoBulkEntries entries + 1
  | .held _ => 1
def uptoBulkAll {H : Type} : List (DataW H) → Nat
  | [] => 0
  | d :: r => uptoBulk d + uptoBulkAll r
def uptoBulkEntries {H : Type} : List (Lit × DataW H) → Nat
  | [] => 0
  | x :: r => uptoBulkEntry x + uptoBulkEntries r
def uptoBulkEntry {H : Type} : Lit × DataW H → Nat
  | (.string bytes, d) => bytes.length + uptoBulk d + 1
  | (_, d) => uptoBulk d + 1
 end
def uptoSmall : (H : Type) → List (DataW H) → Bool := fun _ ds => decide (uptoBulkAll ds ≤ 1048576)
def OpenSpec.upto (s : _root_.Go.ChangeSpec) : _root_.Go.OpenSpec := { _root_.Go.OpenSpec.ofChange s with cond := some uptoSmall }

/-- 'laws.FnCyc', WHERE WHAT IT READS IS OF BULK AT MOST 1048576: true; the input reads as it did. -/
def fnCycUptoRow : OpenClaim := { program := "ythcanmnbaemdbaadoor", sum := "acc3f3d7a78e692b71b6b8963e435bf33940bb260ffcc4551288f6b51beea580", func := "loop.example/g00055/laws.FnCyc", spec := "fnCyc", named := ["loop.example/g00055/impl.rootPowers"], apart := false, laid := [("loop.example/g00055/impl.rootPowers", laid_loop_example_g00055_impl_rootPowers)], narrowed := true }
def FnCycUptoSaid : Prop := fnCycUptoRow.holds Tryd.pinned (OpenSpec.upto fnCycSpec)

/-- 'laws.FnExactCharacters', WHERE WHAT IT READS IS OF BULK AT MOST 1048576: true; the input reads as it did. -/
def fnExactCharactersUptoRow : OpenClaim := { program := "ythcanmnbaemdbaadoor", sum := "acc3f3d7a78e692b71b6b8963e435bf33940bb260ffcc4551288f6b51beea580", func := "loop.example/g00055/laws.FnExactCharacters", spec := "fnExactCharacters", named := ["loop.example/g00055/impl.rootPowers"], apart := false, laid := [("loop.example/g00055/impl.rootPowers", laid_loop_example_g00055_impl_rootPowers)], narrowed := true }
def FnExactCharactersUptoSaid : Prop := fnExactCharactersUptoRow.holds Tryd.pinned (OpenSpec.upto fnExactCharactersSpec)

/-- 'laws.FnExactReduced', WHERE WHAT IT READS IS OF BULK AT MOST 1048576: true; the input reads as it did. -/
def fnExactReducedUptoRow : OpenClaim := { program := "ythcanmnbaemdbaadoor", sum := "acc3f3d7a78e692b71b6b8963e435bf33940bb260ffcc4551288f6b51beea580", func := "loop.example/g00055/laws.FnExactReduced", spec := "fnExactReduced", named := ["loop.example/g00055/impl.rootPowers"], apart := false, laid := [("loop.example/g00055/impl.rootPowers", laid_loop_example_g00055_impl_rootPowers)], narrowed := true }
def FnExactReducedUptoSaid : Prop := fnExactReducedUptoRow.holds Tryd.pinned (OpenSpec.upto fnExactReducedSpec)

end Rows
end Go.Proofs.YthcanmnbaemdbaaDoor
