/-
  NARROWER THAN 'FOR EVERY INPUT', by the rows' own cells (each row's printed sentence says how): FnCharacters: laid · FnFriedel: laid.
  DERIVED. THE GIVEN ROWS OF THIS SEAT. 2 by the template 'for every input the law returns true; each argument reads behind the call as it read before'; 0 by the template 'total and deterministic' (their statements: YtbninbeccgdemaaDoorTotals.lean).
  GIVEN WITH THE SEED: the statements are not yours to turn. If you find one false, say at which input.
  Laid BY PROGRAM, IN A SANDBOX (cutbox-rows.mjs): the forced cells as the released guide's own fill.sh prints them over the translation 95851551f0616abd… (all of the seat's roots in one cut). By AI agents, Wed Nov 11 2026. No macro, syntax, notation, axiom, sorry.
-/
import Derived.Test.YtbninbeccgdemaaDoorChecked
import GoSem.Claim
import GoSem.ClaimJoined
import GoSem.ClaimMapViews
import Derived.JoinedTies
import Derived.KernelRfl
namespace Go.Proofs.YtbninbeccgdemaaDoor
/- THE CELL 'sum', in the pinned program and in every row, IS THE sha256 OF THE DUMP (.gsa) THAT YtbninbeccgdemaaDoorProg.lean LOADS. Nothing in Lean hashes anything: it is a label: what it is worth is what the hold of that sum in a sandbox is worth. -/
noncomputable def Tryd.pinned : Pinned := { name := "ytbninbeccgdemaadoor", sum := "95851551f0616abde6416e0936136af8f4d05c66fcbbcf63c12e58c6bf03512b", checked := Tryd.checked }
namespace Rows
def none {H : Type} : Left H := { results := [], args := [] }

/- WHAT THE LISTED PACKAGE-LEVEL VARIABLES READ AS WHEN THE CALL BEGINS. Each datum BY PROGRAM (the guide's laid-datum.mjs) off the statement by which the dump's own 'gosem.cut.vars' lays the variable. In a bare row this is a premise. The card (YtbninbeccgdemaaDoorCards.lean) ties it to the program's text. -/
def laid_loop_example_g00055_impl_rootPowers {H : Type} : DataW H := .agg [.agg [.lit (.int .i64 1), .lit (.int .i64 0), .lit (.int .i64 0), .lit (.int .i64 0)], .agg [.lit (.int .i64 0), .lit (.int .i64 1), .lit (.int .i64 0), .lit (.int .i64 0)], .agg [.lit (.int .i64 0), .lit (.int .i64 0), .lit (.int .i64 1), .lit (.int .i64 0)], .agg [.lit (.int .i64 0), .lit (.int .i64 0), .lit (.int .i64 0), .lit (.int .i64 1)], .agg [.lit (.int .i64 (-1)), .lit (.int .i64 0), .lit (.int .i64 1), .lit (.int .i64 0)], .agg [.lit (.int .i64 0), .lit (.int .i64 (-1)), .lit (.int .i64 0), .lit (.int .i64 1)], .agg [.lit (.int .i64 (-1)), .lit (.int .i64 0), .lit (.int .i64 0), .lit (.int .i64 0)], .agg [.lit (.int .i64 0), .lit (.int .i64 (-1)), .lit (.int .i64 0), .lit (.int .i64 0)], .agg [.lit (.int .i64 0), .lit (.int .i64 0), .lit (.int .i64 (-1)), .lit (.int .i64 0)], .agg [.lit (.int .i64 0), .lit (.int .i64 0), .lit (.int .i64 0), .lit (.int .i64 (-1))], .agg [.lit (.int .i64 1), .lit (.int .i64 0), .lit (.int .i64 (-1)), .lit (.int .i64 0)], .agg [.lit (.int .i64 0), .lit (.int .i64 1), .lit (.int .i64 0), .lit (.int .i64 (-1))]]

/-- 'laws.FnCharacters': WHATEVER THE INPUT: true; the input reads as it did. -/
def fnCharactersSpec : ChangeSpec := { name := "fnCharacters", vars := ["loop.example/g00055/impl.rootPowers"], fn := fun _ => fun
  | [d, g1] => { results := [.lit (.bool true)], args := [d], vars := [g1] }
  | _ => none }
def fnCharactersRow : OpenClaim := { program := "ytbninbeccgdemaadoor", sum := "95851551f0616abde6416e0936136af8f4d05c66fcbbcf63c12e58c6bf03512b", func := "loop.example/g00055/laws.FnCharacters", spec := "fnCharacters", named := ["loop.example/g00055/impl.rootPowers"], plainKeys := false, apart := false, laid := [("loop.example/g00055/impl.rootPowers", laid_loop_example_g00055_impl_rootPowers)] }
def FnCharactersSaid : Prop := fnCharactersRow.holds Tryd.pinned (OpenSpec.ofChange fnCharactersSpec)

/-- ITS FALSE NEIGHBOUR: 'it returns false'. Refute it at one input. -/
def fnCharactersWrong : ChangeSpec := { name := "fnCharacters", vars := ["loop.example/g00055/impl.rootPowers"], fn := fun _ => fun
  | [d, g1] => { results := [.lit (.bool false)], args := [d], vars := [g1] }
  | _ => none }
def FnCharactersWrongFalsely : Prop := fnCharactersRow.holds Tryd.pinned (OpenSpec.ofChange fnCharactersWrong)

/-- 'laws.FnFriedel': WHATEVER THE INPUT: true; the input reads as it did. -/
def fnFriedelSpec : ChangeSpec := { name := "fnFriedel", vars := ["loop.example/g00055/impl.rootPowers"], fn := fun _ => fun
  | [d, g1] => { results := [.lit (.bool true)], args := [d], vars := [g1] }
  | _ => none }
def fnFriedelRow : OpenClaim := { program := "ytbninbeccgdemaadoor", sum := "95851551f0616abde6416e0936136af8f4d05c66fcbbcf63c12e58c6bf03512b", func := "loop.example/g00055/laws.FnFriedel", spec := "fnFriedel", named := ["loop.example/g00055/impl.rootPowers"], plainKeys := false, apart := false, laid := [("loop.example/g00055/impl.rootPowers", laid_loop_example_g00055_impl_rootPowers)] }
def FnFriedelSaid : Prop := fnFriedelRow.holds Tryd.pinned (OpenSpec.ofChange fnFriedelSpec)

/-- ITS FALSE NEIGHBOUR: 'it returns false'. Refute it at one input. -/
def fnFriedelWrong : ChangeSpec := { name := "fnFriedel", vars := ["loop.example/g00055/impl.rootPowers"], fn := fun _ => fun
  | [d, g1] => { results := [.lit (.bool false)], args := [d], vars := [g1] }
  | _ => none }
def FnFriedelWrongFalsely : Prop := fnFriedelRow.holds Tryd.pinned (OpenSpec.ofChange fnFriedelWrong)

/- THE SECOND FORM. 'bulk': how many values and letters a reading holds, each counted each time it is reached (what is shared counts as often as it is met; a slice's spare places count too). A statement '..UptoSaid' is the law's where the arguments, and the package variables that the reading takes, are together of bulk at most 1048576: NARROWER than '..Said'. Prove '..Said' where nothing that the law and all that it calls make is longer than what came in: it says more and counts as full. Else prove '..UptoSaid'. A law counts once. -/
mutual
def uptoBulk {H : Type} : DataW H → Nat
  | .lit (.string bytes) => bytes.length + 1
  | .lit _ => 1
  | .nil => 1
  | .ptr d => uptoBulk d + 1
  | .slice elems spare => uptoBulkAll elems + uptoBulkAll spare + 1
  | .agg parts => uptoBulkAll parts + 1
  | .iface _ d => uptoBulk d + 1
  | .map entries => uptoBulkEntries entries + 1
  | .held _ => 1
def uptoBulkAll {H : Type} : List (DataW H) → Nat
  | [] => 0
  | d :: r => uptoBulk d + uptoBulkAll r
def uptoBulkEntries {H : Type} : List (Lit × DataW H) → Nat
  | [] => 0
  | x :: r => uptoBulkEntry x + uptoBulkEntries r
def uptoBulkEntry {H : Type} : Lit × DataW H → Nat
  | (.string bytes, d) => bytes.length + uptoBulk d + 1
  | (_, d) => uptoBulk d + 1
 end
def uptoSmall : (H : Type) → List (DataW H) → Bool := fun _ ds => decide (uptoBulkAll ds ≤ 1048576)
def OpenSpec.upto (s : _root_.Go.ChangeSpec) : _root_.Go.OpenSpec := { _root_.Go.OpenSpec.ofChange s with cond := some uptoSmall }

/-- 'laws.FnCharacters', WHERE WHAT IT READS IS OF BULK AT MOST 1048576: true; the input reads as it did. -/
def fnCharactersUptoRow : OpenClaim := { program := "ytbninbeccgdemaadoor", sum := "95851551f0616abde6416e0936136af8f4d05c66fcbbcf63c12e58c6bf03512b", func := "loop.example/g00055/laws.FnCharacters", spec := "fnCharacters", named := ["loop.example/g00055/impl.rootPowers"], plainKeys := false, apart := false, laid := [("loop.example/g00055/impl.rootPowers", laid_loop_example_g00055_impl_rootPowers)], narrowed := true }
def FnCharactersUptoSaid : Prop := fnCharactersUptoRow.holds Tryd.pinned (OpenSpec.upto fnCharactersSpec)

/-- 'laws.FnFriedel', WHERE WHAT IT READS IS OF BULK AT MOST 1048576: true; the input reads as it did. -/
def fnFriedelUptoRow : OpenClaim := { program := "ytbninbeccgdemaadoor", sum := "95851551f0616abde6416e0936136af8f4d05c66fcbbcf63c12e58c6bf03512b", func := "loop.example/g00055/laws.FnFriedel", spec := "fnFriedel", named := ["loop.example/g00055/impl.rootPowers"], plainKeys := false, apart := false, laid := [("loop.example/g00055/impl.rootPowers", laid_loop_example_g00055_impl_rootPowers)], narrowed := true }
def FnFriedelUptoSaid : Prop := fnFriedelUptoRow.holds Tryd.pinned (OpenSpec.upto fnFriedelSpec)

end Rows
end Go.Proofs.YtbninbeccgdemaaDoor
