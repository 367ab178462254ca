/-
  NARROWER THAN 'FOR EVERY INPUT', by the rows' own cells (each row's printed sentence says how): FnExactCycMul: laid · FnExactPower: laid.
  DERIVED. THE GIVEN ROWS OF THIS SEAT. 2 by the template 'for every input the law returns true; each argument reads behind the call as it read before'; 0 by the template 'total and deterministic' (their statements: YtmpakpdbkojkaaaDoorTotals.lean).
  GIVEN WITH THE SEED: the statements are not yours to turn. If you find one false, say at which input.
  Laid BY PROGRAM, IN A SANDBOX (cutbox-rows.mjs): the forced cells as the released guide's own fill.sh prints them over the translation 77a11463f292d597… (all of the seat's roots in one cut). By AI agents, Wed Nov 11 2026. No macro, syntax, notation, axiom, sorry.
-/
import Derived.Test.YtmpakpdbkojkaaaDoorChecked
import GoSem.Claim
import GoSem.ClaimJoined
import GoSem.ClaimMapViews
import Derived.JoinedTies
import Derived.KernelRfl
namespace Go.Proofs.YtmpakpdbkojkaaaDoor
/- THE CELL 'sum', in the pinned program and in every row, IS THE sha256 OF THE DUMP (.gsa) THAT YtmpakpdbkojkaaaDoorProg.lean LOADS. Nothing in Lean hashes anything: it is a label: what it is worth is what the hold of that sum in a sandbox is worth. -/
noncomputable def Tryd.pinned : Pinned := { name := "ytmpakpdbkojkaaadoor", sum := "77a11463f292d597b62615ac9f8ce53c8558f34cb3d6b15e9b52beac633eda68", checked := Tryd.checked }
namespace Rows
def none {H : Type} : Left H := { results := [], args := [] }

/- WHAT THE LISTED PACKAGE-LEVEL VARIABLES READ AS WHEN THE CALL BEGINS. Each datum BY PROGRAM (the guide's laid-datum.mjs) off the statement by which the dump's own 'gosem.cut.vars' lays the variable. In a bare row this is a premise. The card (YtmpakpdbkojkaaaDoorCards.lean) ties it to the program's text. -/
def laid_loop_example_g00055_impl_rootPowers {H : Type} : DataW H := .agg [.agg [.lit (.int .i64 1), .lit (.int .i64 0), .lit (.int .i64 0), .lit (.int .i64 0)], .agg [.lit (.int .i64 0), .lit (.int .i64 1), .lit (.int .i64 0), .lit (.int .i64 0)], .agg [.lit (.int .i64 0), .lit (.int .i64 0), .lit (.int .i64 1), .lit (.int .i64 0)], .agg [.lit (.int .i64 0), .lit (.int .i64 0), .lit (.int .i64 0), .lit (.int .i64 1)], .agg [.lit (.int .i64 (-1)), .lit (.int .i64 0), .lit (.int .i64 1), .lit (.int .i64 0)], .agg [.lit (.int .i64 0), .lit (.int .i64 (-1)), .lit (.int .i64 0), .lit (.int .i64 1)], .agg [.lit (.int .i64 (-1)), .lit (.int .i64 0), .lit (.int .i64 0), .lit (.int .i64 0)], .agg [.lit (.int .i64 0), .lit (.int .i64 (-1)), .lit (.int .i64 0), .lit (.int .i64 0)], .agg [.lit (.int .i64 0), .lit (.int .i64 0), .lit (.int .i64 (-1)), .lit (.int .i64 0)], .agg [.lit (.int .i64 0), .lit (.int .i64 0), .lit (.int .i64 0), .lit (.int .i64 (-1))], .agg [.lit (.int .i64 1), .lit (.int .i64 0), .lit (.int .i64 (-1)), .lit (.int .i64 0)], .agg [.lit (.int .i64 0), .lit (.int .i64 1), .lit (.int .i64 0), .lit (.int .i64 (-1))]]

/-- 'laws.FnExactCycMul': WHATEVER THE INPUT: true; the input reads as it did. -/
def fnExactCycMulSpec : ChangeSpec := { name := "fnExactCycMul", vars := ["loop.example/g00055/impl.rootPowers"], fn := fun _ => fun
  | [d1, d2, g1] => { results := [.lit (.bool true)], args := [d1, d2], vars := [g1] }
  | _ => none }
def fnExactCycMulRow : OpenClaim := { program := "ytmpakpdbkojkaaadoor", sum := "77a11463f292d597b62615ac9f8ce53c8558f34cb3d6b15e9b52beac633eda68", func := "loop.example/g00055/laws.FnExactCycMul", spec := "fnExactCycMul", named := ["loop.example/g00055/impl.rootPowers"], apart := false, laid := [("loop.example/g00055/impl.rootPowers", laid_loop_example_g00055_impl_rootPowers)] }
def FnExactCycMulSaid : Prop := fnExactCycMulRow.holds Tryd.pinned (OpenSpec.ofChange fnExactCycMulSpec)

/-- ITS FALSE NEIGHBOUR: 'it returns false'. Refute it at one input. -/
def fnExactCycMulWrong : ChangeSpec := { name := "fnExactCycMul", vars := ["loop.example/g00055/impl.rootPowers"], fn := fun _ => fun
  | [d1, d2, g1] => { results := [.lit (.bool false)], args := [d1, d2], vars := [g1] }
  | _ => none }
def FnExactCycMulWrongFalsely : Prop := fnExactCycMulRow.holds Tryd.pinned (OpenSpec.ofChange fnExactCycMulWrong)

/-- 'laws.FnExactPower': WHATEVER THE INPUT: true; the input reads as it did. -/
def fnExactPowerSpec : ChangeSpec := { name := "fnExactPower", vars := ["loop.example/g00055/impl.rootPowers"], fn := fun _ => fun
  | [d1, d2, g1] => { results := [.lit (.bool true)], args := [d1, d2], vars := [g1] }
  | _ => none }
def fnExactPowerRow : OpenClaim := { program := "ytmpakpdbkojkaaadoor", sum := "77a11463f292d597b62615ac9f8ce53c8558f34cb3d6b15e9b52beac633eda68", func := "loop.example/g00055/laws.FnExactPower", spec := "fnExactPower", named := ["loop.example/g00055/impl.rootPowers"], apart := false, laid := [("loop.example/g00055/impl.rootPowers", laid_loop_example_g00055_impl_rootPowers)] }
def FnExactPowerSaid : Prop := fnExactPowerRow.holds Tryd.pinned (OpenSpec.ofChange fnExactPowerSpec)

/-- ITS FALSE NEIGHBOUR: 'it returns false'. Refute it at one input. -/
def fnExactPowerWrong : ChangeSpec := { name := "fnExactPower", vars := ["loop.example/g00055/impl.rootPowers"], fn := fun _ => fun
  | [d1, d2, g1] => { results := [.lit (.bool false)], args := [d1, d2], vars := [g1] }
  | _ => none }
def FnExactPowerWrongFalsely : Prop := fnExactPowerRow.holds Tryd.pinned (OpenSpec.ofChange fnExactPowerWrong)

/- THE SECOND FORM. 'bulk': how many values and letters a reading holds, each counted each time it is reached (what is shared counts as often as it is met; a slice's spare places count too). A statement '..UptoSaid' is the law's where the arguments, and the package variables that the reading takes, are together of bulk at most 1048576: NARROWER than '..Said'. Prove '..Said' where nothing that the law and all that it calls make is longer than what came in: it says more and counts as full. Else prove '..UptoSaid'. A law counts once. -/
mutual
def uptoBulk {H : Type} : DataW H → Nat
  | .lit (.string bytes) => bytes.length + 1
  | .lit _ => 1
  | .nil => 1
  | .ptr d => uptoBulk d + 1
  | .slice elems spare => uptoBulkAll elems + uptoBulkAll spare + 1
  | .agg parts => uptoBulkAll parts + 1
  | .iface _ d => uptoBulk d + 1
  | .map entries => uptoBulkEntries entries + 1
  | .held _ => 1
def uptoBulkAll {H : Type} : List (DataW H) → Nat
  | [] => 0
  | d :: r => uptoBulk d + uptoBulkAll r
def uptoBulkEntries {H : Type} : List (Lit × DataW H) → Nat
  | [] => 0
  | x :: r => uptoBulkEntry x + uptoBulkEntries r
def uptoBulkEntry {H : Type} : Lit × DataW H → Nat
  | (.string bytes, d) => bytes.length + uptoBulk d + 1
  | (_, d) => uptoBulk d + 1
 end
def uptoSmall : (H : Type) → List (DataW H) → Bool := fun _ ds => decide (uptoBulkAll ds ≤ 1048576)
def OpenSpec.upto (s : _root_.Go.ChangeSpec) : _root_.Go.OpenSpec := { _root_.Go.OpenSpec.ofChange s with cond := some uptoSmall }

/-- 'laws.FnExactCycMul', WHERE WHAT IT READS IS OF BULK AT MOST 1048576: true; the input reads as it did. -/
def fnExactCycMulUptoRow : OpenClaim := { program := "ytmpakpdbkojkaaadoor", sum := "77a11463f292d597b62615ac9f8ce53c8558f34cb3d6b15e9b52beac633eda68", func := "loop.example/g00055/laws.FnExactCycMul", spec := "fnExactCycMul", named := ["loop.example/g00055/impl.rootPowers"], apart := false, laid := [("loop.example/g00055/impl.rootPowers", laid_loop_example_g00055_impl_rootPowers)], narrowed := true }
def FnExactCycMulUptoSaid : Prop := fnExactCycMulUptoRow.holds Tryd.pinned (OpenSpec.upto fnExactCycMulSpec)

/-- 'laws.FnExactPower', WHERE WHAT IT READS IS OF BULK AT MOST 1048576: true; the input reads as it did. -/
def fnExactPowerUptoRow : OpenClaim := { program := "ytmpakpdbkojkaaadoor", sum := "77a11463f292d597b62615ac9f8ce53c8558f34cb3d6b15e9b52beac633eda68", func := "loop.example/g00055/laws.FnExactPower", spec := "fnExactPower", named := ["loop.example/g00055/impl.rootPowers"], apart := false, laid := [("loop.example/g00055/impl.rootPowers", laid_loop_example_g00055_impl_rootPowers)], narrowed := true }
def FnExactPowerUptoSaid : Prop := fnExactPowerUptoRow.holds Tryd.pinned (OpenSpec.upto fnExactPowerSpec)

end Rows
end Go.Proofs.YtmpakpdbkojkaaaDoor
