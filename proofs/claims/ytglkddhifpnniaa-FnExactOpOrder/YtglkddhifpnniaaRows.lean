/-
  No cell of these rows narrows 'for every input' (looked for: loops, veiled, ifaces, maps, wideKeys, modest, calm, conditions, laid).
  DERIVED. THE GIVEN ROWS OF THIS SEAT. 3 by the template 'for every input the law returns true; each argument reads behind the call as it read before'; 0 by the template 'total and deterministic' (their statements: YtglkddhifpnniaaTotals.lean).
  GIVEN WITH THE SEED: the statements are not yours to turn. If you find one false, say at which input.
  Laid BY PROGRAM, IN A SANDBOX (cutbox-rows.mjs): the forced cells as the released guide's own fill.sh prints them over the translation 42b34c66368e4d14… (all of the seat's roots in one cut). By AI agents, Wed Nov 11 2026. No macro, syntax, notation, axiom, sorry.
-/
import Derived.Test.YtglkddhifpnniaaChecked
import GoSem.Claim
import GoSem.ClaimJoined
import GoSem.ClaimMapViews
import Derived.JoinedTies
import Derived.KernelRfl
namespace Go.Proofs.Ytglkddhifpnniaa
/- THE CELL 'sum', in the pinned program and in every row, IS THE sha256 OF THE DUMP (.gsa) THAT YtglkddhifpnniaaProg.lean LOADS. Nothing in Lean hashes anything: it is a label: what it is worth is what the hold of that sum in a sandbox is worth. -/
noncomputable def Try.pinned : Pinned := { name := "ytglkddhifpnniaa", sum := "42b34c66368e4d1478f10296c369d2e9519ae5083ab7886a5e1a6a29d2496c8c", checked := Try.checked }
namespace Rows
def none {H : Type} : Left H := { results := [], args := [] }

/-- 'laws.FnExactOpMul': WHATEVER THE INPUT: true; the input reads as it did. -/
def fnExactOpMulSpec : ChangeSpec := { name := "fnExactOpMul", fn := fun _ => fun
  | [d1, d2] => { results := [.lit (.bool true)], args := [d1, d2] }
  | _ => none }
def fnExactOpMulRow : OpenClaim := { program := "ytglkddhifpnniaa", sum := "42b34c66368e4d1478f10296c369d2e9519ae5083ab7886a5e1a6a29d2496c8c", func := "loop.example/g00055/laws.FnExactOpMul", spec := "fnExactOpMul", apart := false }
def FnExactOpMulSaid : Prop := fnExactOpMulRow.holds Try.pinned (OpenSpec.ofChange fnExactOpMulSpec)

/-- ITS FALSE NEIGHBOUR: 'it returns false'. Refute it at one input. -/
def fnExactOpMulWrong : ChangeSpec := { name := "fnExactOpMul", fn := fun _ => fun
  | [d1, d2] => { results := [.lit (.bool false)], args := [d1, d2] }
  | _ => none }
def FnExactOpMulWrongFalsely : Prop := fnExactOpMulRow.holds Try.pinned (OpenSpec.ofChange fnExactOpMulWrong)

/-- 'laws.FnExactOpBack': WHATEVER THE INPUT: true; the input reads as it did. -/
def fnExactOpBackSpec : ChangeSpec := { name := "fnExactOpBack", fn := fun _ => fun
  | [d] => { results := [.lit (.bool true)], args := [d] }
  | _ => none }
def fnExactOpBackRow : OpenClaim := { program := "ytglkddhifpnniaa", sum := "42b34c66368e4d1478f10296c369d2e9519ae5083ab7886a5e1a6a29d2496c8c", func := "loop.example/g00055/laws.FnExactOpBack", spec := "fnExactOpBack", apart := false }
def FnExactOpBackSaid : Prop := fnExactOpBackRow.holds Try.pinned (OpenSpec.ofChange fnExactOpBackSpec)

/-- ITS FALSE NEIGHBOUR: 'it returns false'. Refute it at one input. -/
def fnExactOpBackWrong : ChangeSpec := { name := "fnExactOpBack", fn := fun _ => fun
  | [d] => { results := [.lit (.bool false)], args := [d] }
  | _ => none }
def FnExactOpBackWrongFalsely : Prop := fnExactOpBackRow.holds Try.pinned (OpenSpec.ofChange fnExactOpBackWrong)

/-- 'laws.FnExactOpOrder': WHATEVER THE INPUT: true; the input reads as it did. -/
def fnExactOpOrderSpec : ChangeSpec := { name := "fnExactOpOrder", fn := fun _ => fun
  | [d] => { results := [.lit (.bool true)], args := [d] }
  | _ => none }
def fnExactOpOrderRow : OpenClaim := { program := "ytglkddhifpnniaa", sum := "42b34c66368e4d1478f10296c369d2e9519ae5083ab7886a5e1a6a29d2496c8c", func := "loop.example/g00055/laws.FnExactOpOrder", spec := "fnExactOpOrder", apart := false }
def FnExactOpOrderSaid : Prop := fnExactOpOrderRow.holds Try.pinned (OpenSpec.ofChange fnExactOpOrderSpec)

/-- ITS FALSE NEIGHBOUR: 'it returns false'. Refute it at one input. -/
def fnExactOpOrderWrong : ChangeSpec := { name := "fnExactOpOrder", fn := fun _ => fun
  | [d] => { results := [.lit (.bool false)], args := [d] }
  | _ => none }
def FnExactOpOrderWrongFalsely : Prop := fnExactOpOrderRow.holds Try.pinned (OpenSpec.ofChange fnExactOpOrderWrong)

/- THE SECOND FORM. 'bulk': how many values and letters a reading holds, each counted each time it is reached (what is shared counts as often as it is met; a slice's spare places count too). A statement '..UptoSaid' is the law's where the arguments, and the package variables that the reading takes, are together of bulk at most 1048576: NARROWER than '..Said'. Prove '..Said' where nothing that the law and all that it calls make is longer than what came in: it says more and counts as full. Else prove '..UptoSaid'. A law counts once. -/
mutual
def uptoBulk {H : Type} : DataW H → Nat
  | .lit (.string bytes) => bytes.length + 1
  | .lit _ => 1
  | .nil => 1
  | .ptr d => uptoBulk d + 1
  | .slice elems spare => uptoBulkAll elems + uptoBulkAll spare + 1
  | .agg parts => uptoBulkAll parts + 1
  | .iface _ d => uptoBulk d + 1
  | .map entries => uptoBulkEntries entries + 1
  | .held _ => 1
def uptoBulkAll {H : Type} : List (DataW H) → Nat
  | [] => 0
  | d :: r => uptoBulk d + uptoBulkAll r
def uptoBulkEntries {H : Type} : List (Lit × DataW H) → Nat
  | [] => 0
  | x :: r => uptoBulkEntry x + uptoBulkEntries r
def uptoBulkEntry {H : Type} : Lit × DataW H → Nat
  | (.string bytes, d) => bytes.length + uptoBulk d + 1
  | (_, d) => uptoBulk d + 1
 end
def uptoSmall : (H : Type) → List (DataW H) → Bool := fun _ ds => decide (uptoBulkAll ds ≤ 1048576)
def OpenSpec.upto (s : _root_.Go.ChangeSpec) : _root_.Go.OpenSpec := { _root_.Go.OpenSpec.ofChange s with cond := some uptoSmall }

/-- 'laws.FnExactOpMul', WHERE WHAT IT READS IS OF BULK AT MOST 1048576: true; the input reads as it did. -/
def fnExactOpMulUptoRow : OpenClaim := { program := "ytglkddhifpnniaa", sum := "42b34c66368e4d1478f10296c369d2e9519ae5083ab7886a5e1a6a29d2496c8c", func := "loop.example/g00055/laws.FnExactOpMul", spec := "fnExactOpMul", apart := false, narrowed := true }
def FnExactOpMulUptoSaid : Prop := fnExactOpMulUptoRow.holds Try.pinned (OpenSpec.upto fnExactOpMulSpec)

/-- 'laws.FnExactOpBack', WHERE WHAT IT READS IS OF BULK AT MOST 1048576: true; the input reads as it did. -/
def fnExactOpBackUptoRow : OpenClaim := { program := "ytglkddhifpnniaa", sum := "42b34c66368e4d1478f10296c369d2e9519ae5083ab7886a5e1a6a29d2496c8c", func := "loop.example/g00055/laws.FnExactOpBack", spec := "fnExactOpBack", apart := false, narrowed := true }
def FnExactOpBackUptoSaid : Prop := fnExactOpBackUptoRow.holds Try.pinned (OpenSpec.upto fnExactOpBackSpec)

/-- 'laws.FnExactOpOrder', WHERE WHAT IT READS IS OF BULK AT MOST 1048576: true; the input reads as it did. -/
def fnExactOpOrderUptoRow : OpenClaim := { program := "ytglkddhifpnniaa", sum := "42b34c66368e4d1478f10296c369d2e9519ae5083ab7886a5e1a6a29d2496c8c", func := "loop.example/g00055/laws.FnExactOpOrder", spec := "fnExactOpOrder", apart := false, narrowed := true }
def FnExactOpOrderUptoSaid : Prop := fnExactOpOrderUptoRow.holds Try.pinned (OpenSpec.upto fnExactOpOrderSpec)

end Rows
end Go.Proofs.Ytglkddhifpnniaa
