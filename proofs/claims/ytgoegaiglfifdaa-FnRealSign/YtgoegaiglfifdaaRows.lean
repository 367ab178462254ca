/-
  No cell of these rows narrows 'for every input' (looked for: loops, veiled, ifaces, maps, wideKeys, modest, calm, conditions, laid).
  DERIVED. THE GIVEN ROWS OF THIS SEAT. 3 by the template 'for every input the law returns true; each argument reads behind the call as it read before'; 0 by the template 'total and deterministic' (their statements: YtgoegaiglfifdaaTotals.lean).
  GIVEN WITH THE SEED: the statements are not yours to turn. If you find one false, say at which input.
  Laid BY PROGRAM, IN A SANDBOX (cutbox-rows.mjs): the forced cells as the released guide's own fill.sh prints them over the translation 69efe0c4a18259bc… (all of the seat's roots in one cut). By AI agents, Wed Nov 11 2026. No macro, syntax, notation, axiom, sorry.
-/
import Derived.Test.YtgoegaiglfifdaaChecked
import GoSem.Claim
import GoSem.ClaimJoined
import GoSem.ClaimMapViews
import Derived.JoinedTies
import Derived.KernelRfl
namespace Go.Proofs.Ytgoegaiglfifdaa
/- THE CELL 'sum', in the pinned program and in every row, IS THE sha256 OF THE DUMP (.gsa) THAT YtgoegaiglfifdaaProg.lean LOADS. Nothing in Lean hashes anything: it is a label: what it is worth is what the hold of that sum in a sandbox is worth. -/
noncomputable def Try.pinned : Pinned := { name := "ytgoegaiglfifdaa", sum := "69efe0c4a18259bc192b94324252cbb46f09dd9baa5a7e8550f9bcfecceeb6fe", checked := Try.checked }
namespace Rows
def none {H : Type} : Left H := { results := [], args := [] }

/-- 'laws.FnRealSign': WHATEVER THE INPUT: true; the input reads as it did. -/
def fnRealSignSpec : ChangeSpec := { name := "fnRealSign", fn := fun _ => fun
  | [d1, d2] => { results := [.lit (.bool true)], args := [d1, d2] }
  | _ => none }
def fnRealSignRow : OpenClaim := { program := "ytgoegaiglfifdaa", sum := "69efe0c4a18259bc192b94324252cbb46f09dd9baa5a7e8550f9bcfecceeb6fe", func := "loop.example/g00055/laws.FnRealSign", spec := "fnRealSign", apart := false }
def FnRealSignSaid : Prop := fnRealSignRow.holds Try.pinned (OpenSpec.ofChange fnRealSignSpec)

/-- ITS FALSE NEIGHBOUR: 'it returns false'. Refute it at one input. -/
def fnRealSignWrong : ChangeSpec := { name := "fnRealSign", fn := fun _ => fun
  | [d1, d2] => { results := [.lit (.bool false)], args := [d1, d2] }
  | _ => none }
def FnRealSignWrongFalsely : Prop := fnRealSignRow.holds Try.pinned (OpenSpec.ofChange fnRealSignWrong)

/-- 'laws.FnExactCycOk': WHATEVER THE INPUT: true; the input reads as it did. -/
def fnExactCycOkSpec : ChangeSpec := { name := "fnExactCycOk", fn := fun _ => fun
  | [d] => { results := [.lit (.bool true)], args := [d] }
  | _ => none }
def fnExactCycOkRow : OpenClaim := { program := "ytgoegaiglfifdaa", sum := "69efe0c4a18259bc192b94324252cbb46f09dd9baa5a7e8550f9bcfecceeb6fe", func := "loop.example/g00055/laws.FnExactCycOk", spec := "fnExactCycOk", apart := false }
def FnExactCycOkSaid : Prop := fnExactCycOkRow.holds Try.pinned (OpenSpec.ofChange fnExactCycOkSpec)

/-- ITS FALSE NEIGHBOUR: 'it returns false'. Refute it at one input. -/
def fnExactCycOkWrong : ChangeSpec := { name := "fnExactCycOk", fn := fun _ => fun
  | [d] => { results := [.lit (.bool false)], args := [d] }
  | _ => none }
def FnExactCycOkWrongFalsely : Prop := fnExactCycOkRow.holds Try.pinned (OpenSpec.ofChange fnExactCycOkWrong)

/-- 'laws.FnExactCycAdd': WHATEVER THE INPUT: true; the input reads as it did. -/
def fnExactCycAddSpec : ChangeSpec := { name := "fnExactCycAdd", fn := fun _ => fun
  | [d1, d2] => { results := [.lit (.bool true)], args := [d1, d2] }
  | _ => none }
def fnExactCycAddRow : OpenClaim := { program := "ytgoegaiglfifdaa", sum := "69efe0c4a18259bc192b94324252cbb46f09dd9baa5a7e8550f9bcfecceeb6fe", func := "loop.example/g00055/laws.FnExactCycAdd", spec := "fnExactCycAdd", apart := false }
def FnExactCycAddSaid : Prop := fnExactCycAddRow.holds Try.pinned (OpenSpec.ofChange fnExactCycAddSpec)

/-- ITS FALSE NEIGHBOUR: 'it returns false'. Refute it at one input. -/
def fnExactCycAddWrong : ChangeSpec := { name := "fnExactCycAdd", fn := fun _ => fun
  | [d1, d2] => { results := [.lit (.bool false)], args := [d1, d2] }
  | _ => none }
def FnExactCycAddWrongFalsely : Prop := fnExactCycAddRow.holds Try.pinned (OpenSpec.ofChange fnExactCycAddWrong)

/- THE SECOND FORM. 'bulk': how many values and letters a reading holds, each counted each time it is reached (what is shared counts as often as it is met; a slice's spare places count too). A statement '..UptoSaid' is the law's where the arguments, and the package variables that the reading takes, are together of bulk at most 1048576: NARROWER than '..Said'. Prove '..Said' where nothing that the law and all that it calls make is longer than what came in: it says more and counts as full. Else prove '..UptoSaid'. A law counts once. -/
mutual
def uptoBulk {H : Type} : DataW H → Nat
  | .lit (.string bytes) => bytes.length + 1
  | .lit _ => 1
  | .nil => 1
  | .ptr d => uptoBulk d + 1
  | .slice elems spare => uptoBulkAll elems + uptoBulkAll spare + 1
  | .agg parts => uptoBulkAll parts + 1
  | .iface _ d => uptoBulk d + 1
  | .map entries => uptoBulkEntries entries + 1
  | .held _ => 1
def uptoBulkAll {H : Type} : List (DataW H) → Nat
  | [] => 0
  | d :: r => uptoBulk d + uptoBulkAll r
def uptoBulkEntries {H : Type} : List (Lit × DataW H) → Nat
  | [] => 0
  | x :: r => uptoBulkEntry x + uptoBulkEntries r
def uptoBulkEntry {H : Type} : Lit × DataW H → Nat
  | (.string bytes, d) => bytes.length + uptoBulk d + 1
  | (_, d) => uptoBulk d + 1
 end
def uptoSmall : (H : Type) → List (DataW H) → Bool := fun _ ds => decide (uptoBulkAll ds ≤ 1048576)
def OpenSpec.upto (s : _root_.Go.ChangeSpec) : _root_.Go.OpenSpec := { _root_.Go.OpenSpec.ofChange s with cond := some uptoSmall }

/-- 'laws.FnRealSign', WHERE WHAT IT READS IS OF BULK AT MOST 1048576: true; the input reads as it did. -/
def fnRealSignUptoRow : OpenClaim := { program := "ytgoegaiglfifdaa", sum := "69efe0c4a18259bc192b94324252cbb46f09dd9baa5a7e8550f9bcfecceeb6fe", func := "loop.example/g00055/laws.FnRealSign", spec := "fnRealSign", apart := false, narrowed := true }
def FnRealSignUptoSaid : Prop := fnRealSignUptoRow.holds Try.pinned (OpenSpec.upto fnRealSignSpec)

/-- 'laws.FnExactCycOk', WHERE WHAT IT READS IS OF BULK AT MOST 1048576: true; the input reads as it did. -/
def fnExactCycOkUptoRow : OpenClaim := { program := "ytgoegaiglfifdaa", sum := "69efe0c4a18259bc192b94324252cbb46f09dd9baa5a7e8550f9bcfecceeb6fe", func := "loop.example/g00055/laws.FnExactCycOk", spec := "fnExactCycOk", apart := false, narrowed := true }
def FnExactCycOkUptoSaid : Prop := fnExactCycOkUptoRow.holds Try.pinned (OpenSpec.upto fnExactCycOkSpec)

/-- 'laws.FnExactCycAdd', WHERE WHAT IT READS IS OF BULK AT MOST 1048576: true; the input reads as it did. -/
def fnExactCycAddUptoRow : OpenClaim := { program := "ytgoegaiglfifdaa", sum := "69efe0c4a18259bc192b94324252cbb46f09dd9baa5a7e8550f9bcfecceeb6fe", func := "loop.example/g00055/laws.FnExactCycAdd", spec := "fnExactCycAdd", apart := false, narrowed := true }
def FnExactCycAddUptoSaid : Prop := fnExactCycAddUptoRow.holds Try.pinned (OpenSpec.upto fnExactCycAddSpec)

end Rows
end Go.Proofs.Ytgoegaiglfifdaa
