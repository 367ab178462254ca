/-
  No cell of these rows narrows 'for every input' (looked for: loops, veiled, ifaces, maps, wideKeys, modest, calm, conditions, laid).
  DERIVED. THE GIVEN ROWS OF THIS SEAT. 6 by the template 'for every input the law returns true; each argument reads behind the call as it read before'; 0 by the template 'total and deterministic' (their statements: YthpmfjhhaolklaaTotals.lean).
  GIVEN WITH THE SEED: the statements are not yours to turn. If you find one false, say at which input.
  Laid BY PROGRAM, IN A SANDBOX (cutbox-rows.mjs): the forced cells as the released guide's own fill.sh prints them over the translation 9dc6a4f4bbba90aa… (all of the seat's roots in one cut). By AI agents, Wed Nov 11 2026. No macro, syntax, notation, axiom, sorry.
-/
import Derived.Test.YthpmfjhhaolklaaChecked
import GoSem.Claim
import GoSem.ClaimJoined
import GoSem.ClaimMapViews
import Derived.JoinedTies
import Derived.KernelRfl
namespace Go.Proofs.Ythpmfjhhaolklaa
/- THE CELL 'sum', in the pinned program and in every row, IS THE sha256 OF THE DUMP (.gsa) THAT YthpmfjhhaolklaaProg.lean LOADS. Nothing in Lean hashes anything: it is a label: what it is worth is what the hold of that sum in a sandbox is worth. -/
noncomputable def Try.pinned : Pinned := { name := "ythpmfjhhaolklaa", sum := "9dc6a4f4bbba90aa1e33716ea0b1507d5cbe22943154603a1af1dfd2287769d8", checked := Try.checked }
namespace Rows
def none {H : Type} : Left H := { results := [], args := [] }

/-- 'laws.FnExactNetOk': WHATEVER THE INPUT: true; the input reads as it did. -/
def fnExactNetOkSpec : ChangeSpec := { name := "fnExactNetOk", fn := fun _ => fun
  | [d] => { results := [.lit (.bool true)], args := [d] }
  | _ => none }
def fnExactNetOkRow : OpenClaim := { program := "ythpmfjhhaolklaa", sum := "9dc6a4f4bbba90aa1e33716ea0b1507d5cbe22943154603a1af1dfd2287769d8", func := "loop.example/g00055/laws.FnExactNetOk", spec := "fnExactNetOk", apart := false }
def FnExactNetOkSaid : Prop := fnExactNetOkRow.holds Try.pinned (OpenSpec.ofChange fnExactNetOkSpec)

/-- ITS FALSE NEIGHBOUR: 'it returns false'. Refute it at one input. -/
def fnExactNetOkWrong : ChangeSpec := { name := "fnExactNetOk", fn := fun _ => fun
  | [d] => { results := [.lit (.bool false)], args := [d] }
  | _ => none }
def FnExactNetOkWrongFalsely : Prop := fnExactNetOkRow.holds Try.pinned (OpenSpec.ofChange fnExactNetOkWrong)

/-- 'laws.FnExactBurgers': WHATEVER THE INPUT: true; the input reads as it did. -/
def fnExactBurgersSpec : ChangeSpec := { name := "fnExactBurgers", fn := fun _ => fun
  | [d1, d2, d3] => { results := [.lit (.bool true)], args := [d1, d2, d3] }
  | _ => none }
def fnExactBurgersRow : OpenClaim := { program := "ythpmfjhhaolklaa", sum := "9dc6a4f4bbba90aa1e33716ea0b1507d5cbe22943154603a1af1dfd2287769d8", func := "loop.example/g00055/laws.FnExactBurgers", spec := "fnExactBurgers", apart := false }
def FnExactBurgersSaid : Prop := fnExactBurgersRow.holds Try.pinned (OpenSpec.ofChange fnExactBurgersSpec)

/-- ITS FALSE NEIGHBOUR: 'it returns false'. Refute it at one input. -/
def fnExactBurgersWrong : ChangeSpec := { name := "fnExactBurgers", fn := fun _ => fun
  | [d1, d2, d3] => { results := [.lit (.bool false)], args := [d1, d2, d3] }
  | _ => none }
def FnExactBurgersWrongFalsely : Prop := fnExactBurgersRow.holds Try.pinned (OpenSpec.ofChange fnExactBurgersWrong)

/-- 'laws.FnExactAround': WHATEVER THE INPUT: true; the input reads as it did. -/
def fnExactAroundSpec : ChangeSpec := { name := "fnExactAround", fn := fun _ => fun
  | [d1, d2, d3, d4, d5] => { results := [.lit (.bool true)], args := [d1, d2, d3, d4, d5] }
  | _ => none }
def fnExactAroundRow : OpenClaim := { program := "ythpmfjhhaolklaa", sum := "9dc6a4f4bbba90aa1e33716ea0b1507d5cbe22943154603a1af1dfd2287769d8", func := "loop.example/g00055/laws.FnExactAround", spec := "fnExactAround", apart := false }
def FnExactAroundSaid : Prop := fnExactAroundRow.holds Try.pinned (OpenSpec.ofChange fnExactAroundSpec)

/-- ITS FALSE NEIGHBOUR: 'it returns false'. Refute it at one input. -/
def fnExactAroundWrong : ChangeSpec := { name := "fnExactAround", fn := fun _ => fun
  | [d1, d2, d3, d4, d5] => { results := [.lit (.bool false)], args := [d1, d2, d3, d4, d5] }
  | _ => none }
def FnExactAroundWrongFalsely : Prop := fnExactAroundRow.holds Try.pinned (OpenSpec.ofChange fnExactAroundWrong)

/-- 'laws.FnExactSlip': WHATEVER THE INPUT: true; the input reads as it did. -/
def fnExactSlipSpec : ChangeSpec := { name := "fnExactSlip", fn := fun _ => fun
  | [d1, d2, d3, d4] => { results := [.lit (.bool true)], args := [d1, d2, d3, d4] }
  | _ => none }
def fnExactSlipRow : OpenClaim := { program := "ythpmfjhhaolklaa", sum := "9dc6a4f4bbba90aa1e33716ea0b1507d5cbe22943154603a1af1dfd2287769d8", func := "loop.example/g00055/laws.FnExactSlip", spec := "fnExactSlip", apart := false }
def FnExactSlipSaid : Prop := fnExactSlipRow.holds Try.pinned (OpenSpec.ofChange fnExactSlipSpec)

/-- ITS FALSE NEIGHBOUR: 'it returns false'. Refute it at one input. -/
def fnExactSlipWrong : ChangeSpec := { name := "fnExactSlip", fn := fun _ => fun
  | [d1, d2, d3, d4] => { results := [.lit (.bool false)], args := [d1, d2, d3, d4] }
  | _ => none }
def FnExactSlipWrongFalsely : Prop := fnExactSlipRow.holds Try.pinned (OpenSpec.ofChange fnExactSlipWrong)

/-- 'laws.FnExactShifted': WHATEVER THE INPUT: true; the input reads as it did. -/
def fnExactShiftedSpec : ChangeSpec := { name := "fnExactShifted", fn := fun _ => fun
  | [d1, d2] => { results := [.lit (.bool true)], args := [d1, d2] }
  | _ => none }
def fnExactShiftedRow : OpenClaim := { program := "ythpmfjhhaolklaa", sum := "9dc6a4f4bbba90aa1e33716ea0b1507d5cbe22943154603a1af1dfd2287769d8", func := "loop.example/g00055/laws.FnExactShifted", spec := "fnExactShifted", apart := false }
def FnExactShiftedSaid : Prop := fnExactShiftedRow.holds Try.pinned (OpenSpec.ofChange fnExactShiftedSpec)

/-- ITS FALSE NEIGHBOUR: 'it returns false'. Refute it at one input. -/
def fnExactShiftedWrong : ChangeSpec := { name := "fnExactShifted", fn := fun _ => fun
  | [d1, d2] => { results := [.lit (.bool false)], args := [d1, d2] }
  | _ => none }
def FnExactShiftedWrongFalsely : Prop := fnExactShiftedRow.holds Try.pinned (OpenSpec.ofChange fnExactShiftedWrong)

/-- 'laws.FnExactCores': WHATEVER THE INPUT: true; the input reads as it did. -/
def fnExactCoresSpec : ChangeSpec := { name := "fnExactCores", fn := fun _ => fun
  | [d] => { results := [.lit (.bool true)], args := [d] }
  | _ => none }
def fnExactCoresRow : OpenClaim := { program := "ythpmfjhhaolklaa", sum := "9dc6a4f4bbba90aa1e33716ea0b1507d5cbe22943154603a1af1dfd2287769d8", func := "loop.example/g00055/laws.FnExactCores", spec := "fnExactCores", apart := false }
def FnExactCoresSaid : Prop := fnExactCoresRow.holds Try.pinned (OpenSpec.ofChange fnExactCoresSpec)

/-- ITS FALSE NEIGHBOUR: 'it returns false'. Refute it at one input. -/
def fnExactCoresWrong : ChangeSpec := { name := "fnExactCores", fn := fun _ => fun
  | [d] => { results := [.lit (.bool false)], args := [d] }
  | _ => none }
def FnExactCoresWrongFalsely : Prop := fnExactCoresRow.holds Try.pinned (OpenSpec.ofChange fnExactCoresWrong)

/- THE SECOND FORM. 'bulk': how many values and letters a reading holds, each counted each time it is reached (what is shared counts as often as it is met; a slice's spare places count too). A statement '..UptoSaid' is the law's where the arguments, and the package variables that the reading takes, are together of bulk at most 1048576: NARROWER than '..Said'. Prove '..Said' where nothing that the law and all that it calls make is longer than what came in: it says more and counts as full. Else prove '..UptoSaid'. A law counts once. -/
mutual
def uptoBulk {H : Type} : DataW H → Nat
  | .lit (.string bytes) => bytes.length + 1
  | .lit _ => 1
  | .nil => 1
  | .ptr d => uptoBulk d + 1
  | .slice elems spare => uptoBulkAll elems + uptoBulkAll spare + 1
  | .agg parts => uptoBulkAll parts + 1
  | .iface _ d => uptoBulk d + 1
  | .map entries => uptoBulkEntries entries + 1
  | .held _ => 1
def uptoBulkAll {H : Type} : List (DataW H) → Nat
  | [] => 0
  | d :: r => uptoBulk d + uptoBulkAll r
def uptoBulkEntries {H : Type} : List (Lit × DataW H) → Nat
  | [] => 0
  | x :: r => uptoBulkEntry x + uptoBulkEntries r
def uptoBulkEntry {H : Type} : Lit × DataW H → Nat
  | (.string bytes, d) => bytes.length + uptoBulk d + 1
  | (_, d) => uptoBulk d + 1
 end
def uptoSmall : (H : Type) → List (DataW H) → Bool := fun _ ds => decide (uptoBulkAll ds ≤ 1048576)
def OpenSpec.upto (s : _root_.Go.ChangeSpec) : _root_.Go.OpenSpec := { _root_.Go.OpenSpec.ofChange s with cond := some uptoSmall }

/-- 'laws.FnExactNetOk', WHERE WHAT IT READS IS OF BULK AT MOST 1048576: true; the input reads as it did. -/
def fnExactNetOkUptoRow : OpenClaim := { program := "ythpmfjhhaolklaa", sum := "9dc6a4f4bbba90aa1e33716ea0b1507d5cbe22943154603a1af1dfd2287769d8", func := "loop.example/g00055/laws.FnExactNetOk", spec := "fnExactNetOk", apart := false, narrowed := true }
def FnExactNetOkUptoSaid : Prop := fnExactNetOkUptoRow.holds Try.pinned (OpenSpec.upto fnExactNetOkSpec)

/-- 'laws.FnExactBurgers', WHERE WHAT IT READS IS OF BULK AT MOST 1048576: true; the input reads as it did. -/
def fnExactBurgersUptoRow : OpenClaim := { program := "ythpmfjhhaolklaa", sum := "9dc6a4f4bbba90aa1e33716ea0b1507d5cbe22943154603a1af1dfd2287769d8", func := "loop.example/g00055/laws.FnExactBurgers", spec := "fnExactBurgers", apart := false, narrowed := true }
def FnExactBurgersUptoSaid : Prop := fnExactBurgersUptoRow.holds Try.pinned (OpenSpec.upto fnExactBurgersSpec)

/-- 'laws.FnExactAround', WHERE WHAT IT READS IS OF BULK AT MOST 1048576: true; the input reads as it did. -/
def fnExactAroundUptoRow : OpenClaim := { program := "ythpmfjhhaolklaa", sum := "9dc6a4f4bbba90aa1e33716ea0b1507d5cbe22943154603a1af1dfd2287769d8", func := "loop.example/g00055/laws.FnExactAround", spec := "fnExactAround", apart := false, narrowed := true }
def FnExactAroundUptoSaid : Prop := fnExactAroundUptoRow.holds Try.pinned (OpenSpec.upto fnExactAroundSpec)

/-- 'laws.FnExactSlip', WHERE WHAT IT READS IS OF BULK AT MOST 1048576: true; the input reads as it did. -/
def fnExactSlipUptoRow : OpenClaim := { program := "ythpmfjhhaolklaa", sum := "9dc6a4f4bbba90aa1e33716ea0b1507d5cbe22943154603a1af1dfd2287769d8", func := "loop.example/g00055/laws.FnExactSlip", spec := "fnExactSlip", apart := false, narrowed := true }
def FnExactSlipUptoSaid : Prop := fnExactSlipUptoRow.holds Try.pinned (OpenSpec.upto fnExactSlipSpec)

/-- 'laws.FnExactShifted', WHERE WHAT IT READS IS OF BULK AT MOST 1048576: true; the input reads as it did. -/
def fnExactShiftedUptoRow : OpenClaim := { program := "ythpmfjhhaolklaa", sum := "9dc6a4f4bbba90aa1e33716ea0b1507d5cbe22943154603a1af1dfd2287769d8", func := "loop.example/g00055/laws.FnExactShifted", spec := "fnExactShifted", apart := false, narrowed := true }
def FnExactShiftedUptoSaid : Prop := fnExactShiftedUptoRow.holds Try.pinned (OpenSpec.upto fnExactShiftedSpec)

/-- 'laws.FnExactCores', WHERE WHAT IT READS IS OF BULK AT MOST 1048576: true; the input reads as it did. -/
def fnExactCoresUptoRow : OpenClaim := { program := "ythpmfjhhaolklaa", sum := "9dc6a4f4bbba90aa1e33716ea0b1507d5cbe22943154603a1af1dfd2287769d8", func := "loop.example/g00055/laws.FnExactCores", spec := "fnExactCores", apart := false, narrowed := true }
def FnExactCoresUptoSaid : Prop := fnExactCoresUptoRow.holds Try.pinned (OpenSpec.upto fnExactCoresSpec)

end Rows
end Go.Proofs.Ythpmfjhhaolklaa
