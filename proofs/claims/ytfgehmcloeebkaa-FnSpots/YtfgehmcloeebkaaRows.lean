/-
  No cell of these rows narrows 'for every input' (looked for: loops, veiled, ifaces, maps, wideKeys, modest, calm, conditions, laid).
  DERIVED. THE GIVEN ROWS OF THIS SEAT. 6 by the template 'for every input the law returns true; each argument reads behind the call as it read before'; 0 by the template 'total and deterministic' (their statements: YtfgehmcloeebkaaTotals.lean).
  GIVEN WITH THE SEED: the statements are not yours to turn. If you find one false, say at which input.
  Laid BY PROGRAM, IN A SANDBOX (cutbox-rows.mjs): the forced cells as the released guide's own fill.sh prints them over the translation 91f3cca56c251153… (all of the seat's roots in one cut). By AI agents, Wed Nov 11 2026. No macro, syntax, notation, axiom, sorry.
-/
import Derived.Test.YtfgehmcloeebkaaChecked
import GoSem.Claim
import GoSem.ClaimJoined
import GoSem.ClaimMapViews
import Derived.JoinedTies
import Derived.KernelRfl
namespace Go.Proofs.Ytfgehmcloeebkaa
/- THE CELL 'sum', in the pinned program and in every row, IS THE sha256 OF THE DUMP (.gsa) THAT YtfgehmcloeebkaaProg.lean LOADS. Nothing in Lean hashes anything: it is a label: what it is worth is what the hold of that sum in a sandbox is worth. -/
noncomputable def Try.pinned : Pinned := { name := "ytfgehmcloeebkaa", sum := "91f3cca56c251153974e8f5de8271c0d5e1caea0f4605cea34415d52a6e9f406", checked := Try.checked }
namespace Rows
def none {H : Type} : Left H := { results := [], args := [] }

/-- 'laws.FnSqueezed': WHATEVER THE INPUT: true; the input reads as it did. -/
def fnSqueezedSpec : ChangeSpec := { name := "fnSqueezed", fn := fun _ => fun
  | [d] => { results := [.lit (.bool true)], args := [d] }
  | _ => none }
def fnSqueezedRow : OpenClaim := { program := "ytfgehmcloeebkaa", sum := "91f3cca56c251153974e8f5de8271c0d5e1caea0f4605cea34415d52a6e9f406", func := "loop.example/g00055/laws.FnSqueezed", spec := "fnSqueezed", apart := false }
def FnSqueezedSaid : Prop := fnSqueezedRow.holds Try.pinned (OpenSpec.ofChange fnSqueezedSpec)

/-- ITS FALSE NEIGHBOUR: 'it returns false'. Refute it at one input. -/
def fnSqueezedWrong : ChangeSpec := { name := "fnSqueezed", fn := fun _ => fun
  | [d] => { results := [.lit (.bool false)], args := [d] }
  | _ => none }
def FnSqueezedWrongFalsely : Prop := fnSqueezedRow.holds Try.pinned (OpenSpec.ofChange fnSqueezedWrong)

/-- 'laws.FnSpots': WHATEVER THE INPUT: true; the input reads as it did. -/
def fnSpotsSpec : ChangeSpec := { name := "fnSpots", fn := fun _ => fun
  | [d] => { results := [.lit (.bool true)], args := [d] }
  | _ => none }
def fnSpotsRow : OpenClaim := { program := "ytfgehmcloeebkaa", sum := "91f3cca56c251153974e8f5de8271c0d5e1caea0f4605cea34415d52a6e9f406", func := "loop.example/g00055/laws.FnSpots", spec := "fnSpots", apart := false }
def FnSpotsSaid : Prop := fnSpotsRow.holds Try.pinned (OpenSpec.ofChange fnSpotsSpec)

/-- ITS FALSE NEIGHBOUR: 'it returns false'. Refute it at one input. -/
def fnSpotsWrong : ChangeSpec := { name := "fnSpots", fn := fun _ => fun
  | [d] => { results := [.lit (.bool false)], args := [d] }
  | _ => none }
def FnSpotsWrongFalsely : Prop := fnSpotsRow.holds Try.pinned (OpenSpec.ofChange fnSpotsWrong)

/-- 'laws.FnExactSpots': WHATEVER THE INPUT: true; the input reads as it did. -/
def fnExactSpotsSpec : ChangeSpec := { name := "fnExactSpots", fn := fun _ => fun
  | [d1, d2] => { results := [.lit (.bool true)], args := [d1, d2] }
  | _ => none }
def fnExactSpotsRow : OpenClaim := { program := "ytfgehmcloeebkaa", sum := "91f3cca56c251153974e8f5de8271c0d5e1caea0f4605cea34415d52a6e9f406", func := "loop.example/g00055/laws.FnExactSpots", spec := "fnExactSpots", apart := false }
def FnExactSpotsSaid : Prop := fnExactSpotsRow.holds Try.pinned (OpenSpec.ofChange fnExactSpotsSpec)

/-- ITS FALSE NEIGHBOUR: 'it returns false'. Refute it at one input. -/
def fnExactSpotsWrong : ChangeSpec := { name := "fnExactSpots", fn := fun _ => fun
  | [d1, d2] => { results := [.lit (.bool false)], args := [d1, d2] }
  | _ => none }
def FnExactSpotsWrongFalsely : Prop := fnExactSpotsRow.holds Try.pinned (OpenSpec.ofChange fnExactSpotsWrong)

/-- 'laws.FnExactIntegrate': WHATEVER THE INPUT: true; the input reads as it did. -/
def fnExactIntegrateSpec : ChangeSpec := { name := "fnExactIntegrate", fn := fun _ => fun
  | [d1, d2, d3, d4] => { results := [.lit (.bool true)], args := [d1, d2, d3, d4] }
  | _ => none }
def fnExactIntegrateRow : OpenClaim := { program := "ytfgehmcloeebkaa", sum := "91f3cca56c251153974e8f5de8271c0d5e1caea0f4605cea34415d52a6e9f406", func := "loop.example/g00055/laws.FnExactIntegrate", spec := "fnExactIntegrate", apart := false }
def FnExactIntegrateSaid : Prop := fnExactIntegrateRow.holds Try.pinned (OpenSpec.ofChange fnExactIntegrateSpec)

/-- ITS FALSE NEIGHBOUR: 'it returns false'. Refute it at one input. -/
def fnExactIntegrateWrong : ChangeSpec := { name := "fnExactIntegrate", fn := fun _ => fun
  | [d1, d2, d3, d4] => { results := [.lit (.bool false)], args := [d1, d2, d3, d4] }
  | _ => none }
def FnExactIntegrateWrongFalsely : Prop := fnExactIntegrateRow.holds Try.pinned (OpenSpec.ofChange fnExactIntegrateWrong)

/-- 'laws.FnExactSqueeze': WHATEVER THE INPUT: true; the input reads as it did. -/
def fnExactSqueezeSpec : ChangeSpec := { name := "fnExactSqueeze", fn := fun _ => fun
  | [d] => { results := [.lit (.bool true)], args := [d] }
  | _ => none }
def fnExactSqueezeRow : OpenClaim := { program := "ytfgehmcloeebkaa", sum := "91f3cca56c251153974e8f5de8271c0d5e1caea0f4605cea34415d52a6e9f406", func := "loop.example/g00055/laws.FnExactSqueeze", spec := "fnExactSqueeze", apart := false }
def FnExactSqueezeSaid : Prop := fnExactSqueezeRow.holds Try.pinned (OpenSpec.ofChange fnExactSqueezeSpec)

/-- ITS FALSE NEIGHBOUR: 'it returns false'. Refute it at one input. -/
def fnExactSqueezeWrong : ChangeSpec := { name := "fnExactSqueeze", fn := fun _ => fun
  | [d] => { results := [.lit (.bool false)], args := [d] }
  | _ => none }
def FnExactSqueezeWrongFalsely : Prop := fnExactSqueezeRow.holds Try.pinned (OpenSpec.ofChange fnExactSqueezeWrong)

/-- 'laws.FnExactUnsqueeze': WHATEVER THE INPUT: true; the input reads as it did. -/
def fnExactUnsqueezeSpec : ChangeSpec := { name := "fnExactUnsqueeze", fn := fun _ => fun
  | [d] => { results := [.lit (.bool true)], args := [d] }
  | _ => none }
def fnExactUnsqueezeRow : OpenClaim := { program := "ytfgehmcloeebkaa", sum := "91f3cca56c251153974e8f5de8271c0d5e1caea0f4605cea34415d52a6e9f406", func := "loop.example/g00055/laws.FnExactUnsqueeze", spec := "fnExactUnsqueeze", apart := false }
def FnExactUnsqueezeSaid : Prop := fnExactUnsqueezeRow.holds Try.pinned (OpenSpec.ofChange fnExactUnsqueezeSpec)

/-- ITS FALSE NEIGHBOUR: 'it returns false'. Refute it at one input. -/
def fnExactUnsqueezeWrong : ChangeSpec := { name := "fnExactUnsqueeze", fn := fun _ => fun
  | [d] => { results := [.lit (.bool false)], args := [d] }
  | _ => none }
def FnExactUnsqueezeWrongFalsely : Prop := fnExactUnsqueezeRow.holds Try.pinned (OpenSpec.ofChange fnExactUnsqueezeWrong)

/- THE SECOND FORM. 'bulk': how many values and letters a reading holds, each counted each time it is reached (what is shared counts as often as it is met; a slice's spare places count too). A statement '..UptoSaid' is the law's where the arguments, and the package variables that the reading takes, are together of bulk at most 1048576: NARROWER than '..Said'. Prove '..Said' where nothing that the law and all that it calls make is longer than what came in: it says more and counts as full. Else prove '..UptoSaid'. A law counts once. -/
mutual
def uptoBulk {H : Type} : DataW H → Nat
  | .lit (.string bytes) => bytes.length + 1
  | .lit _ => 1
  | .nil => 1
  | .ptr d => uptoBulk d + 1
  | .slice elems spare => uptoBulkAll elems + uptoBulkAll spare + 1
  | .agg parts => uptoBulkAll parts + 1
  | .iface _ d => uptoBulk d + 1
  | .map entries => uptoBulkEntries entries + 1
  | .held _ => 1
def uptoBulkAll {H : Type} : List (DataW H) → Nat
  | [] => 0
  | d :: r => uptoBulk d + uptoBulkAll r
def uptoBulkEntries {H : Type} : List (Lit × DataW H) → Nat
  | [] => 0
  | x :: r => uptoBulkEntry x + uptoBulkEntries r
def uptoBulkEntry {H : Type} : Lit × DataW H → Nat
  | (.string bytes, d) => bytes.length + uptoBulk d + 1
  | (_, d) => uptoBulk d + 1
 end
def uptoSmall : (H : Type) → List (DataW H) → Bool := fun _ ds => decide (uptoBulkAll ds ≤ 1048576)
def OpenSpec.upto (s : _root_.Go.ChangeSpec) : _root_.Go.OpenSpec := { _root_.Go.OpenSpec.ofChange s with cond := some uptoSmall }

/-- 'laws.FnSqueezed', WHERE WHAT IT READS IS OF BULK AT MOST 1048576: true; the input reads as it did. -/
def fnSqueezedUptoRow : OpenClaim := { program := "ytfgehmcloeebkaa", sum := "91f3cca56c251153974e8f5de8271c0d5e1caea0f4605cea34415d52a6e9f406", func := "loop.example/g00055/laws.FnSqueezed", spec := "fnSqueezed", apart := false, narrowed := true }
def FnSqueezedUptoSaid : Prop := fnSqueezedUptoRow.holds Try.pinned (OpenSpec.upto fnSqueezedSpec)

/-- 'laws.FnSpots', WHERE WHAT IT READS IS OF BULK AT MOST 1048576: true; the input reads as it did. -/
def fnSpotsUptoRow : OpenClaim := { program := "ytfgehmcloeebkaa", sum := "91f3cca56c251153974e8f5de8271c0d5e1caea0f4605cea34415d52a6e9f406", func := "loop.example/g00055/laws.FnSpots", spec := "fnSpots", apart := false, narrowed := true }
def FnSpotsUptoSaid : Prop := fnSpotsUptoRow.holds Try.pinned (OpenSpec.upto fnSpotsSpec)

/-- 'laws.FnExactSpots', WHERE WHAT IT READS IS OF BULK AT MOST 1048576: true; the input reads as it did. -/
def fnExactSpotsUptoRow : OpenClaim := { program := "ytfgehmcloeebkaa", sum := "91f3cca56c251153974e8f5de8271c0d5e1caea0f4605cea34415d52a6e9f406", func := "loop.example/g00055/laws.FnExactSpots", spec := "fnExactSpots", apart := false, narrowed := true }
def FnExactSpotsUptoSaid : Prop := fnExactSpotsUptoRow.holds Try.pinned (OpenSpec.upto fnExactSpotsSpec)

/-- 'laws.FnExactIntegrate', WHERE WHAT IT READS IS OF BULK AT MOST 1048576: true; the input reads as it did. -/
def fnExactIntegrateUptoRow : OpenClaim := { program := "ytfgehmcloeebkaa", sum := "91f3cca56c251153974e8f5de8271c0d5e1caea0f4605cea34415d52a6e9f406", func := "loop.example/g00055/laws.FnExactIntegrate", spec := "fnExactIntegrate", apart := false, narrowed := true }
def FnExactIntegrateUptoSaid : Prop := fnExactIntegrateUptoRow.holds Try.pinned (OpenSpec.upto fnExactIntegrateSpec)

/-- 'laws.FnExactSqueeze', WHERE WHAT IT READS IS OF BULK AT MOST 1048576: true; the input reads as it did. -/
def fnExactSqueezeUptoRow : OpenClaim := { program := "ytfgehmcloeebkaa", sum := "91f3cca56c251153974e8f5de8271c0d5e1caea0f4605cea34415d52a6e9f406", func := "loop.example/g00055/laws.FnExactSqueeze", spec := "fnExactSqueeze", apart := false, narrowed := true }
def FnExactSqueezeUptoSaid : Prop := fnExactSqueezeUptoRow.holds Try.pinned (OpenSpec.upto fnExactSqueezeSpec)

/-- 'laws.FnExactUnsqueeze', WHERE WHAT IT READS IS OF BULK AT MOST 1048576: true; the input reads as it did. -/
def fnExactUnsqueezeUptoRow : OpenClaim := { program := "ytfgehmcloeebkaa", sum := "91f3cca56c251153974e8f5de8271c0d5e1caea0f4605cea34415d52a6e9f406", func := "loop.example/g00055/laws.FnExactUnsqueeze", spec := "fnExactUnsqueeze", apart := false, narrowed := true }
def FnExactUnsqueezeUptoSaid : Prop := fnExactUnsqueezeUptoRow.holds Try.pinned (OpenSpec.upto fnExactUnsqueezeSpec)

end Rows
end Go.Proofs.Ytfgehmcloeebkaa
