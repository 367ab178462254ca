/-
  No cell of these rows narrows 'for every input' (looked for: loops, veiled, ifaces, maps, wideKeys, modest, calm, conditions, laid).
  DERIVED. THE GIVEN ROWS OF THIS SEAT. 6 by the template 'for every input the law returns true; each argument reads behind the call as it read before'; 0 by the template 'total and deterministic' (their statements: YtlgkohiempcbhabTotals.lean).
  GIVEN WITH THE SEED: the statements are not yours to turn. If you find one false, say at which input.
  Laid BY PROGRAM, IN A SANDBOX (cutbox-rows.mjs): the forced cells as the released guide's own fill.sh prints them over the translation e76b6fa9fea229dc… (all of the seat's roots in one cut). By AI agents, Wed Nov 11 2026. No macro, syntax, notation, axiom, sorry.
-/
import Derived.Test.YtlgkohiempcbhabChecked
import GoSem.Claim
import GoSem.ClaimJoined
import GoSem.ClaimMapViews
import Derived.JoinedTies
import Derived.KernelRfl
namespace Go.Proofs.Ytlgkohiempcbhab
/- THE CELL 'sum', in the pinned program and in every row, IS THE sha256 OF THE DUMP (.gsa) THAT YtlgkohiempcbhabProg.lean LOADS. Nothing in Lean hashes anything: it is a label: what it is worth is what the hold of that sum in a sandbox is worth. -/
noncomputable def Try.pinned : Pinned := { name := "ytlgkohiempcbhab", sum := "e76b6fa9fea229dc35583eed4288fddf0b955409dd27ab8453432b39580b6605", checked := Try.checked }
namespace Rows
def none {H : Type} : Left H := { results := [], args := [] }

/-- 'laws.FnExactSameLattice': WHATEVER THE INPUT: true; the input reads as it did. -/
def fnExactSameLatticeSpec : ChangeSpec := { name := "fnExactSameLattice", fn := fun _ => fun
  | [d1, d2] => { results := [.lit (.bool true)], args := [d1, d2] }
  | _ => none }
def fnExactSameLatticeRow : OpenClaim := { program := "ytlgkohiempcbhab", sum := "e76b6fa9fea229dc35583eed4288fddf0b955409dd27ab8453432b39580b6605", func := "loop.example/g00055/laws.FnExactSameLattice", spec := "fnExactSameLattice", apart := false }
def FnExactSameLatticeSaid : Prop := fnExactSameLatticeRow.holds Try.pinned (OpenSpec.ofChange fnExactSameLatticeSpec)

/-- ITS FALSE NEIGHBOUR: 'it returns false'. Refute it at one input. -/
def fnExactSameLatticeWrong : ChangeSpec := { name := "fnExactSameLattice", fn := fun _ => fun
  | [d1, d2] => { results := [.lit (.bool false)], args := [d1, d2] }
  | _ => none }
def FnExactSameLatticeWrongFalsely : Prop := fnExactSameLatticeRow.holds Try.pinned (OpenSpec.ofChange fnExactSameLatticeWrong)

/-- 'laws.FnExactContains': WHATEVER THE INPUT: true; the input reads as it did. -/
def fnExactContainsSpec : ChangeSpec := { name := "fnExactContains", fn := fun _ => fun
  | [d1, d2, d3, d4] => { results := [.lit (.bool true)], args := [d1, d2, d3, d4] }
  | _ => none }
def fnExactContainsRow : OpenClaim := { program := "ytlgkohiempcbhab", sum := "e76b6fa9fea229dc35583eed4288fddf0b955409dd27ab8453432b39580b6605", func := "loop.example/g00055/laws.FnExactContains", spec := "fnExactContains", apart := false }
def FnExactContainsSaid : Prop := fnExactContainsRow.holds Try.pinned (OpenSpec.ofChange fnExactContainsSpec)

/-- ITS FALSE NEIGHBOUR: 'it returns false'. Refute it at one input. -/
def fnExactContainsWrong : ChangeSpec := { name := "fnExactContains", fn := fun _ => fun
  | [d1, d2, d3, d4] => { results := [.lit (.bool false)], args := [d1, d2, d3, d4] }
  | _ => none }
def FnExactContainsWrongFalsely : Prop := fnExactContainsRow.holds Try.pinned (OpenSpec.ofChange fnExactContainsWrong)

/-- 'laws.FnExactSmith': WHATEVER THE INPUT: true; the input reads as it did. -/
def fnExactSmithSpec : ChangeSpec := { name := "fnExactSmith", fn := fun _ => fun
  | [d] => { results := [.lit (.bool true)], args := [d] }
  | _ => none }
def fnExactSmithRow : OpenClaim := { program := "ytlgkohiempcbhab", sum := "e76b6fa9fea229dc35583eed4288fddf0b955409dd27ab8453432b39580b6605", func := "loop.example/g00055/laws.FnExactSmith", spec := "fnExactSmith", apart := false }
def FnExactSmithSaid : Prop := fnExactSmithRow.holds Try.pinned (OpenSpec.ofChange fnExactSmithSpec)

/-- ITS FALSE NEIGHBOUR: 'it returns false'. Refute it at one input. -/
def fnExactSmithWrong : ChangeSpec := { name := "fnExactSmith", fn := fun _ => fun
  | [d] => { results := [.lit (.bool false)], args := [d] }
  | _ => none }
def FnExactSmithWrongFalsely : Prop := fnExactSmithRow.holds Try.pinned (OpenSpec.ofChange fnExactSmithWrong)

/-- 'laws.FnExactSublattice': WHATEVER THE INPUT: true; the input reads as it did. -/
def fnExactSublatticeSpec : ChangeSpec := { name := "fnExactSublattice", fn := fun _ => fun
  | [d1, d2] => { results := [.lit (.bool true)], args := [d1, d2] }
  | _ => none }
def fnExactSublatticeRow : OpenClaim := { program := "ytlgkohiempcbhab", sum := "e76b6fa9fea229dc35583eed4288fddf0b955409dd27ab8453432b39580b6605", func := "loop.example/g00055/laws.FnExactSublattice", spec := "fnExactSublattice", apart := false }
def FnExactSublatticeSaid : Prop := fnExactSublatticeRow.holds Try.pinned (OpenSpec.ofChange fnExactSublatticeSpec)

/-- ITS FALSE NEIGHBOUR: 'it returns false'. Refute it at one input. -/
def fnExactSublatticeWrong : ChangeSpec := { name := "fnExactSublattice", fn := fun _ => fun
  | [d1, d2] => { results := [.lit (.bool false)], args := [d1, d2] }
  | _ => none }
def FnExactSublatticeWrongFalsely : Prop := fnExactSublatticeRow.holds Try.pinned (OpenSpec.ofChange fnExactSublatticeWrong)

/-- 'laws.FnExactFormOk': WHATEVER THE INPUT: true; the input reads as it did. -/
def fnExactFormOkSpec : ChangeSpec := { name := "fnExactFormOk", fn := fun _ => fun
  | [d] => { results := [.lit (.bool true)], args := [d] }
  | _ => none }
def fnExactFormOkRow : OpenClaim := { program := "ytlgkohiempcbhab", sum := "e76b6fa9fea229dc35583eed4288fddf0b955409dd27ab8453432b39580b6605", func := "loop.example/g00055/laws.FnExactFormOk", spec := "fnExactFormOk", apart := false }
def FnExactFormOkSaid : Prop := fnExactFormOkRow.holds Try.pinned (OpenSpec.ofChange fnExactFormOkSpec)

/-- ITS FALSE NEIGHBOUR: 'it returns false'. Refute it at one input. -/
def fnExactFormOkWrong : ChangeSpec := { name := "fnExactFormOk", fn := fun _ => fun
  | [d] => { results := [.lit (.bool false)], args := [d] }
  | _ => none }
def FnExactFormOkWrongFalsely : Prop := fnExactFormOkRow.holds Try.pinned (OpenSpec.ofChange fnExactFormOkWrong)

/-- 'laws.FnExactReduce': WHATEVER THE INPUT: true; the input reads as it did. -/
def fnExactReduceSpec : ChangeSpec := { name := "fnExactReduce", fn := fun _ => fun
  | [d] => { results := [.lit (.bool true)], args := [d] }
  | _ => none }
def fnExactReduceRow : OpenClaim := { program := "ytlgkohiempcbhab", sum := "e76b6fa9fea229dc35583eed4288fddf0b955409dd27ab8453432b39580b6605", func := "loop.example/g00055/laws.FnExactReduce", spec := "fnExactReduce", apart := false }
def FnExactReduceSaid : Prop := fnExactReduceRow.holds Try.pinned (OpenSpec.ofChange fnExactReduceSpec)

/-- ITS FALSE NEIGHBOUR: 'it returns false'. Refute it at one input. -/
def fnExactReduceWrong : ChangeSpec := { name := "fnExactReduce", fn := fun _ => fun
  | [d] => { results := [.lit (.bool false)], args := [d] }
  | _ => none }
def FnExactReduceWrongFalsely : Prop := fnExactReduceRow.holds Try.pinned (OpenSpec.ofChange fnExactReduceWrong)

/- THE SECOND FORM. 'bulk': how many values and letters a reading holds, each counted each time it is reached (what is shared counts as often as it is met; a slice's spare places count too). A statement '..UptoSaid' is the law's where the arguments, and the package variables that the reading takes, are together of bulk at most 1048576: NARROWER than '..Said'. Prove '..Said' where nothing that the law and all that it calls make is longer than what came in: it says more and counts as full. Else prove '..UptoSaid'. A law counts once. -/
mutual
def uptoBulk {H : Type} : DataW H → Nat
  | .lit (.string bytes) => bytes.length + 1
  | .lit _ => 1
  | .nil => 1
  | .ptr d => uptoBulk d + 1
  | .slice elems spare => uptoBulkAll elems + uptoBulkAll spare + 1
  | .agg parts => uptoBulkAll parts + 1
  | .iface _ d => uptoBulk d + 1
  | .map entries => uptoBulkEntries entries + 1
  | .held _ => 1
def uptoBulkAll {H : Type} : List (DataW H) → Nat
  | [] => 0
  | d :: r => uptoBulk d + uptoBulkAll r
def uptoBulkEntries {H : Type} : List (Lit × DataW H) → Nat
  | [] => 0
  | x :: r => uptoBulkEntry x + uptoBulkEntries r
def uptoBulkEntry {H : Type} : Lit × DataW H → Nat
  | (.string bytes, d) => bytes.length + uptoBulk d + 1
  | (_, d) => uptoBulk d + 1
 end
def uptoSmall : (H : Type) → List (DataW H) → Bool := fun _ ds => decide (uptoBulkAll ds ≤ 1048576)
def OpenSpec.upto (s : _root_.Go.ChangeSpec) : _root_.Go.OpenSpec := { _root_.Go.OpenSpec.ofChange s with cond := some uptoSmall }

/-- 'laws.FnExactSameLattice', WHERE WHAT IT READS IS OF BULK AT MOST 1048576: true; the input reads as it did. -/
def fnExactSameLatticeUptoRow : OpenClaim := { program := "ytlgkohiempcbhab", sum := "e76b6fa9fea229dc35583eed4288fddf0b955409dd27ab8453432b39580b6605", func := "loop.example/g00055/laws.FnExactSameLattice", spec := "fnExactSameLattice", apart := false, narrowed := true }
def FnExactSameLatticeUptoSaid : Prop := fnExactSameLatticeUptoRow.holds Try.pinned (OpenSpec.upto fnExactSameLatticeSpec)

/-- 'laws.FnExactContains', WHERE WHAT IT READS IS OF BULK AT MOST 1048576: true; the input reads as it did. -/
def fnExactContainsUptoRow : OpenClaim := { program := "ytlgkohiempcbhab", sum := "e76b6fa9fea229dc35583eed4288fddf0b955409dd27ab8453432b39580b6605", func := "loop.example/g00055/laws.FnExactContains", spec := "fnExactContains", apart := false, narrowed := true }
def FnExactContainsUptoSaid : Prop := fnExactContainsUptoRow.holds Try.pinned (OpenSpec.upto fnExactContainsSpec)

/-- 'laws.FnExactSmith', WHERE WHAT IT READS IS OF BULK AT MOST 1048576: true; the input reads as it did. -/
def fnExactSmithUptoRow : OpenClaim := { program := "ytlgkohiempcbhab", sum := "e76b6fa9fea229dc35583eed4288fddf0b955409dd27ab8453432b39580b6605", func := "loop.example/g00055/laws.FnExactSmith", spec := "fnExactSmith", apart := false, narrowed := true }
def FnExactSmithUptoSaid : Prop := fnExactSmithUptoRow.holds Try.pinned (OpenSpec.upto fnExactSmithSpec)

/-- 'laws.FnExactSublattice', WHERE WHAT IT READS IS OF BULK AT MOST 1048576: true; the input reads as it did. -/
def fnExactSublatticeUptoRow : OpenClaim := { program := "ytlgkohiempcbhab", sum := "e76b6fa9fea229dc35583eed4288fddf0b955409dd27ab8453432b39580b6605", func := "loop.example/g00055/laws.FnExactSublattice", spec := "fnExactSublattice", apart := false, narrowed := true }
def FnExactSublatticeUptoSaid : Prop := fnExactSublatticeUptoRow.holds Try.pinned (OpenSpec.upto fnExactSublatticeSpec)

/-- 'laws.FnExactFormOk', WHERE WHAT IT READS IS OF BULK AT MOST 1048576: true; the input reads as it did. -/
def fnExactFormOkUptoRow : OpenClaim := { program := "ytlgkohiempcbhab", sum := "e76b6fa9fea229dc35583eed4288fddf0b955409dd27ab8453432b39580b6605", func := "loop.example/g00055/laws.FnExactFormOk", spec := "fnExactFormOk", apart := false, narrowed := true }
def FnExactFormOkUptoSaid : Prop := fnExactFormOkUptoRow.holds Try.pinned (OpenSpec.upto fnExactFormOkSpec)

/-- 'laws.FnExactReduce', WHERE WHAT IT READS IS OF BULK AT MOST 1048576: true; the input reads as it did. -/
def fnExactReduceUptoRow : OpenClaim := { program := "ytlgkohiempcbhab", sum := "e76b6fa9fea229dc35583eed4288fddf0b955409dd27ab8453432b39580b6605", func := "loop.example/g00055/laws.FnExactReduce", spec := "fnExactReduce", apart := false, narrowed := true }
def FnExactReduceUptoSaid : Prop := fnExactReduceUptoRow.holds Try.pinned (OpenSpec.upto fnExactReduceSpec)

end Rows
end Go.Proofs.Ytlgkohiempcbhab
