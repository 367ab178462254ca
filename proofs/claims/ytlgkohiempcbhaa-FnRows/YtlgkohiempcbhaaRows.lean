/-
  No cell of these rows narrows 'for every input' (looked for: loops, veiled, ifaces, maps, wideKeys, modest, calm, conditions, laid).
  DERIVED. THE GIVEN ROWS OF THIS SEAT. 6 by the template 'for every input the law returns true; each argument reads behind the call as it read before'; 0 by the template 'total and deterministic' (their statements: YtlgkohiempcbhaaTotals.lean).
  GIVEN WITH THE SEED: the statements are not yours to turn. If you find one false, say at which input.
  Laid BY PROGRAM, IN A SANDBOX (cutbox-rows.mjs): the forced cells as the released guide's own fill.sh prints them over the translation da58ddf3aa04fc08… (all of the seat's roots in one cut). By AI agents, Wed Nov 11 2026. No macro, syntax, notation, axiom, sorry.
-/
import Derived.Test.YtlgkohiempcbhaaChecked
import GoSem.Claim
import GoSem.ClaimJoined
import GoSem.ClaimMapViews
import Derived.JoinedTies
import Derived.KernelRfl
namespace Go.Proofs.Ytlgkohiempcbhaa
/- THE CELL 'sum', in the pinned program and in every row, IS THE sha256 OF THE DUMP (.gsa) THAT YtlgkohiempcbhaaProg.lean LOADS. Nothing in Lean hashes anything: it is a label: what it is worth is what the hold of that sum in a sandbox is worth. -/
noncomputable def Try.pinned : Pinned := { name := "ytlgkohiempcbhaa", sum := "da58ddf3aa04fc0871aa72a74e8675a42bbd82a67079e2f47f98b3f21c87c037", checked := Try.checked }
namespace Rows
def none {H : Type} : Left H := { results := [], args := [] }

/-- 'laws.FnHermite': WHATEVER THE INPUT: true; the input reads as it did. -/
def fnHermiteSpec : ChangeSpec := { name := "fnHermite", fn := fun _ => fun
  | [d] => { results := [.lit (.bool true)], args := [d] }
  | _ => none }
def fnHermiteRow : OpenClaim := { program := "ytlgkohiempcbhaa", sum := "da58ddf3aa04fc0871aa72a74e8675a42bbd82a67079e2f47f98b3f21c87c037", func := "loop.example/g00055/laws.FnHermite", spec := "fnHermite", apart := false }
def FnHermiteSaid : Prop := fnHermiteRow.holds Try.pinned (OpenSpec.ofChange fnHermiteSpec)

/-- ITS FALSE NEIGHBOUR: 'it returns false'. Refute it at one input. -/
def fnHermiteWrong : ChangeSpec := { name := "fnHermite", fn := fun _ => fun
  | [d] => { results := [.lit (.bool false)], args := [d] }
  | _ => none }
def FnHermiteWrongFalsely : Prop := fnHermiteRow.holds Try.pinned (OpenSpec.ofChange fnHermiteWrong)

/-- 'laws.FnSmith': WHATEVER THE INPUT: true; the input reads as it did. -/
def fnSmithSpec : ChangeSpec := { name := "fnSmith", fn := fun _ => fun
  | [d] => { results := [.lit (.bool true)], args := [d] }
  | _ => none }
def fnSmithRow : OpenClaim := { program := "ytlgkohiempcbhaa", sum := "da58ddf3aa04fc0871aa72a74e8675a42bbd82a67079e2f47f98b3f21c87c037", func := "loop.example/g00055/laws.FnSmith", spec := "fnSmith", apart := false }
def FnSmithSaid : Prop := fnSmithRow.holds Try.pinned (OpenSpec.ofChange fnSmithSpec)

/-- ITS FALSE NEIGHBOUR: 'it returns false'. Refute it at one input. -/
def fnSmithWrong : ChangeSpec := { name := "fnSmith", fn := fun _ => fun
  | [d] => { results := [.lit (.bool false)], args := [d] }
  | _ => none }
def FnSmithWrongFalsely : Prop := fnSmithRow.holds Try.pinned (OpenSpec.ofChange fnSmithWrong)

/-- 'laws.FnRows': WHATEVER THE INPUT: true; the input reads as it did. -/
def fnRowsSpec : ChangeSpec := { name := "fnRows", fn := fun _ => fun
  | [d] => { results := [.lit (.bool true)], args := [d] }
  | _ => none }
def fnRowsRow : OpenClaim := { program := "ytlgkohiempcbhaa", sum := "da58ddf3aa04fc0871aa72a74e8675a42bbd82a67079e2f47f98b3f21c87c037", func := "loop.example/g00055/laws.FnRows", spec := "fnRows", apart := false }
def FnRowsSaid : Prop := fnRowsRow.holds Try.pinned (OpenSpec.ofChange fnRowsSpec)

/-- ITS FALSE NEIGHBOUR: 'it returns false'. Refute it at one input. -/
def fnRowsWrong : ChangeSpec := { name := "fnRows", fn := fun _ => fun
  | [d] => { results := [.lit (.bool false)], args := [d] }
  | _ => none }
def FnRowsWrongFalsely : Prop := fnRowsRow.holds Try.pinned (OpenSpec.ofChange fnRowsWrong)

/-- 'laws.FnReduced': WHATEVER THE INPUT: true; the input reads as it did. -/
def fnReducedSpec : ChangeSpec := { name := "fnReduced", fn := fun _ => fun
  | [d] => { results := [.lit (.bool true)], args := [d] }
  | _ => none }
def fnReducedRow : OpenClaim := { program := "ytlgkohiempcbhaa", sum := "da58ddf3aa04fc0871aa72a74e8675a42bbd82a67079e2f47f98b3f21c87c037", func := "loop.example/g00055/laws.FnReduced", spec := "fnReduced", unfollowed := true, recurses := true, apart := false }
def FnReducedSaid : Prop := fnReducedRow.holds Try.pinned (OpenSpec.ofChange fnReducedSpec)

/-- ITS FALSE NEIGHBOUR: 'it returns false'. Refute it at one input. -/
def fnReducedWrong : ChangeSpec := { name := "fnReduced", fn := fun _ => fun
  | [d] => { results := [.lit (.bool false)], args := [d] }
  | _ => none }
def FnReducedWrongFalsely : Prop := fnReducedRow.holds Try.pinned (OpenSpec.ofChange fnReducedWrong)

/-- 'laws.FnExactDet': WHATEVER THE INPUT: true; the input reads as it did. -/
def fnExactDetSpec : ChangeSpec := { name := "fnExactDet", fn := fun _ => fun
  | [d] => { results := [.lit (.bool true)], args := [d] }
  | _ => none }
def fnExactDetRow : OpenClaim := { program := "ytlgkohiempcbhaa", sum := "da58ddf3aa04fc0871aa72a74e8675a42bbd82a67079e2f47f98b3f21c87c037", func := "loop.example/g00055/laws.FnExactDet", spec := "fnExactDet", apart := false }
def FnExactDetSaid : Prop := fnExactDetRow.holds Try.pinned (OpenSpec.ofChange fnExactDetSpec)

/-- ITS FALSE NEIGHBOUR: 'it returns false'. Refute it at one input. -/
def fnExactDetWrong : ChangeSpec := { name := "fnExactDet", fn := fun _ => fun
  | [d] => { results := [.lit (.bool false)], args := [d] }
  | _ => none }
def FnExactDetWrongFalsely : Prop := fnExactDetRow.holds Try.pinned (OpenSpec.ofChange fnExactDetWrong)

/-- 'laws.FnExactHermite': WHATEVER THE INPUT: true; the input reads as it did. -/
def fnExactHermiteSpec : ChangeSpec := { name := "fnExactHermite", fn := fun _ => fun
  | [d] => { results := [.lit (.bool true)], args := [d] }
  | _ => none }
def fnExactHermiteRow : OpenClaim := { program := "ytlgkohiempcbhaa", sum := "da58ddf3aa04fc0871aa72a74e8675a42bbd82a67079e2f47f98b3f21c87c037", func := "loop.example/g00055/laws.FnExactHermite", spec := "fnExactHermite", apart := false }
def FnExactHermiteSaid : Prop := fnExactHermiteRow.holds Try.pinned (OpenSpec.ofChange fnExactHermiteSpec)

/-- ITS FALSE NEIGHBOUR: 'it returns false'. Refute it at one input. -/
def fnExactHermiteWrong : ChangeSpec := { name := "fnExactHermite", fn := fun _ => fun
  | [d] => { results := [.lit (.bool false)], args := [d] }
  | _ => none }
def FnExactHermiteWrongFalsely : Prop := fnExactHermiteRow.holds Try.pinned (OpenSpec.ofChange fnExactHermiteWrong)

/- THE SECOND FORM. 'bulk': how many values and letters a reading holds, each counted each time it is reached (what is shared counts as often as it is met; a slice's spare places count too). A statement '..UptoSaid' is the law's where the arguments, and the package variables that the reading takes, are together of bulk at most 1048576: NARROWER than '..Said'. Prove '..Said' where nothing that the law and all that it calls make is longer than what came in: it says more and counts as full. Else prove '..UptoSaid'. A law counts once. -/
mutual
def uptoBulk {H : Type} : DataW H → Nat
  | .lit (.string bytes) => bytes.length + 1
  | .lit _ => 1
  | .nil => 1
  | .ptr d => uptoBulk d + 1
  | .slice elems spare => uptoBulkAll elems + uptoBulkAll spare + 1
  | .agg parts => uptoBulkAll parts + 1
  | .iface _ d => uptoBulk d + 1
  | .map entries => uptoBulkEntries entries + 1
  | .held _ => 1
def uptoBulkAll {H : Type} : List (DataW H) → Nat
  | [] => 0
  | d :: r => uptoBulk d + uptoBulkAll r
def uptoBulkEntries {H : Type} : List (Lit × DataW H) → Nat
  | [] => 0
  | x :: r => uptoBulkEntry x + uptoBulkEntries r
def uptoBulkEntry {H : Type} : Lit × DataW H → Nat
  | (.string bytes, d) => bytes.length + uptoBulk d + 1
  | (_, d) => uptoBulk d + 1
 end
def uptoSmall : (H : Type) → List (DataW H) → Bool := fun _ ds => decide (uptoBulkAll ds ≤ 1048576)
def OpenSpec.upto (s : _root_.Go.ChangeSpec) : _root_.Go.OpenSpec := { _root_.Go.OpenSpec.ofChange s with cond := some uptoSmall }

/-- 'laws.FnHermite', WHERE WHAT IT READS IS OF BULK AT MOST 1048576: true; the input reads as it did. -/
def fnHermiteUptoRow : OpenClaim := { program := "ytlgkohiempcbhaa", sum := "da58ddf3aa04fc0871aa72a74e8675a42bbd82a67079e2f47f98b3f21c87c037", func := "loop.example/g00055/laws.FnHermite", spec := "fnHermite", apart := false, narrowed := true }
def FnHermiteUptoSaid : Prop := fnHermiteUptoRow.holds Try.pinned (OpenSpec.upto fnHermiteSpec)

/-- 'laws.FnSmith', WHERE WHAT IT READS IS OF BULK AT MOST 1048576: true; the input reads as it did. -/
def fnSmithUptoRow : OpenClaim := { program := "ytlgkohiempcbhaa", sum := "da58ddf3aa04fc0871aa72a74e8675a42bbd82a67079e2f47f98b3f21c87c037", func := "loop.example/g00055/laws.FnSmith", spec := "fnSmith", apart := false, narrowed := true }
def FnSmithUptoSaid : Prop := fnSmithUptoRow.holds Try.pinned (OpenSpec.upto fnSmithSpec)

/-- 'laws.FnRows', WHERE WHAT IT READS IS OF BULK AT MOST 1048576: true; the input reads as it did. -/
def fnRowsUptoRow : OpenClaim := { program := "ytlgkohiempcbhaa", sum := "da58ddf3aa04fc0871aa72a74e8675a42bbd82a67079e2f47f98b3f21c87c037", func := "loop.example/g00055/laws.FnRows", spec := "fnRows", apart := false, narrowed := true }
def FnRowsUptoSaid : Prop := fnRowsUptoRow.holds Try.pinned (OpenSpec.upto fnRowsSpec)

/-- 'laws.FnReduced', WHERE WHAT IT READS IS OF BULK AT MOST 1048576: true; the input reads as it did. -/
def fnReducedUptoRow : OpenClaim := { program := "ytlgkohiempcbhaa", sum := "da58ddf3aa04fc0871aa72a74e8675a42bbd82a67079e2f47f98b3f21c87c037", func := "loop.example/g00055/laws.FnReduced", spec := "fnReduced", unfollowed := true, recurses := true, apart := false, narrowed := true }
def FnReducedUptoSaid : Prop := fnReducedUptoRow.holds Try.pinned (OpenSpec.upto fnReducedSpec)

/-- 'laws.FnExactDet', WHERE WHAT IT READS IS OF BULK AT MOST 1048576: true; the input reads as it did. -/
def fnExactDetUptoRow : OpenClaim := { program := "ytlgkohiempcbhaa", sum := "da58ddf3aa04fc0871aa72a74e8675a42bbd82a67079e2f47f98b3f21c87c037", func := "loop.example/g00055/laws.FnExactDet", spec := "fnExactDet", apart := false, narrowed := true }
def FnExactDetUptoSaid : Prop := fnExactDetUptoRow.holds Try.pinned (OpenSpec.upto fnExactDetSpec)

/-- 'laws.FnExactHermite', WHERE WHAT IT READS IS OF BULK AT MOST 1048576: true; the input reads as it did. -/
def fnExactHermiteUptoRow : OpenClaim := { program := "ytlgkohiempcbhaa", sum := "da58ddf3aa04fc0871aa72a74e8675a42bbd82a67079e2f47f98b3f21c87c037", func := "loop.example/g00055/laws.FnExactHermite", spec := "fnExactHermite", apart := false, narrowed := true }
def FnExactHermiteUptoSaid : Prop := fnExactHermiteUptoRow.holds Try.pinned (OpenSpec.upto fnExactHermiteSpec)

end Rows
end Go.Proofs.Ytlgkohiempcbhaa
