/-
  No cell of these rows narrows 'for every input' (looked for: loops, veiled, ifaces, maps, wideKeys, modest, calm, conditions, laid).
  DERIVED. THE GIVEN ROWS OF THIS SEAT. 3 by the template 'for every input the law returns true; each argument reads behind the call as it read before'; 0 by the template 'total and deterministic' (their statements: YtmlgkmgkicdnbaaTotals.lean).
  GIVEN WITH THE SEED: the statements are not yours to turn. If you find one false, say at which input.
  Laid BY PROGRAM, IN A SANDBOX (cutbox-rows.mjs): the forced cells as the released guide's own fill.sh prints them over the translation c9fa004674b3a04e… (all of the seat's roots in one cut). By AI agents, Wed Nov 11 2026. No macro, syntax, notation, axiom, sorry.
-/
import Derived.Test.YtmlgkmgkicdnbaaChecked
import GoSem.Claim
import GoSem.ClaimJoined
import GoSem.ClaimMapViews
import Derived.JoinedTies
import Derived.KernelRfl
namespace Go.Proofs.Ytmlgkmgkicdnbaa
/- THE CELL 'sum', in the pinned program and in every row, IS THE sha256 OF THE DUMP (.gsa) THAT YtmlgkmgkicdnbaaProg.lean LOADS. Nothing in Lean hashes anything: it is a label: what it is worth is what the hold of that sum in a sandbox is worth. -/
noncomputable def Try.pinned : Pinned := { name := "ytmlgkmgkicdnbaa", sum := "c9fa004674b3a04e25967a7901d245d35bc39f552b47fadc0fc4bb4fa4861c8b", checked := Try.checked }
namespace Rows
def none {H : Type} : Left H := { results := [], args := [] }

/-- 'laws.FnLanes': WHATEVER THE INPUT: true; the input reads as it did. -/
def fnLanesSpec : ChangeSpec := { name := "fnLanes", fn := fun _ => fun
  | [d] => { results := [.lit (.bool true)], args := [d] }
  | _ => none }
def fnLanesRow : OpenClaim := { program := "ytmlgkmgkicdnbaa", sum := "c9fa004674b3a04e25967a7901d245d35bc39f552b47fadc0fc4bb4fa4861c8b", func := "loop.example/g00055/laws.FnLanes", spec := "fnLanes", apart := false }
def FnLanesSaid : Prop := fnLanesRow.holds Try.pinned (OpenSpec.ofChange fnLanesSpec)

/-- ITS FALSE NEIGHBOUR: 'it returns false'. Refute it at one input. -/
def fnLanesWrong : ChangeSpec := { name := "fnLanes", fn := fun _ => fun
  | [d] => { results := [.lit (.bool false)], args := [d] }
  | _ => none }
def FnLanesWrongFalsely : Prop := fnLanesRow.holds Try.pinned (OpenSpec.ofChange fnLanesWrong)

/-- 'laws.FnOpBack': WHATEVER THE INPUT: true; the input reads as it did. -/
def fnOpBackSpec : ChangeSpec := { name := "fnOpBack", fn := fun _ => fun
  | [d1, d2] => { results := [.lit (.bool true)], args := [d1, d2] }
  | _ => none }
def fnOpBackRow : OpenClaim := { program := "ytmlgkmgkicdnbaa", sum := "c9fa004674b3a04e25967a7901d245d35bc39f552b47fadc0fc4bb4fa4861c8b", func := "loop.example/g00055/laws.FnOpBack", spec := "fnOpBack", apart := false }
def FnOpBackSaid : Prop := fnOpBackRow.holds Try.pinned (OpenSpec.ofChange fnOpBackSpec)

/-- ITS FALSE NEIGHBOUR: 'it returns false'. Refute it at one input. -/
def fnOpBackWrong : ChangeSpec := { name := "fnOpBack", fn := fun _ => fun
  | [d1, d2] => { results := [.lit (.bool false)], args := [d1, d2] }
  | _ => none }
def FnOpBackWrongFalsely : Prop := fnOpBackRow.holds Try.pinned (OpenSpec.ofChange fnOpBackWrong)

/-- 'laws.FnExactCxLanes': WHATEVER THE INPUT: true; the input reads as it did. -/
def fnExactCxLanesSpec : ChangeSpec := { name := "fnExactCxLanes", fn := fun _ => fun
  | [d] => { results := [.lit (.bool true)], args := [d] }
  | _ => none }
def fnExactCxLanesRow : OpenClaim := { program := "ytmlgkmgkicdnbaa", sum := "c9fa004674b3a04e25967a7901d245d35bc39f552b47fadc0fc4bb4fa4861c8b", func := "loop.example/g00055/laws.FnExactCxLanes", spec := "fnExactCxLanes", apart := false }
def FnExactCxLanesSaid : Prop := fnExactCxLanesRow.holds Try.pinned (OpenSpec.ofChange fnExactCxLanesSpec)

/-- ITS FALSE NEIGHBOUR: 'it returns false'. Refute it at one input. -/
def fnExactCxLanesWrong : ChangeSpec := { name := "fnExactCxLanes", fn := fun _ => fun
  | [d] => { results := [.lit (.bool false)], args := [d] }
  | _ => none }
def FnExactCxLanesWrongFalsely : Prop := fnExactCxLanesRow.holds Try.pinned (OpenSpec.ofChange fnExactCxLanesWrong)

/- THE SECOND FORM. 'bulk': how many values and letters a reading holds, each counted each time it is reached (what is shared counts as often as it is met; a slice's spare places count too). A statement '..UptoSaid' is the law's where the arguments, and the package variables that the reading takes, are together of bulk at most 1048576: NARROWER than '..Said'. Prove '..Said' where nothing that the law and all that it calls make is longer than what came in: it says more and counts as full. Else prove '..UptoSaid'. A law counts once. -/
mutual
def uptoBulk {H : Type} : DataW H → Nat
  | .lit (.string bytes) => bytes.length + 1
  | .lit _ => 1
  | .nil => 1
  | .ptr d => uptoBulk d + 1
  | .slice elems spare => uptoBulkAll elems + uptoBulkAll spare + 1
  | .agg parts => uptoBulkAll parts + 1
  | .iface _ d => uptoBulk d + 1
  | .map entries => uptoBulkEntries entries + 1
  | .held _ => 1
def uptoBulkAll {H : Type} : List (DataW H) → Nat
  | [] => 0
  | d :: r => uptoBulk d + uptoBulkAll r
def uptoBulkEntries {H : Type} : List (Lit × DataW H) → Nat
  | [] => 0
  | x :: r => uptoBulkEntry x + uptoBulkEntries r
def uptoBulkEntry {H : Type} : Lit × DataW H → Nat
  | (.string bytes, d) => bytes.length + uptoBulk d + 1
  | (_, d) => uptoBulk d + 1
 end
def uptoSmall : (H : Type) → List (DataW H) → Bool := fun _ ds => decide (uptoBulkAll ds ≤ 1048576)
def OpenSpec.upto (s : _root_.Go.ChangeSpec) : _root_.Go.OpenSpec := { _root_.Go.OpenSpec.ofChange s with cond := some uptoSmall }

/-- 'laws.FnLanes', WHERE WHAT IT READS IS OF BULK AT MOST 1048576: true; the input reads as it did. -/
def fnLanesUptoRow : OpenClaim := { program := "ytmlgkmgkicdnbaa", sum := "c9fa004674b3a04e25967a7901d245d35bc39f552b47fadc0fc4bb4fa4861c8b", func := "loop.example/g00055/laws.FnLanes", spec := "fnLanes", apart := false, narrowed := true }
def FnLanesUptoSaid : Prop := fnLanesUptoRow.holds Try.pinned (OpenSpec.upto fnLanesSpec)

/-- 'laws.FnOpBack', WHERE WHAT IT READS IS OF BULK AT MOST 1048576: true; the input reads as it did. -/
def fnOpBackUptoRow : OpenClaim := { program := "ytmlgkmgkicdnbaa", sum := "c9fa004674b3a04e25967a7901d245d35bc39f552b47fadc0fc4bb4fa4861c8b", func := "loop.example/g00055/laws.FnOpBack", spec := "fnOpBack", apart := false, narrowed := true }
def FnOpBackUptoSaid : Prop := fnOpBackUptoRow.holds Try.pinned (OpenSpec.upto fnOpBackSpec)

/-- 'laws.FnExactCxLanes', WHERE WHAT IT READS IS OF BULK AT MOST 1048576: true; the input reads as it did. -/
def fnExactCxLanesUptoRow : OpenClaim := { program := "ytmlgkmgkicdnbaa", sum := "c9fa004674b3a04e25967a7901d245d35bc39f552b47fadc0fc4bb4fa4861c8b", func := "loop.example/g00055/laws.FnExactCxLanes", spec := "fnExactCxLanes", apart := false, narrowed := true }
def FnExactCxLanesUptoSaid : Prop := fnExactCxLanesUptoRow.holds Try.pinned (OpenSpec.upto fnExactCxLanesSpec)

end Rows
end Go.Proofs.Ytmlgkmgkicdnbaa
