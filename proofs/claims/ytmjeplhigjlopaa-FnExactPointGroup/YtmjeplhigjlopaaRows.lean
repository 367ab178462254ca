/-
  No cell of these rows narrows 'for every input' (looked for: loops, veiled, ifaces, maps, wideKeys, modest, calm, conditions, laid).
  DERIVED. THE GIVEN ROWS OF THIS SEAT. 6 by the template 'for every input the law returns true; each argument reads behind the call as it read before'; 0 by the template 'total and deterministic' (their statements: YtmjeplhigjlopaaTotals.lean).
  GIVEN WITH THE SEED: the statements are not yours to turn. If you find one false, say at which input.
  Laid BY PROGRAM, IN A SANDBOX (cutbox-rows.mjs): the forced cells as the released guide's own fill.sh prints them over the translation 0431026e78fe1751… (all of the seat's roots in one cut). By AI agents, Wed Nov 11 2026. No macro, syntax, notation, axiom, sorry.
-/
import Derived.Test.YtmjeplhigjlopaaChecked
import GoSem.Claim
import GoSem.ClaimJoined
import GoSem.ClaimMapViews
import Derived.JoinedTies
import Derived.KernelRfl
namespace Go.Proofs.Ytmjeplhigjlopaa
/- THE CELL 'sum', in the pinned program and in every row, IS THE sha256 OF THE DUMP (.gsa) THAT YtmjeplhigjlopaaProg.lean LOADS. Nothing in Lean hashes anything: it is a label: what it is worth is what the hold of that sum in a sandbox is worth. -/
noncomputable def Try.pinned : Pinned := { name := "ytmjeplhigjlopaa", sum := "0431026e78fe17519c56d7f726c7232319ad0ae172acfbc6d25c6cfd774c77d8", checked := Try.checked }
namespace Rows
def none {H : Type} : Left H := { results := [], args := [] }

/-- 'laws.FnExactClose': WHATEVER THE INPUT: true; the input reads as it did. -/
def fnExactCloseSpec : ChangeSpec := { name := "fnExactClose", fn := fun _ => fun
  | [d] => { results := [.lit (.bool true)], args := [d] }
  | _ => none }
def fnExactCloseRow : OpenClaim := { program := "ytmjeplhigjlopaa", sum := "0431026e78fe17519c56d7f726c7232319ad0ae172acfbc6d25c6cfd774c77d8", func := "loop.example/g00055/laws.FnExactClose", spec := "fnExactClose", unfollowed := true, recurses := true, plainKeys := false, apart := false }
def FnExactCloseSaid : Prop := fnExactCloseRow.holds Try.pinned (OpenSpec.ofChange fnExactCloseSpec)

/-- ITS FALSE NEIGHBOUR: 'it returns false'. Refute it at one input. -/
def fnExactCloseWrong : ChangeSpec := { name := "fnExactClose", fn := fun _ => fun
  | [d] => { results := [.lit (.bool false)], args := [d] }
  | _ => none }
def FnExactCloseWrongFalsely : Prop := fnExactCloseRow.holds Try.pinned (OpenSpec.ofChange fnExactCloseWrong)

/-- 'laws.FnExactPointGroup': WHATEVER THE INPUT: true; the input reads as it did. -/
def fnExactPointGroupSpec : ChangeSpec := { name := "fnExactPointGroup", fn := fun _ => fun
  | [d] => { results := [.lit (.bool true)], args := [d] }
  | _ => none }
def fnExactPointGroupRow : OpenClaim := { program := "ytmjeplhigjlopaa", sum := "0431026e78fe17519c56d7f726c7232319ad0ae172acfbc6d25c6cfd774c77d8", func := "loop.example/g00055/laws.FnExactPointGroup", spec := "fnExactPointGroup", unfollowed := true, recurses := true, plainKeys := false, apart := false }
def FnExactPointGroupSaid : Prop := fnExactPointGroupRow.holds Try.pinned (OpenSpec.ofChange fnExactPointGroupSpec)

/-- ITS FALSE NEIGHBOUR: 'it returns false'. Refute it at one input. -/
def fnExactPointGroupWrong : ChangeSpec := { name := "fnExactPointGroup", fn := fun _ => fun
  | [d] => { results := [.lit (.bool false)], args := [d] }
  | _ => none }
def FnExactPointGroupWrongFalsely : Prop := fnExactPointGroupRow.holds Try.pinned (OpenSpec.ofChange fnExactPointGroupWrong)

/-- 'laws.FnExactTurned': WHATEVER THE INPUT: true; the input reads as it did. -/
def fnExactTurnedSpec : ChangeSpec := { name := "fnExactTurned", fn := fun _ => fun
  | [d1, d2] => { results := [.lit (.bool true)], args := [d1, d2] }
  | _ => none }
def fnExactTurnedRow : OpenClaim := { program := "ytmjeplhigjlopaa", sum := "0431026e78fe17519c56d7f726c7232319ad0ae172acfbc6d25c6cfd774c77d8", func := "loop.example/g00055/laws.FnExactTurned", spec := "fnExactTurned", unfollowed := true, recurses := true, plainKeys := false, apart := false }
def FnExactTurnedSaid : Prop := fnExactTurnedRow.holds Try.pinned (OpenSpec.ofChange fnExactTurnedSpec)

/-- ITS FALSE NEIGHBOUR: 'it returns false'. Refute it at one input. -/
def fnExactTurnedWrong : ChangeSpec := { name := "fnExactTurned", fn := fun _ => fun
  | [d1, d2] => { results := [.lit (.bool false)], args := [d1, d2] }
  | _ => none }
def FnExactTurnedWrongFalsely : Prop := fnExactTurnedRow.holds Try.pinned (OpenSpec.ofChange fnExactTurnedWrong)

/-- 'laws.FnExactTable': WHATEVER THE INPUT: true; the input reads as it did. -/
def fnExactTableSpec : ChangeSpec := { name := "fnExactTable", fn := fun _ => fun
  | [d] => { results := [.lit (.bool true)], args := [d] }
  | _ => none }
def fnExactTableRow : OpenClaim := { program := "ytmjeplhigjlopaa", sum := "0431026e78fe17519c56d7f726c7232319ad0ae172acfbc6d25c6cfd774c77d8", func := "loop.example/g00055/laws.FnExactTable", spec := "fnExactTable", unfollowed := true, recurses := true, plainKeys := false, apart := false }
def FnExactTableSaid : Prop := fnExactTableRow.holds Try.pinned (OpenSpec.ofChange fnExactTableSpec)

/-- ITS FALSE NEIGHBOUR: 'it returns false'. Refute it at one input. -/
def fnExactTableWrong : ChangeSpec := { name := "fnExactTable", fn := fun _ => fun
  | [d] => { results := [.lit (.bool false)], args := [d] }
  | _ => none }
def FnExactTableWrongFalsely : Prop := fnExactTableRow.holds Try.pinned (OpenSpec.ofChange fnExactTableWrong)

/-- 'laws.FnExactStabiliser': WHATEVER THE INPUT: true; the input reads as it did. -/
def fnExactStabiliserSpec : ChangeSpec := { name := "fnExactStabiliser", fn := fun _ => fun
  | [d1, d2] => { results := [.lit (.bool true)], args := [d1, d2] }
  | _ => none }
def fnExactStabiliserRow : OpenClaim := { program := "ytmjeplhigjlopaa", sum := "0431026e78fe17519c56d7f726c7232319ad0ae172acfbc6d25c6cfd774c77d8", func := "loop.example/g00055/laws.FnExactStabiliser", spec := "fnExactStabiliser", unfollowed := true, recurses := true, plainKeys := false, apart := false }
def FnExactStabiliserSaid : Prop := fnExactStabiliserRow.holds Try.pinned (OpenSpec.ofChange fnExactStabiliserSpec)

/-- ITS FALSE NEIGHBOUR: 'it returns false'. Refute it at one input. -/
def fnExactStabiliserWrong : ChangeSpec := { name := "fnExactStabiliser", fn := fun _ => fun
  | [d1, d2] => { results := [.lit (.bool false)], args := [d1, d2] }
  | _ => none }
def FnExactStabiliserWrongFalsely : Prop := fnExactStabiliserRow.holds Try.pinned (OpenSpec.ofChange fnExactStabiliserWrong)

/-- 'laws.FnExactExtinct': WHATEVER THE INPUT: true; the input reads as it did. -/
def fnExactExtinctSpec : ChangeSpec := { name := "fnExactExtinct", fn := fun _ => fun
  | [d1, d2] => { results := [.lit (.bool true)], args := [d1, d2] }
  | _ => none }
def fnExactExtinctRow : OpenClaim := { program := "ytmjeplhigjlopaa", sum := "0431026e78fe17519c56d7f726c7232319ad0ae172acfbc6d25c6cfd774c77d8", func := "loop.example/g00055/laws.FnExactExtinct", spec := "fnExactExtinct", unfollowed := true, recurses := true, plainKeys := false, apart := false }
def FnExactExtinctSaid : Prop := fnExactExtinctRow.holds Try.pinned (OpenSpec.ofChange fnExactExtinctSpec)

/-- ITS FALSE NEIGHBOUR: 'it returns false'. Refute it at one input. -/
def fnExactExtinctWrong : ChangeSpec := { name := "fnExactExtinct", fn := fun _ => fun
  | [d1, d2] => { results := [.lit (.bool false)], args := [d1, d2] }
  | _ => none }
def FnExactExtinctWrongFalsely : Prop := fnExactExtinctRow.holds Try.pinned (OpenSpec.ofChange fnExactExtinctWrong)

/- THE SECOND FORM. 'bulk': how many values and letters a reading holds, each counted each time it is reached (what is shared counts as often as it is met; a slice's spare places count too). A statement '..UptoSaid' is the law's where the arguments, and the package variables that the reading takes, are together of bulk at most 1048576: NARROWER than '..Said'. Prove '..Said' where nothing that the law and all that it calls make is longer than what came in: it says more and counts as full. Else prove '..UptoSaid'. A law counts once. -/
mutual
def uptoBulk {H : Type} : DataW H → Nat
  | .lit (.string bytes) => bytes.length + 1
  | .lit _ => 1
  | .nil => 1
  | .ptr d => uptoBulk d + 1
  | .slice elems spare => uptoBulkAll elems + uptoBulkAll spare + 1
  | .agg parts => uptoBulkAll parts + 1
  | .iface _ d => uptoBulk d + 1
  | .map entries => uptoBulkEntries entries + 1
  | .held _ => 1
def uptoBulkAll {H : Type} : List (DataW H) → Nat
  | [] => 0
  | d :: r => uptoBulk d + uptoBulkAll r
def uptoBulkEntries {H : Type} : List (Lit × DataW H) → Nat
  | [] => 0
  | x :: r => uptoBulkEntry x + uptoBulkEntries r
def uptoBulkEntry {H : Type} : Lit × DataW H → Nat
  | (.string bytes, d) => bytes.length + uptoBulk d + 1
  | (_, d) => uptoBulk d + 1
 end
def uptoSmall : (H : Type) → List (DataW H) → Bool := fun _ ds => decide (uptoBulkAll ds ≤ 1048576)
def OpenSpec.upto (s : _root_.Go.ChangeSpec) : _root_.Go.OpenSpec := { _root_.Go.OpenSpec.ofChange s with cond := some uptoSmall }

/-- 'laws.FnExactClose', WHERE WHAT IT READS IS OF BULK AT MOST 1048576: true; the input reads as it did. -/
def fnExactCloseUptoRow : OpenClaim := { program := "ytmjeplhigjlopaa", sum := "0431026e78fe17519c56d7f726c7232319ad0ae172acfbc6d25c6cfd774c77d8", func := "loop.example/g00055/laws.FnExactClose", spec := "fnExactClose", unfollowed := true, recurses := true, plainKeys := false, apart := false, narrowed := true }
def FnExactCloseUptoSaid : Prop := fnExactCloseUptoRow.holds Try.pinned (OpenSpec.upto fnExactCloseSpec)

/-- 'laws.FnExactPointGroup', WHERE WHAT IT READS IS OF BULK AT MOST 1048576: true; the input reads as it did. -/
def fnExactPointGroupUptoRow : OpenClaim := { program := "ytmjeplhigjlopaa", sum := "0431026e78fe17519c56d7f726c7232319ad0ae172acfbc6d25c6cfd774c77d8", func := "loop.example/g00055/laws.FnExactPointGroup", spec := "fnExactPointGroup", unfollowed := true, recurses := true, plainKeys := false, apart := false, narrowed := true }
def FnExactPointGroupUptoSaid : Prop := fnExactPointGroupUptoRow.holds Try.pinned (OpenSpec.upto fnExactPointGroupSpec)

/-- 'laws.FnExactTurned', WHERE WHAT IT READS IS OF BULK AT MOST 1048576: true; the input reads as it did. -/
def fnExactTurnedUptoRow : OpenClaim := { program := "ytmjeplhigjlopaa", sum := "0431026e78fe17519c56d7f726c7232319ad0ae172acfbc6d25c6cfd774c77d8", func := "loop.example/g00055/laws.FnExactTurned", spec := "fnExactTurned", unfollowed := true, recurses := true, plainKeys := false, apart := false, narrowed := true }
def FnExactTurnedUptoSaid : Prop := fnExactTurnedUptoRow.holds Try.pinned (OpenSpec.upto fnExactTurnedSpec)

/-- 'laws.FnExactTable', WHERE WHAT IT READS IS OF BULK AT MOST 1048576: true; the input reads as it did. -/
def fnExactTableUptoRow : OpenClaim := { program := "ytmjeplhigjlopaa", sum := "0431026e78fe17519c56d7f726c7232319ad0ae172acfbc6d25c6cfd774c77d8", func := "loop.example/g00055/laws.FnExactTable", spec := "fnExactTable", unfollowed := true, recurses := true, plainKeys := false, apart := false, narrowed := true }
def FnExactTableUptoSaid : Prop := fnExactTableUptoRow.holds Try.pinned (OpenSpec.upto fnExactTableSpec)

/-- 'laws.FnExactStabiliser', WHERE WHAT IT READS IS OF BULK AT MOST 1048576: true; the input reads as it did. -/
def fnExactStabiliserUptoRow : OpenClaim := { program := "ytmjeplhigjlopaa", sum := "0431026e78fe17519c56d7f726c7232319ad0ae172acfbc6d25c6cfd774c77d8", func := "loop.example/g00055/laws.FnExactStabiliser", spec := "fnExactStabiliser", unfollowed := true, recurses := true, plainKeys := false, apart := false, narrowed := true }
def FnExactStabiliserUptoSaid : Prop := fnExactStabiliserUptoRow.holds Try.pinned (OpenSpec.upto fnExactStabiliserSpec)

/-- 'laws.FnExactExtinct', WHERE WHAT IT READS IS OF BULK AT MOST 1048576: true; the input reads as it did. -/
def fnExactExtinctUptoRow : OpenClaim := { program := "ytmjeplhigjlopaa", sum := "0431026e78fe17519c56d7f726c7232319ad0ae172acfbc6d25c6cfd774c77d8", func := "loop.example/g00055/laws.FnExactExtinct", spec := "fnExactExtinct", unfollowed := true, recurses := true, plainKeys := false, apart := false, narrowed := true }
def FnExactExtinctUptoSaid : Prop := fnExactExtinctUptoRow.holds Try.pinned (OpenSpec.upto fnExactExtinctSpec)

end Rows
end Go.Proofs.Ytmjeplhigjlopaa
