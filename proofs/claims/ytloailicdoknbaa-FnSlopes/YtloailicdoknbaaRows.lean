/-
  No cell of these rows narrows 'for every input' (looked for: loops, veiled, ifaces, maps, wideKeys, modest, calm, conditions, laid).
  DERIVED. THE GIVEN ROWS OF THIS SEAT. 6 by the template 'for every input the law returns true; each argument reads behind the call as it read before'; 0 by the template 'total and deterministic' (their statements: YtloailicdoknbaaTotals.lean).
  GIVEN WITH THE SEED: the statements are not yours to turn. If you find one false, say at which input.
  Laid BY PROGRAM, IN A SANDBOX (cutbox-rows.mjs): the forced cells as the released guide's own fill.sh prints them over the translation 5197af083a8b79ed… (all of the seat's roots in one cut). By AI agents, Wed Nov 11 2026. No macro, syntax, notation, axiom, sorry.
-/
import Derived.Test.YtloailicdoknbaaChecked
import GoSem.Claim
import GoSem.ClaimJoined
import GoSem.ClaimMapViews
import Derived.JoinedTies
import Derived.KernelRfl
namespace Go.Proofs.Ytloailicdoknbaa
/- THE CELL 'sum', in the pinned program and in every row, IS THE sha256 OF THE DUMP (.gsa) THAT YtloailicdoknbaaProg.lean LOADS. Nothing in Lean hashes anything: it is a label: what it is worth is what the hold of that sum in a sandbox is worth. -/
noncomputable def Try.pinned : Pinned := { name := "ytloailicdoknbaa", sum := "5197af083a8b79ed1770a3c7c40b9fac1984f8997e6fb2f1e2eec75c68c6a271", checked := Try.checked }
namespace Rows
def none {H : Type} : Left H := { results := [], args := [] }

/-- 'laws.FnExactValue': WHATEVER THE INPUT: true; the input reads as it did. -/
def fnExactValueSpec : ChangeSpec := { name := "fnExactValue", fn := fun _ => fun
  | [d1, d2] => { results := [.lit (.bool true)], args := [d1, d2] }
  | _ => none }
def fnExactValueRow : OpenClaim := { program := "ytloailicdoknbaa", sum := "5197af083a8b79ed1770a3c7c40b9fac1984f8997e6fb2f1e2eec75c68c6a271", func := "loop.example/g00055/laws.FnExactValue", spec := "fnExactValue", unfollowed := true, recurses := true, apart := false }
def FnExactValueSaid : Prop := fnExactValueRow.holds Try.pinned (OpenSpec.ofChange fnExactValueSpec)

/-- ITS FALSE NEIGHBOUR: 'it returns false'. Refute it at one input. -/
def fnExactValueWrong : ChangeSpec := { name := "fnExactValue", fn := fun _ => fun
  | [d1, d2] => { results := [.lit (.bool false)], args := [d1, d2] }
  | _ => none }
def FnExactValueWrongFalsely : Prop := fnExactValueRow.holds Try.pinned (OpenSpec.ofChange fnExactValueWrong)

/-- 'laws.FnExactSlopeForward': WHATEVER THE INPUT: true; the input reads as it did. -/
def fnExactSlopeForwardSpec : ChangeSpec := { name := "fnExactSlopeForward", fn := fun _ => fun
  | [d1, d2, d3] => { results := [.lit (.bool true)], args := [d1, d2, d3] }
  | _ => none }
def fnExactSlopeForwardRow : OpenClaim := { program := "ytloailicdoknbaa", sum := "5197af083a8b79ed1770a3c7c40b9fac1984f8997e6fb2f1e2eec75c68c6a271", func := "loop.example/g00055/laws.FnExactSlopeForward", spec := "fnExactSlopeForward", unfollowed := true, recurses := true, apart := false }
def FnExactSlopeForwardSaid : Prop := fnExactSlopeForwardRow.holds Try.pinned (OpenSpec.ofChange fnExactSlopeForwardSpec)

/-- ITS FALSE NEIGHBOUR: 'it returns false'. Refute it at one input. -/
def fnExactSlopeForwardWrong : ChangeSpec := { name := "fnExactSlopeForward", fn := fun _ => fun
  | [d1, d2, d3] => { results := [.lit (.bool false)], args := [d1, d2, d3] }
  | _ => none }
def FnExactSlopeForwardWrongFalsely : Prop := fnExactSlopeForwardRow.holds Try.pinned (OpenSpec.ofChange fnExactSlopeForwardWrong)

/-- 'laws.FnExactSlopesBack': WHATEVER THE INPUT: true; the input reads as it did. -/
def fnExactSlopesBackSpec : ChangeSpec := { name := "fnExactSlopesBack", fn := fun _ => fun
  | [d1, d2] => { results := [.lit (.bool true)], args := [d1, d2] }
  | _ => none }
def fnExactSlopesBackRow : OpenClaim := { program := "ytloailicdoknbaa", sum := "5197af083a8b79ed1770a3c7c40b9fac1984f8997e6fb2f1e2eec75c68c6a271", func := "loop.example/g00055/laws.FnExactSlopesBack", spec := "fnExactSlopesBack", unfollowed := true, recurses := true, apart := false }
def FnExactSlopesBackSaid : Prop := fnExactSlopesBackRow.holds Try.pinned (OpenSpec.ofChange fnExactSlopesBackSpec)

/-- ITS FALSE NEIGHBOUR: 'it returns false'. Refute it at one input. -/
def fnExactSlopesBackWrong : ChangeSpec := { name := "fnExactSlopesBack", fn := fun _ => fun
  | [d1, d2] => { results := [.lit (.bool false)], args := [d1, d2] }
  | _ => none }
def FnExactSlopesBackWrongFalsely : Prop := fnExactSlopesBackRow.holds Try.pinned (OpenSpec.ofChange fnExactSlopesBackWrong)

/-- 'laws.FnExactDescent': WHATEVER THE INPUT: true; the input reads as it did. -/
def fnExactDescentSpec : ChangeSpec := { name := "fnExactDescent", fn := fun _ => fun
  | [d1, d2, d3] => { results := [.lit (.bool true)], args := [d1, d2, d3] }
  | _ => none }
def fnExactDescentRow : OpenClaim := { program := "ytloailicdoknbaa", sum := "5197af083a8b79ed1770a3c7c40b9fac1984f8997e6fb2f1e2eec75c68c6a271", func := "loop.example/g00055/laws.FnExactDescent", spec := "fnExactDescent", unfollowed := true, recurses := true, apart := false }
def FnExactDescentSaid : Prop := fnExactDescentRow.holds Try.pinned (OpenSpec.ofChange fnExactDescentSpec)

/-- ITS FALSE NEIGHBOUR: 'it returns false'. Refute it at one input. -/
def fnExactDescentWrong : ChangeSpec := { name := "fnExactDescent", fn := fun _ => fun
  | [d1, d2, d3] => { results := [.lit (.bool false)], args := [d1, d2, d3] }
  | _ => none }
def FnExactDescentWrongFalsely : Prop := fnExactDescentRow.holds Try.pinned (OpenSpec.ofChange fnExactDescentWrong)

/-- 'laws.FnSlopes': WHATEVER THE INPUT: true; the input reads as it did. -/
def fnSlopesSpec : ChangeSpec := { name := "fnSlopes", fn := fun _ => fun
  | [d] => { results := [.lit (.bool true)], args := [d] }
  | _ => none }
def fnSlopesRow : OpenClaim := { program := "ytloailicdoknbaa", sum := "5197af083a8b79ed1770a3c7c40b9fac1984f8997e6fb2f1e2eec75c68c6a271", func := "loop.example/g00055/laws.FnSlopes", spec := "fnSlopes", unfollowed := true, recurses := true, apart := false }
def FnSlopesSaid : Prop := fnSlopesRow.holds Try.pinned (OpenSpec.ofChange fnSlopesSpec)

/-- ITS FALSE NEIGHBOUR: 'it returns false'. Refute it at one input. -/
def fnSlopesWrong : ChangeSpec := { name := "fnSlopes", fn := fun _ => fun
  | [d] => { results := [.lit (.bool false)], args := [d] }
  | _ => none }
def FnSlopesWrongFalsely : Prop := fnSlopesRow.holds Try.pinned (OpenSpec.ofChange fnSlopesWrong)

/-- 'laws.FnDescends': WHATEVER THE INPUT: true; the input reads as it did. -/
def fnDescendsSpec : ChangeSpec := { name := "fnDescends", fn := fun _ => fun
  | [d] => { results := [.lit (.bool true)], args := [d] }
  | _ => none }
def fnDescendsRow : OpenClaim := { program := "ytloailicdoknbaa", sum := "5197af083a8b79ed1770a3c7c40b9fac1984f8997e6fb2f1e2eec75c68c6a271", func := "loop.example/g00055/laws.FnDescends", spec := "fnDescends", unfollowed := true, recurses := true, apart := false }
def FnDescendsSaid : Prop := fnDescendsRow.holds Try.pinned (OpenSpec.ofChange fnDescendsSpec)

/-- ITS FALSE NEIGHBOUR: 'it returns false'. Refute it at one input. -/
def fnDescendsWrong : ChangeSpec := { name := "fnDescends", fn := fun _ => fun
  | [d] => { results := [.lit (.bool false)], args := [d] }
  | _ => none }
def FnDescendsWrongFalsely : Prop := fnDescendsRow.holds Try.pinned (OpenSpec.ofChange fnDescendsWrong)

/- THE SECOND FORM. 'bulk': how many values and letters a reading holds, each counted each time it is reached (what is shared counts as often as it is met; a slice's spare places count too). A statement '..UptoSaid' is the law's where the arguments, and the package variables that the reading takes, are together of bulk at most 1048576: NARROWER than '..Said'. Prove '..Said' where nothing that the law and all that it calls make is longer than what came in: it says more and counts as full. Else prove '..UptoSaid'. A law counts once. -/
mutual
def uptoBulk {H : Type} : DataW H → Nat
  | .lit (.string bytes) => bytes.length + 1
  | .lit _ => 1
  | .nil => 1
  | .ptr d => uptoBulk d + 1
  | .slice elems spare => uptoBulkAll elems + uptoBulkAll spare + 1
  | .agg parts => uptoBulkAll parts + 1
  | .iface _ d => uptoBulk d + 1
  | .map entries => uptoBulkEntries entries + 1
  | .held _ => 1
def uptoBulkAll {H : Type} : List (DataW H) → Nat
  | [] => 0
  | d :: r => uptoBulk d + uptoBulkAll r
def uptoBulkEntries {H : Type} : List (Lit × DataW H) → Nat
  | [] => 0
  | x :: r => uptoBulkEntry x + uptoBulkEntries r
def uptoBulkEntry {H : Type} : Lit × DataW H → Nat
  | (.string bytes, d) => bytes.length + uptoBulk d + 1
  | (_, d) => uptoBulk d + 1
 end
def uptoSmall : (H : Type) → List (DataW H) → Bool := fun _ ds => decide (uptoBulkAll ds ≤ 1048576)
def OpenSpec.upto (s : _root_.Go.ChangeSpec) : _root_.Go.OpenSpec := { _root_.Go.OpenSpec.ofChange s with cond := some uptoSmall }

/-- 'laws.FnExactValue', WHERE WHAT IT READS IS OF BULK AT MOST 1048576: true; the input reads as it did. -/
def fnExactValueUptoRow : OpenClaim := { program := "ytloailicdoknbaa", sum := "5197af083a8b79ed1770a3c7c40b9fac1984f8997e6fb2f1e2eec75c68c6a271", func := "loop.example/g00055/laws.FnExactValue", spec := "fnExactValue", unfollowed := true, recurses := true, apart := false, narrowed := true }
def FnExactValueUptoSaid : Prop := fnExactValueUptoRow.holds Try.pinned (OpenSpec.upto fnExactValueSpec)

/-- 'laws.FnExactSlopeForward', WHERE WHAT IT READS IS OF BULK AT MOST 1048576: true; the input reads as it did. -/
def fnExactSlopeForwardUptoRow : OpenClaim := { program := "ytloailicdoknbaa", sum := "5197af083a8b79ed1770a3c7c40b9fac1984f8997e6fb2f1e2eec75c68c6a271", func := "loop.example/g00055/laws.FnExactSlopeForward", spec := "fnExactSlopeForward", unfollowed := true, recurses := true, apart := false, narrowed := true }
def FnExactSlopeForwardUptoSaid : Prop := fnExactSlopeForwardUptoRow.holds Try.pinned (OpenSpec.upto fnExactSlopeForwardSpec)

/-- 'laws.FnExactSlopesBack', WHERE WHAT IT READS IS OF BULK AT MOST 1048576: true; the input reads as it did. -/
def fnExactSlopesBackUptoRow : OpenClaim := { program := "ytloailicdoknbaa", sum := "5197af083a8b79ed1770a3c7c40b9fac1984f8997e6fb2f1e2eec75c68c6a271", func := "loop.example/g00055/laws.FnExactSlopesBack", spec := "fnExactSlopesBack", unfollowed := true, recurses := true, apart := false, narrowed := true }
def FnExactSlopesBackUptoSaid : Prop := fnExactSlopesBackUptoRow.holds Try.pinned (OpenSpec.upto fnExactSlopesBackSpec)

/-- 'laws.FnExactDescent', WHERE WHAT IT READS IS OF BULK AT MOST 1048576: true; the input reads as it did. -/
def fnExactDescentUptoRow : OpenClaim := { program := "ytloailicdoknbaa", sum := "5197af083a8b79ed1770a3c7c40b9fac1984f8997e6fb2f1e2eec75c68c6a271", func := "loop.example/g00055/laws.FnExactDescent", spec := "fnExactDescent", unfollowed := true, recurses := true, apart := false, narrowed := true }
def FnExactDescentUptoSaid : Prop := fnExactDescentUptoRow.holds Try.pinned (OpenSpec.upto fnExactDescentSpec)

/-- 'laws.FnSlopes', WHERE WHAT IT READS IS OF BULK AT MOST 1048576: true; the input reads as it did. -/
def fnSlopesUptoRow : OpenClaim := { program := "ytloailicdoknbaa", sum := "5197af083a8b79ed1770a3c7c40b9fac1984f8997e6fb2f1e2eec75c68c6a271", func := "loop.example/g00055/laws.FnSlopes", spec := "fnSlopes", unfollowed := true, recurses := true, apart := false, narrowed := true }
def FnSlopesUptoSaid : Prop := fnSlopesUptoRow.holds Try.pinned (OpenSpec.upto fnSlopesSpec)

/-- 'laws.FnDescends', WHERE WHAT IT READS IS OF BULK AT MOST 1048576: true; the input reads as it did. -/
def fnDescendsUptoRow : OpenClaim := { program := "ytloailicdoknbaa", sum := "5197af083a8b79ed1770a3c7c40b9fac1984f8997e6fb2f1e2eec75c68c6a271", func := "loop.example/g00055/laws.FnDescends", spec := "fnDescends", unfollowed := true, recurses := true, apart := false, narrowed := true }
def FnDescendsUptoSaid : Prop := fnDescendsUptoRow.holds Try.pinned (OpenSpec.upto fnDescendsSpec)

end Rows
end Go.Proofs.Ytloailicdoknbaa
