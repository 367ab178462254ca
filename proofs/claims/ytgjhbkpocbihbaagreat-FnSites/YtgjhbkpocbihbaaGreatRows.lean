/-
  No cell of these rows narrows 'for every input' (looked for: loops, veiled, ifaces, maps, wideKeys, modest, calm, conditions, laid).
  DERIVED. THE GIVEN ROWS OF THIS SEAT. 3 by the template 'for every input the law returns true; each argument reads behind the call as it read before'; 0 by the template 'total and deterministic' (their statements: YtgjhbkpocbihbaaGreatTotals.lean).
  GIVEN WITH THE SEED: the statements are not yours to turn. If you find one false, say at which input.
  Laid BY PROGRAM, IN A SANDBOX (cutbox-rows.mjs): the forced cells as the released guide's own fill.sh prints them over the translation 87d6c9abfa8b0dd6… (all of the seat's roots in one cut). By AI agents, Wed Nov 11 2026. No macro, syntax, notation, axiom, sorry.
-/
import Derived.Test.YtgjhbkpocbihbaaGreatChecked
import GoSem.Claim
import GoSem.ClaimJoined
import GoSem.ClaimMapViews
import Derived.JoinedTies
import Derived.KernelRfl
namespace Go.Proofs.YtgjhbkpocbihbaaGreat
/- THE CELL 'sum', in the pinned program and in every row, IS THE sha256 OF THE DUMP (.gsa) THAT YtgjhbkpocbihbaaGreatProg.lean LOADS. Nothing in Lean hashes anything: it is a label: what it is worth is what the hold of that sum in a sandbox is worth. -/
noncomputable def Tryz.pinned : Pinned := { name := "ytgjhbkpocbihbaagreat", sum := "87d6c9abfa8b0dd6935875b0ff973b752fed7a0311b6c616a7aa01eca89edcb7", checked := Tryz.checked }
namespace Rows
def none {H : Type} : Left H := { results := [], args := [] }

/-- 'laws.FnSites': WHATEVER THE INPUT: true; the input reads as it did. -/
def fnSitesSpec : ChangeSpec := { name := "fnSites", fn := fun _ => fun
  | [d] => { results := [.lit (.bool true)], args := [d] }
  | _ => none }
def fnSitesRow : OpenClaim := { program := "ytgjhbkpocbihbaagreat", sum := "87d6c9abfa8b0dd6935875b0ff973b752fed7a0311b6c616a7aa01eca89edcb7", func := "loop.example/g00055/laws.FnSites", spec := "fnSites", unfollowed := true, recurses := true, plainKeys := false, apart := false }
def FnSitesSaid : Prop := fnSitesRow.holds Tryz.pinned (OpenSpec.ofChange fnSitesSpec)

/-- ITS FALSE NEIGHBOUR: 'it returns false'. Refute it at one input. -/
def fnSitesWrong : ChangeSpec := { name := "fnSites", fn := fun _ => fun
  | [d] => { results := [.lit (.bool false)], args := [d] }
  | _ => none }
def FnSitesWrongFalsely : Prop := fnSitesRow.holds Tryz.pinned (OpenSpec.ofChange fnSitesWrong)

/-- 'laws.FnExactSites': WHATEVER THE INPUT: true; the input reads as it did. -/
def fnExactSitesSpec : ChangeSpec := { name := "fnExactSites", fn := fun _ => fun
  | [d] => { results := [.lit (.bool true)], args := [d] }
  | _ => none }
def fnExactSitesRow : OpenClaim := { program := "ytgjhbkpocbihbaagreat", sum := "87d6c9abfa8b0dd6935875b0ff973b752fed7a0311b6c616a7aa01eca89edcb7", func := "loop.example/g00055/laws.FnExactSites", spec := "fnExactSites", unfollowed := true, recurses := true, plainKeys := false, apart := false }
def FnExactSitesSaid : Prop := fnExactSitesRow.holds Tryz.pinned (OpenSpec.ofChange fnExactSitesSpec)

/-- ITS FALSE NEIGHBOUR: 'it returns false'. Refute it at one input. -/
def fnExactSitesWrong : ChangeSpec := { name := "fnExactSites", fn := fun _ => fun
  | [d] => { results := [.lit (.bool false)], args := [d] }
  | _ => none }
def FnExactSitesWrongFalsely : Prop := fnExactSitesRow.holds Tryz.pinned (OpenSpec.ofChange fnExactSitesWrong)

/-- 'laws.FnExactSpread': WHATEVER THE INPUT: true; the input reads as it did. -/
def fnExactSpreadSpec : ChangeSpec := { name := "fnExactSpread", fn := fun _ => fun
  | [d1, d2] => { results := [.lit (.bool true)], args := [d1, d2] }
  | _ => none }
def fnExactSpreadRow : OpenClaim := { program := "ytgjhbkpocbihbaagreat", sum := "87d6c9abfa8b0dd6935875b0ff973b752fed7a0311b6c616a7aa01eca89edcb7", func := "loop.example/g00055/laws.FnExactSpread", spec := "fnExactSpread", unfollowed := true, recurses := true, plainKeys := false, apart := false }
def FnExactSpreadSaid : Prop := fnExactSpreadRow.holds Tryz.pinned (OpenSpec.ofChange fnExactSpreadSpec)

/-- ITS FALSE NEIGHBOUR: 'it returns false'. Refute it at one input. -/
def fnExactSpreadWrong : ChangeSpec := { name := "fnExactSpread", fn := fun _ => fun
  | [d1, d2] => { results := [.lit (.bool false)], args := [d1, d2] }
  | _ => none }
def FnExactSpreadWrongFalsely : Prop := fnExactSpreadRow.holds Tryz.pinned (OpenSpec.ofChange fnExactSpreadWrong)

/- THE SECOND FORM. 'bulk': how many values and letters a reading holds, each counted each time it is reached (what is shared counts as often as it is met; a slice's spare places count too). A statement '..UptoSaid' is the law's where the arguments, and the package variables that the reading takes, are together of bulk at most 1048576: NARROWER than '..Said'. Prove '..Said' where nothing that the law and all that it calls make is longer than what came in: it says more and counts as full. Else prove '..UptoSaid'. A law counts once. -/
mutual
def uptoBulk {H : Type} : DataW H → Nat
  | .lit (.string bytes) => bytes.length + 1
  | .lit _ => 1
  | .nil => 1
  | .ptr d => uptoBulk d + 1
  | .slice elems spare => uptoBulkAll elems + uptoBulkAll spare + 1
  | .agg parts => uptoBulkAll parts + 1
  | .iface _ d => uptoBulk d + 1
  | .map entries => uptoBulkEntries entries + 1
  | .held _ => 1
def uptoBulkAll {H : Type} : List (DataW H) → Nat
  | [] => 0
  | d :: r => uptoBulk d + uptoBulkAll r
def uptoBulkEntries {H : Type} : List (Lit × DataW H) → Nat
  | [] => 0
  | x :: r => uptoBulkEntry x + uptoBulkEntries r
def uptoBulkEntry {H : Type} : Lit × DataW H → Nat
  | (.string bytes, d) => bytes.length + uptoBulk d + 1
  | (_, d) => uptoBulk d + 1
 end
def uptoSmall : (H : Type) → List (DataW H) → Bool := fun _ ds => decide (uptoBulkAll ds ≤ 1048576)
def OpenSpec.upto (s : _root_.Go.ChangeSpec) : _root_.Go.OpenSpec := { _root_.Go.OpenSpec.ofChange s with cond := some uptoSmall }

/-- 'laws.FnSites', WHERE WHAT IT READS IS OF BULK AT MOST 1048576: true; the input reads as it did. -/
def fnSitesUptoRow : OpenClaim := { program := "ytgjhbkpocbihbaagreat", sum := "87d6c9abfa8b0dd6935875b0ff973b752fed7a0311b6c616a7aa01eca89edcb7", func := "loop.example/g00055/laws.FnSites", spec := "fnSites", unfollowed := true, recurses := true, plainKeys := false, apart := false, narrowed := true }
def FnSitesUptoSaid : Prop := fnSitesUptoRow.holds Tryz.pinned (OpenSpec.upto fnSitesSpec)

/-- 'laws.FnExactSites', WHERE WHAT IT READS IS OF BULK AT MOST 1048576: true; the input reads as it did. -/
def fnExactSitesUptoRow : OpenClaim := { program := "ytgjhbkpocbihbaagreat", sum := "87d6c9abfa8b0dd6935875b0ff973b752fed7a0311b6c616a7aa01eca89edcb7", func := "loop.example/g00055/laws.FnExactSites", spec := "fnExactSites", unfollowed := true, recurses := true, plainKeys := false, apart := false, narrowed := true }
def FnExactSitesUptoSaid : Prop := fnExactSitesUptoRow.holds Tryz.pinned (OpenSpec.upto fnExactSitesSpec)

/-- 'laws.FnExactSpread', WHERE WHAT IT READS IS OF BULK AT MOST 1048576: true; the input reads as it did. -/
def fnExactSpreadUptoRow : OpenClaim := { program := "ytgjhbkpocbihbaagreat", sum := "87d6c9abfa8b0dd6935875b0ff973b752fed7a0311b6c616a7aa01eca89edcb7", func := "loop.example/g00055/laws.FnExactSpread", spec := "fnExactSpread", unfollowed := true, recurses := true, plainKeys := false, apart := false, narrowed := true }
def FnExactSpreadUptoSaid : Prop := fnExactSpreadUptoRow.holds Tryz.pinned (OpenSpec.upto fnExactSpreadSpec)

end Rows
end Go.Proofs.YtgjhbkpocbihbaaGreat
