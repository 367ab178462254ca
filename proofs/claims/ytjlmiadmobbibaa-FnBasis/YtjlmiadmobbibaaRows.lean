/-
  No cell of these rows narrows 'for every input' (looked for: loops, veiled, ifaces, maps, wideKeys, modest, calm, conditions, laid).
  DERIVED. THE GIVEN ROWS OF THIS SEAT. 4 by the template 'for every input the law returns true; each argument reads behind the call as it read before'; 0 by the template 'total and deterministic' (their statements: YtjlmiadmobbibaaTotals.lean).
  GIVEN WITH THE SEED: the statements are not yours to turn. If you find one false, say at which input.
  Laid BY PROGRAM, IN A SANDBOX (cutbox-rows.mjs): the forced cells as the released guide's own fill.sh prints them over the translation 8019d0e85cb73396… (all of the seat's roots in one cut). By AI agents, Wed Nov 11 2026. No macro, syntax, notation, axiom, sorry.
-/
import Derived.Test.YtjlmiadmobbibaaChecked
import GoSem.Claim
import GoSem.ClaimJoined
import GoSem.ClaimMapViews
import Derived.JoinedTies
import Derived.KernelRfl
namespace Go.Proofs.Ytjlmiadmobbibaa
/- THE CELL 'sum', in the pinned program and in every row, IS THE sha256 OF THE DUMP (.gsa) THAT YtjlmiadmobbibaaProg.lean LOADS. Nothing in Lean hashes anything: it is a label: what it is worth is what the hold of that sum in a sandbox is worth. -/
noncomputable def Try.pinned : Pinned := { name := "ytjlmiadmobbibaa", sum := "8019d0e85cb73396fb947ba84a009b9e8b174c3918544530716cfde07df09189", checked := Try.checked }
namespace Rows
def none {H : Type} : Left H := { results := [], args := [] }

/-- 'laws.FnBasis': WHATEVER THE INPUT: true; the input reads as it did. -/
def fnBasisSpec : ChangeSpec := { name := "fnBasis", fn := fun _ => fun
  | [d] => { results := [.lit (.bool true)], args := [d] }
  | _ => none }
def fnBasisRow : OpenClaim := { program := "ytjlmiadmobbibaa", sum := "8019d0e85cb73396fb947ba84a009b9e8b174c3918544530716cfde07df09189", func := "loop.example/g00055/laws.FnBasis", spec := "fnBasis", unfollowed := true, recurses := true, apart := false }
def FnBasisSaid : Prop := fnBasisRow.holds Try.pinned (OpenSpec.ofChange fnBasisSpec)

/-- ITS FALSE NEIGHBOUR: 'it returns false'. Refute it at one input. -/
def fnBasisWrong : ChangeSpec := { name := "fnBasis", fn := fun _ => fun
  | [d] => { results := [.lit (.bool false)], args := [d] }
  | _ => none }
def FnBasisWrongFalsely : Prop := fnBasisRow.holds Try.pinned (OpenSpec.ofChange fnBasisWrong)

/-- 'laws.FnExactIndexed': WHATEVER THE INPUT: true; the input reads as it did. -/
def fnExactIndexedSpec : ChangeSpec := { name := "fnExactIndexed", fn := fun _ => fun
  | [d1, d2] => { results := [.lit (.bool true)], args := [d1, d2] }
  | _ => none }
def fnExactIndexedRow : OpenClaim := { program := "ytjlmiadmobbibaa", sum := "8019d0e85cb73396fb947ba84a009b9e8b174c3918544530716cfde07df09189", func := "loop.example/g00055/laws.FnExactIndexed", spec := "fnExactIndexed", apart := false }
def FnExactIndexedSaid : Prop := fnExactIndexedRow.holds Try.pinned (OpenSpec.ofChange fnExactIndexedSpec)

/-- ITS FALSE NEIGHBOUR: 'it returns false'. Refute it at one input. -/
def fnExactIndexedWrong : ChangeSpec := { name := "fnExactIndexed", fn := fun _ => fun
  | [d1, d2] => { results := [.lit (.bool false)], args := [d1, d2] }
  | _ => none }
def FnExactIndexedWrongFalsely : Prop := fnExactIndexedRow.holds Try.pinned (OpenSpec.ofChange fnExactIndexedWrong)

/-- 'laws.FnExactFindBasis': WHATEVER THE INPUT: true; the input reads as it did. -/
def fnExactFindBasisSpec : ChangeSpec := { name := "fnExactFindBasis", fn := fun _ => fun
  | [d] => { results := [.lit (.bool true)], args := [d] }
  | _ => none }
def fnExactFindBasisRow : OpenClaim := { program := "ytjlmiadmobbibaa", sum := "8019d0e85cb73396fb947ba84a009b9e8b174c3918544530716cfde07df09189", func := "loop.example/g00055/laws.FnExactFindBasis", spec := "fnExactFindBasis", unfollowed := true, recurses := true, apart := false }
def FnExactFindBasisSaid : Prop := fnExactFindBasisRow.holds Try.pinned (OpenSpec.ofChange fnExactFindBasisSpec)

/-- ITS FALSE NEIGHBOUR: 'it returns false'. Refute it at one input. -/
def fnExactFindBasisWrong : ChangeSpec := { name := "fnExactFindBasis", fn := fun _ => fun
  | [d] => { results := [.lit (.bool false)], args := [d] }
  | _ => none }
def FnExactFindBasisWrongFalsely : Prop := fnExactFindBasisRow.holds Try.pinned (OpenSpec.ofChange fnExactFindBasisWrong)

/-- 'laws.FnExactVotes': WHATEVER THE INPUT: true; the input reads as it did. -/
def fnExactVotesSpec : ChangeSpec := { name := "fnExactVotes", fn := fun _ => fun
  | [d] => { results := [.lit (.bool true)], args := [d] }
  | _ => none }
def fnExactVotesRow : OpenClaim := { program := "ytjlmiadmobbibaa", sum := "8019d0e85cb73396fb947ba84a009b9e8b174c3918544530716cfde07df09189", func := "loop.example/g00055/laws.FnExactVotes", spec := "fnExactVotes", unfollowed := true, recurses := true, apart := false }
def FnExactVotesSaid : Prop := fnExactVotesRow.holds Try.pinned (OpenSpec.ofChange fnExactVotesSpec)

/-- ITS FALSE NEIGHBOUR: 'it returns false'. Refute it at one input. -/
def fnExactVotesWrong : ChangeSpec := { name := "fnExactVotes", fn := fun _ => fun
  | [d] => { results := [.lit (.bool false)], args := [d] }
  | _ => none }
def FnExactVotesWrongFalsely : Prop := fnExactVotesRow.holds Try.pinned (OpenSpec.ofChange fnExactVotesWrong)

/- THE SECOND FORM. 'bulk': how many values and letters a reading holds, each counted each time it is reached (what is shared counts as often as it is met; a slice's spare places count too). A statement '..UptoSaid' is the law's where the arguments, and the package variables that the reading takes, are together of bulk at most 1048576: NARROWER than '..Said'. Prove '..Said' where nothing that the law and all that it calls make is longer than what came in: it says more and counts as full. Else prove '..UptoSaid'. A law counts once. -/
mutual
def uptoBulk {H : Type} : DataW H → Nat
  | .lit (.string bytes) => bytes.length + 1
  | .lit _ => 1
  | .nil => 1
  | .ptr d => uptoBulk d + 1
  | .slice elems spare => uptoBulkAll elems + uptoBulkAll spare + 1
  | .agg parts => uptoBulkAll parts + 1
  | .iface _ d => uptoBulk d + 1
  | .map entries => uptoBulkEntries entries + 1
  | .held _ => 1
def uptoBulkAll {H : Type} : List (DataW H) → Nat
  | [] => 0
  | d :: r => uptoBulk d + uptoBulkAll r
def uptoBulkEntries {H : Type} : List (Lit × DataW H) → Nat
  | [] => 0
  | x :: r => uptoBulkEntry x + uptoBulkEntries r
def uptoBulkEntry {H : Type} : Lit × DataW H → Nat
  | (.string bytes, d) => bytes.length + uptoBulk d + 1
  | (_, d) => uptoBulk d + 1
 end
def uptoSmall : (H : Type) → List (DataW H) → Bool := fun _ ds => decide (uptoBulkAll ds ≤ 1048576)
def OpenSpec.upto (s : _root_.Go.ChangeSpec) : _root_.Go.OpenSpec := { _root_.Go.OpenSpec.ofChange s with cond := some uptoSmall }

/-- 'laws.FnBasis', WHERE WHAT IT READS IS OF BULK AT MOST 1048576: true; the input reads as it did. -/
def fnBasisUptoRow : OpenClaim := { program := "ytjlmiadmobbibaa", sum := "8019d0e85cb73396fb947ba84a009b9e8b174c3918544530716cfde07df09189", func := "loop.example/g00055/laws.FnBasis", spec := "fnBasis", unfollowed := true, recurses := true, apart := false, narrowed := true }
def FnBasisUptoSaid : Prop := fnBasisUptoRow.holds Try.pinned (OpenSpec.upto fnBasisSpec)

/-- 'laws.FnExactIndexed', WHERE WHAT IT READS IS OF BULK AT MOST 1048576: true; the input reads as it did. -/
def fnExactIndexedUptoRow : OpenClaim := { program := "ytjlmiadmobbibaa", sum := "8019d0e85cb73396fb947ba84a009b9e8b174c3918544530716cfde07df09189", func := "loop.example/g00055/laws.FnExactIndexed", spec := "fnExactIndexed", apart := false, narrowed := true }
def FnExactIndexedUptoSaid : Prop := fnExactIndexedUptoRow.holds Try.pinned (OpenSpec.upto fnExactIndexedSpec)

/-- 'laws.FnExactFindBasis', WHERE WHAT IT READS IS OF BULK AT MOST 1048576: true; the input reads as it did. -/
def fnExactFindBasisUptoRow : OpenClaim := { program := "ytjlmiadmobbibaa", sum := "8019d0e85cb73396fb947ba84a009b9e8b174c3918544530716cfde07df09189", func := "loop.example/g00055/laws.FnExactFindBasis", spec := "fnExactFindBasis", unfollowed := true, recurses := true, apart := false, narrowed := true }
def FnExactFindBasisUptoSaid : Prop := fnExactFindBasisUptoRow.holds Try.pinned (OpenSpec.upto fnExactFindBasisSpec)

/-- 'laws.FnExactVotes', WHERE WHAT IT READS IS OF BULK AT MOST 1048576: true; the input reads as it did. -/
def fnExactVotesUptoRow : OpenClaim := { program := "ytjlmiadmobbibaa", sum := "8019d0e85cb73396fb947ba84a009b9e8b174c3918544530716cfde07df09189", func := "loop.example/g00055/laws.FnExactVotes", spec := "fnExactVotes", unfollowed := true, recurses := true, apart := false, narrowed := true }
def FnExactVotesUptoSaid : Prop := fnExactVotesUptoRow.holds Try.pinned (OpenSpec.upto fnExactVotesSpec)

end Rows
end Go.Proofs.Ytjlmiadmobbibaa
