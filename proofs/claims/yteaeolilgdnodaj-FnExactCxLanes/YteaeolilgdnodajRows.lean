/-
  No cell of these rows narrows 'for every input' (looked for: loops, veiled, ifaces, maps, wideKeys, modest, calm, conditions, laid).
  DERIVED. THE GIVEN ROWS OF THIS SEAT. 6 by the template 'for every input the law returns true; each argument reads behind the call as it read before'; 0 by the template 'total and deterministic' (their statements: YteaeolilgdnodajTotals.lean).
  GIVEN WITH THE SEED: the statements are not yours to turn. If you find one false, say at which input.
  Laid BY PROGRAM, IN A SANDBOX (cutbox-rows.mjs): the forced cells as the released guide's own fill.sh prints them over the translation 088dc349ceb0add0… (all of the seat's roots in one cut). By AI agents, Wed Nov 11 2026. No macro, syntax, notation, axiom, sorry.
-/
import Derived.Test.YteaeolilgdnodajChecked
import GoSem.Claim
import GoSem.ClaimJoined
import GoSem.ClaimMapViews
import Derived.JoinedTies
import Derived.KernelRfl
namespace Go.Proofs.Yteaeolilgdnodaj
/- THE CELL 'sum', in the pinned program and in every row, IS THE sha256 OF THE DUMP (.gsa) THAT YteaeolilgdnodajProg.lean LOADS. Nothing in Lean hashes anything: it is a label: what it is worth is what the hold of that sum in a sandbox is worth. -/
noncomputable def Try.pinned : Pinned := { name := "yteaeolilgdnodaj", sum := "088dc349ceb0add01c01346fbe9a79e3c06dc0b256a58a730dfab50483eee4ac", checked := Try.checked }
namespace Rows
def none {H : Type} : Left H := { results := [], args := [] }

/-- 'laws.FnExactCxOrder': WHATEVER THE INPUT: true; the input reads as it did. -/
def fnExactCxOrderSpec : ChangeSpec := { name := "fnExactCxOrder", fn := fun _ => fun
  | [d1, d2] => { results := [.lit (.bool true)], args := [d1, d2] }
  | _ => none }
def fnExactCxOrderRow : OpenClaim := { program := "yteaeolilgdnodaj", sum := "088dc349ceb0add01c01346fbe9a79e3c06dc0b256a58a730dfab50483eee4ac", func := "loop.example/g00055/laws.FnExactCxOrder", spec := "fnExactCxOrder", inPlace := ["math.Float64bits"], apart := false }
def FnExactCxOrderSaid : Prop := fnExactCxOrderRow.holds Try.pinned (OpenSpec.ofChange fnExactCxOrderSpec)

/-- ITS FALSE NEIGHBOUR: 'it returns false'. Refute it at one input. -/
def fnExactCxOrderWrong : ChangeSpec := { name := "fnExactCxOrder", fn := fun _ => fun
  | [d1, d2] => { results := [.lit (.bool false)], args := [d1, d2] }
  | _ => none }
def FnExactCxOrderWrongFalsely : Prop := fnExactCxOrderRow.holds Try.pinned (OpenSpec.ofChange fnExactCxOrderWrong)

/-- 'laws.FnExactCxLanes': WHATEVER THE INPUT: true; the input reads as it did. -/
def fnExactCxLanesSpec : ChangeSpec := { name := "fnExactCxLanes", fn := fun _ => fun
  | [d] => { results := [.lit (.bool true)], args := [d] }
  | _ => none }
def fnExactCxLanesRow : OpenClaim := { program := "yteaeolilgdnodaj", sum := "088dc349ceb0add01c01346fbe9a79e3c06dc0b256a58a730dfab50483eee4ac", func := "loop.example/g00055/laws.FnExactCxLanes", spec := "fnExactCxLanes", apart := false }
def FnExactCxLanesSaid : Prop := fnExactCxLanesRow.holds Try.pinned (OpenSpec.ofChange fnExactCxLanesSpec)

/-- ITS FALSE NEIGHBOUR: 'it returns false'. Refute it at one input. -/
def fnExactCxLanesWrong : ChangeSpec := { name := "fnExactCxLanes", fn := fun _ => fun
  | [d] => { results := [.lit (.bool false)], args := [d] }
  | _ => none }
def FnExactCxLanesWrongFalsely : Prop := fnExactCxLanesRow.holds Try.pinned (OpenSpec.ofChange fnExactCxLanesWrong)

/-- 'laws.FnExactNarrow': WHATEVER THE INPUT: true; the input reads as it did. -/
def fnExactNarrowSpec : ChangeSpec := { name := "fnExactNarrow", fn := fun _ => fun
  | [d] => { results := [.lit (.bool true)], args := [d] }
  | _ => none }
def fnExactNarrowRow : OpenClaim := { program := "yteaeolilgdnodaj", sum := "088dc349ceb0add01c01346fbe9a79e3c06dc0b256a58a730dfab50483eee4ac", func := "loop.example/g00055/laws.FnExactNarrow", spec := "fnExactNarrow", apart := false }
def FnExactNarrowSaid : Prop := fnExactNarrowRow.holds Try.pinned (OpenSpec.ofChange fnExactNarrowSpec)

/-- ITS FALSE NEIGHBOUR: 'it returns false'. Refute it at one input. -/
def fnExactNarrowWrong : ChangeSpec := { name := "fnExactNarrow", fn := fun _ => fun
  | [d] => { results := [.lit (.bool false)], args := [d] }
  | _ => none }
def FnExactNarrowWrongFalsely : Prop := fnExactNarrowRow.holds Try.pinned (OpenSpec.ofChange fnExactNarrowWrong)

/-- 'laws.FnExactWiden': WHATEVER THE INPUT: true; the input reads as it did. -/
def fnExactWidenSpec : ChangeSpec := { name := "fnExactWiden", fn := fun _ => fun
  | [d] => { results := [.lit (.bool true)], args := [d] }
  | _ => none }
def fnExactWidenRow : OpenClaim := { program := "yteaeolilgdnodaj", sum := "088dc349ceb0add01c01346fbe9a79e3c06dc0b256a58a730dfab50483eee4ac", func := "loop.example/g00055/laws.FnExactWiden", spec := "fnExactWiden", apart := false }
def FnExactWidenSaid : Prop := fnExactWidenRow.holds Try.pinned (OpenSpec.ofChange fnExactWidenSpec)

/-- ITS FALSE NEIGHBOUR: 'it returns false'. Refute it at one input. -/
def fnExactWidenWrong : ChangeSpec := { name := "fnExactWiden", fn := fun _ => fun
  | [d] => { results := [.lit (.bool false)], args := [d] }
  | _ => none }
def FnExactWidenWrongFalsely : Prop := fnExactWidenRow.holds Try.pinned (OpenSpec.ofChange fnExactWidenWrong)

/-- 'laws.FnExactNarrowRow': WHATEVER THE INPUT: true; the input reads as it did. -/
def fnExactNarrowRowSpec : ChangeSpec := { name := "fnExactNarrowRow", fn := fun _ => fun
  | [d1, d2] => { results := [.lit (.bool true)], args := [d1, d2] }
  | _ => none }
def fnExactNarrowRowRow : OpenClaim := { program := "yteaeolilgdnodaj", sum := "088dc349ceb0add01c01346fbe9a79e3c06dc0b256a58a730dfab50483eee4ac", func := "loop.example/g00055/laws.FnExactNarrowRow", spec := "fnExactNarrowRow", apart := false }
def FnExactNarrowRowSaid : Prop := fnExactNarrowRowRow.holds Try.pinned (OpenSpec.ofChange fnExactNarrowRowSpec)

/-- ITS FALSE NEIGHBOUR: 'it returns false'. Refute it at one input. -/
def fnExactNarrowRowWrong : ChangeSpec := { name := "fnExactNarrowRow", fn := fun _ => fun
  | [d1, d2] => { results := [.lit (.bool false)], args := [d1, d2] }
  | _ => none }
def FnExactNarrowRowWrongFalsely : Prop := fnExactNarrowRowRow.holds Try.pinned (OpenSpec.ofChange fnExactNarrowRowWrong)

/-- 'laws.FnExactDet': WHATEVER THE INPUT: true; the input reads as it did. -/
def fnExactDetSpec : ChangeSpec := { name := "fnExactDet", fn := fun _ => fun
  | [d] => { results := [.lit (.bool true)], args := [d] }
  | _ => none }
def fnExactDetRow : OpenClaim := { program := "yteaeolilgdnodaj", sum := "088dc349ceb0add01c01346fbe9a79e3c06dc0b256a58a730dfab50483eee4ac", func := "loop.example/g00055/laws.FnExactDet", spec := "fnExactDet", apart := false }
def FnExactDetSaid : Prop := fnExactDetRow.holds Try.pinned (OpenSpec.ofChange fnExactDetSpec)

/-- ITS FALSE NEIGHBOUR: 'it returns false'. Refute it at one input. -/
def fnExactDetWrong : ChangeSpec := { name := "fnExactDet", fn := fun _ => fun
  | [d] => { results := [.lit (.bool false)], args := [d] }
  | _ => none }
def FnExactDetWrongFalsely : Prop := fnExactDetRow.holds Try.pinned (OpenSpec.ofChange fnExactDetWrong)

/- THE SECOND FORM. 'bulk': how many values and letters a reading holds, each counted each time it is reached (what is shared counts as often as it is met; a slice's spare places count too). A statement '..UptoSaid' is the law's where the arguments, and the package variables that the reading takes, are together of bulk at most 1048576: NARROWER than '..Said'. Prove '..Said' where nothing that the law and all that it calls make is longer than what came in: it says more and counts as full. Else prove '..UptoSaid'. A law counts once. -/
mutual
def uptoBulk {H : Type} : DataW H → Nat
  | .lit (.string bytes) => bytes.length + 1
  | .lit _ => 1
  | .nil => 1
  | .ptr d => uptoBulk d + 1
  | .slice elems spare => uptoBulkAll elems + uptoBulkAll spare + 1
  | .agg parts => uptoBulkAll parts + 1
  | .iface _ d => uptoBulk d + 1
  | .map entries => uptoBulkEntries entries + 1
  | .held _ => 1
def uptoBulkAll {H : Type} : List (DataW H) → Nat
  | [] => 0
  | d :: r => uptoBulk d + uptoBulkAll r
def uptoBulkEntries {H : Type} : List (Lit × DataW H) → Nat
  | [] => 0
  | x :: r => uptoBulkEntry x + uptoBulkEntries r
def uptoBulkEntry {H : Type} : Lit × DataW H → Nat
  | (.string bytes, d) => bytes.length + uptoBulk d + 1
  | (_, d) => uptoBulk d + 1
 end
def uptoSmall : (H : Type) → List (DataW H) → Bool := fun _ ds => decide (uptoBulkAll ds ≤ 1048576)
def OpenSpec.upto (s : _root_.Go.ChangeSpec) : _root_.Go.OpenSpec := { _root_.Go.OpenSpec.ofChange s with cond := some uptoSmall }

/-- 'laws.FnExactCxOrder', WHERE WHAT IT READS IS OF BULK AT MOST 1048576: true; the input reads as it did. -/
def fnExactCxOrderUptoRow : OpenClaim := { program := "yteaeolilgdnodaj", sum := "088dc349ceb0add01c01346fbe9a79e3c06dc0b256a58a730dfab50483eee4ac", func := "loop.example/g00055/laws.FnExactCxOrder", spec := "fnExactCxOrder", inPlace := ["math.Float64bits"], apart := false, narrowed := true }
def FnExactCxOrderUptoSaid : Prop := fnExactCxOrderUptoRow.holds Try.pinned (OpenSpec.upto fnExactCxOrderSpec)

/-- 'laws.FnExactCxLanes', WHERE WHAT IT READS IS OF BULK AT MOST 1048576: true; the input reads as it did. -/
def fnExactCxLanesUptoRow : OpenClaim := { program := "yteaeolilgdnodaj", sum := "088dc349ceb0add01c01346fbe9a79e3c06dc0b256a58a730dfab50483eee4ac", func := "loop.example/g00055/laws.FnExactCxLanes", spec := "fnExactCxLanes", apart := false, narrowed := true }
def FnExactCxLanesUptoSaid : Prop := fnExactCxLanesUptoRow.holds Try.pinned (OpenSpec.upto fnExactCxLanesSpec)

/-- 'laws.FnExactNarrow', WHERE WHAT IT READS IS OF BULK AT MOST 1048576: true; the input reads as it did. -/
def fnExactNarrowUptoRow : OpenClaim := { program := "yteaeolilgdnodaj", sum := "088dc349ceb0add01c01346fbe9a79e3c06dc0b256a58a730dfab50483eee4ac", func := "loop.example/g00055/laws.FnExactNarrow", spec := "fnExactNarrow", apart := false, narrowed := true }
def FnExactNarrowUptoSaid : Prop := fnExactNarrowUptoRow.holds Try.pinned (OpenSpec.upto fnExactNarrowSpec)

/-- 'laws.FnExactWiden', WHERE WHAT IT READS IS OF BULK AT MOST 1048576: true; the input reads as it did. -/
def fnExactWidenUptoRow : OpenClaim := { program := "yteaeolilgdnodaj", sum := "088dc349ceb0add01c01346fbe9a79e3c06dc0b256a58a730dfab50483eee4ac", func := "loop.example/g00055/laws.FnExactWiden", spec := "fnExactWiden", apart := false, narrowed := true }
def FnExactWidenUptoSaid : Prop := fnExactWidenUptoRow.holds Try.pinned (OpenSpec.upto fnExactWidenSpec)

/-- 'laws.FnExactNarrowRow', WHERE WHAT IT READS IS OF BULK AT MOST 1048576: true; the input reads as it did. -/
def fnExactNarrowRowUptoRow : OpenClaim := { program := "yteaeolilgdnodaj", sum := "088dc349ceb0add01c01346fbe9a79e3c06dc0b256a58a730dfab50483eee4ac", func := "loop.example/g00055/laws.FnExactNarrowRow", spec := "fnExactNarrowRow", apart := false, narrowed := true }
def FnExactNarrowRowUptoSaid : Prop := fnExactNarrowRowUptoRow.holds Try.pinned (OpenSpec.upto fnExactNarrowRowSpec)

/-- 'laws.FnExactDet', WHERE WHAT IT READS IS OF BULK AT MOST 1048576: true; the input reads as it did. -/
def fnExactDetUptoRow : OpenClaim := { program := "yteaeolilgdnodaj", sum := "088dc349ceb0add01c01346fbe9a79e3c06dc0b256a58a730dfab50483eee4ac", func := "loop.example/g00055/laws.FnExactDet", spec := "fnExactDet", apart := false, narrowed := true }
def FnExactDetUptoSaid : Prop := fnExactDetUptoRow.holds Try.pinned (OpenSpec.upto fnExactDetSpec)

end Rows
end Go.Proofs.Yteaeolilgdnodaj
