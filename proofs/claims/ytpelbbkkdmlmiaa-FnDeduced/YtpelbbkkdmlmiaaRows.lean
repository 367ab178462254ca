/-
  No cell of these rows narrows 'for every input' (looked for: loops, veiled, ifaces, maps, wideKeys, modest, calm, conditions, laid).
  DERIVED. THE GIVEN ROWS OF THIS SEAT. 5 by the template 'for every input the law returns true; each argument reads behind the call as it read before'; 0 by the template 'total and deterministic' (their statements: YtpelbbkkdmlmiaaTotals.lean).
  GIVEN WITH THE SEED: the statements are not yours to turn. If you find one false, say at which input.
  Laid BY PROGRAM, IN A SANDBOX (cutbox-rows.mjs): the forced cells as the released guide's own fill.sh prints them over the translation 71a0fb6ddb37aef6… (all of the seat's roots in one cut). By AI agents, Wed Nov 11 2026. No macro, syntax, notation, axiom, sorry.
-/
import Derived.Test.YtpelbbkkdmlmiaaChecked
import GoSem.Claim
import GoSem.ClaimJoined
import GoSem.ClaimMapViews
import Derived.JoinedTies
import Derived.KernelRfl
namespace Go.Proofs.Ytpelbbkkdmlmiaa
/- THE CELL 'sum', in the pinned program and in every row, IS THE sha256 OF THE DUMP (.gsa) THAT YtpelbbkkdmlmiaaProg.lean LOADS. Nothing in Lean hashes anything: it is a label: what it is worth is what the hold of that sum in a sandbox is worth. -/
noncomputable def Try.pinned : Pinned := { name := "ytpelbbkkdmlmiaa", sum := "71a0fb6ddb37aef6360065f49fd962984ea87bc2e551d4405f4018f5e03109aa", checked := Try.checked }
namespace Rows
def none {H : Type} : Left H := { results := [], args := [] }

/-- 'laws.FnExactTriplet': WHATEVER THE INPUT: true; the input reads as it did. -/
def fnExactTripletSpec : ChangeSpec := { name := "fnExactTriplet", fn := fun _ => fun
  | [d] => { results := [.lit (.bool true)], args := [d] }
  | _ => none }
def fnExactTripletRow : OpenClaim := { program := "ytpelbbkkdmlmiaa", sum := "71a0fb6ddb37aef6360065f49fd962984ea87bc2e551d4405f4018f5e03109aa", func := "loop.example/g00055/laws.FnExactTriplet", spec := "fnExactTriplet", unfollowed := true, recurses := true, apart := false }
def FnExactTripletSaid : Prop := fnExactTripletRow.holds Try.pinned (OpenSpec.ofChange fnExactTripletSpec)

/-- ITS FALSE NEIGHBOUR: 'it returns false'. Refute it at one input. -/
def fnExactTripletWrong : ChangeSpec := { name := "fnExactTriplet", fn := fun _ => fun
  | [d] => { results := [.lit (.bool false)], args := [d] }
  | _ => none }
def FnExactTripletWrongFalsely : Prop := fnExactTripletRow.holds Try.pinned (OpenSpec.ofChange fnExactTripletWrong)

/-- 'laws.FnExactDeduce': WHATEVER THE INPUT: true; the input reads as it did. -/
def fnExactDeduceSpec : ChangeSpec := { name := "fnExactDeduce", fn := fun _ => fun
  | [d1, d2, d3] => { results := [.lit (.bool true)], args := [d1, d2, d3] }
  | _ => none }
def fnExactDeduceRow : OpenClaim := { program := "ytpelbbkkdmlmiaa", sum := "71a0fb6ddb37aef6360065f49fd962984ea87bc2e551d4405f4018f5e03109aa", func := "loop.example/g00055/laws.FnExactDeduce", spec := "fnExactDeduce", unfollowed := true, recurses := true, apart := false }
def FnExactDeduceSaid : Prop := fnExactDeduceRow.holds Try.pinned (OpenSpec.ofChange fnExactDeduceSpec)

/-- ITS FALSE NEIGHBOUR: 'it returns false'. Refute it at one input. -/
def fnExactDeduceWrong : ChangeSpec := { name := "fnExactDeduce", fn := fun _ => fun
  | [d1, d2, d3] => { results := [.lit (.bool false)], args := [d1, d2, d3] }
  | _ => none }
def FnExactDeduceWrongFalsely : Prop := fnExactDeduceRow.holds Try.pinned (OpenSpec.ofChange fnExactDeduceWrong)

/-- 'laws.FnExactTapeOk': WHATEVER THE INPUT: true; the input reads as it did. -/
def fnExactTapeOkSpec : ChangeSpec := { name := "fnExactTapeOk", fn := fun _ => fun
  | [d1, d2] => { results := [.lit (.bool true)], args := [d1, d2] }
  | _ => none }
def fnExactTapeOkRow : OpenClaim := { program := "ytpelbbkkdmlmiaa", sum := "71a0fb6ddb37aef6360065f49fd962984ea87bc2e551d4405f4018f5e03109aa", func := "loop.example/g00055/laws.FnExactTapeOk", spec := "fnExactTapeOk", apart := false }
def FnExactTapeOkSaid : Prop := fnExactTapeOkRow.holds Try.pinned (OpenSpec.ofChange fnExactTapeOkSpec)

/-- ITS FALSE NEIGHBOUR: 'it returns false'. Refute it at one input. -/
def fnExactTapeOkWrong : ChangeSpec := { name := "fnExactTapeOk", fn := fun _ => fun
  | [d1, d2] => { results := [.lit (.bool false)], args := [d1, d2] }
  | _ => none }
def FnExactTapeOkWrongFalsely : Prop := fnExactTapeOkRow.holds Try.pinned (OpenSpec.ofChange fnExactTapeOkWrong)

/-- 'laws.FnExactCertain': WHATEVER THE INPUT: true; the input reads as it did. -/
def fnExactCertainSpec : ChangeSpec := { name := "fnExactCertain", fn := fun _ => fun
  | [d1, d2, d3, d4, d5] => { results := [.lit (.bool true)], args := [d1, d2, d3, d4, d5] }
  | _ => none }
def fnExactCertainRow : OpenClaim := { program := "ytpelbbkkdmlmiaa", sum := "71a0fb6ddb37aef6360065f49fd962984ea87bc2e551d4405f4018f5e03109aa", func := "loop.example/g00055/laws.FnExactCertain", spec := "fnExactCertain", apart := false }
def FnExactCertainSaid : Prop := fnExactCertainRow.holds Try.pinned (OpenSpec.ofChange fnExactCertainSpec)

/-- ITS FALSE NEIGHBOUR: 'it returns false'. Refute it at one input. -/
def fnExactCertainWrong : ChangeSpec := { name := "fnExactCertain", fn := fun _ => fun
  | [d1, d2, d3, d4, d5] => { results := [.lit (.bool false)], args := [d1, d2, d3, d4, d5] }
  | _ => none }
def FnExactCertainWrongFalsely : Prop := fnExactCertainRow.holds Try.pinned (OpenSpec.ofChange fnExactCertainWrong)

/-- 'laws.FnDeduced': WHATEVER THE INPUT: true; the input reads as it did. -/
def fnDeducedSpec : ChangeSpec := { name := "fnDeduced", fn := fun _ => fun
  | [d] => { results := [.lit (.bool true)], args := [d] }
  | _ => none }
def fnDeducedRow : OpenClaim := { program := "ytpelbbkkdmlmiaa", sum := "71a0fb6ddb37aef6360065f49fd962984ea87bc2e551d4405f4018f5e03109aa", func := "loop.example/g00055/laws.FnDeduced", spec := "fnDeduced", unfollowed := true, recurses := true, apart := false }
def FnDeducedSaid : Prop := fnDeducedRow.holds Try.pinned (OpenSpec.ofChange fnDeducedSpec)

/-- ITS FALSE NEIGHBOUR: 'it returns false'. Refute it at one input. -/
def fnDeducedWrong : ChangeSpec := { name := "fnDeduced", fn := fun _ => fun
  | [d] => { results := [.lit (.bool false)], args := [d] }
  | _ => none }
def FnDeducedWrongFalsely : Prop := fnDeducedRow.holds Try.pinned (OpenSpec.ofChange fnDeducedWrong)

/- THE SECOND FORM. 'bulk': how many values and letters a reading holds, each counted each time it is reached (what is shared counts as often as it is met; a slice's spare places count too). A statement '..UptoSaid' is the law's where the arguments, and the package variables that the reading takes, are together of bulk at most 1048576: NARROWER than '..Said'. Prove '..Said' where nothing that the law and all that it calls make is longer than what came in: it says more and counts as full. Else prove '..UptoSaid'. A law counts once. -/
mutual
def uptoBulk {H : Type} : DataW H → Nat
  | .lit (.string bytes) => bytes.length + 1
  | .lit _ => 1
  | .nil => 1
  | .ptr d => uptoBulk d + 1
  | .slice elems spare => uptoBulkAll elems + uptoBulkAll spare + 1
  | .agg parts => uptoBulkAll parts + 1
  | .iface _ d => uptoBulk d + 1
  | .map entries => uptoBulkEntries entries + 1
  | .held _ => 1
def uptoBulkAll {H : Type} : List (DataW H) → Nat
  | [] => 0
  | d :: r => uptoBulk d + uptoBulkAll r
def uptoBulkEntries {H : Type} : List (Lit × DataW H) → Nat
  | [] => 0
  | x :: r => uptoBulkEntry x + uptoBulkEntries r
def uptoBulkEntry {H : Type} : Lit × DataW H → Nat
  | (.string bytes, d) => bytes.length + uptoBulk d + 1
  | (_, d) => uptoBulk d + 1
 end
def uptoSmall : (H : Type) → List (DataW H) → Bool := fun _ ds => decide (uptoBulkAll ds ≤ 1048576)
def OpenSpec.upto (s : _root_.Go.ChangeSpec) : _root_.Go.OpenSpec := { _root_.Go.OpenSpec.ofChange s with cond := some uptoSmall }

/-- 'laws.FnExactTriplet', WHERE WHAT IT READS IS OF BULK AT MOST 1048576: true; the input reads as it did. -/
def fnExactTripletUptoRow : OpenClaim := { program := "ytpelbbkkdmlmiaa", sum := "71a0fb6ddb37aef6360065f49fd962984ea87bc2e551d4405f4018f5e03109aa", func := "loop.example/g00055/laws.FnExactTriplet", spec := "fnExactTriplet", unfollowed := true, recurses := true, apart := false, narrowed := true }
def FnExactTripletUptoSaid : Prop := fnExactTripletUptoRow.holds Try.pinned (OpenSpec.upto fnExactTripletSpec)

/-- 'laws.FnExactDeduce', WHERE WHAT IT READS IS OF BULK AT MOST 1048576: true; the input reads as it did. -/
def fnExactDeduceUptoRow : OpenClaim := { program := "ytpelbbkkdmlmiaa", sum := "71a0fb6ddb37aef6360065f49fd962984ea87bc2e551d4405f4018f5e03109aa", func := "loop.example/g00055/laws.FnExactDeduce", spec := "fnExactDeduce", unfollowed := true, recurses := true, apart := false, narrowed := true }
def FnExactDeduceUptoSaid : Prop := fnExactDeduceUptoRow.holds Try.pinned (OpenSpec.upto fnExactDeduceSpec)

/-- 'laws.FnExactTapeOk', WHERE WHAT IT READS IS OF BULK AT MOST 1048576: true; the input reads as it did. -/
def fnExactTapeOkUptoRow : OpenClaim := { program := "ytpelbbkkdmlmiaa", sum := "71a0fb6ddb37aef6360065f49fd962984ea87bc2e551d4405f4018f5e03109aa", func := "loop.example/g00055/laws.FnExactTapeOk", spec := "fnExactTapeOk", apart := false, narrowed := true }
def FnExactTapeOkUptoSaid : Prop := fnExactTapeOkUptoRow.holds Try.pinned (OpenSpec.upto fnExactTapeOkSpec)

/-- 'laws.FnExactCertain', WHERE WHAT IT READS IS OF BULK AT MOST 1048576: true; the input reads as it did. -/
def fnExactCertainUptoRow : OpenClaim := { program := "ytpelbbkkdmlmiaa", sum := "71a0fb6ddb37aef6360065f49fd962984ea87bc2e551d4405f4018f5e03109aa", func := "loop.example/g00055/laws.FnExactCertain", spec := "fnExactCertain", apart := false, narrowed := true }
def FnExactCertainUptoSaid : Prop := fnExactCertainUptoRow.holds Try.pinned (OpenSpec.upto fnExactCertainSpec)

/-- 'laws.FnDeduced', WHERE WHAT IT READS IS OF BULK AT MOST 1048576: true; the input reads as it did. -/
def fnDeducedUptoRow : OpenClaim := { program := "ytpelbbkkdmlmiaa", sum := "71a0fb6ddb37aef6360065f49fd962984ea87bc2e551d4405f4018f5e03109aa", func := "loop.example/g00055/laws.FnDeduced", spec := "fnDeduced", unfollowed := true, recurses := true, apart := false, narrowed := true }
def FnDeducedUptoSaid : Prop := fnDeducedUptoRow.holds Try.pinned (OpenSpec.upto fnDeducedSpec)

end Rows
end Go.Proofs.Ytpelbbkkdmlmiaa
