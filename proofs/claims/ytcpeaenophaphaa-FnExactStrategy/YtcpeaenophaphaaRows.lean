/-
  No cell of these rows narrows 'for every input' (looked for: loops, veiled, ifaces, maps, wideKeys, modest, calm, conditions, laid).
  DERIVED. THE GIVEN ROWS OF THIS SEAT. 5 by the template 'for every input the law returns true; each argument reads behind the call as it read before'; 0 by the template 'total and deterministic' (their statements: YtcpeaenophaphaaTotals.lean).
  GIVEN WITH THE SEED: the statements are not yours to turn. If you find one false, say at which input.
  Laid BY PROGRAM, IN A SANDBOX (cutbox-rows.mjs): the forced cells as the released guide's own fill.sh prints them over the translation cabd1b83c52e4347… (all of the seat's roots in one cut). By AI agents, Wed Nov 11 2026. No macro, syntax, notation, axiom, sorry.
-/
import Derived.Test.YtcpeaenophaphaaChecked
import GoSem.Claim
import GoSem.ClaimJoined
import GoSem.ClaimMapViews
import Derived.JoinedTies
import Derived.KernelRfl
namespace Go.Proofs.Ytcpeaenophaphaa
/- THE CELL 'sum', in the pinned program and in every row, IS THE sha256 OF THE DUMP (.gsa) THAT YtcpeaenophaphaaProg.lean LOADS. Nothing in Lean hashes anything: it is a label: what it is worth is what the hold of that sum in a sandbox is worth. -/
noncomputable def Try.pinned : Pinned := { name := "ytcpeaenophaphaa", sum := "cabd1b83c52e4347821fd7bc6e84b3a4820aa926b679a6624006374297f05e3c", checked := Try.checked }
namespace Rows
def none {H : Type} : Left H := { results := [], args := [] }

/-- 'laws.FnStrategy': WHATEVER THE INPUT: true; the input reads as it did. -/
def fnStrategySpec : ChangeSpec := { name := "fnStrategy", fn := fun _ => fun
  | [d] => { results := [.lit (.bool true)], args := [d] }
  | _ => none }
def fnStrategyRow : OpenClaim := { program := "ytcpeaenophaphaa", sum := "cabd1b83c52e4347821fd7bc6e84b3a4820aa926b679a6624006374297f05e3c", func := "loop.example/g00055/laws.FnStrategy", spec := "fnStrategy", unfollowed := true, recurses := true, apart := false }
def FnStrategySaid : Prop := fnStrategyRow.holds Try.pinned (OpenSpec.ofChange fnStrategySpec)

/-- ITS FALSE NEIGHBOUR: 'it returns false'. Refute it at one input. -/
def fnStrategyWrong : ChangeSpec := { name := "fnStrategy", fn := fun _ => fun
  | [d] => { results := [.lit (.bool false)], args := [d] }
  | _ => none }
def FnStrategyWrongFalsely : Prop := fnStrategyRow.holds Try.pinned (OpenSpec.ofChange fnStrategyWrong)

/-- 'laws.FnExactStrategyOk': WHATEVER THE INPUT: true; the input reads as it did. -/
def fnExactStrategyOkSpec : ChangeSpec := { name := "fnExactStrategyOk", fn := fun _ => fun
  | [d1, d2] => { results := [.lit (.bool true)], args := [d1, d2] }
  | _ => none }
def fnExactStrategyOkRow : OpenClaim := { program := "ytcpeaenophaphaa", sum := "cabd1b83c52e4347821fd7bc6e84b3a4820aa926b679a6624006374297f05e3c", func := "loop.example/g00055/laws.FnExactStrategyOk", spec := "fnExactStrategyOk", apart := false }
def FnExactStrategyOkSaid : Prop := fnExactStrategyOkRow.holds Try.pinned (OpenSpec.ofChange fnExactStrategyOkSpec)

/-- ITS FALSE NEIGHBOUR: 'it returns false'. Refute it at one input. -/
def fnExactStrategyOkWrong : ChangeSpec := { name := "fnExactStrategyOk", fn := fun _ => fun
  | [d1, d2] => { results := [.lit (.bool false)], args := [d1, d2] }
  | _ => none }
def FnExactStrategyOkWrongFalsely : Prop := fnExactStrategyOkRow.holds Try.pinned (OpenSpec.ofChange fnExactStrategyOkWrong)

/-- 'laws.FnExactStrategy': WHATEVER THE INPUT: true; the input reads as it did. -/
def fnExactStrategySpec : ChangeSpec := { name := "fnExactStrategy", fn := fun _ => fun
  | [d] => { results := [.lit (.bool true)], args := [d] }
  | _ => none }
def fnExactStrategyRow : OpenClaim := { program := "ytcpeaenophaphaa", sum := "cabd1b83c52e4347821fd7bc6e84b3a4820aa926b679a6624006374297f05e3c", func := "loop.example/g00055/laws.FnExactStrategy", spec := "fnExactStrategy", unfollowed := true, recurses := true, apart := false }
def FnExactStrategySaid : Prop := fnExactStrategyRow.holds Try.pinned (OpenSpec.ofChange fnExactStrategySpec)

/-- ITS FALSE NEIGHBOUR: 'it returns false'. Refute it at one input. -/
def fnExactStrategyWrong : ChangeSpec := { name := "fnExactStrategy", fn := fun _ => fun
  | [d] => { results := [.lit (.bool false)], args := [d] }
  | _ => none }
def FnExactStrategyWrongFalsely : Prop := fnExactStrategyRow.holds Try.pinned (OpenSpec.ofChange fnExactStrategyWrong)

/-- 'laws.FnExactWitnessOk': WHATEVER THE INPUT: true; the input reads as it did. -/
def fnExactWitnessOkSpec : ChangeSpec := { name := "fnExactWitnessOk", fn := fun _ => fun
  | [d1, d2] => { results := [.lit (.bool true)], args := [d1, d2] }
  | _ => none }
def fnExactWitnessOkRow : OpenClaim := { program := "ytcpeaenophaphaa", sum := "cabd1b83c52e4347821fd7bc6e84b3a4820aa926b679a6624006374297f05e3c", func := "loop.example/g00055/laws.FnExactWitnessOk", spec := "fnExactWitnessOk", apart := false }
def FnExactWitnessOkSaid : Prop := fnExactWitnessOkRow.holds Try.pinned (OpenSpec.ofChange fnExactWitnessOkSpec)

/-- ITS FALSE NEIGHBOUR: 'it returns false'. Refute it at one input. -/
def fnExactWitnessOkWrong : ChangeSpec := { name := "fnExactWitnessOk", fn := fun _ => fun
  | [d1, d2] => { results := [.lit (.bool false)], args := [d1, d2] }
  | _ => none }
def FnExactWitnessOkWrongFalsely : Prop := fnExactWitnessOkRow.holds Try.pinned (OpenSpec.ofChange fnExactWitnessOkWrong)

/-- 'laws.FnExactWitness': WHATEVER THE INPUT: true; the input reads as it did. -/
def fnExactWitnessSpec : ChangeSpec := { name := "fnExactWitness", fn := fun _ => fun
  | [d] => { results := [.lit (.bool true)], args := [d] }
  | _ => none }
def fnExactWitnessRow : OpenClaim := { program := "ytcpeaenophaphaa", sum := "cabd1b83c52e4347821fd7bc6e84b3a4820aa926b679a6624006374297f05e3c", func := "loop.example/g00055/laws.FnExactWitness", spec := "fnExactWitness", apart := false }
def FnExactWitnessSaid : Prop := fnExactWitnessRow.holds Try.pinned (OpenSpec.ofChange fnExactWitnessSpec)

/-- ITS FALSE NEIGHBOUR: 'it returns false'. Refute it at one input. -/
def fnExactWitnessWrong : ChangeSpec := { name := "fnExactWitness", fn := fun _ => fun
  | [d] => { results := [.lit (.bool false)], args := [d] }
  | _ => none }
def FnExactWitnessWrongFalsely : Prop := fnExactWitnessRow.holds Try.pinned (OpenSpec.ofChange fnExactWitnessWrong)

/- THE SECOND FORM. 'bulk': how many values and letters a reading holds, each counted each time it is reached (what is shared counts as often as it is met; a slice's spare places count too). A statement '..UptoSaid' is the law's where the arguments, and the package variables that the reading takes, are together of bulk at most 1048576: NARROWER than '..Said'. Prove '..Said' where nothing that the law and all that it calls make is longer than what came in: it says more and counts as full. Else prove '..UptoSaid'. A law counts once. -/
mutual
def uptoBulk {H : Type} : DataW H → Nat
  | .lit (.string bytes) => bytes.length + 1
  | .lit _ => 1
  | .nil => 1
  | .ptr d => uptoBulk d + 1
  | .slice elems spare => uptoBulkAll elems + uptoBulkAll spare + 1
  | .agg parts => uptoBulkAll parts + 1
  | .iface _ d => uptoBulk d + 1
  | .map entries => uptoBulkEntries entries + 1
  | .held _ => 1
def uptoBulkAll {H : Type} : List (DataW H) → Nat
  | [] => 0
  | d :: r => uptoBulk d + uptoBulkAll r
def uptoBulkEntries {H : Type} : List (Lit × DataW H) → Nat
  | [] => 0
  | x :: r => uptoBulkEntry x + uptoBulkEntries r
def uptoBulkEntry {H : Type} : Lit × DataW H → Nat
  | (.string bytes, d) => bytes.length + uptoBulk d + 1
  | (_, d) => uptoBulk d + 1
 end
def uptoSmall : (H : Type) → List (DataW H) → Bool := fun _ ds => decide (uptoBulkAll ds ≤ 1048576)
def OpenSpec.upto (s : _root_.Go.ChangeSpec) : _root_.Go.OpenSpec := { _root_.Go.OpenSpec.ofChange s with cond := some uptoSmall }

/-- 'laws.FnStrategy', WHERE WHAT IT READS IS OF BULK AT MOST 1048576: true; the input reads as it did. -/
def fnStrategyUptoRow : OpenClaim := { program := "ytcpeaenophaphaa", sum := "cabd1b83c52e4347821fd7bc6e84b3a4820aa926b679a6624006374297f05e3c", func := "loop.example/g00055/laws.FnStrategy", spec := "fnStrategy", unfollowed := true, recurses := true, apart := false, narrowed := true }
def FnStrategyUptoSaid : Prop := fnStrategyUptoRow.holds Try.pinned (OpenSpec.upto fnStrategySpec)

/-- 'laws.FnExactStrategyOk', WHERE WHAT IT READS IS OF BULK AT MOST 1048576: true; the input reads as it did. -/
def fnExactStrategyOkUptoRow : OpenClaim := { program := "ytcpeaenophaphaa", sum := "cabd1b83c52e4347821fd7bc6e84b3a4820aa926b679a6624006374297f05e3c", func := "loop.example/g00055/laws.FnExactStrategyOk", spec := "fnExactStrategyOk", apart := false, narrowed := true }
def FnExactStrategyOkUptoSaid : Prop := fnExactStrategyOkUptoRow.holds Try.pinned (OpenSpec.upto fnExactStrategyOkSpec)

/-- 'laws.FnExactStrategy', WHERE WHAT IT READS IS OF BULK AT MOST 1048576: true; the input reads as it did. -/
def fnExactStrategyUptoRow : OpenClaim := { program := "ytcpeaenophaphaa", sum := "cabd1b83c52e4347821fd7bc6e84b3a4820aa926b679a6624006374297f05e3c", func := "loop.example/g00055/laws.FnExactStrategy", spec := "fnExactStrategy", unfollowed := true, recurses := true, apart := false, narrowed := true }
def FnExactStrategyUptoSaid : Prop := fnExactStrategyUptoRow.holds Try.pinned (OpenSpec.upto fnExactStrategySpec)

/-- 'laws.FnExactWitnessOk', WHERE WHAT IT READS IS OF BULK AT MOST 1048576: true; the input reads as it did. -/
def fnExactWitnessOkUptoRow : OpenClaim := { program := "ytcpeaenophaphaa", sum := "cabd1b83c52e4347821fd7bc6e84b3a4820aa926b679a6624006374297f05e3c", func := "loop.example/g00055/laws.FnExactWitnessOk", spec := "fnExactWitnessOk", apart := false, narrowed := true }
def FnExactWitnessOkUptoSaid : Prop := fnExactWitnessOkUptoRow.holds Try.pinned (OpenSpec.upto fnExactWitnessOkSpec)

/-- 'laws.FnExactWitness', WHERE WHAT IT READS IS OF BULK AT MOST 1048576: true; the input reads as it did. -/
def fnExactWitnessUptoRow : OpenClaim := { program := "ytcpeaenophaphaa", sum := "cabd1b83c52e4347821fd7bc6e84b3a4820aa926b679a6624006374297f05e3c", func := "loop.example/g00055/laws.FnExactWitness", spec := "fnExactWitness", apart := false, narrowed := true }
def FnExactWitnessUptoSaid : Prop := fnExactWitnessUptoRow.holds Try.pinned (OpenSpec.upto fnExactWitnessSpec)

end Rows
end Go.Proofs.Ytcpeaenophaphaa
