/-
  No cell of these rows narrows 'for every input' (looked for: loops, veiled, ifaces, maps, wideKeys, modest, calm, conditions, laid).
  DERIVED. THE GIVEN ROWS OF THIS SEAT. 4 by the template 'for every input the law returns true; each argument reads behind the call as it read before'; 0 by the template 'total and deterministic' (their statements: YtehbpcoiciodhaaGreatTotals.lean).
  GIVEN WITH THE SEED: the statements are not yours to turn. If you find one false, say at which input.
  Laid BY PROGRAM, IN A SANDBOX (cutbox-rows.mjs): the forced cells as the released guide's own fill.sh prints them over the translation ab52b7087e0cea3d… (all of the seat's roots in one cut). By AI agents, Wed Nov 11 2026. No macro, syntax, notation, axiom, sorry.
-/
import Derived.Test.YtehbpcoiciodhaaGreatChecked
import GoSem.Claim
import GoSem.ClaimJoined
import GoSem.ClaimMapViews
import Derived.JoinedTies
import Derived.KernelRfl
namespace Go.Proofs.YtehbpcoiciodhaaGreat
/- THE CELL 'sum', in the pinned program and in every row, IS THE sha256 OF THE DUMP (.gsa) THAT YtehbpcoiciodhaaGreatProg.lean LOADS. Nothing in Lean hashes anything: it is a label: what it is worth is what the hold of that sum in a sandbox is worth. -/
noncomputable def Tryz.pinned : Pinned := { name := "ytehbpcoiciodhaagreat", sum := "ab52b7087e0cea3d7e384c88d702b8299848c6cd55d837429245bf954b7dc4ac", checked := Tryz.checked }
namespace Rows
def none {H : Type} : Left H := { results := [], args := [] }

/-- 'laws.FnExactOrbit': WHATEVER THE INPUT: true; the input reads as it did. -/
def fnExactOrbitSpec : ChangeSpec := { name := "fnExactOrbit", fn := fun _ => fun
  | [d1, d2] => { results := [.lit (.bool true)], args := [d1, d2] }
  | _ => none }
def fnExactOrbitRow : OpenClaim := { program := "ytehbpcoiciodhaagreat", sum := "ab52b7087e0cea3d7e384c88d702b8299848c6cd55d837429245bf954b7dc4ac", func := "loop.example/g00055/laws.FnExactOrbit", spec := "fnExactOrbit", unfollowed := true, recurses := true, plainKeys := false, apart := false }
def FnExactOrbitSaid : Prop := fnExactOrbitRow.holds Tryz.pinned (OpenSpec.ofChange fnExactOrbitSpec)

/-- ITS FALSE NEIGHBOUR: 'it returns false'. Refute it at one input. -/
def fnExactOrbitWrong : ChangeSpec := { name := "fnExactOrbit", fn := fun _ => fun
  | [d1, d2] => { results := [.lit (.bool false)], args := [d1, d2] }
  | _ => none }
def FnExactOrbitWrongFalsely : Prop := fnExactOrbitRow.holds Tryz.pinned (OpenSpec.ofChange fnExactOrbitWrong)

/-- 'laws.FnExactAsymmetric': WHATEVER THE INPUT: true; the input reads as it did. -/
def fnExactAsymmetricSpec : ChangeSpec := { name := "fnExactAsymmetric", fn := fun _ => fun
  | [d1, d2] => { results := [.lit (.bool true)], args := [d1, d2] }
  | _ => none }
def fnExactAsymmetricRow : OpenClaim := { program := "ytehbpcoiciodhaagreat", sum := "ab52b7087e0cea3d7e384c88d702b8299848c6cd55d837429245bf954b7dc4ac", func := "loop.example/g00055/laws.FnExactAsymmetric", spec := "fnExactAsymmetric", unfollowed := true, recurses := true, plainKeys := false, apart := false }
def FnExactAsymmetricSaid : Prop := fnExactAsymmetricRow.holds Tryz.pinned (OpenSpec.ofChange fnExactAsymmetricSpec)

/-- ITS FALSE NEIGHBOUR: 'it returns false'. Refute it at one input. -/
def fnExactAsymmetricWrong : ChangeSpec := { name := "fnExactAsymmetric", fn := fun _ => fun
  | [d1, d2] => { results := [.lit (.bool false)], args := [d1, d2] }
  | _ => none }
def FnExactAsymmetricWrongFalsely : Prop := fnExactAsymmetricRow.holds Tryz.pinned (OpenSpec.ofChange fnExactAsymmetricWrong)

/-- 'laws.FnExactUnique': WHATEVER THE INPUT: true; the input reads as it did. -/
def fnExactUniqueSpec : ChangeSpec := { name := "fnExactUnique", fn := fun _ => fun
  | [d1, d2] => { results := [.lit (.bool true)], args := [d1, d2] }
  | _ => none }
def fnExactUniqueRow : OpenClaim := { program := "ytehbpcoiciodhaagreat", sum := "ab52b7087e0cea3d7e384c88d702b8299848c6cd55d837429245bf954b7dc4ac", func := "loop.example/g00055/laws.FnExactUnique", spec := "fnExactUnique", unfollowed := true, recurses := true, plainKeys := false, apart := false }
def FnExactUniqueSaid : Prop := fnExactUniqueRow.holds Tryz.pinned (OpenSpec.ofChange fnExactUniqueSpec)

/-- ITS FALSE NEIGHBOUR: 'it returns false'. Refute it at one input. -/
def fnExactUniqueWrong : ChangeSpec := { name := "fnExactUnique", fn := fun _ => fun
  | [d1, d2] => { results := [.lit (.bool false)], args := [d1, d2] }
  | _ => none }
def FnExactUniqueWrongFalsely : Prop := fnExactUniqueRow.holds Tryz.pinned (OpenSpec.ofChange fnExactUniqueWrong)

/-- 'laws.FnExactKinds': WHATEVER THE INPUT: true; the input reads as it did. -/
def fnExactKindsSpec : ChangeSpec := { name := "fnExactKinds", fn := fun _ => fun
  | [d] => { results := [.lit (.bool true)], args := [d] }
  | _ => none }
def fnExactKindsRow : OpenClaim := { program := "ytehbpcoiciodhaagreat", sum := "ab52b7087e0cea3d7e384c88d702b8299848c6cd55d837429245bf954b7dc4ac", func := "loop.example/g00055/laws.FnExactKinds", spec := "fnExactKinds", unfollowed := true, recurses := true, plainKeys := false, apart := false }
def FnExactKindsSaid : Prop := fnExactKindsRow.holds Tryz.pinned (OpenSpec.ofChange fnExactKindsSpec)

/-- ITS FALSE NEIGHBOUR: 'it returns false'. Refute it at one input. -/
def fnExactKindsWrong : ChangeSpec := { name := "fnExactKinds", fn := fun _ => fun
  | [d] => { results := [.lit (.bool false)], args := [d] }
  | _ => none }
def FnExactKindsWrongFalsely : Prop := fnExactKindsRow.holds Tryz.pinned (OpenSpec.ofChange fnExactKindsWrong)

/- THE SECOND FORM. 'bulk': how many values and letters a reading holds, each counted each time it is reached (what is shared counts as often as it is met; a slice's spare places count too). A statement '..UptoSaid' is the law's where the arguments, and the package variables that the reading takes, are together of bulk at most 1048576: NARROWER than '..Said'. Prove '..Said' where nothing that the law and all that it calls make is longer than what came in: it says more and counts as full. Else prove '..UptoSaid'. A law counts once. -/
mutual
def uptoBulk {H : Type} : DataW H → Nat
  | .lit (.string bytes) => bytes.length + 1
  | .lit _ => 1
  | .nil => 1
  | .ptr d => uptoBulk d + 1
  | .slice elems spare => uptoBulkAll elems + uptoBulkAll spare + 1
  | .agg parts => uptoBulkAll parts + 1
  | .iface _ d => uptoBulk d + 1
  | .map entries => uptoBulkEntries entries + 1
  | .held _ => 1
def uptoBulkAll {H : Type} : List (DataW H) → Nat
  | [] => 0
  | d :: r => uptoBulk d + uptoBulkAll r
def uptoBulkEntries {H : Type} : List (Lit × DataW H) → Nat
  | [] => 0
  | x :: r => uptoBulkEntry x + uptoBulkEntries r
def uptoBulkEntry {H : Type} : Lit × DataW H → Nat
  | (.string bytes, d) => bytes.length + uptoBulk d + 1
  | (_, d) => uptoBulk d + 1
 end
def uptoSmall : (H : Type) → List (DataW H) → Bool := fun _ ds => decide (uptoBulkAll ds ≤ 1048576)
def OpenSpec.upto (s : _root_.Go.ChangeSpec) : _root_.Go.OpenSpec := { _root_.Go.OpenSpec.ofChange s with cond := some uptoSmall }

/-- 'laws.FnExactOrbit', WHERE WHAT IT READS IS OF BULK AT MOST 1048576: true; the input reads as it did. -/
def fnExactOrbitUptoRow : OpenClaim := { program := "ytehbpcoiciodhaagreat", sum := "ab52b7087e0cea3d7e384c88d702b8299848c6cd55d837429245bf954b7dc4ac", func := "loop.example/g00055/laws.FnExactOrbit", spec := "fnExactOrbit", unfollowed := true, recurses := true, plainKeys := false, apart := false, narrowed := true }
def FnExactOrbitUptoSaid : Prop := fnExactOrbitUptoRow.holds Tryz.pinned (OpenSpec.upto fnExactOrbitSpec)

/-- 'laws.FnExactAsymmetric', WHERE WHAT IT READS IS OF BULK AT MOST 1048576: true; the input reads as it did. -/
def fnExactAsymmetricUptoRow : OpenClaim := { program := "ytehbpcoiciodhaagreat", sum := "ab52b7087e0cea3d7e384c88d702b8299848c6cd55d837429245bf954b7dc4ac", func := "loop.example/g00055/laws.FnExactAsymmetric", spec := "fnExactAsymmetric", unfollowed := true, recurses := true, plainKeys := false, apart := false, narrowed := true }
def FnExactAsymmetricUptoSaid : Prop := fnExactAsymmetricUptoRow.holds Tryz.pinned (OpenSpec.upto fnExactAsymmetricSpec)

/-- 'laws.FnExactUnique', WHERE WHAT IT READS IS OF BULK AT MOST 1048576: true; the input reads as it did. -/
def fnExactUniqueUptoRow : OpenClaim := { program := "ytehbpcoiciodhaagreat", sum := "ab52b7087e0cea3d7e384c88d702b8299848c6cd55d837429245bf954b7dc4ac", func := "loop.example/g00055/laws.FnExactUnique", spec := "fnExactUnique", unfollowed := true, recurses := true, plainKeys := false, apart := false, narrowed := true }
def FnExactUniqueUptoSaid : Prop := fnExactUniqueUptoRow.holds Tryz.pinned (OpenSpec.upto fnExactUniqueSpec)

/-- 'laws.FnExactKinds', WHERE WHAT IT READS IS OF BULK AT MOST 1048576: true; the input reads as it did. -/
def fnExactKindsUptoRow : OpenClaim := { program := "ytehbpcoiciodhaagreat", sum := "ab52b7087e0cea3d7e384c88d702b8299848c6cd55d837429245bf954b7dc4ac", func := "loop.example/g00055/laws.FnExactKinds", spec := "fnExactKinds", unfollowed := true, recurses := true, plainKeys := false, apart := false, narrowed := true }
def FnExactKindsUptoSaid : Prop := fnExactKindsUptoRow.holds Tryz.pinned (OpenSpec.upto fnExactKindsSpec)

end Rows
end Go.Proofs.YtehbpcoiciodhaaGreat
