/-
  No cell of these rows narrows 'for every input' (looked for: loops, veiled, ifaces, maps, wideKeys, modest, calm, conditions, laid).
  DERIVED. THE GIVEN ROWS OF THIS SEAT. 4 by the template 'for every input the law returns true; each argument reads behind the call as it read before'; 0 by the template 'total and deterministic' (their statements: YtlofbgkefalpoaaTotals.lean).
  GIVEN WITH THE SEED: the statements are not yours to turn. If you find one false, say at which input.
  Laid BY PROGRAM, IN A SANDBOX (cutbox-rows.mjs): the forced cells as the released guide's own fill.sh prints them over the translation cc20a82bca860932… (all of the seat's roots in one cut). By AI agents, Wed Nov 11 2026. No macro, syntax, notation, axiom, sorry.
-/
import Derived.Test.YtlofbgkefalpoaaChecked
import GoSem.Claim
import GoSem.ClaimJoined
import GoSem.ClaimMapViews
import Derived.JoinedTies
import Derived.KernelRfl
namespace Go.Proofs.Ytlofbgkefalpoaa
/- THE CELL 'sum', in the pinned program and in every row, IS THE sha256 OF THE DUMP (.gsa) THAT YtlofbgkefalpoaaProg.lean LOADS. Nothing in Lean hashes anything: it is a label: what it is worth is what the hold of that sum in a sandbox is worth. -/
noncomputable def Try.pinned : Pinned := { name := "ytlofbgkefalpoaa", sum := "cc20a82bca8609324751add5d781a074dd55e54991472caff61fa4ef28bae80c", checked := Try.checked }
namespace Rows
def none {H : Type} : Left H := { results := [], args := [] }

/-- 'laws.FnFrames': WHATEVER THE INPUT: true; the input reads as it did. -/
def fnFramesSpec : ChangeSpec := { name := "fnFrames", fn := fun _ => fun
  | [d] => { results := [.lit (.bool true)], args := [d] }
  | _ => none }
def fnFramesRow : OpenClaim := { program := "ytlofbgkefalpoaa", sum := "cc20a82bca8609324751add5d781a074dd55e54991472caff61fa4ef28bae80c", func := "loop.example/g00055/laws.FnFrames", spec := "fnFrames", apart := false }
def FnFramesSaid : Prop := fnFramesRow.holds Try.pinned (OpenSpec.ofChange fnFramesSpec)

/-- ITS FALSE NEIGHBOUR: 'it returns false'. Refute it at one input. -/
def fnFramesWrong : ChangeSpec := { name := "fnFrames", fn := fun _ => fun
  | [d] => { results := [.lit (.bool false)], args := [d] }
  | _ => none }
def FnFramesWrongFalsely : Prop := fnFramesRow.holds Try.pinned (OpenSpec.ofChange fnFramesWrong)

/-- 'laws.FnExactFrameOk': WHATEVER THE INPUT: true; the input reads as it did. -/
def fnExactFrameOkSpec : ChangeSpec := { name := "fnExactFrameOk", fn := fun _ => fun
  | [d] => { results := [.lit (.bool true)], args := [d] }
  | _ => none }
def fnExactFrameOkRow : OpenClaim := { program := "ytlofbgkefalpoaa", sum := "cc20a82bca8609324751add5d781a074dd55e54991472caff61fa4ef28bae80c", func := "loop.example/g00055/laws.FnExactFrameOk", spec := "fnExactFrameOk", apart := false }
def FnExactFrameOkSaid : Prop := fnExactFrameOkRow.holds Try.pinned (OpenSpec.ofChange fnExactFrameOkSpec)

/-- ITS FALSE NEIGHBOUR: 'it returns false'. Refute it at one input. -/
def fnExactFrameOkWrong : ChangeSpec := { name := "fnExactFrameOk", fn := fun _ => fun
  | [d] => { results := [.lit (.bool false)], args := [d] }
  | _ => none }
def FnExactFrameOkWrongFalsely : Prop := fnExactFrameOkRow.holds Try.pinned (OpenSpec.ofChange fnExactFrameOkWrong)

/-- 'laws.FnExactAddFrames': WHATEVER THE INPUT: true; the input reads as it did. -/
def fnExactAddFramesSpec : ChangeSpec := { name := "fnExactAddFrames", fn := fun _ => fun
  | [d] => { results := [.lit (.bool true)], args := [d] }
  | _ => none }
def fnExactAddFramesRow : OpenClaim := { program := "ytlofbgkefalpoaa", sum := "cc20a82bca8609324751add5d781a074dd55e54991472caff61fa4ef28bae80c", func := "loop.example/g00055/laws.FnExactAddFrames", spec := "fnExactAddFrames", apart := false }
def FnExactAddFramesSaid : Prop := fnExactAddFramesRow.holds Try.pinned (OpenSpec.ofChange fnExactAddFramesSpec)

/-- ITS FALSE NEIGHBOUR: 'it returns false'. Refute it at one input. -/
def fnExactAddFramesWrong : ChangeSpec := { name := "fnExactAddFrames", fn := fun _ => fun
  | [d] => { results := [.lit (.bool false)], args := [d] }
  | _ => none }
def FnExactAddFramesWrongFalsely : Prop := fnExactAddFramesRow.holds Try.pinned (OpenSpec.ofChange fnExactAddFramesWrong)

/-- 'laws.FnExactMasked': WHATEVER THE INPUT: true; the input reads as it did. -/
def fnExactMaskedSpec : ChangeSpec := { name := "fnExactMasked", fn := fun _ => fun
  | [d1, d2] => { results := [.lit (.bool true)], args := [d1, d2] }
  | _ => none }
def fnExactMaskedRow : OpenClaim := { program := "ytlofbgkefalpoaa", sum := "cc20a82bca8609324751add5d781a074dd55e54991472caff61fa4ef28bae80c", func := "loop.example/g00055/laws.FnExactMasked", spec := "fnExactMasked", apart := false }
def FnExactMaskedSaid : Prop := fnExactMaskedRow.holds Try.pinned (OpenSpec.ofChange fnExactMaskedSpec)

/-- ITS FALSE NEIGHBOUR: 'it returns false'. Refute it at one input. -/
def fnExactMaskedWrong : ChangeSpec := { name := "fnExactMasked", fn := fun _ => fun
  | [d1, d2] => { results := [.lit (.bool false)], args := [d1, d2] }
  | _ => none }
def FnExactMaskedWrongFalsely : Prop := fnExactMaskedRow.holds Try.pinned (OpenSpec.ofChange fnExactMaskedWrong)

/- THE SECOND FORM. 'bulk': how many values and letters a reading holds, each counted each time it is reached (what is shared counts as often as it is met; a slice's spare places count too). A statement '..UptoSaid' is the law's where the arguments, and the package variables that the reading takes, are together of bulk at most 1048576: NARROWER than '..Said'. Prove '..Said' where nothing that the law and all that it calls make is longer than what came in: it says more and counts as full. Else prove '..UptoSaid'. A law counts once. -/
mutual
def uptoBulk {H : Type} : DataW H → Nat
  | .lit (.string bytes) => bytes.length + 1
  | .lit _ => 1
  | .nil => 1
  | .ptr d => uptoBulk d + 1
  | .slice elems spare => uptoBulkAll elems + uptoBulkAll spare + 1
  | .agg parts => uptoBulkAll parts + 1
  | .iface _ d => uptoBulk d + 1
  | .map entries => uptoBulkEntries entries + 1
  | .held _ => 1
def uptoBulkAll {H : Type} : List (DataW H) → Nat
  | [] => 0
  | d :: r => uptoBulk d + uptoBulkAll r
def uptoBulkEntries {H : Type} : List (Lit × DataW H) → Nat
  | [] => 0
  | x :: r => uptoBulkEntry x + uptoBulkEntries r
def uptoBulkEntry {H : Type} : Lit × DataW H → Nat
  | (.string bytes, d) => bytes.length + uptoBulk d + 1
  | (_, d) => uptoBulk d + 1
 end
def uptoSmall : (H : Type) → List (DataW H) → Bool := fun _ ds => decide (uptoBulkAll ds ≤ 1048576)
def OpenSpec.upto (s : _root_.Go.ChangeSpec) : _root_.Go.OpenSpec := { _root_.Go.OpenSpec.ofChange s with cond := some uptoSmall }

/-- 'laws.FnFrames', WHERE WHAT IT READS IS OF BULK AT MOST 1048576: true; the input reads as it did. -/
def fnFramesUptoRow : OpenClaim := { program := "ytlofbgkefalpoaa", sum := "cc20a82bca8609324751add5d781a074dd55e54991472caff61fa4ef28bae80c", func := "loop.example/g00055/laws.FnFrames", spec := "fnFrames", apart := false, narrowed := true }
def FnFramesUptoSaid : Prop := fnFramesUptoRow.holds Try.pinned (OpenSpec.upto fnFramesSpec)

/-- 'laws.FnExactFrameOk', WHERE WHAT IT READS IS OF BULK AT MOST 1048576: true; the input reads as it did. -/
def fnExactFrameOkUptoRow : OpenClaim := { program := "ytlofbgkefalpoaa", sum := "cc20a82bca8609324751add5d781a074dd55e54991472caff61fa4ef28bae80c", func := "loop.example/g00055/laws.FnExactFrameOk", spec := "fnExactFrameOk", apart := false, narrowed := true }
def FnExactFrameOkUptoSaid : Prop := fnExactFrameOkUptoRow.holds Try.pinned (OpenSpec.upto fnExactFrameOkSpec)

/-- 'laws.FnExactAddFrames', WHERE WHAT IT READS IS OF BULK AT MOST 1048576: true; the input reads as it did. -/
def fnExactAddFramesUptoRow : OpenClaim := { program := "ytlofbgkefalpoaa", sum := "cc20a82bca8609324751add5d781a074dd55e54991472caff61fa4ef28bae80c", func := "loop.example/g00055/laws.FnExactAddFrames", spec := "fnExactAddFrames", apart := false, narrowed := true }
def FnExactAddFramesUptoSaid : Prop := fnExactAddFramesUptoRow.holds Try.pinned (OpenSpec.upto fnExactAddFramesSpec)

/-- 'laws.FnExactMasked', WHERE WHAT IT READS IS OF BULK AT MOST 1048576: true; the input reads as it did. -/
def fnExactMaskedUptoRow : OpenClaim := { program := "ytlofbgkefalpoaa", sum := "cc20a82bca8609324751add5d781a074dd55e54991472caff61fa4ef28bae80c", func := "loop.example/g00055/laws.FnExactMasked", spec := "fnExactMasked", apart := false, narrowed := true }
def FnExactMaskedUptoSaid : Prop := fnExactMaskedUptoRow.holds Try.pinned (OpenSpec.upto fnExactMaskedSpec)

end Rows
end Go.Proofs.Ytlofbgkefalpoaa
