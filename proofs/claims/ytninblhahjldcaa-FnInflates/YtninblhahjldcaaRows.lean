/-
  No cell of these rows narrows 'for every input' (looked for: loops, veiled, ifaces, maps, wideKeys, modest, calm, conditions, laid).
  DERIVED. THE GIVEN ROWS OF THIS SEAT. 6 by the template 'for every input the law returns true; each argument reads behind the call as it read before'; 0 by the template 'total and deterministic' (their statements: YtninblhahjldcaaTotals.lean).
  GIVEN WITH THE SEED: the statements are not yours to turn. If you find one false, say at which input.
  Laid BY PROGRAM, IN A SANDBOX (cutbox-rows.mjs): the forced cells as the released guide's own fill.sh prints them over the translation 03ef6e8b60130911… (all of the seat's roots in one cut). By AI agents, Wed Nov 11 2026. No macro, syntax, notation, axiom, sorry.
-/
import Derived.Test.YtninblhahjldcaaChecked
import GoSem.Claim
import GoSem.ClaimJoined
import GoSem.ClaimMapViews
import Derived.JoinedTies
import Derived.KernelRfl
namespace Go.Proofs.Ytninblhahjldcaa
/- THE CELL 'sum', in the pinned program and in every row, IS THE sha256 OF THE DUMP (.gsa) THAT YtninblhahjldcaaProg.lean LOADS. Nothing in Lean hashes anything: it is a label: what it is worth is what the hold of that sum in a sandbox is worth. -/
noncomputable def Try.pinned : Pinned := { name := "ytninblhahjldcaa", sum := "03ef6e8b60130911b377a73f7a23c6d3dde7cae6fc765152e306871495b56baf", checked := Try.checked }
namespace Rows
def none {H : Type} : Left H := { results := [], args := [] }

/-- 'laws.FnInflates': WHATEVER THE INPUT: true; the input reads as it did. -/
def fnInflatesSpec : ChangeSpec := { name := "fnInflates", fn := fun _ => fun
  | [d] => { results := [.lit (.bool true)], args := [d] }
  | _ => none }
def fnInflatesRow : OpenClaim := { program := "ytninblhahjldcaa", sum := "03ef6e8b60130911b377a73f7a23c6d3dde7cae6fc765152e306871495b56baf", func := "loop.example/g00055/laws.FnInflates", spec := "fnInflates", unfollowed := true, recurses := true, apart := false }
def FnInflatesSaid : Prop := fnInflatesRow.holds Try.pinned (OpenSpec.ofChange fnInflatesSpec)

/-- ITS FALSE NEIGHBOUR: 'it returns false'. Refute it at one input. -/
def fnInflatesWrong : ChangeSpec := { name := "fnInflates", fn := fun _ => fun
  | [d] => { results := [.lit (.bool false)], args := [d] }
  | _ => none }
def FnInflatesWrongFalsely : Prop := fnInflatesRow.holds Try.pinned (OpenSpec.ofChange fnInflatesWrong)

/-- 'laws.FnBalanced': WHATEVER THE INPUT: true; the input reads as it did. -/
def fnBalancedSpec : ChangeSpec := { name := "fnBalanced", fn := fun _ => fun
  | [d] => { results := [.lit (.bool true)], args := [d] }
  | _ => none }
def fnBalancedRow : OpenClaim := { program := "ytninblhahjldcaa", sum := "03ef6e8b60130911b377a73f7a23c6d3dde7cae6fc765152e306871495b56baf", func := "loop.example/g00055/laws.FnBalanced", spec := "fnBalanced", unfollowed := true, recurses := true, apart := false }
def FnBalancedSaid : Prop := fnBalancedRow.holds Try.pinned (OpenSpec.ofChange fnBalancedSpec)

/-- ITS FALSE NEIGHBOUR: 'it returns false'. Refute it at one input. -/
def fnBalancedWrong : ChangeSpec := { name := "fnBalanced", fn := fun _ => fun
  | [d] => { results := [.lit (.bool false)], args := [d] }
  | _ => none }
def FnBalancedWrongFalsely : Prop := fnBalancedRow.holds Try.pinned (OpenSpec.ofChange fnBalancedWrong)

/-- 'laws.FnExactAct': WHATEVER THE INPUT: true; the input reads as it did. -/
def fnExactActSpec : ChangeSpec := { name := "fnExactAct", fn := fun _ => fun
  | [d1, d2] => { results := [.lit (.bool true)], args := [d1, d2] }
  | _ => none }
def fnExactActRow : OpenClaim := { program := "ytninblhahjldcaa", sum := "03ef6e8b60130911b377a73f7a23c6d3dde7cae6fc765152e306871495b56baf", func := "loop.example/g00055/laws.FnExactAct", spec := "fnExactAct", unfollowed := true, recurses := true, apart := false }
def FnExactActSaid : Prop := fnExactActRow.holds Try.pinned (OpenSpec.ofChange fnExactActSpec)

/-- ITS FALSE NEIGHBOUR: 'it returns false'. Refute it at one input. -/
def fnExactActWrong : ChangeSpec := { name := "fnExactAct", fn := fun _ => fun
  | [d1, d2] => { results := [.lit (.bool false)], args := [d1, d2] }
  | _ => none }
def FnExactActWrongFalsely : Prop := fnExactActRow.holds Try.pinned (OpenSpec.ofChange fnExactActWrong)

/-- 'laws.FnExactInflate': WHATEVER THE INPUT: true; the input reads as it did. -/
def fnExactInflateSpec : ChangeSpec := { name := "fnExactInflate", fn := fun _ => fun
  | [d1, d2] => { results := [.lit (.bool true)], args := [d1, d2] }
  | _ => none }
def fnExactInflateRow : OpenClaim := { program := "ytninblhahjldcaa", sum := "03ef6e8b60130911b377a73f7a23c6d3dde7cae6fc765152e306871495b56baf", func := "loop.example/g00055/laws.FnExactInflate", spec := "fnExactInflate", unfollowed := true, recurses := true, apart := false }
def FnExactInflateSaid : Prop := fnExactInflateRow.holds Try.pinned (OpenSpec.ofChange fnExactInflateSpec)

/-- ITS FALSE NEIGHBOUR: 'it returns false'. Refute it at one input. -/
def fnExactInflateWrong : ChangeSpec := { name := "fnExactInflate", fn := fun _ => fun
  | [d1, d2] => { results := [.lit (.bool false)], args := [d1, d2] }
  | _ => none }
def FnExactInflateWrongFalsely : Prop := fnExactInflateRow.holds Try.pinned (OpenSpec.ofChange fnExactInflateWrong)

/-- 'laws.FnExactDeflate': WHATEVER THE INPUT: true; the input reads as it did. -/
def fnExactDeflateSpec : ChangeSpec := { name := "fnExactDeflate", fn := fun _ => fun
  | [d] => { results := [.lit (.bool true)], args := [d] }
  | _ => none }
def fnExactDeflateRow : OpenClaim := { program := "ytninblhahjldcaa", sum := "03ef6e8b60130911b377a73f7a23c6d3dde7cae6fc765152e306871495b56baf", func := "loop.example/g00055/laws.FnExactDeflate", spec := "fnExactDeflate", apart := false }
def FnExactDeflateSaid : Prop := fnExactDeflateRow.holds Try.pinned (OpenSpec.ofChange fnExactDeflateSpec)

/-- ITS FALSE NEIGHBOUR: 'it returns false'. Refute it at one input. -/
def fnExactDeflateWrong : ChangeSpec := { name := "fnExactDeflate", fn := fun _ => fun
  | [d] => { results := [.lit (.bool false)], args := [d] }
  | _ => none }
def FnExactDeflateWrongFalsely : Prop := fnExactDeflateRow.holds Try.pinned (OpenSpec.ofChange fnExactDeflateWrong)

/-- 'laws.FnExactGolden': WHATEVER THE INPUT: true; the input reads as it did. -/
def fnExactGoldenSpec : ChangeSpec := { name := "fnExactGolden", fn := fun _ => fun
  | [d] => { results := [.lit (.bool true)], args := [d] }
  | _ => none }
def fnExactGoldenRow : OpenClaim := { program := "ytninblhahjldcaa", sum := "03ef6e8b60130911b377a73f7a23c6d3dde7cae6fc765152e306871495b56baf", func := "loop.example/g00055/laws.FnExactGolden", spec := "fnExactGolden", apart := false }
def FnExactGoldenSaid : Prop := fnExactGoldenRow.holds Try.pinned (OpenSpec.ofChange fnExactGoldenSpec)

/-- ITS FALSE NEIGHBOUR: 'it returns false'. Refute it at one input. -/
def fnExactGoldenWrong : ChangeSpec := { name := "fnExactGolden", fn := fun _ => fun
  | [d] => { results := [.lit (.bool false)], args := [d] }
  | _ => none }
def FnExactGoldenWrongFalsely : Prop := fnExactGoldenRow.holds Try.pinned (OpenSpec.ofChange fnExactGoldenWrong)

/- THE SECOND FORM. 'bulk': how many values and letters a reading holds, each counted each time it is reached (what is shared counts as often as it is met; a slice's spare places count too). A statement '..UptoSaid' is the law's where the arguments, and the package variables that the reading takes, are together of bulk at most 1048576: NARROWER than '..Said'. Prove '..Said' where nothing that the law and all that it calls make is longer than what came in: it says more and counts as full. Else prove '..UptoSaid'. A law counts once. -/
mutual
def uptoBulk {H : Type} : DataW H → Nat
  | .lit (.string bytes) => bytes.length + 1
  | .lit _ => 1
  | .nil => 1
  | .ptr d => uptoBulk d + 1
  | .slice elems spare => uptoBulkAll elems + uptoBulkAll spare + 1
  | .agg parts => uptoBulkAll parts + 1
  | .iface _ d => uptoBulk d + 1
  | .map entries => uptoBulkEntries entries + 1
  | .held _ => 1
def uptoBulkAll {H : Type} : List (DataW H) → Nat
  | [] => 0
  | d :: r => uptoBulk d + uptoBulkAll r
def uptoBulkEntries {H : Type} : List (Lit × DataW H) → Nat
  | [] => 0
  | x :: r => uptoBulkEntry x + uptoBulkEntries r
def uptoBulkEntry {H : Type} : Lit × DataW H → Nat
  | (.string bytes, d) => bytes.length + uptoBulk d + 1
  | (_, d) => uptoBulk d + 1
 end
def uptoSmall : (H : Type) → List (DataW H) → Bool := fun _ ds => decide (uptoBulkAll ds ≤ 1048576)
def OpenSpec.upto (s : _root_.Go.ChangeSpec) : _root_.Go.OpenSpec := { _root_.Go.OpenSpec.ofChange s with cond := some uptoSmall }

/-- 'laws.FnInflates', WHERE WHAT IT READS IS OF BULK AT MOST 1048576: true; the input reads as it did. -/
def fnInflatesUptoRow : OpenClaim := { program := "ytninblhahjldcaa", sum := "03ef6e8b60130911b377a73f7a23c6d3dde7cae6fc765152e306871495b56baf", func := "loop.example/g00055/laws.FnInflates", spec := "fnInflates", unfollowed := true, recurses := true, apart := false, narrowed := true }
def FnInflatesUptoSaid : Prop := fnInflatesUptoRow.holds Try.pinned (OpenSpec.upto fnInflatesSpec)

/-- 'laws.FnBalanced', WHERE WHAT IT READS IS OF BULK AT MOST 1048576: true; the input reads as it did. -/
def fnBalancedUptoRow : OpenClaim := { program := "ytninblhahjldcaa", sum := "03ef6e8b60130911b377a73f7a23c6d3dde7cae6fc765152e306871495b56baf", func := "loop.example/g00055/laws.FnBalanced", spec := "fnBalanced", unfollowed := true, recurses := true, apart := false, narrowed := true }
def FnBalancedUptoSaid : Prop := fnBalancedUptoRow.holds Try.pinned (OpenSpec.upto fnBalancedSpec)

/-- 'laws.FnExactAct', WHERE WHAT IT READS IS OF BULK AT MOST 1048576: true; the input reads as it did. -/
def fnExactActUptoRow : OpenClaim := { program := "ytninblhahjldcaa", sum := "03ef6e8b60130911b377a73f7a23c6d3dde7cae6fc765152e306871495b56baf", func := "loop.example/g00055/laws.FnExactAct", spec := "fnExactAct", unfollowed := true, recurses := true, apart := false, narrowed := true }
def FnExactActUptoSaid : Prop := fnExactActUptoRow.holds Try.pinned (OpenSpec.upto fnExactActSpec)

/-- 'laws.FnExactInflate', WHERE WHAT IT READS IS OF BULK AT MOST 1048576: true; the input reads as it did. -/
def fnExactInflateUptoRow : OpenClaim := { program := "ytninblhahjldcaa", sum := "03ef6e8b60130911b377a73f7a23c6d3dde7cae6fc765152e306871495b56baf", func := "loop.example/g00055/laws.FnExactInflate", spec := "fnExactInflate", unfollowed := true, recurses := true, apart := false, narrowed := true }
def FnExactInflateUptoSaid : Prop := fnExactInflateUptoRow.holds Try.pinned (OpenSpec.upto fnExactInflateSpec)

/-- 'laws.FnExactDeflate', WHERE WHAT IT READS IS OF BULK AT MOST 1048576: true; the input reads as it did. -/
def fnExactDeflateUptoRow : OpenClaim := { program := "ytninblhahjldcaa", sum := "03ef6e8b60130911b377a73f7a23c6d3dde7cae6fc765152e306871495b56baf", func := "loop.example/g00055/laws.FnExactDeflate", spec := "fnExactDeflate", apart := false, narrowed := true }
def FnExactDeflateUptoSaid : Prop := fnExactDeflateUptoRow.holds Try.pinned (OpenSpec.upto fnExactDeflateSpec)

/-- 'laws.FnExactGolden', WHERE WHAT IT READS IS OF BULK AT MOST 1048576: true; the input reads as it did. -/
def fnExactGoldenUptoRow : OpenClaim := { program := "ytninblhahjldcaa", sum := "03ef6e8b60130911b377a73f7a23c6d3dde7cae6fc765152e306871495b56baf", func := "loop.example/g00055/laws.FnExactGolden", spec := "fnExactGolden", apart := false, narrowed := true }
def FnExactGoldenUptoSaid : Prop := fnExactGoldenUptoRow.holds Try.pinned (OpenSpec.upto fnExactGoldenSpec)

end Rows
end Go.Proofs.Ytninblhahjldcaa
