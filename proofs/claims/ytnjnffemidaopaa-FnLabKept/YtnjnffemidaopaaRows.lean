/-
  No cell of these rows narrows 'for every input' (looked for: loops, veiled, ifaces, maps, wideKeys, modest, calm, conditions, laid).
  DERIVED. THE GIVEN ROWS OF THIS SEAT. 6 by the template 'for every input the law returns true; each argument reads behind the call as it read before'; 0 by the template 'total and deterministic' (their statements: YtnjnffemidaopaaTotals.lean).
  GIVEN WITH THE SEED: the statements are not yours to turn. If you find one false, say at which input.
  Laid BY PROGRAM, IN A SANDBOX (cutbox-rows.mjs): the forced cells as the released guide's own fill.sh prints them over the translation 9c8bfae96c588299… (all of the seat's roots in one cut). By AI agents, Wed Nov 11 2026. No macro, syntax, notation, axiom, sorry.
-/
import Derived.Test.YtnjnffemidaopaaChecked
import GoSem.Claim
import GoSem.ClaimJoined
import GoSem.ClaimMapViews
import Derived.JoinedTies
import Derived.KernelRfl
namespace Go.Proofs.Ytnjnffemidaopaa
/- THE CELL 'sum', in the pinned program and in every row, IS THE sha256 OF THE DUMP (.gsa) THAT YtnjnffemidaopaaProg.lean LOADS. Nothing in Lean hashes anything: it is a label: what it is worth is what the hold of that sum in a sandbox is worth. -/
noncomputable def Try.pinned : Pinned := { name := "ytnjnffemidaopaa", sum := "9c8bfae96c588299b698cd1b26206d79b81e15525118f45f839fc7704f10f479", checked := Try.checked }
namespace Rows
def none {H : Type} : Left H := { results := [], args := [] }

/-- 'laws.FnLabKept': WHATEVER THE INPUT: true; the input reads as it did. -/
def fnLabKeptSpec : ChangeSpec := { name := "fnLabKept", fn := fun _ => fun
  | [d] => { results := [.lit (.bool true)], args := [d] }
  | _ => none }
def fnLabKeptRow : OpenClaim := { program := "ytnjnffemidaopaa", sum := "9c8bfae96c588299b698cd1b26206d79b81e15525118f45f839fc7704f10f479", func := "loop.example/g00055/laws.FnLabKept", spec := "fnLabKept", inPlace := ["sync/atomic.AddInt64", "slices.overlaps[loop.example/g00055/impl.Sample]"], unfollowed := true, recurses := true, apart := false }
def FnLabKeptSaid : Prop := fnLabKeptRow.holds Try.pinned (OpenSpec.ofChange fnLabKeptSpec)

/-- ITS FALSE NEIGHBOUR: 'it returns false'. Refute it at one input. -/
def fnLabKeptWrong : ChangeSpec := { name := "fnLabKept", fn := fun _ => fun
  | [d] => { results := [.lit (.bool false)], args := [d] }
  | _ => none }
def FnLabKeptWrongFalsely : Prop := fnLabKeptRow.holds Try.pinned (OpenSpec.ofChange fnLabKeptWrong)

/-- 'laws.FnOnce': WHATEVER THE INPUT: true; the input reads as it did. -/
def fnOnceSpec : ChangeSpec := { name := "fnOnce", fn := fun _ => fun
  | [d] => { results := [.lit (.bool true)], args := [d] }
  | _ => none }
def fnOnceRow : OpenClaim := { program := "ytnjnffemidaopaa", sum := "9c8bfae96c588299b698cd1b26206d79b81e15525118f45f839fc7704f10f479", func := "loop.example/g00055/laws.FnOnce", spec := "fnOnce", inPlace := ["sync/atomic.AddInt64", "slices.overlaps[loop.example/g00055/impl.Sample]"], unfollowed := true, recurses := true, apart := false }
def FnOnceSaid : Prop := fnOnceRow.holds Try.pinned (OpenSpec.ofChange fnOnceSpec)

/-- ITS FALSE NEIGHBOUR: 'it returns false'. Refute it at one input. -/
def fnOnceWrong : ChangeSpec := { name := "fnOnce", fn := fun _ => fun
  | [d] => { results := [.lit (.bool false)], args := [d] }
  | _ => none }
def FnOnceWrongFalsely : Prop := fnOnceRow.holds Try.pinned (OpenSpec.ofChange fnOnceWrong)

/-- 'laws.FnPlays': WHATEVER THE INPUT: true; the input reads as it did. -/
def fnPlaysSpec : ChangeSpec := { name := "fnPlays", fn := fun _ => fun
  | [d] => { results := [.lit (.bool true)], args := [d] }
  | _ => none }
def fnPlaysRow : OpenClaim := { program := "ytnjnffemidaopaa", sum := "9c8bfae96c588299b698cd1b26206d79b81e15525118f45f839fc7704f10f479", func := "loop.example/g00055/laws.FnPlays", spec := "fnPlays", inPlace := ["sync/atomic.LoadInt64", "sync/atomic.AddInt64", "slices.overlaps[loop.example/g00055/impl.Sample]"], unfollowed := true, recurses := true, apart := false }
def FnPlaysSaid : Prop := fnPlaysRow.holds Try.pinned (OpenSpec.ofChange fnPlaysSpec)

/-- ITS FALSE NEIGHBOUR: 'it returns false'. Refute it at one input. -/
def fnPlaysWrong : ChangeSpec := { name := "fnPlays", fn := fun _ => fun
  | [d] => { results := [.lit (.bool false)], args := [d] }
  | _ => none }
def FnPlaysWrongFalsely : Prop := fnPlaysRow.holds Try.pinned (OpenSpec.ofChange fnPlaysWrong)

/-- 'laws.FnExactLabOk': WHATEVER THE INPUT: true; the input reads as it did. -/
def fnExactLabOkSpec : ChangeSpec := { name := "fnExactLabOk", fn := fun _ => fun
  | [d] => { results := [.lit (.bool true)], args := [d] }
  | _ => none }
def fnExactLabOkRow : OpenClaim := { program := "ytnjnffemidaopaa", sum := "9c8bfae96c588299b698cd1b26206d79b81e15525118f45f839fc7704f10f479", func := "loop.example/g00055/laws.FnExactLabOk", spec := "fnExactLabOk", unfollowed := true, recurses := true, apart := false }
def FnExactLabOkSaid : Prop := fnExactLabOkRow.holds Try.pinned (OpenSpec.ofChange fnExactLabOkSpec)

/-- ITS FALSE NEIGHBOUR: 'it returns false'. Refute it at one input. -/
def fnExactLabOkWrong : ChangeSpec := { name := "fnExactLabOk", fn := fun _ => fun
  | [d] => { results := [.lit (.bool false)], args := [d] }
  | _ => none }
def FnExactLabOkWrongFalsely : Prop := fnExactLabOkRow.holds Try.pinned (OpenSpec.ofChange fnExactLabOkWrong)

/-- 'laws.FnExactLabDo': WHATEVER THE INPUT: true; the input reads as it did. -/
def fnExactLabDoSpec : ChangeSpec := { name := "fnExactLabDo", fn := fun _ => fun
  | [d1, d2] => { results := [.lit (.bool true)], args := [d1, d2] }
  | _ => none }
def fnExactLabDoRow : OpenClaim := { program := "ytnjnffemidaopaa", sum := "9c8bfae96c588299b698cd1b26206d79b81e15525118f45f839fc7704f10f479", func := "loop.example/g00055/laws.FnExactLabDo", spec := "fnExactLabDo", inPlace := ["sync/atomic.AddInt64", "slices.overlaps[loop.example/g00055/impl.Sample]"], unfollowed := true, recurses := true, apart := false }
def FnExactLabDoSaid : Prop := fnExactLabDoRow.holds Try.pinned (OpenSpec.ofChange fnExactLabDoSpec)

/-- ITS FALSE NEIGHBOUR: 'it returns false'. Refute it at one input. -/
def fnExactLabDoWrong : ChangeSpec := { name := "fnExactLabDo", fn := fun _ => fun
  | [d1, d2] => { results := [.lit (.bool false)], args := [d1, d2] }
  | _ => none }
def FnExactLabDoWrongFalsely : Prop := fnExactLabDoRow.holds Try.pinned (OpenSpec.ofChange fnExactLabDoWrong)

/-- 'laws.FnExactLabPlay': WHATEVER THE INPUT: true; the input reads as it did. -/
def fnExactLabPlaySpec : ChangeSpec := { name := "fnExactLabPlay", fn := fun _ => fun
  | [d] => { results := [.lit (.bool true)], args := [d] }
  | _ => none }
def fnExactLabPlayRow : OpenClaim := { program := "ytnjnffemidaopaa", sum := "9c8bfae96c588299b698cd1b26206d79b81e15525118f45f839fc7704f10f479", func := "loop.example/g00055/laws.FnExactLabPlay", spec := "fnExactLabPlay", inPlace := ["sync/atomic.LoadInt64", "sync/atomic.AddInt64", "slices.overlaps[loop.example/g00055/impl.Sample]"], unfollowed := true, recurses := true, apart := false }
def FnExactLabPlaySaid : Prop := fnExactLabPlayRow.holds Try.pinned (OpenSpec.ofChange fnExactLabPlaySpec)

/-- ITS FALSE NEIGHBOUR: 'it returns false'. Refute it at one input. -/
def fnExactLabPlayWrong : ChangeSpec := { name := "fnExactLabPlay", fn := fun _ => fun
  | [d] => { results := [.lit (.bool false)], args := [d] }
  | _ => none }
def FnExactLabPlayWrongFalsely : Prop := fnExactLabPlayRow.holds Try.pinned (OpenSpec.ofChange fnExactLabPlayWrong)

/- THE SECOND FORM. 'bulk': how many values and letters a reading holds, each counted each time it is reached (what is shared counts as often as it is met; a slice's spare places count too). A statement '..UptoSaid' is the law's where the arguments, and the package variables that the reading takes, are together of bulk at most 1048576: NARROWER than '..Said'. Prove '..Said' where nothing that the law and all that it calls make is longer than what came in: it says more and counts as full. Else prove '..UptoSaid'. A law counts once. -/
mutual
def uptoBulk {H : Type} : DataW H → Nat
  | .lit (.string bytes) => bytes.length + 1
  | .lit _ => 1
  | .nil => 1
  | .ptr d => uptoBulk d + 1
  | .slice elems spare => uptoBulkAll elems + uptoBulkAll spare + 1
  | .agg parts => uptoBulkAll parts + 1
  | .iface _ d => uptoBulk d + 1
  | .map entries => uptoBulkEntries entries + 1
  | .held _ => 1
def uptoBulkAll {H : Type} : List (DataW H) → Nat
  | [] => 0
  | d :: r => uptoBulk d + uptoBulkAll r
def uptoBulkEntries {H : Type} : List (Lit × DataW H) → Nat
  | [] => 0
  | x :: r => uptoBulkEntry x + uptoBulkEntries r
def uptoBulkEntry {H : Type} : Lit × DataW H → Nat
  | (.string bytes, d) => bytes.length + uptoBulk d + 1
  | (_, d) => uptoBulk d + 1
 end
def uptoSmall : (H : Type) → List (DataW H) → Bool := fun _ ds => decide (uptoBulkAll ds ≤ 1048576)
def OpenSpec.upto (s : _root_.Go.ChangeSpec) : _root_.Go.OpenSpec := { _root_.Go.OpenSpec.ofChange s with cond := some uptoSmall }

/-- 'laws.FnLabKept', WHERE WHAT IT READS IS OF BULK AT MOST 1048576: true; the input reads as it did. -/
def fnLabKeptUptoRow : OpenClaim := { program := "ytnjnffemidaopaa", sum := "9c8bfae96c588299b698cd1b26206d79b81e15525118f45f839fc7704f10f479", func := "loop.example/g00055/laws.FnLabKept", spec := "fnLabKept", inPlace := ["sync/atomic.AddInt64", "slices.overlaps[loop.example/g00055/impl.Sample]"], unfollowed := true, recurses := true, apart := false, narrowed := true }
def FnLabKeptUptoSaid : Prop := fnLabKeptUptoRow.holds Try.pinned (OpenSpec.upto fnLabKeptSpec)

/-- 'laws.FnOnce', WHERE WHAT IT READS IS OF BULK AT MOST 1048576: true; the input reads as it did. -/
def fnOnceUptoRow : OpenClaim := { program := "ytnjnffemidaopaa", sum := "9c8bfae96c588299b698cd1b26206d79b81e15525118f45f839fc7704f10f479", func := "loop.example/g00055/laws.FnOnce", spec := "fnOnce", inPlace := ["sync/atomic.AddInt64", "slices.overlaps[loop.example/g00055/impl.Sample]"], unfollowed := true, recurses := true, apart := false, narrowed := true }
def FnOnceUptoSaid : Prop := fnOnceUptoRow.holds Try.pinned (OpenSpec.upto fnOnceSpec)

/-- 'laws.FnPlays', WHERE WHAT IT READS IS OF BULK AT MOST 1048576: true; the input reads as it did. -/
def fnPlaysUptoRow : OpenClaim := { program := "ytnjnffemidaopaa", sum := "9c8bfae96c588299b698cd1b26206d79b81e15525118f45f839fc7704f10f479", func := "loop.example/g00055/laws.FnPlays", spec := "fnPlays", inPlace := ["sync/atomic.LoadInt64", "sync/atomic.AddInt64", "slices.overlaps[loop.example/g00055/impl.Sample]"], unfollowed := true, recurses := true, apart := false, narrowed := true }
def FnPlaysUptoSaid : Prop := fnPlaysUptoRow.holds Try.pinned (OpenSpec.upto fnPlaysSpec)

/-- 'laws.FnExactLabOk', WHERE WHAT IT READS IS OF BULK AT MOST 1048576: true; the input reads as it did. -/
def fnExactLabOkUptoRow : OpenClaim := { program := "ytnjnffemidaopaa", sum := "9c8bfae96c588299b698cd1b26206d79b81e15525118f45f839fc7704f10f479", func := "loop.example/g00055/laws.FnExactLabOk", spec := "fnExactLabOk", unfollowed := true, recurses := true, apart := false, narrowed := true }
def FnExactLabOkUptoSaid : Prop := fnExactLabOkUptoRow.holds Try.pinned (OpenSpec.upto fnExactLabOkSpec)

/-- 'laws.FnExactLabDo', WHERE WHAT IT READS IS OF BULK AT MOST 1048576: true; the input reads as it did. -/
def fnExactLabDoUptoRow : OpenClaim := { program := "ytnjnffemidaopaa", sum := "9c8bfae96c588299b698cd1b26206d79b81e15525118f45f839fc7704f10f479", func := "loop.example/g00055/laws.FnExactLabDo", spec := "fnExactLabDo", inPlace := ["sync/atomic.AddInt64", "slices.overlaps[loop.example/g00055/impl.Sample]"], unfollowed := true, recurses := true, apart := false, narrowed := true }
def FnExactLabDoUptoSaid : Prop := fnExactLabDoUptoRow.holds Try.pinned (OpenSpec.upto fnExactLabDoSpec)

/-- 'laws.FnExactLabPlay', WHERE WHAT IT READS IS OF BULK AT MOST 1048576: true; the input reads as it did. -/
def fnExactLabPlayUptoRow : OpenClaim := { program := "ytnjnffemidaopaa", sum := "9c8bfae96c588299b698cd1b26206d79b81e15525118f45f839fc7704f10f479", func := "loop.example/g00055/laws.FnExactLabPlay", spec := "fnExactLabPlay", inPlace := ["sync/atomic.LoadInt64", "sync/atomic.AddInt64", "slices.overlaps[loop.example/g00055/impl.Sample]"], unfollowed := true, recurses := true, apart := false, narrowed := true }
def FnExactLabPlayUptoSaid : Prop := fnExactLabPlayUptoRow.holds Try.pinned (OpenSpec.upto fnExactLabPlaySpec)

end Rows
end Go.Proofs.Ytnjnffemidaopaa
