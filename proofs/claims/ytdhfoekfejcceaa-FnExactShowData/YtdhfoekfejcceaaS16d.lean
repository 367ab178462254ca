/-
  The library's strings.Join: its contract laid over this program.
-/
import Derived.Test.YtdhfoekfejcceaaRows
import Derived.Test.YtdhfoekfejcceaaKit
import Derived.Shelf.Strings.OnBuilder
namespace Go.Proofs.Ytdhfoekfejcceaa
open Go.RowKit Go.Shelf

def joinR : Go.Shelf.Ren := ⟨fun | 156 => 33 | 165 => 51 | 166 => 52 | 169 => 53 | 240 => 61 | 241 => 62 | 276 => 67 | 277 => 68 | n => n, fun | 5 => 5 | 80 => 79 | 0 => 0 | 3 => 3 | 4 => 4 | 9 => 9 | 20 => 20 | 31 => 35 | 37 => 55 | 70 => 71 | 72 => 73 | 75 => 76 | 76 => 77 | 127 => 82 | 164 => 83 | n => n, fun | n => n⟩
theorem joinL : Go.Proofs.Lays.n156 Try.prog joinR := {
  mixed := by kernel_rfl,
  f156 := Try.func33.trans (congrArg some (by kernel_rfl)),
  f165 := Try.func51.trans (congrArg some (by kernel_rfl)),
  f166 := Try.func52.trans (congrArg some (by kernel_rfl)),
  f169 := Try.func53.trans (congrArg some (by kernel_rfl)),
  f240 := Try.func61.trans (congrArg some (by kernel_rfl)),
  f241 := Try.func62.trans (congrArg some (by kernel_rfl)),
  f276 := Try.func67.trans (congrArg some (by kernel_rfl)),
  f277 := Try.func68.trans (congrArg some (by kernel_rfl)),
  t0 := Try.underlying0,
  a0 := Try.isAgg0,
  z0 := Try.sizeOf0,
  v0 := Try.zeroValue0,
  t3 := Try.underlying3,
  a3 := Try.isAgg3,
  z3 := Try.sizeOf3,
  v3 := Try.zeroValue3,
  t4 := Try.underlying4,
  a4 := Try.isAgg4,
  z4 := Try.sizeOf4,
  v4 := Try.zeroValue4,
  t9 := Try.underlying9,
  a9 := Try.isAgg9,
  z9 := Try.sizeOf9,
  v9 := Try.zeroValue9,
  t20 := Try.underlying20,
  a20 := Try.isAgg20,
  z20 := Try.sizeOf20,
  v20 := Try.zeroValue20,
  t31 := Try.underlying35,
  a31 := Try.isAgg35,
  z31 := Try.sizeOf35,
  v31 := Try.zeroValue35,
  t37 := Try.underlying55,
  a37 := Try.isAgg55,
  z37 := Try.sizeOf55,
  v37 := Try.zeroValue55,
  t70 := Try.underlying71,
  a70 := Try.isAgg71,
  z70 := Try.sizeOf71,
  v70 := Try.zeroValue71,
  t72 := Try.underlying73,
  a72 := Try.isAgg73,
  z72 := Try.sizeOf73,
  v72 := Try.zeroValue73,
  t75 := Try.underlying76,
  a75 := Try.isAgg76,
  z75 := Try.sizeOf76,
  v75 := Try.zeroValue76,
  t76 := Try.underlying77,
  a76 := Try.isAgg77,
  z76 := Try.sizeOf77,
  v76 := Try.zeroValue77,
  t127 := Try.underlying82,
  a127 := Try.isAgg82,
  z127 := Try.sizeOf82,
  v127 := Try.zeroValue82,
  t164 := Try.underlying83,
  a164 := Try.isAgg83,
  z164 := Try.sizeOf83,
  v164 := Try.zeroValue83 }
theorem joinX : Builder.Extra Try.prog joinR where
  sizeBuilder := by kernel_rfl
  liesBuilder := by kernel_rfl
  t5 := Try.underlying5
  a5 := Try.isAgg5
  z5 := Try.sizeOf5
  v5 := Try.zeroValue5
  infoByte := by kernel_rfl
  cellsByte := by kernel_rfl
  sizeByte := by kernel_rfl
  neB5 := by decide
theorem join_any (bk o c : Nat) (xs : List ByteArray) (sep : ByteArray) (w : World) (hcells : ∀ (j : Nat) x, xs[j]? = some x → w.cell? ⟨bk, o + j, none⟩ = some (.string x)) (hbk : bk < w.heap.size) (hN : xs.length ≤ 140737488355328) (hcap : xs.length ≤ c) (hlen : (Lib.join (xs.map (·.data.toList)) sep.data.toList).length ≤ 140737488355328) :
    Calls Try.prog 33 #[.slice (some ⟨bk, o, none⟩) xs.length c, .string sep] w fun e w' => e = .returned (.string ⟨(Lib.join (xs.map (·.data.toList)) sep.data.toList).toArray⟩) ∧ Below w.heap.size w w' :=
  Any.strings_Join joinL joinX bk o c xs sep w hcells hbk hN hcap hlen
end Go.Proofs.Ytdhfoekfejcceaa
