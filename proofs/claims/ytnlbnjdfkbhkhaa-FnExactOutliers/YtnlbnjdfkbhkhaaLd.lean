/-
  The library's Delete at numbers of 64 bits: its contract laid over this program.
-/
import Derived.Test.YtnlbnjdfkbhkhaaRows
import Derived.Test.YtnlbnjdfkbhkhaaKit
import Derived.Shelf.SlicesG.Delete
namespace Go.Proofs.Ytnlbnjdfkbhkhaa
open Go.RowKit Go.Shelf Go.Sort

def del64R : Go.Shelf.Ren := ⟨fun | 45 => 32 | n => n, fun | 0 => 0 | 3 => 3 | 4 => 4 | 22 => 32 | 23 => 2 | n => n, fun | n => n⟩
theorem del64L : Go.Proofs.SlLaysN.n45 Try.prog del64R := {
  mixed := by kernel_rfl,
  f45 := ⟨Try.f32.name, by decide, Try.func32.trans (congrArg some (by kernel_rfl))⟩,
  t0 := Try.underlying0,
  a0 := Try.isAgg0,
  z0 := Try.sizeOf0,
  v0 := Try.zeroValue0,
  t3 := Try.underlying3,
  a3 := Try.isAgg3,
  z3 := Try.sizeOf3,
  v3 := Try.zeroValue3,
  t4 := Try.underlying4,
  a4 := Try.isAgg4,
  z4 := Try.sizeOf4,
  v4 := Try.zeroValue4,
  t22 := Try.underlying32,
  a22 := Try.isAgg32,
  z22 := Try.sizeOf32,
  v22 := Try.zeroValue32,
  t23 := Try.underlying2,
  a23 := Try.isAgg2,
  z23 := Try.sizeOf2,
  v23 := Try.zeroValue2,
  i23 := by kernel_rfl }
theorem del_any (blk off cap i j : Nat) (zs : List Int) (w : World) (hH : Holds (Value.int .i64) w blk off zs.toArray) (hcap : zs.length ≤ cap) (hm : cap ≤ 9223372036854775807) (hij : i ≤ j) (hj : j ≤ zs.length) :
    Calls Try.prog 32 #[.slice (some ⟨blk, off, none⟩) zs.length cap, .int .i64 i, .int .i64 j] w fun e w' => e = .returned (.slice (some ⟨blk, off, none⟩) (zs.length - (j - i)) cap) ∧ ∃ q, w' = putRow (Value.int .i64) (Sort.ahead w q) blk off (zs.take i ++ zs.drop j ++ List.replicate (j - i) 0).toArray :=
  AnyG.slices_Delete_int del64L blk off cap i j zs w hH hcap hm hij hj
end Go.Proofs.Ytnlbnjdfkbhkhaa
