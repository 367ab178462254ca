/-
  Rows inflated once by the program; texts copied; Inflate by the specification: walked.
-/
import Derived.Test.YtnkmiljnilmicaaTb
import Derived.Test.YtnkmiljnilmicaaTl
import Derived.Lib.BufferWrite
import Derived.Lib.UnsafeStr
import Derived.Laws.MakeOwn
namespace Go.Proofs.Ytnkmiljnilmicaa
open Go.RowKit

set_option maxRecDepth 100000 in
set_option maxHeartbeats 1000000 in
theorem cloneIn_any (s : ByteArray) (w : World) (hs : s.size ≤ 1000000) : Calls Try.prog 30 #[.string s] w fun e w' => e = .returned (.string s) ∧ Below w.heap.size w w' := by
  by_cases h0 : s.size = 0
  · obtain rfl : s = ⟨#[]⟩ := ByteArray.ext (Array.eq_empty_of_size_eq_zero h0)
    go_enter Try.func30, Try.ntmps30
    go_wp2
    go_ret
    exact ⟨rfl, Below.refl _ _⟩
  · obtain ⟨i0, hi0, hz0, hz1, hz2⟩ := info_parts infoB
    have hsz : (Try.prog.info? 5).map (·.size) = some 1 := by rw [hi0]; simp [hz1]
    have hco : Try.prog.cellsOf 5 = 1 := by simp [Program.cellsOf, hi0, hz1]
    obtain ⟨M, hM⟩ : ∃ M, madeCells (Value.int .u8 0).cells (((s.size : Nat) : Int).toNat * i0.size) = M := ⟨_, rfl⟩
    have hMs : M.size = s.size := by rw [← hM, size_madeCells, hz1]; simp
    have mk : ∀ W : World, (Instr.makeSlice 22 (.int .i64 (s.size : Int)) (.int .i64 (s.size : Int))).run Try.prog W = .ok (.slice (some ⟨W.heap.size, 0, none⟩) s.size s.size) (W.alloc (.cells M 5)) := fun W => by
      have h := run_make (P := Try.prog) W 22 5 i0 (.int .u8 0) Try.underlying22 hi0 hz0 .i64 .i64 (s.size : Int) (s.size : Int) (by omega) (by omega) (by rw [hz2]; omega) (by omega)
      rw [hM] at h
      simpa using h
    clear hM
    have cp := Lib.run_copy_row_string (P := Try.prog) (w.alloc (.cells M 5)) 22 9 3 5 w.heap.size 0 s.size s.size s M 5 Try.underlying22 hsz (heap_alloc_new w _) (Nat.le_refl _) (by omega)
    obtain ⟨Y, hY⟩ : ∃ Y, (M.toList.take 0 ++ Lib.byteCells s.data.toList ++ M.toList.drop (0 + s.size)).toArray = Y := ⟨_, rfl⟩
    rw [hY] at cp
    have yl : Y.toList = Lib.byteCells s.data.toList := by
      rw [← hY, List.toList_toArray, List.take_zero, List.nil_append, List.drop_of_length_le (by rw [Array.length_toList]; omega), List.append_nil]
    have ys : Y.size = s.size := by rw [← Array.length_toList, yl, Lib.byteCells_length, ← Lib.size_eq]
    have gY : ((w.alloc (.cells M 5)).setRow w.heap.size Y).heap[w.heap.size]? = some (.cells Y 5 (0, 0)) := setRow_heap _ _ M _ 5 (0, 0) (heap_alloc_new w _)
    have ne : s.data.toList ≠ [] := fun e => h0 (by rw [Lib.size_eq, e]; rfl)
    have us := Lib.run_unsafeString_row (P := Try.prog) ((w.alloc (.cells M 5)).setRow w.heap.size Y) 57 3 9 5 Try.underlying57 hco w.heap.size Y.size (by unfold World.shape?; rw [gY]) s.data.toList ne (by rw [← Lib.size_eq]; omega) (by rw [← Lib.size_eq]; omega)
      (fun j x hx => Lib.cells_of_row gY Y.size j _ (by rw [List.take_of_length_le (by rw [Array.length_toList]; exact Nat.le_refl _), yl]; simp [Lib.byteCells, hx]))
    rw [← Lib.size_eq] at us
    clear hY
    go_enter Try.func30, Try.ntmps30
    go_wp2
    go_ret
    have b2 : Below w.heap.size (w.alloc (.cells M 5)) ((w.alloc (.cells M 5)).setRow w.heap.size Y) := ⟨rfl, rfl, rfl, by simp, fun k hk => setRow_other _ _ _ _ (by omega)⟩
    exact ⟨rfl, Lib.below_freeze ((below_alloc _ _).trans b2) (p := ⟨w.heap.size, 0, none⟩) (Nat.le_refl _) _⟩
theorem clone_any (s : ByteArray) (w : World) (hs : s.size ≤ 1000000) : Calls Try.prog 20 #[.string s] w fun e w' => e = .returned (.string s) ∧ Below w.heap.size w w' := by
  go_enter Try.func20, Try.ntmps20
  go_wp2_with (go_at_call 30; refine (cloneIn_any s _ hs).mono ?_; rintro e w2 ⟨rfl, b2⟩)
  go_ret
  exact ⟨rfl, b2⟩

/-- What a letter becomes. -/
def inf1 (b : UInt8) : List UInt8 := if b = 76 then [76, 83] else [76]
/-- A row inflated once. -/
def infl (L : List UInt8) : List UInt8 := L.flatMap inf1
theorem infl_add (L : List UInt8) (b : UInt8) : infl (L ++ [b]) = infl L ++ inf1 b := by simp [infl]
theorem infl_len (L : List UInt8) : L.length ≤ (infl L).length ∧ (infl L).length ≤ 2 * L.length := by
  induction L with
  | nil => exact ⟨Nat.le_refl _, Nat.le_refl _⟩
  | cons b L ih =>
    have h : (infl (b :: L)).length = (inf1 b).length + (infl L).length := by simp [infl]
    have h2 : (inf1 b).length = 1 ∨ (inf1 b).length = 2 := by unfold inf1; by_cases e : b = 76 <;> simp [e]
    rw [h, List.length_cons]; omega
/-- The text of letters. -/
abbrev tx (L : List UInt8) : ByteArray := ⟨L.toArray⟩
theorem tx_size (L : List UInt8) : (tx L).size = L.length := by simp [ByteArray.size]
theorem tx_sb (L : List UInt8) (k : Nat) (h : k < L.length) : sb (tx L) k = (L[k].toNat : Int) := by
  simp [sb, List.getD, List.getElem?_eq_getElem h]
theorem byte_eq {b : UInt8} : ((b.toNat : Int) = 76) ↔ b = 76 := by
  constructor
  · intro h
    have : b.toNat = 76 := by omega
    exact UInt8.toNat_inj.1 this
  · rintro rfl; rfl

end Go.Proofs.Ytnkmiljnilmicaa
