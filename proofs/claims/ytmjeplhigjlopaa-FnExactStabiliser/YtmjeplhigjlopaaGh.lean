/-
  Operators as a map's keys. No function of the program.
-/
import Derived.Test.YtmjeplhigjlopaaGf
import Derived.Maps.Own
import Derived.Maps.OwnOps
import Derived.Maps.RangeWalk
import Derived.DeepKeys4
namespace Go.Proofs.Ytmjeplhigjlopaa
open Go.RowKit

theorem laidOutP : laidOutB Try.prog = true := by kernel_rfl
theorem keyed65 : Go.Maps.Keyed Try.prog 77 := Go.Maps.Keyed.of_law (deep_law_laid laidOutP (m := 4) (by omega) (of_decide_eq_true (by kernel_rfl)) (by kernel_rfl) (by kernel_rfl))
/-- An operator as a value. -/
def kV (k : Nat → Int) : Value := .agg (kc k).toArray
theorem kV_opA (f h : Nat → Int) : kV (cat 9 f h) = .agg (opA f h) := rfl
def small (k : Nat → Int) : Prop := ∀ j, j < 12 → -1000 ≤ k j ∧ k j ≤ 1000
theorem wf_small {n : Int} (h : -1000 ≤ n ∧ n ≤ 1000) : (Lit.int .i64 n).wf = true := by
  have h1 : -9223372036854775808 ≤ n ∧ n ≤ 9223372036854775807 := by omega
  simpa [Lit.wf, IntKind.min, IntKind.max, IntKind.bits, IntKind.signed] using h1
theorem lits1 (d : Nat) {n : Int} (h : -1000 ≤ n ∧ n ≤ 1000) : Try.prog.keyLits (d + 1) 2 [.int .i64 n] = some [.int .i64 n] := by
  unfold Program.keyLits
  rw [Try.underlying2]
  simp [wf_small h]
theorem cells61 : Try.prog.cellsOf 73 = 9 := by kernel_rfl
theorem cells63 : Try.prog.cellsOf 75 = 3 := by kernel_rfl
theorem cells65 : Try.prog.cellsOf 77 = 12 := by kernel_rfl
theorem cells2' : Try.prog.cellsOf 2 = 1 := by kernel_rfl
theorem lits9 (d : Nat) {k : Nat → Int} (h : small k) : Try.prog.keyLits (d + 2) 73 [.int .i64 (k 0), .int .i64 (k 1), .int .i64 (k 2), .int .i64 (k 3), .int .i64 (k 4), .int .i64 (k 5), .int .i64 (k 6), .int .i64 (k 7), .int .i64 (k 8)] = some [.int .i64 (k 0), .int .i64 (k 1), .int .i64 (k 2), .int .i64 (k 3), .int .i64 (k 4), .int .i64 (k 5), .int .i64 (k 6), .int .i64 (k 7), .int .i64 (k 8)] := by
  unfold Program.keyLits
  have u : Try.prog.underlying 73 = some (.array 9 2) := by kernel_rfl
  rw [u]
  simp [cells61, cells2', List.range, List.range.loop, lits1 d (h 0 (by omega)), lits1 d (h 1 (by omega)), lits1 d (h 2 (by omega)), lits1 d (h 3 (by omega)), lits1 d (h 4 (by omega)), lits1 d (h 5 (by omega)), lits1 d (h 6 (by omega)), lits1 d (h 7 (by omega)), lits1 d (h 8 (by omega))]
theorem lits3 (d : Nat) {k : Nat → Int} (h : small k) : Try.prog.keyLits (d + 2) 75 [.int .i64 (k 9), .int .i64 (k 10), .int .i64 (k 11)] = some [.int .i64 (k 9), .int .i64 (k 10), .int .i64 (k 11)] := by
  unfold Program.keyLits
  have u : Try.prog.underlying 75 = some (.array 3 2) := by kernel_rfl
  rw [u]
  simp [cells63, cells2', List.range, List.range.loop, lits1 d (h 9 (by omega)), lits1 d (h 10 (by omega)), lits1 d (h 11 (by omega))]
theorem key_kV {k : Nat → Int} (h : small k) : ∃ l, keyOf Try.prog 77 (kV k) = some l := by
  have hS : Try.prog.underlying 77 = some (.struct (Try.prog.fieldsOf 77)) := by kernel_rfl
  have hk : Try.prog.keyType 77 = true := by kernel_rfl
  have hf : (kV k).formed Try.prog 77 = true := by
    unfold kV Value.formed
    simp only [hS]
    simp [kc, cells65]
  have hT : ∃ d, Try.prog.types.size + 1 = d + 3 := ⟨Try.prog.types.size - 2, by have : 3 ≤ Try.prog.types.size := of_decide_eq_true (by kernel_rfl)
                                                                                 omega⟩
  obtain ⟨d, hd⟩ := hT
  unfold keyOf
  simp only [hS]
  rw [if_pos (by simp [hk, hf]), hd]
  refine ⟨.string (keyBytes [.int .i64 (k 0), .int .i64 (k 1), .int .i64 (k 2), .int .i64 (k 3), .int .i64 (k 4), .int .i64 (k 5), .int .i64 (k 6), .int .i64 (k 7), .int .i64 (k 8), .int .i64 (k 9), .int .i64 (k 10), .int .i64 (k 11)]), ?_⟩
  unfold Program.keyLits
  have hc : (kV k).cells.toList = kc k := rfl
  simp only [Try.underlying77, hc]
  rw [if_pos ⟨by rw [cells65]; rfl, by simp⟩]
  have h9 := lits9 d h
  have h3 := lits3 d h
  simp only [kc, List.mapM_cons, List.mapM_nil, cells61, cells63, List.drop, List.take, h9, h3]
  rfl
end Go.Proofs.Ytmjeplhigjlopaa
