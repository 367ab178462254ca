/-
  The program's matrices: rows, adjugates, determinants, walked.
-/
import Derived.Test.YtglkddhifpnniaaWalkB
import Derived.Laws.Cover3
namespace Go.Proofs.Ytglkddhifpnniaa
open Go.RowKit

/-- A matrix as a value. -/
def matA (m : Nat → Int) : Array Value := #[.int .i64 (m 0), .int .i64 (m 1), .int .i64 (m 2), .int .i64 (m 3), .int .i64 (m 4), .int .i64 (m 5), .int .i64 (m 6), .int .i64 (m 7), .int .i64 (m 8)]
def vecA (x y z : Int) : Array Value := #[.int .i64 x, .int .i64 y, .int .i64 z]

@[go_sem] theorem at47 (a : Option Addr) (cap : Nat) (w : World) : (Instr.arrayAt 43 (.slice a 3 cap)).run Try.prog w = .ok (.pointer a) w := run_arrayAt w 43 _ 3 a 3 cap Try.underlying43 (by decide)
@[go_sem] theorem at39 (a : Option Addr) (cap : Nat) (w : World) : (Instr.arrayAt 41 (.slice a 9 cap)).run Try.prog w = .ok (.pointer a) w := run_arrayAt w 41 _ 9 a 9 cap Try.underlying41 (by decide)
theorem row0_any (m : Nat → Int) (w : World) : Calls Try.prog 50 #[.agg (matA m), .int .i64 0] w fun e w' => e = .returned (.agg (vecA (m 0) (m 1) (m 2))) ∧ Below w.heap.size w w' := by
  unfold matA vecA
  go_enter Try.func50, Try.ntmps50
  go_wp2
  exact bodyPost_ret (v := .agg #[.int .i64 (m 0), .int .i64 (m 1), .int .i64 (m 2)]) (by simp [results, Try.results50, go_sem]) rfl ⟨rfl, (below_alloc _ _).trans ((below_alloc _ _).mono (by simp))⟩
theorem row1_any (m : Nat → Int) (w : World) : Calls Try.prog 50 #[.agg (matA m), .int .i64 1] w fun e w' => e = .returned (.agg (vecA (m 3) (m 4) (m 5))) ∧ Below w.heap.size w w' := by
  unfold matA vecA
  go_enter Try.func50, Try.ntmps50
  go_wp2
  exact bodyPost_ret (v := .agg #[.int .i64 (m 3), .int .i64 (m 4), .int .i64 (m 5)]) (by simp [results, Try.results50, go_sem]) rfl ⟨rfl, (below_alloc _ _).trans ((below_alloc _ _).mono (by simp))⟩
theorem row2_any (m : Nat → Int) (w : World) : Calls Try.prog 50 #[.agg (matA m), .int .i64 2] w fun e w' => e = .returned (.agg (vecA (m 6) (m 7) (m 8))) ∧ Below w.heap.size w w' := by
  unfold matA vecA
  go_enter Try.func50, Try.ntmps50
  go_wp2
  exact bodyPost_ret (v := .agg #[.int .i64 (m 6), .int .i64 (m 7), .int .i64 (m 8)]) (by simp [results, Try.results50, go_sem]) rfl ⟨rfl, (below_alloc _ _).trans ((below_alloc _ _).mono (by simp))⟩
theorem row_any (m : Nat → Int) (i : Nat) (hi : i < 3) (w : World) : Calls Try.prog 50 #[.agg (matA m), .int .i64 (i : Int)] w fun e w' => e = .returned (.agg (vecA (m (3 * i)) (m (3 * i + 1)) (m (3 * i + 2)))) ∧ Below w.heap.size w w' := by
  rcases (by omega : i = 0 ∨ i = 1 ∨ i = 2) with rfl | rfl | rfl
  · exact row0_any m w
  · exact row1_any m w
  · exact row2_any m w
/-- What the program takes a list for. -/
def matOf (n : Nat) (f : Nat → Int) : Nat → Int := if isM n f then f else fun _ => 0
theorem matOf_bound (n : Nat) (f : Nat → Int) : ∀ i, i < 9 → -1000 ≤ matOf n f i ∧ matOf n f i ≤ 1000 := by
  intro i hi
  unfold matOf
  split
  · rename_i h; exact h.2 i hi
  · constructor <;> (show (_ : Int) ≤ _; simp)
theorem det3_matOf (n : Nat) (f : Nat → Int) : det3 (matOf n f) = detOf n f := by
  unfold matOf detOf
  split
  · rfl
  · simp [det3]
theorem At.open9 {t : TypeId} {w : World} {q : Nat} {m : Nat → Int} (h : At t w q (matA m)) : (w.cell? ⟨q, 0, none⟩ = some (.int .i64 (m 0)) ∧ w.cell? ⟨q, 1, none⟩ = some (.int .i64 (m 1)) ∧ w.cell? ⟨q, 2, none⟩ = some (.int .i64 (m 2)) ∧ w.cell? ⟨q, 3, none⟩ = some (.int .i64 (m 3)) ∧ w.cell? ⟨q, 4, none⟩ = some (.int .i64 (m 4)) ∧ w.cell? ⟨q, 5, none⟩ = some (.int .i64 (m 5)) ∧ w.cell? ⟨q, 6, none⟩ = some (.int .i64 (m 6)) ∧ w.cell? ⟨q, 7, none⟩ = some (.int .i64 (m 7)) ∧ w.cell? ⟨q, 8, none⟩ = some (.int .i64 (m 8))) ∧
    (w.frozen? ⟨q, 0, none⟩ = false ∧ w.frozen? ⟨q, 1, none⟩ = false ∧ w.frozen? ⟨q, 2, none⟩ = false ∧ w.frozen? ⟨q, 3, none⟩ = false ∧ w.frozen? ⟨q, 4, none⟩ = false ∧ w.frozen? ⟨q, 5, none⟩ = false ∧ w.frozen? ⟨q, 6, none⟩ = false ∧ w.frozen? ⟨q, 7, none⟩ = false ∧ w.frozen? ⟨q, 8, none⟩ = false) :=
  ⟨⟨h.cell 0 rfl, h.cell 1 rfl, h.cell 2 rfl, h.cell 3 rfl, h.cell 4 rfl, h.cell 5 rfl, h.cell 6 rfl, h.cell 7 rfl, h.cell 8 rfl⟩, h.frozen 0, h.frozen 1, h.frozen 2, h.frozen 3, h.frozen 4, h.frozen 5, h.frozen 6, h.frozen 7, h.frozen 8⟩
/-- Nine numbers stored at block q. -/
abbrev put9 (W : World) (q : Nat) (m : Nat → Int) : World := (((((((((W.setCell ⟨q, 0, none⟩ (.int .i64 (m 0))).setCell ⟨q, 1, none⟩ (.int .i64 (m 1))).setCell ⟨q, 2, none⟩ (.int .i64 (m 2))).setCell ⟨q, 3, none⟩ (.int .i64 (m 3))).setCell ⟨q, 4, none⟩ (.int .i64 (m 4))).setCell ⟨q, 5, none⟩ (.int .i64 (m 5))).setCell ⟨q, 6, none⟩ (.int .i64 (m 6))).setCell ⟨q, 7, none⟩ (.int .i64 (m 7))).setCell ⟨q, 8, none⟩ (.int .i64 (m 8)))
theorem put9_at {t : TypeId} {W : World} {q : Nat} {v : Nat → Int} (h : At t W q (matA v)) (m : Nat → Int) : At t (put9 W q m) q (matA m) := by
  have := ((((((((h.set 0 (.int .i64 (m 0))).set 1 (.int .i64 (m 1))).set 2 (.int .i64 (m 2))).set 3 (.int .i64 (m 3))).set 4 (.int .i64 (m 4))).set 5 (.int .i64 (m 5))).set 6 (.int .i64 (m 6))).set 7 (.int .i64 (m 7))).set 8 (.int .i64 (m 8))
  simpa [matA] using this
theorem put9_below {w W : World} {n q : Nat} (h : Below n w W) (hq : n ≤ q) (m : Nat → Int) : Below n w (put9 W q m) :=
  ((((((((h.setCell hq _).setCell hq _).setCell hq _).setCell hq _).setCell hq _).setCell hq _).setCell hq _).setCell hq _).setCell hq _
theorem put9_other {t : TypeId} {W : World} {p q : Nat} {vs : Array Value} (h : At t W p vs) (hp : p ≠ q) (m : Nat → Int) : At t (put9 W q m) p vs :=
  ((((((((h.setOther hp _).setOther hp _).setOther hp _).setOther hp _).setOther hp _).setOther hp _).setOther hp _).setOther hp _).setOther hp _
end Go.Proofs.Ytglkddhifpnniaa
