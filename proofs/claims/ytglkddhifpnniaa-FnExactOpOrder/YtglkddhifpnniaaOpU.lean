/-
  Operators held against each other by the program; the operator that does nothing; walked.
-/
import Derived.Test.YtglkddhifpnniaaOpJ
import Derived.ChangeKeysEq
namespace Go.Proofs.Ytglkddhifpnniaa
open Go.RowKit

theorem items_eq (w : World) (xs ys : Array Value) (f g : Nat → Int) (d : Nat) : ∀ is : List Nat, (∀ i ∈ is, (Go.part 2 xs (i * 1)).run Try.prog w = .ok (.int .i64 (f i)) w) → (∀ i ∈ is, (Go.part 2 ys (i * 1)).run Try.prog w = .ok (.int .i64 (g i)) w) →
    (Op.eqItems (d + 1) 2 1 xs ys is).run Try.prog w = .ok (is.all fun i => f i == g i) w
  | [], _, _ => by simp [Op.eqItems]
  | i :: is, h1, h2 => by
    have ih := items_eq w xs ys f g d is (fun j hj => h1 j (List.mem_cons_of_mem _ hj)) (fun j hj => h2 j (List.mem_cons_of_mem _ hj))
    simp only [Op.eqItems, Sem.run_bind, h1 i List.mem_cons_self, h2 i List.mem_cons_self, Result.andThen_ok, run_equalIn_int w d 2 .i64 .i64 _ _ Try.underlying2]
    cases hb : (f i == g i)
    · simp [hb]
    · simp [hb, ih]
theorem pa9 (f : Nat → Int) (w : World) (i : Nat) (hi : i < 9) : (Go.part 2 (matA f) (i * 1)).run Try.prog w = .ok (.int .i64 (f i)) w := by
  rcases (by omega : i = 0 ∨ i = 1 ∨ i = 2 ∨ i = 3 ∨ i = 4 ∨ i = 5 ∨ i = 6 ∨ i = 7 ∨ i = 8) with rfl | rfl | rfl | rfl | rfl | rfl | rfl | rfl | rfl <;> kernel_rfl
theorem pa3 (f : Nat → Int) (w : World) (i : Nat) (hi : i < 3) : (Go.part 2 (vA f) (i * 1)).run Try.prog w = .ok (.int .i64 (f i)) w := by
  rcases (by omega : i = 0 ∨ i = 1 ∨ i = 2) with rfl | rfl | rfl <;> kernel_rfl
theorem partM (f h : Nat → Int) (w : World) : (Go.part 41 (opA f h) 0).run Try.prog w = .ok (.agg (matA f)) w := by kernel_rfl
theorem partV (f h : Nat → Int) (w : World) : (Go.part 43 (opA f h) 9).run Try.prog w = .ok (.agg (vA h)) w := by kernel_rfl
theorem cells2 : Try.prog.cellsOf 2 = 1 := by kernel_rfl
/-- Are the two operators the same? -/
def sameB (f h f' h' : Nat → Int) : Bool := ((List.range 9).all fun i => f i == f' i) && ((List.range 3).all fun i => h i == h' i)
theorem eq57 (f h f' h' : Nat → Int) (w : World) : (binOp .eql 45 (.agg (opA f h)) (.agg (opA f' h'))).run Try.prog w = .ok (.bool (sameB f h f' h')) w := by
  obtain ⟨i0, hi0, -⟩ := info_parts Try.info2
  have hS : Try.prog.underlying 45 = some (.struct (Try.prog.fieldsOf 45)) := by kernel_rfl
  have hp : Try.prog.stoodInHeld 45 = false := by kernel_rfl
  have u53 : Try.prog.underlying 41 = some (.array 9 2) := by kernel_rfl
  have u55 : Try.prog.underlying 43 = some (.array 3 2) := by kernel_rfl
  rw [run_eql_struct, show (10000 : Nat) = 9999 + 1 from rfl, run_equalIn_agg w 9999 45 _ _ hS hp]
  have e9 : (Op.equalIn 9999 41 (.agg (matA f)) (.agg (matA f'))).run Try.prog w = .ok ((List.range 9).all fun i => f i == f' i) w := by
    rw [show (9999 : Nat) = 9998 + 1 from rfl, run_equalIn_array w 9998 _ _ u53 hi0, cells2, show (9998 : Nat) = 9997 + 1 from rfl]
    exact items_eq w _ _ f f' _ _ (fun i hi => pa9 f w i (List.mem_range.1 hi)) (fun i hi => pa9 f' w i (List.mem_range.1 hi))
  have e3 : (Op.equalIn 9999 43 (.agg (vA h)) (.agg (vA h'))).run Try.prog w = .ok ((List.range 3).all fun i => h i == h' i) w := by
    rw [show (9999 : Nat) = 9998 + 1 from rfl, run_equalIn_array w 9998 _ _ u55 hi0, cells2, show (9998 : Nat) = 9997 + 1 from rfl]
    exact items_eq w _ _ h h' _ _ (fun i hi => pa3 h w i (List.mem_range.1 hi)) (fun i hi => pa3 h' w i (List.mem_range.1 hi))
  simp only [Program.fieldsOf, Try.underlying45]
  simp only [Op.eqFields]
  unfold sameB
  rw [if_pos (show "turn" ≠ "_" by decide), if_pos (show "shift" ≠ "_" by decide)]
  simp only [Sem.run_bind, partM, Result.andThen_ok, e9]
  cases hb : ((List.range 9).all fun i => f i == f' i)
  · simp
  · simp only [Bool.not_true, Bool.false_eq_true, if_false, Sem.run_bind, partV, Result.andThen_ok, e3, Bool.true_and]
    cases hc : ((List.range 3).all fun i => h i == h' i)
    · simp
    · simp
/-- The numbers of the operator that does nothing. -/
def oneF (i : Nat) : Int := if i = 0 ∨ i = 4 ∨ i = 8 then 1 else 0
theorem one12 : opA oneF (fun _ => 0) = #[.int .i64 1, .int .i64 0, .int .i64 0, .int .i64 0, .int .i64 1, .int .i64 0, .int .i64 0, .int .i64 0, .int .i64 1, .int .i64 0, .int .i64 0, .int .i64 0] := rfl
theorem nothing_any (w : World) : Calls Try.prog 44 #[] w fun e w' => e = .returned (.agg (opA oneF (fun _ => 0))) ∧ Below w.heap.size w w' := by
  obtain ⟨W1, hW1, a1, bW, -⟩ := boxed w 45 (opA (fun _ => 0) (fun _ => 0))
  rw [zero12] at hW1
  obtain ⟨⟨d0, d1, d2, d3, d4, d5, d6, d7, d8⟩, d9, d10, d11⟩ := a1.open12
  obtain ⟨y0, y1, y2, y3, y4, y5, y6, y7, y8, y9, y10, y11⟩ := a1.fro12
  have hF := put12_at a1 oneF (fun _ => 0)
  have hB := put12_below bW (Nat.le_refl w.heap.size) oneF (fun _ => 0)
  simp only [put12, opA, show oneF 0 = 1 from rfl, show oneF 1 = 0 from rfl, show oneF 2 = 0 from rfl, show oneF 3 = 0 from rfl, show oneF 4 = 1 from rfl, show oneF 5 = 0 from rfl, show oneF 6 = 0 from rfl, show oneF 7 = 0 from rfl, show oneF 8 = 1 from rfl] at hF hB
  have p0 := hF.cell 0 rfl
  have p1 := hF.cell 1 rfl
  have p2 := hF.cell 2 rfl
  have p3 := hF.cell 3 rfl
  have p4 := hF.cell 4 rfl
  have p5 := hF.cell 5 rfl
  have p6 := hF.cell 6 rfl
  have p7 := hF.cell 7 rfl
  have p8 := hF.cell 8 rfl
  have p9 := hF.cell 9 rfl
  have p10 := hF.cell 10 rfl
  have p11 := hF.cell 11 rfl
  go_enter Try.func44, Try.ntmps44
  go_wp2
  exact bodyPost_ret (v := .agg (opA oneF (fun _ => 0))) (by rw [one12]; simp [results, Try.results44, go_sem, p0, p1, p2, p3, p4, p5, p6, p7, p8, p9, p10, p11]) rfl ⟨rfl, hB⟩
end Go.Proofs.Ytglkddhifpnniaa
