/-
  Products of cyclotomic numbers, by the program and by the specification: what both tell.
-/
import Derived.Test.YthcanmnbaemdbaaDoorMq
namespace Go.Proofs.YthcanmnbaemdbaaDoor
open Go.RowKit

set_option maxRecDepth 100000 in
set_option maxHeartbeats 3200000 in
theorem specMul_no (a b c d x y z u : Int) (w : World) (hno : (cOk a b c d && cOk x y z u) = false) :
    Calls Tryd.prog 11 #[cV a b c d, cV x y z u] w fun e w' => e = .returned (.tuple #[cV 0 0 0 0, .bool false]) ∧ Below w.heap.size w w' := by
  obtain ⟨W, hW, b0, b1, b2, bW, sW⟩ := boxed3 w 25 25 25 #[.int .i64 a, .int .i64 b, .int .i64 c, .int .i64 d] #[.int .i64 x, .int .i64 y, .int .i64 z, .int .i64 u] #[.int .i64 0, .int .i64 0, .int .i64 0, .int .i64 0]
  obtain ⟨c0, c1, c2, c3, -⟩ := b0.open4
  go_enter Tryd.func11, Tryd.ntmps11
  go_wp2_with fail
  refine (specOk_any _ _ _ _ _).mono ?_
  rintro e w2 ⟨rfl, hb2⟩
  replace b1 := b1.below hb2
  replace b2 := b2.below hb2
  replace bW := bW.trans (hb2.mono bW.size)
  clear hb2 c0 c1 c2 c3 hW b0
  cases h1 : cOk a b c d
  · clear hno
    obtain ⟨d0, d1, d2, d3, f0, f1, f2, f3⟩ := b2.open4
    go_wp2
    all_goals first
      | contradiction
      | (obtain ⟨p0, p1, p2, p3, -⟩ := (put4_at b2 (.int .i64 0) (.int .i64 0) (.int .i64 0) (.int .i64 0)).open4
         exact bodyPost_ret (v := .tuple #[cV 0 0 0 0, .bool false]) (by simp [results, Tryd.results11, go_sem, p0, p1, p2, p3]) rfl ⟨rfl, below_put4 bW (by omega) _ _ _ _⟩)
  · have h2 : cOk x y z u = false := by rw [h1] at hno; exact hno
    clear hno
    obtain ⟨c0, c1, c2, c3, -⟩ := b1.open4
    go_wp2_with fail
    refine (specOk_any _ _ _ _ _).mono ?_
    rintro e w3 ⟨rfl, hb3⟩
    rw [h2]
    replace b2 := b2.below hb3
    replace bW := bW.trans (hb3.mono bW.size)
    clear hb3 c0 c1 c2 c3 b1
    obtain ⟨d0, d1, d2, d3, f0, f1, f2, f3⟩ := b2.open4
    go_wp2
    all_goals first
      | contradiction
      | (obtain ⟨p0, p1, p2, p3, -⟩ := (put4_at b2 (.int .i64 0) (.int .i64 0) (.int .i64 0) (.int .i64 0)).open4
         exact bodyPost_ret (v := .tuple #[cV 0 0 0 0, .bool false]) (by simp [results, Tryd.results11, go_sem, p0, p1, p2, p3]) rfl ⟨rfl, below_put4 bW (by omega) _ _ _ _⟩)
/-- What is told of a product, right numbers or not. -/
def mulR (a b c d x y z u : Int) : Value := if cOk a b c d && cOk x y z u then mulT a b c d x y z u else .tuple #[cV 0 0 0 0, .bool false]
theorem mulR_parts (a b c d x y z u : Int) : ∃ p q r s k, mulR a b c d x y z u = .tuple #[cV p q r s, .bool k] := by
  unfold mulR
  split
  · exact told_parts _ _ _ _
  · exact ⟨_, _, _, _, _, rfl⟩
theorem specMul_any (a b c d x y z u : Int) (w : World) : Calls Tryd.prog 11 #[cV a b c d, cV x y z u] w fun e w' => e = .returned (mulR a b c d x y z u) ∧ Below w.heap.size w w' := by
  unfold mulR
  by_cases h : (cOk a b c d && cOk x y z u) = true
  · rw [if_pos h]
    rw [Bool.and_eq_true] at h
    exact specMul_yes a b c d x y z u w h.1 h.2
  · rw [if_neg h]
    exact specMul_no a b c d x y z u w (Bool.eq_false_iff.2 h)
theorem implMul_any (a b c d x y z u : Int) (w : World) (ht : Tab w) : Calls Tryd.prog 9 #[cV a b c d, cV x y z u] w fun e w' => e = .returned (mulR a b c d x y z u) ∧ Below w.heap.size w w' := by
  unfold mulR
  by_cases h : (cOk a b c d && cOk x y z u) = true
  · rw [if_pos h]
    rw [Bool.and_eq_true] at h
    exact implMul_yes a b c d x y z u w ht h.1 h.2
  · rw [if_neg h]
    exact implMul_no a b c d x y z u w (Bool.eq_false_iff.2 h)
end Go.Proofs.YthcanmnbaemdbaaDoor
