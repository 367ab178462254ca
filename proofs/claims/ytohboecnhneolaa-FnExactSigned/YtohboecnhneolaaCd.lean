/-
  Quotients rounded down and what is left, by the program and by the specification: walked.
-/
import Derived.Test.YtohboecnhneolaaCa
namespace Go.Proofs.Ytohboecnhneolaa
open Go.RowKit

theorem ediv_is {x y q : Int} (hy : 0 < y) (h1 : q * y ≤ x) (h2 : x < q * y + y) : x / y = q := by
  have a1 : q ≤ x / y := Int.le_ediv_of_mul_le hy h1
  have a2 : x / y < q + 1 := Int.ediv_lt_of_lt_mul hy (by rw [Int.add_mul]; omega)
  omega
theorem ediv_facts (x : Int) {y : Int} (hy : 0 < y) : x / y * y ≤ x ∧ x < x / y * y + y := by
  have h1 := Int.ediv_mul_le x (Int.ne_of_gt hy)
  have h2 := Int.lt_ediv_add_one_mul_self x hy
  rw [Int.add_mul] at h2
  omega
theorem tdiv_neg {x y : Int} (hx : x < 0) (hy : 0 < y) : (x.tdiv y * y = x ∧ x.tdiv y = x / y) ∨ (x < x.tdiv y * y ∧ x.tdiv y - 1 = x / y ∧ x.tdiv y * y < x + y ∧ x.tdiv y * y ≤ 0) := by
  have e : x.tdiv y = -((-x) / y) := by
    have := Int.neg_tdiv (-x) y
    rw [Int.neg_neg] at this
    rw [this, Int.tdiv_eq_ediv_of_nonneg (show 0 ≤ -x by omega)]
  have f := ediv_facts (-x) hy
  have em : x.tdiv y * y = -((-x) / y * y) := by rw [e, Int.neg_mul]
  have hn : 0 ≤ (-x) / y * y := Int.mul_nonneg (Int.ediv_nonneg (by omega) (by omega)) (by omega)
  by_cases hz : (-x) / y * y = -x
  · left
    refine ⟨by omega, ?_⟩
    exact (ediv_is hy (by omega) (by omega)).symm
  · right
    refine ⟨by omega, ?_, by omega, by omega⟩
    refine (ediv_is hy ?_ ?_).symm
    · rw [Int.sub_mul]; omega
    · rw [Int.sub_mul]; omega
/-- The quotient that is cut, and the one that is rounded down. -/
theorem down_cases (x : Int) {y : Int} (hy : 0 < y) : (x.tdiv y * y ≤ x ∧ x.tdiv y = x / y ∧ (0 ≤ x → 0 ≤ x.tdiv y * y) ∧ (x < 0 → x.tdiv y * y = x)) ∨ (x < x.tdiv y * y ∧ x.tdiv y - 1 = x / y ∧ x.tdiv y * y ≤ 0 ∧ x < 0) := by
  rcases Int.lt_or_le x 0 with h | h
  · rcases tdiv_neg h hy with h' | h'
    · exact .inl ⟨by omega, h'.2, by omega, by omega⟩
    · exact .inr ⟨h'.1, h'.2.1, h'.2.2.2, h⟩
  · have e := Int.tdiv_eq_ediv_of_nonneg (b := y) h
    have f := ediv_facts x (y := y) hy
    have hn : 0 ≤ x / y * y := Int.mul_nonneg (Int.ediv_nonneg h (by omega)) (by omega)
    rw [← e] at f hn
    exact .inl ⟨f.1, e, fun _ => hn, by omega⟩
theorem tdiv_abs (x y : Int) : (x.tdiv y).natAbs ≤ x.natAbs := by rw [Int.natAbs_tdiv]; exact Nat.div_le_self _ _
def is64 (x : Int) : Prop := -9223372036854775808 ≤ x ∧ x ≤ 9223372036854775807
theorem qdown_any (x y : Int) (w : World) (hx : is64 x) (hy : 2 ≤ y ∧ y ≤ 1000000000000000) : Calls Try.prog 19 #[.int .i64 x, .int .i64 y] w fun e w' => e = .returned (.int .i64 (x / y)) ∧ w = w' := by
  obtain ⟨hx1, hx2⟩ := hx
  have ha := tdiv_abs x y
  rcases down_cases x (y := y) (by omega) with ⟨h1, h2, h3, h4⟩ | ⟨h1, h2, h3, h4⟩
  · have r1 : -9223372036854775808 ≤ x.tdiv y * y ∧ x.tdiv y * y ≤ 9223372036854775807 := by omega
    have r2 : -9223372036854775808 ≤ x.tdiv y ∧ x.tdiv y ≤ 9223372036854775807 := by
      rcases Int.lt_or_le x 0 with h | h
      · have h0 : x / y < 0 := Int.ediv_neg_of_neg_of_pos h (by omega)
        omega
      · omega
    rw [← h2]
    have h1' : ¬ x < x.tdiv y * y := by omega
    clear h2 h3 h4 ha
    go_enter Try.func19, Try.ntmps19
    go_wp2
    go_ret
    exact ⟨rfl, rfl⟩
  · have r1 : -9223372036854775808 ≤ x.tdiv y * y ∧ x.tdiv y * y ≤ 9223372036854775807 := by omega
    have h5 : x / y < 0 := Int.ediv_neg_of_neg_of_pos h4 (by omega)
    have h6 : x.tdiv y ≤ 0 := by omega
    have h7 : x < x.tdiv y := by
      have := Int.mul_le_mul_of_nonneg_left (a := 1) (b := y) (c := -x.tdiv y) (by omega) (by omega)
      rw [Int.neg_mul, Int.neg_mul] at this
      omega
    have r2 : -9223372036854775807 ≤ x.tdiv y ∧ x.tdiv y ≤ 9223372036854775807 := by omega
    rw [← h2]
    clear h2 h3 h4 h5 h6 h7 ha
    go_enter Try.func19, Try.ntmps19
    go_wp2
    go_ret
    exact ⟨rfl, rfl⟩
theorem wrap_back {a b : Int} (h : is64 (a - b)) : wrap64 (a - wrap64 b) = a - b := by
  obtain ⟨h1, h2⟩ := h
  unfold wrap64
  omega
theorem modulo_any (x y : Int) (w : World) (hx : is64 x) (hy : 2 ≤ y ∧ y ≤ 1000000000000000) : Calls Try.prog 17 #[.int .i64 x, .int .i64 y] w fun e w' => e = .returned (.int .i64 (x % y)) ∧ w = w' := by
  have hm := Int.emod_def x y
  have h0 := Int.emod_nonneg x (show y ≠ 0 by omega)
  have h1 := Int.emod_lt_of_pos x (show 0 < y by omega)
  have HW : Hid (wrap64 (x - wrap64 (y * (x / y))) = x % y) := by
    show wrap64 (x - wrap64 (y * (x / y))) = x % y
    rw [wrap_back (by rw [← hm]; exact ⟨by omega, by omega⟩)]; omega
  have HX : Hid (is64 x) := hx
  clear hm h0 h1 hx
  go_enter Try.func17, Try.ntmps17
  go_wp2_with (go_at_call 19; refine (qdown_any _ _ _ HX.out hy).mono ?_; rintro e w2 ⟨rfl, rfl⟩)
  go_ret
  exact ⟨by rw [← HW.out]; rfl, rfl⟩
theorem smod_any (x y : Int) (w : World) (_hx : is64 x) (hy : 2 ≤ y ∧ y ≤ 1000000000000000) : Calls Try.prog 10 #[.int .i64 x, .int .i64 y] w fun e w' => e = .returned (.int .i64 (x % y)) ∧ w = w' := by
  have hd := Int.tmod_add_tdiv_mul x y
  have he := Int.emod_def x y
  have h0 := Int.emod_nonneg x (show y ≠ 0 by omega)
  have h1 := Int.emod_lt_of_pos x (show 0 < y by omega)
  rw [Int.mul_comm] at he
  have hc : (¬ x.tmod y < 0 ∧ x.tmod y = x % y) ∨ (x.tmod y < 0 ∧ x.tmod y + y = x % y) := by
    rcases down_cases x (y := y) (by omega) with ⟨h1, h2, h3, h4⟩ | ⟨h1, h2, h3, h4⟩
    · rw [← h2] at he
      exact .inl ⟨by omega, by omega⟩
    · rw [← h2, Int.sub_mul] at he
      exact .inr ⟨by omega, by omega⟩
  clear hd he
  rcases hc with ⟨c1, c2⟩ | ⟨c1, c2⟩
  · rw [← c2] at h0 h1 ⊢
    clear c2
    go_enter Try.func10, Try.ntmps10
    go_wp2
    go_ret
    exact ⟨rfl, rfl⟩
  · rw [← c2] at h0 h1 ⊢
    clear c2
    go_enter Try.func10, Try.ntmps10
    go_wp2
    go_ret
    exact ⟨rfl, rfl⟩
end Go.Proofs.Ytohboecnhneolaa
