/-
  Conjugates, by the program and by the specification: walked.
-/
import Derived.Test.YtbninbeccgdemaaDoorCm
namespace Go.Proofs.YtbninbeccgdemaaDoor
open Go.RowKit

/-- What is told of a conjugate. -/
def conjT (a b c d : Int) : Value := if cOk a b c d && cOk (a + c) b (-c) (-b - d) then cV (a + c) b (-c) (-b - d) else cV 0 0 0 0
theorem cOk_in {a b c d : Int} (h : cOk a b c d = true) : (-1000000000000 ≤ a ∧ a ≤ 1000000000000) ∧ (-1000000000000 ≤ b ∧ b ≤ 1000000000000) ∧ (-1000000000000 ≤ c ∧ c ≤ 1000000000000) ∧ (-1000000000000 ≤ d ∧ d ≤ 1000000000000) := by
  have := (cOk_iff a b c d).1 h
  exact ⟨this 0 (by decide), this 1 (by decide), this 2 (by decide), this 3 (by decide)⟩
theorem specConj_any (a b c d : Int) (w : World) : Calls Tryd.prog 28 #[cV a b c d] w fun e w' => e = .returned (conjT a b c d) ∧ Below w.heap.size w w' := by
  obtain ⟨W, hW, b0, b1, bW, -⟩ := boxed2 w 33 33 #[.int .i64 a, .int .i64 b, .int .i64 c, .int .i64 d] #[.int .i64 0, .int .i64 0, .int .i64 0, .int .i64 0]
  obtain ⟨c0, c1, c2, c3, -⟩ := b0.open4
  unfold conjT
  cases h1 : cOk a b c d
  · rw [if_neg (by simp)]
    go_enter Tryd.func28, Tryd.ntmps28
    go_wp2_with (go_at_call 61; refine (specOk_any _ _ _ _ _).mono ?_; rintro e w2 ⟨rfl, hb2⟩; rw [h1]; clear c0 c1 c2 c3; replace b0 := b0.below hb2; replace b1 := b1.below hb2; replace bW := bW.trans (hb2.mono bW.size); obtain ⟨e0, e1, e2, e3, f0, f1, f2, f3⟩ := b1.open4; clear hb2)
    obtain ⟨p0, p1, p2, p3, -⟩ := (put4_at b1 (.int .i64 0) (.int .i64 0) (.int .i64 0) (.int .i64 0)).open4
    exact bodyPost_ret (by simp [results, Tryd.results28, go_sem, p0, p1, p2, p3]) rfl ⟨rfl, below_put4 bW (by omega) _ _ _ _⟩
  obtain ⟨i1, i2, i3, i4⟩ := cOk_in h1
  cases h2 : cOk (a + c) b (-c) (-b - d)
  · rw [if_neg (by simp)]
    go_enter Tryd.func28, Tryd.ntmps28
    go_wp2_with (go_at_call 61; refine (specOk_any _ _ _ _ _).mono ?_; rintro e w2 ⟨rfl, hb2⟩; (first | (rw [h1]; clear c0 c1 c2 c3; replace b0 := b0.below hb2; replace b1 := b1.below hb2; replace bW := bW.trans (hb2.mono bW.size); obtain ⟨c0, c1, c2, c3, -⟩ := b0.open4; clear hb2) | (rw [h2]; clear c0 c1 c2 c3; replace b1 := (b1.below (below_alloc _ _)).below hb2; replace bW := bW.trans (((below_alloc _ _).trans (hb2.mono (by simp))).mono bW.size); obtain ⟨e0, e1, e2, e3, f0, f1, f2, f3⟩ := b1.open4; clear hb2)))
    obtain ⟨p0, p1, p2, p3, -⟩ := (put4_at b1 (.int .i64 0) (.int .i64 0) (.int .i64 0) (.int .i64 0)).open4
    exact bodyPost_ret (by simp [results, Tryd.results28, go_sem, p0, p1, p2, p3]) rfl ⟨rfl, below_put4 bW (by omega) _ _ _ _⟩
  · rw [if_pos (by simp)]
    go_enter Tryd.func28, Tryd.ntmps28
    go_wp2_with (go_at_call 61; refine (specOk_any _ _ _ _ _).mono ?_; rintro e w2 ⟨rfl, hb2⟩; (first | (rw [h1]; clear c0 c1 c2 c3; replace b0 := b0.below hb2; replace b1 := b1.below hb2; replace bW := bW.trans (hb2.mono bW.size); obtain ⟨c0, c1, c2, c3, -⟩ := b0.open4; clear hb2) | (rw [h2]; clear c0 c1 c2 c3; replace b1 := (b1.below (below_alloc _ _)).below hb2; have b3 := (at_new 33 _ #[.int .i64 (a + c), .int .i64 b, .int .i64 (-c), .int .i64 (-b - d)]).below hb2; replace bW := bW.trans (((below_alloc _ _).trans (hb2.mono (by simp))).mono bW.size); obtain ⟨e0, e1, e2, e3, f0, f1, f2, f3⟩ := b1.open4; obtain ⟨c0, c1, c2, c3, -⟩ := b3.open4; clear hb2)))
    obtain ⟨p0, p1, p2, p3, -⟩ := (put4_at b1 (.int .i64 (a + c)) (.int .i64 b) (.int .i64 (-c)) (.int .i64 (-b - d))).open4
    exact bodyPost_ret (by simp [results, Tryd.results28, go_sem, p0, p1, p2, p3]) rfl ⟨rfl, below_put4 bW (by omega) _ _ _ _⟩
end Go.Proofs.YtbninbeccgdemaaDoor
