/-
  Sums of cyclotomic numbers, by the program and by the specification: walked.
-/
import Derived.Test.YtbninbeccgdemaaDoorCb
namespace Go.Proofs.YtbninbeccgdemaaDoor
open Go.RowKit

/-- What is told of a sum. -/
def sumT (a b c d x y z u : Int) : Value := if cOk a b c d && cOk x y z u then told (a + x) (b + y) (c + z) (d + u) else .tuple #[cV 0 0 0 0, .bool false]
theorem cOk_in {a b c d : Int} (h : cOk a b c d = true) : (-1000000000000 ≤ a ∧ a ≤ 1000000000000) ∧ (-1000000000000 ≤ b ∧ b ≤ 1000000000000) ∧ (-1000000000000 ≤ c ∧ c ≤ 1000000000000) ∧ (-1000000000000 ≤ d ∧ d ≤ 1000000000000) := by
  have := (cOk_iff a b c d).1 h
  exact ⟨this 0 (by decide), this 1 (by decide), this 2 (by decide), this 3 (by decide)⟩
theorem implAdd_any (a b c d x y z u : Int) (w : World) : Calls Tryd.prog 14 #[cV a b c d, cV x y z u] w fun e w' => e = .returned (sumT a b c d x y z u) ∧ Below w.heap.size w w' := by
  obtain ⟨W, hW, b0, b1, b2, bW, -⟩ := boxed3 w 33 33 33 #[.int .i64 a, .int .i64 b, .int .i64 c, .int .i64 d] #[.int .i64 x, .int .i64 y, .int .i64 z, .int .i64 u] #[.int .i64 0, .int .i64 0, .int .i64 0, .int .i64 0]
  obtain ⟨c0, c1, c2, c3, -⟩ := b0.open4
  obtain ⟨d0, d1, d2, d3, -⟩ := b1.open4
  unfold sumT
  cases h1 : cOk a b c d
  · rw [if_neg (by simp)]
    go_enter Tryd.func14, Tryd.ntmps14
    go_wp2_with (go_at_call 39; refine (implOk_any _ _ _ _ _).mono ?_; rintro e w2 ⟨rfl, hb2⟩; rw [h1]; clear c0 c1 c2 c3 d0 d1 d2 d3; replace b0 := b0.below hb2; replace b1 := b1.below hb2; replace b2 := b2.below hb2; replace bW := bW.trans (hb2.mono bW.size); obtain ⟨c0, c1, c2, c3, -⟩ := b0.open4; obtain ⟨d0, d1, d2, d3, -⟩ := b1.open4; clear hb2; obtain ⟨e0, e1, e2, e3, f0, f1, f2, f3⟩ := b2.open4)
    obtain ⟨p0, p1, p2, p3, -⟩ := (put4_at b2 (.int .i64 0) (.int .i64 0) (.int .i64 0) (.int .i64 0)).open4
    exact bodyPost_ret (by simp [results, Tryd.results14, go_sem, p0, p1, p2, p3]) rfl ⟨rfl, below_put4 bW (by omega) _ _ _ _⟩
  cases h2 : cOk x y z u
  · rw [if_neg (by simp)]
    go_enter Tryd.func14, Tryd.ntmps14
    go_wp2_with (go_at_call 39; refine (implOk_any _ _ _ _ _).mono ?_; rintro e w2 ⟨rfl, hb2⟩; (first | rw [h1] | rw [h2]); clear c0 c1 c2 c3 d0 d1 d2 d3; replace b0 := b0.below hb2; replace b1 := b1.below hb2; replace b2 := b2.below hb2; replace bW := bW.trans (hb2.mono bW.size); obtain ⟨c0, c1, c2, c3, -⟩ := b0.open4; obtain ⟨d0, d1, d2, d3, -⟩ := b1.open4; clear hb2; obtain ⟨e0, e1, e2, e3, f0, f1, f2, f3⟩ := b2.open4)
    obtain ⟨p0, p1, p2, p3, -⟩ := (put4_at b2 (.int .i64 0) (.int .i64 0) (.int .i64 0) (.int .i64 0)).open4
    exact bodyPost_ret (by simp [results, Tryd.results14, go_sem, p0, p1, p2, p3]) rfl ⟨rfl, below_put4 bW (by omega) _ _ _ _⟩
  rw [if_pos (by simp)]
  obtain ⟨i1, i2, i3, i4⟩ := cOk_in h1
  obtain ⟨j1, j2, j3, j4⟩ := cOk_in h2
  unfold told
  cases h3 : cOk (a + x) (b + y) (c + z) (d + u)
  · rw [if_neg (by simp)]
    go_enter Tryd.func14, Tryd.ntmps14
    go_wp2_with (first
      | (go_at_call 39; refine (implOk_any _ _ _ _ _).mono ?_; rintro e w2 ⟨rfl, hb2⟩; (first | rw [h1] | rw [h2]); clear c0 c1 c2 c3 d0 d1 d2 d3; replace b0 := b0.below hb2; replace b1 := b1.below hb2; replace b2 := b2.below hb2; replace bW := bW.trans (hb2.mono bW.size); obtain ⟨c0, c1, c2, c3, -⟩ := b0.open4; obtain ⟨d0, d1, d2, d3, -⟩ := b1.open4; clear hb2)
      | (go_at_call 41; refine (inRange_any _ _ _ _ _).mono ?_; rintro e w2 ⟨rfl, hb2⟩; unfold told; rw [h3, if_neg (by simp)]; clear c0 c1 c2 c3 d0 d1 d2 d3; replace b0 := b0.below hb2; replace b1 := b1.below hb2; replace b2 := b2.below hb2; replace bW := bW.trans (hb2.mono bW.size); obtain ⟨c0, c1, c2, c3, -⟩ := b0.open4; obtain ⟨d0, d1, d2, d3, -⟩ := b1.open4; clear hb2; obtain ⟨e0, e1, e2, e3, f0, f1, f2, f3⟩ := b2.open4))
    obtain ⟨p0, p1, p2, p3, -⟩ := (put4_at b2 (.int .i64 0) (.int .i64 0) (.int .i64 0) (.int .i64 0)).open4
    exact bodyPost_ret (by simp [results, Tryd.results14, go_sem, p0, p1, p2, p3]) rfl ⟨rfl, below_put4 bW (by omega) _ _ _ _⟩
  · rw [if_pos rfl]
    go_enter Tryd.func14, Tryd.ntmps14
    go_wp2_with (first
      | (go_at_call 39; refine (implOk_any _ _ _ _ _).mono ?_; rintro e w2 ⟨rfl, hb2⟩; (first | rw [h1] | rw [h2]); clear c0 c1 c2 c3 d0 d1 d2 d3; replace b0 := b0.below hb2; replace b1 := b1.below hb2; replace b2 := b2.below hb2; replace bW := bW.trans (hb2.mono bW.size); obtain ⟨c0, c1, c2, c3, -⟩ := b0.open4; obtain ⟨d0, d1, d2, d3, -⟩ := b1.open4; clear hb2)
      | (go_at_call 41; refine (inRange_any _ _ _ _ _).mono ?_; rintro e w2 ⟨rfl, hb2⟩; unfold told; rw [h3, if_pos rfl]; clear c0 c1 c2 c3 d0 d1 d2 d3; replace b0 := b0.below hb2; replace b1 := b1.below hb2; replace b2 := b2.below hb2; replace bW := bW.trans (hb2.mono bW.size); obtain ⟨c0, c1, c2, c3, -⟩ := b0.open4; obtain ⟨d0, d1, d2, d3, -⟩ := b1.open4; clear hb2; obtain ⟨e0, e1, e2, e3, f0, f1, f2, f3⟩ := b2.open4))
    obtain ⟨p0, p1, p2, p3, -⟩ := (put4_at b2 (.int .i64 (a + x)) (.int .i64 (b + y)) (.int .i64 (c + z)) (.int .i64 (d + u))).open4
    exact bodyPost_ret (by simp [results, Tryd.results14, go_sem, p0, p1, p2, p3]) rfl ⟨rfl, below_put4 bW (by omega) _ _ _ _⟩
end Go.Proofs.YtbninbeccgdemaaDoor
