/-
  The law on Reduce, walked.
-/
import Derived.Test.YtlgkohiempcbhabWalkT
namespace Go.Proofs.Ytlgkohiempcbhab
open Go.RowKit

/-- The form that is told. -/
def red (a b c : Int) : Int × Int × Int := if fOk a b c = true then fin a.toNat a (sb a b) (sc a b c) else (0, 0, 0)
theorem implRed_any (a b c : Int) (w : World) :
    Calls Try.prog 25 #[.agg #[.int .i64 a, .int .i64 b, .int .i64 c]] w fun e w' => e = .returned (.agg #[.int .i64 (red a b c).1, .int .i64 (red a b c).2.1, .int .i64 (red a b c).2.2]) ∧ Below w.heap.size w w' := by
  by_cases h : fOk a b c = true
  · rw [red, if_pos h]
    exact implReduce_any (fOk_good.1 h) w
  · rw [red, if_neg h]
    exact implReduce_bad (by simpa using h) w
theorem specRed_any (a b c : Int) (w : World) :
    Calls Try.prog 24 #[.agg #[.int .i64 a, .int .i64 b, .int .i64 c]] w fun e w' => e = .returned (.agg #[.int .i64 (red a b c).1, .int .i64 (red a b c).2.1, .int .i64 (red a b c).2.2]) ∧ Below w.heap.size w w' := by
  obtain ⟨W1, hW1, a1, bW1, z1⟩ := boxed w 32 #[.int .i64 a, .int .i64 b, .int .i64 c]
  obtain ⟨W2, hW2, a2, bW2, z2⟩ := boxed W1 32 #[.int .i64 0, .int .i64 0, .int .i64 0]
  rw [z1] at a2 bW2 z2
  replace a1 := a1.belowN bW2 (by omega)
  have bW : Below w.heap.size w W2 := bW1.trans (bW2.mono (by omega))
  clear bW1 bW2
  obtain ⟨c0, c1, c2, -⟩ := a1.open3
  by_cases h : fOk a b c = true
  · rw [red, if_pos h]
    have hg := fOk_good.1 h
    obtain ⟨R, hR⟩ : ∃ R, fin a.toNat a (sb a b) (sc a b c) = R := ⟨_, rfl⟩
    rw [hR]
    go_enter Try.func24, Try.ntmps24
    go_wp2_with (first
      | (go_at_call 21; refine (specOk_any _ _ _ _).mono ?_; rintro e w2 ⟨rfl, hb2⟩; rw [h]; replace a1 := a1.below hb2; replace a2 := a2.below hb2; replace bW := bW.trans (hb2.mono bW.size); obtain ⟨c0, c1, c2, -⟩ := a1.open3; clear hb2)
      | (go_at_call 44; refine (l2Reduce_any hg _).mono ?_; rintro e w2 ⟨⟨v, rfl⟩, hb2⟩; rw [hR]; replace a2 := a2.below hb2; replace bW := bW.trans (hb2.mono bW.size); have hl := a2.lt; obtain ⟨U, hU, aU, bU, zU⟩ := boxed w2 32 #[.int .i64 0, .int .i64 0, .int .i64 0]; replace a2 := a2.below bU; replace bW := bW.trans (bU.mono bW.size); obtain ⟨e0, e1, e2, e3, e4, e5⟩ := a2.open3; obtain ⟨g0, g1, g2, g3, g4, g5⟩ := aU.open3; have hne : w.heap.size + 1 ≠ w2.heap.size := Nat.ne_of_lt hl; clear hb2))
    have q2 : At 32 (((U.setCell ⟨w2.heap.size, 0, none⟩ (.int .i64 R.1)).setCell ⟨w2.heap.size, 1, none⟩ (.int .i64 R.2.1)).setCell ⟨w2.heap.size, 2, none⟩ (.int .i64 R.2.2)) (w.heap.size + 1) #[.int .i64 0, .int .i64 0, .int .i64 0] := ((a2.setOther hne _).setOther hne _).setOther hne _
    obtain ⟨r0, r1, r2, -⟩ := (put3_at q2 (.int .i64 R.1) (.int .i64 R.2.1) (.int .i64 R.2.2)).open3
    exact bodyPost_ret (v := .agg #[.int .i64 R.1, .int .i64 R.2.1, .int .i64 R.2.2]) (by simp [results, Try.results24, go_sem, r0, r1, r2]) rfl ⟨rfl, put3_below (put3_below bW (by omega) _ _ _) (Nat.le_succ _) _ _ _⟩
  · rw [red, if_neg h]
    have h' : fOk a b c = false := by simpa using h
    go_enter Try.func24, Try.ntmps24
    go_wp2_with (go_at_call 21; refine (specOk_any _ _ _ _).mono ?_; rintro e w2 ⟨rfl, hb2⟩; rw [h']; replace a2 := a2.below hb2; replace bW := bW.trans (hb2.mono bW.size); obtain ⟨e0, e1, e2, e3, e4, e5⟩ := a2.open3; clear hb2)
    obtain ⟨r0, r1, r2, -⟩ := (put3_at a2 (.int .i64 0) (.int .i64 0) (.int .i64 0)).open3
    exact bodyPost_ret (v := .agg #[.int .i64 0, .int .i64 0, .int .i64 0]) (by simp [results, Try.results24, go_sem, r0, r1, r2]) rfl ⟨rfl, put3_below bW (Nat.le_succ _) _ _ _⟩
theorem eqForm_true (a b c : Int) (w : World) : Calls Try.prog 26 #[.agg #[.int .i64 a, .int .i64 b, .int .i64 c], .agg #[.int .i64 a, .int .i64 b, .int .i64 c]] w fun e w' => e = .returned (.bool true) ∧ Below w.heap.size w w' := by
  go_enter Try.func26, Try.ntmps26
  go_wp2
  go_ret
  exact ⟨rfl, (below_alloc _ _).trans ((below_alloc _ _).mono (by simp))⟩
theorem exactReduce_walk (a b c : Int) (w : World) : Calls Try.prog 8 #[.agg #[.int .i64 a, .int .i64 b, .int .i64 c]] w fun e w' => e = .returned (.bool true) ∧ Below w.heap.size w w' := by
  obtain ⟨R, hR⟩ : ∃ R, red a b c = R := ⟨_, rfl⟩
  obtain ⟨W, hW, b0, bW, -⟩ := boxed w 30 #[.int .i64 a, .int .i64 b, .int .i64 c]
  go_enter Try.func8, Try.ntmps8
  obtain ⟨c0, c1, c2, -⟩ := b0.open3
  go_wp2_with (first
    | (go_at_call 22; refine (toForm_any _ _ _ _).mono ?_; rintro e w2 ⟨rfl, hb2⟩; replace b0 := b0.below hb2; replace bW := bW.trans (hb2.mono bW.size); (try replace b4 := b4.below hb2); obtain ⟨c0, c1, c2, -⟩ := b0.open3; clear hb2)
    | (go_at_call 24; refine (specRed_any _ _ _ _).mono ?_; rintro e wA ⟨rfl, hb2⟩; rw [hR]; replace b0 := b0.below hb2; replace bW := bW.trans (hb2.mono bW.size); obtain ⟨W4, hW4, b4, bU4, zU4⟩ := boxed wA 32 #[.int .i64 R.1, .int .i64 R.2.1, .int .i64 R.2.2]; replace b0 := b0.below bU4; replace bW := bW.trans (bU4.mono bW.size); obtain ⟨c0, c1, c2, -⟩ := b0.open3; clear hb2)
    | (go_at_call 25; refine (implRed_any _ _ _ _).mono ?_; rintro e wB ⟨rfl, hb2⟩; rw [hR]; replace b4 := b4.below hb2; replace bW := bW.trans (hb2.mono bW.size); obtain ⟨W5, hW5, b5, bU5, zU5⟩ := boxed wB 32 #[.int .i64 R.1, .int .i64 R.2.1, .int .i64 R.2.2]; replace b4 := b4.below bU5; replace bW := bW.trans (bU5.mono bW.size); obtain ⟨x0, x1, x2, -⟩ := b4.open3; obtain ⟨y0, y1, y2, -⟩ := b5.open3; clear hb2)
    | (go_at_call 26; refine (eqForm_true _ _ _ _).mono ?_; rintro e wC ⟨rfl, hb2⟩; replace bW := bW.trans (hb2.mono bW.size); clear hb2))
  go_ret
  exact ⟨rfl, bW⟩
end Go.Proofs.Ytlgkohiempcbhab
