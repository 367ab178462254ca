/-
  Ways back of operators by the specification, whatever is handed in, walked.
-/
import Derived.Test.YtglkddhifpnniaaE9a
namespace Go.Proofs.Ytglkddhifpnniaa
open Go.RowKit

theorem specBack_any {w : World} {a b : Option Addr} {n k : Nat} {f h : Nat → Int} (cap cap' : Nat) (hs : Src w a n f) (ht : Src w b k h) :
    Calls Try.prog 13 #[.agg #[.slice a n cap, .slice b k cap']] w fun e w' => ∃ o, e = .returned (.tuple #[o, .bool (decide (backOk n f k h))]) ∧ Told w' w.heap.size w'.heap.size o (decide (backOk n f k h)) (backM f) (backV f h) ∧ Below w.heap.size w w' := by
  by_cases h1 : isOp n f k h
  · have e1 : decide (backOk n f k h) = decide (isR (backM f) (backV f h)) := by
      rw [Bool.eq_iff_iff]
      simp only [decide_eq_true_eq]
      exact ⟨fun x => x.2, fun x => ⟨h1, x⟩⟩
    rw [e1]
    obtain ⟨rfl, rfl, r1⟩ := h1
    rcases hs with h0 | ⟨b1, o1, rfl, l1, i1⟩
    · omega
    rcases ht with h0 | ⟨b2, o2, rfl, l2, i2⟩
    · omega
    exact specBack_ok cap cap' i1 i2 l1 l2 r1
  · rw [decide_eq_false (fun x : backOk n f k h => h1 x.1)]
    obtain ⟨W1, hW1, a1, bW1, -⟩ := boxed w 26 #[.slice a n cap, .slice b k cap']
    obtain ⟨W2, hW2, a3, bW3, -⟩ := boxed W1 26 #[.slice none 0 0, .slice none 0 0]
    have s1 := a1.lt
    replace a1 := a1.below bW3
    replace bW1 := bW1.trans (bW3.mono bW1.size)
    obtain ⟨c0, c1, -⟩ := a1.open2
    go_enter Try.func13, Try.ntmps13
    go_wp2_with fail
    refine (specOk_any cap cap' (hs.below bW1) (ht.below bW1)).mono ?_
    rintro e w4 ⟨rfl, b4⟩
    rw [decide_eq_false h1]
    replace a3 := a3.below b4
    replace bW1 := bW1.trans (b4.mono bW1.size)
    clear c0 c1 b4 hW1 hW2
    obtain ⟨d0, d1, f0, f1⟩ := a3.open2
    go_wp2
    have a8 := nil2_at a3 (.slice none 0 0) (.slice none 0 0)
    obtain ⟨p0, p1, -⟩ := a8.open2
    exact bodyPost_ret (v := .tuple #[.agg #[.slice none 0 0, .slice none 0 0], .bool false]) (by simp [results, Try.results13, go_sem, p0, p1]) rfl ⟨_, rfl, told_none _ _ _ _ _, (bW1.setCell (show w.heap.size ≤ W1.heap.size by omega) _).setCell (show w.heap.size ≤ W1.heap.size by omega) _⟩
end Go.Proofs.Ytglkddhifpnniaa
