/-
  Products of operators by the specification, whatever is handed in, walked.
-/
import Derived.Test.YtglkddhifpnniaaOpL
namespace Go.Proofs.Ytglkddhifpnniaa
open Go.RowKit

theorem OpAt.src {w : World} {lo hi : Nat} {o : Value} {n k : Nat} {f h : Nat → Int} (ho : OpAt w lo hi o n f k h) : ∃ a c b d, o = .agg #[.slice a n c, .slice b k d] ∧ Src w a n f ∧ Src w b k h := by
  obtain ⟨v1, v2, rfl, m1, m2, -⟩ := ho
  obtain ⟨a, c, rfl, s1⟩ := m1.src
  obtain ⟨b, d, rfl, s2⟩ := m2.src
  exact ⟨a, c, b, d, rfl, s1, s2⟩
set_option maxRecDepth 100000 in
set_option maxHeartbeats 800000 in
theorem specMul_any {w : World} {a b a' b' : Option Addr} {n k n' k' : Nat} {f h f' h' : Nat → Int} (cap cap' cap2 cap3 : Nat) (hs : Src w a n f) (ht : Src w b k h) (hs' : Src w a' n' f') (ht' : Src w b' k' h') :
    Calls Try.prog 7 #[.agg #[.slice a n cap, .slice b k cap'], .agg #[.slice a' n' cap2, .slice b' k' cap3]] w fun e w' => ∃ o, e = .returned (.tuple #[o, .bool (decide (mulOk n f k h n' f' k' h'))]) ∧ Told w' w.heap.size w'.heap.size o (decide (mulOk n f k h n' f' k' h')) (mulM f f') (behV f h h') ∧ Below w.heap.size w w' := by
  obtain ⟨R, hR⟩ : ∃ R, decide (mulOk n f k h n' f' k' h') = R := ⟨_, rfl⟩
  rw [hR]
  have HR : Hid (decide (mulOk n f k h n' f' k' h') = R) := hR
  clear hR
  obtain ⟨W1, hW1, a1, bW1, -⟩ := boxed w 26 #[.slice a n cap, .slice b k cap']
  obtain ⟨W2, hW2, a2, bW2, -⟩ := boxed W1 26 #[.slice a' n' cap2, .slice b' k' cap3]
  obtain ⟨W3, hW3, a3, bW3, -⟩ := boxed W2 26 #[.slice none 0 0, .slice none 0 0]
  have s1 := a1.lt
  have s2 := a2.lt
  have s3 := a3.lt
  replace a1 := (a1.below bW2).below bW3
  replace a2 := a2.below bW3
  replace bW1 := (bW1.trans (bW2.mono bW1.size)).trans (bW3.mono (by omega))
  replace hs := hs.below bW1
  replace ht := ht.below bW1
  replace hs' := hs'.below bW1
  replace ht' := ht'.below bW1
  obtain ⟨c0, c1, -⟩ := a1.open2
  go_enter Try.func7, Try.ntmps7
  go_wp2_with fail
  refine (specOk_any cap cap' hs ht).mono ?_
  rintro e w4 ⟨rfl, b4⟩
  replace a1 := a1.below b4
  replace a2 := a2.below b4
  replace a3 := a3.below b4
  replace hs := hs.below b4
  replace ht := ht.below b4
  replace hs' := hs'.below b4
  replace ht' := ht'.below b4
  replace bW1 := bW1.trans (b4.mono bW1.size)
  have s4 := b4.size
  clear c0 c1 b4 hW1 hW2 hW3
  by_cases h1 : isOp n f k h
  · rw [decide_eq_true h1]
    obtain ⟨c0, c1, -⟩ := a2.open2
    go_wp2_with fail
    refine (specOk_any cap2 cap3 hs' ht').mono ?_
    rintro e w5 ⟨rfl, b5⟩
    replace a1 := a1.below b5
    replace a2 := a2.below b5
    replace a3 := a3.below b5
    replace hs := hs.below b5
    replace ht := ht.below b5
    replace hs' := hs'.below b5
    replace ht' := ht'.below b5
    replace bW1 := bW1.trans (b5.mono bW1.size)
    have s5 := b5.size
    clear c0 c1 b5
    by_cases h2 : isOp n' f' k' h'
    · rw [decide_eq_true h2]
      obtain ⟨c0, c1, -⟩ := a1.open2
      obtain ⟨c2, c3, -⟩ := a2.open2
      have h1' := h1
      have h2' := h2
      obtain ⟨rfl, rfl, r1⟩ := h1'
      obtain ⟨rfl, rfl, r2⟩ := h2'
      rcases hs with h0 | ⟨b1, o1, rfl, l1, i1⟩
      · omega
      rcases ht with h0 | ⟨b2, o2, rfl, l2, i2⟩
      · omega
      rcases hs' with h0 | ⟨b3, o3, rfl, l3, i3⟩
      · omega
      rcases ht' with h0 | ⟨b4, o4, rfl, l4, i4⟩
      · omega
      go_wp2_with fail
      refine (l3Mul_any cap cap' cap2 cap3 i1 i2 i3 i4 l1 l2 l3 l4 r1 r2).mono ?_
      rintro e w6 ⟨o, rfl, ho, b6⟩
      replace a3 := a3.below b6
      replace bW1 := bW1.trans (b6.mono bW1.size)
      have s6 := b6.size
      clear c0 c1 c2 c3 a1 a2 i1 i2 i3 i4
      obtain ⟨g1, e1, g2, e2, rfl, z1, z2⟩ := ho.src
      obtain ⟨X, hX, Y, hY, a7, b7, x0, x1, y0, y1⟩ := boxed2 w6 (.slice g1 9 e1) (.slice g2 3 e2)
      replace a3 := a3.below b7
      replace ho := ho.below b7
      replace z1 := z1.below b7
      replace z2 := z2.below b7
      replace bW1 := bW1.trans (b7.mono bW1.size)
      have s7 := a7.lt
      clear b6
      obtain ⟨c0, c1, -⟩ := a7.open2
      go_wp2_with fail
      refine (specOk_any e1 e2 z1 z2).mono ?_
      rintro e w8 ⟨rfl, b8⟩
      replace a3 := a3.below b8
      replace a7 := a7.below b8
      replace ho := ho.below b8
      replace bW1 := bW1.trans (b8.mono bW1.size)
      have s8 := b8.size
      clear c0 c1 hX hY b7 x0 x1 y0 y1 b8 z1 z2
      obtain ⟨d0, d1, f0, f1⟩ := a3.open2
      by_cases hR : isR (mulM f f') (behV f h h')
      · rw [decide_eq_true (show isOp 9 (mulM f f') 3 (behV f h h') from ⟨rfl, rfl, hR⟩)]
        have eR : R = true := HR.out.symm.trans (decide_eq_true ⟨h1, h2, hR⟩)
        subst eR
        obtain ⟨c0, c1, -⟩ := a7.open2
        go_wp2
        have a8 := nil2_at a3 (.slice g1 9 e1) (.slice g2 3 e2)
        obtain ⟨p0, p1, -⟩ := a8.open2
        have ho := (ho.store (q := W2.heap.size) (by omega) (.slice g1 9 e1) (.slice g2 3 e2)).wide (show w.heap.size ≤ w5.heap.size by omega) (show w6.heap.size ≤ ((w8.setCell ⟨W2.heap.size, 0, none⟩ (.slice g1 9 e1)).setCell ⟨W2.heap.size, 1, none⟩ (.slice g2 3 e2)).heap.size by rw [size_set2]; omega)
        exact bodyPost_ret (v := .tuple #[.agg #[.slice g1 9 e1, .slice g2 3 e2], .bool true]) (by simp [results, Try.results7, go_sem, p0, p1]) rfl ⟨_, rfl, ho, (bW1.setCell (show w.heap.size ≤ W2.heap.size by omega) _).setCell (show w.heap.size ≤ W2.heap.size by omega) _⟩
      · rw [decide_eq_false (show ¬ isOp 9 (mulM f f') 3 (behV f h h') from fun x => hR x.2.2)]
        have eR : R = false := HR.out.symm.trans (decide_eq_false (fun x => hR x.2.2))
        subst eR
        go_wp2
        have a8 := nil2_at a3 (.slice none 0 0) (.slice none 0 0)
        obtain ⟨p0, p1, -⟩ := a8.open2
        exact bodyPost_ret (v := .tuple #[.agg #[.slice none 0 0, .slice none 0 0], .bool false]) (by simp [results, Try.results7, go_sem, p0, p1]) rfl ⟨_, rfl, told_none _ _ _ _ _, (bW1.setCell (show w.heap.size ≤ W2.heap.size by omega) _).setCell (show w.heap.size ≤ W2.heap.size by omega) _⟩
    · rw [decide_eq_false h2]
      have eR : R = false := HR.out.symm.trans (decide_eq_false (fun x => h2 x.2.1))
      subst eR
      obtain ⟨d0, d1, f0, f1⟩ := a3.open2
      go_wp2
      have a8 := nil2_at a3 (.slice none 0 0) (.slice none 0 0)
      obtain ⟨p0, p1, -⟩ := a8.open2
      exact bodyPost_ret (v := .tuple #[.agg #[.slice none 0 0, .slice none 0 0], .bool false]) (by simp [results, Try.results7, go_sem, p0, p1]) rfl ⟨_, rfl, told_none _ _ _ _ _, (bW1.setCell (show w.heap.size ≤ W2.heap.size by omega) _).setCell (show w.heap.size ≤ W2.heap.size by omega) _⟩
  · rw [decide_eq_false h1]
    have eR : R = false := HR.out.symm.trans (decide_eq_false (fun x => h1 x.1))
    subst eR
    obtain ⟨d0, d1, f0, f1⟩ := a3.open2
    go_wp2
    have a8 := nil2_at a3 (.slice none 0 0) (.slice none 0 0)
    obtain ⟨p0, p1, -⟩ := a8.open2
    exact bodyPost_ret (v := .tuple #[.agg #[.slice none 0 0, .slice none 0 0], .bool false]) (by simp [results, Try.results7, go_sem, p0, p1]) rfl ⟨_, rfl, told_none _ _ _ _ _, (bW1.setCell (show w.heap.size ≤ W2.heap.size by omega) _).setCell (show w.heap.size ≤ W2.heap.size by omega) _⟩
end Go.Proofs.Ytglkddhifpnniaa
