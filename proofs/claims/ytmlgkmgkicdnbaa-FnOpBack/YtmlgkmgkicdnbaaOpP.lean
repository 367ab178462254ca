/-
  Ways back of operators by the program, whatever is handed in, walked.
-/
import Derived.Test.YtmlgkmgkicdnbaaML
import Derived.Test.YtmlgkmgkicdnbaaNQ
namespace Go.Proofs.Ytmlgkmgkicdnbaa
open Go.RowKit

set_option maxRecDepth 100000 in
set_option maxHeartbeats 800000 in
theorem implBack_any {w : World} {a b : Option Addr} {n k : Nat} {f h : Nat → Int} (cap cap' : Nat) (hs : Src w a n f) (ht : Src w b k h) :
    Calls Try.prog 14 #[.agg #[.slice a n cap, .slice b k cap']] w fun e w' => ∃ o, e = .returned (.tuple #[o, .bool (decide (backOk n f k h))]) ∧ Told w' w.heap.size w'.heap.size o (decide (backOk n f k h)) (backM f) (backV f h) ∧ Below w.heap.size w w' := by
  obtain ⟨R, hR⟩ : ∃ R, decide (backOk n f k h) = R := ⟨_, rfl⟩
  rw [hR]
  have HR : Hid (decide (backOk n f k h) = R) := hR
  clear hR
  obtain ⟨W1, hW1, a1, bW1, -⟩ := boxed w 33 #[.slice a n cap, .slice b k cap']
  obtain ⟨W2, hW2, a3, bW3, -⟩ := boxed W1 33 #[.slice none 0 0, .slice none 0 0]
  have s1 := a1.lt
  have s3 := a3.lt
  replace a1 := a1.below bW3
  replace bW1 := bW1.trans (bW3.mono bW1.size)
  replace hs := hs.below bW1
  replace ht := ht.below bW1
  obtain ⟨c0, c1, -⟩ := a1.open2
  go_enter Try.func14, Try.ntmps14
  go_wp2_with fail
  refine (operatorOf_any cap cap' hs ht).mono ?_
  rintro e w4 ⟨rfl, b4⟩
  replace a3 := a3.below b4
  replace bW1 := bW1.trans (b4.mono bW1.size)
  have s4 := b4.size
  clear c0 c1 hs ht b4
  obtain ⟨F, hF⟩ : ∃ F, tf n k f = F := ⟨_, rfl⟩
  obtain ⟨H, hH⟩ : ∃ H, tf n k h = H := ⟨_, rfl⟩
  obtain ⟨p, hp⟩ : ∃ p, decide (isOp n f k h) = p := ⟨_, rfl⟩
  rw [hF, hH, hp]
  obtain ⟨W5, hW5, a5, b5, -⟩ := boxed w4 72 (opA (fun _ => 0) (fun _ => 0))
  rw [zero12] at hW5
  obtain ⟨⟨x0, x1, x2, x3, x4, x5, x6, x7, x8⟩, x9, x10, x11⟩ := a5.open12
  obtain ⟨y0, y1, y2, y3, y4, y5, y6, y7, y8, y9, y10, y11⟩ := a5.fro12
  obtain ⟨X, hX⟩ : ∃ X, put12 W5 w4.heap.size F H = X := ⟨_, rfl⟩
  have E5 : At 72 X w4.heap.size (opA F H) := hX ▸ put12_at a5 F H
  have E3 : At 33 X W1.heap.size #[.slice none 0 0, .slice none 0 0] := hX ▸ put12_other (a3.below b5) (by omega) F H
  have bX : Below w4.heap.size w4 X := hX ▸ put12_below b5 (Nat.le_refl _) F H
  replace bW1 := bW1.trans (bX.mono bW1.size)
  unfold put12 at hX
  clear a1 a3 a5
  unfold opA
  by_cases hpp : p = true
  · subst hpp
    have i1 := of_decide_eq_true hp
    obtain ⟨rfl, rfl, r1⟩ := i1
    have eF : F = f := hF.symm.trans (if_pos ⟨rfl, rfl⟩)
    have eH : H = h := hH.symm.trans (if_pos ⟨rfl, rfl⟩)
    subst eF eH
    obtain ⟨⟨u0, u1, u2, u3, u4, u5, u6, u7, u8⟩, u9, u10, u11⟩ := E5.open12
    clear hF hH hp
    have hbeh : ∀ w, Calls Try.prog 39 #[.agg (opA F H)] w fun e w' => e = .returned (.agg (opA (backM F) (backV F H))) ∧ Below w.heap.size w w' := back_any r1
    unfold opA at hbeh
    go_wp2_with fail
    refine (hbeh _).mono ?_
    rintro e w8 ⟨rfl, b8⟩
    replace E3 := E3.below b8
    replace bW1 := bW1.trans (b8.mono bW1.size)
    have s8 := b8.size
    have s7 := E5.lt
    clear u0 u1 u2 u3 u4 u5 u6 u7 u8 u9 u10 u11 hbeh b8
    clear hX hW5 x0 x1 x2 x3 x4 x5 x6 x7 x8 x9 x10 x11 y0 y1 y2 y3 y4 y5 y6 y7 y8 y9 y10 y11 bX b5
    obtain ⟨d0, d1, f0, f1⟩ := E3.open2
    by_cases hR : isR (backM F) (backV F H)
    · have ht := told_ok hR
      unfold opA at ht
      go_wp2_with fail
      refine (ht _).mono ?_
      rintro e w9 ⟨o, rfl, ho, b9⟩
      obtain ⟨v1, v2, rfl, m1, m2, ap⟩ := ho
      replace E3 := E3.below b9
      replace bW1 := bW1.trans (b9.mono bW1.size)
      clear d0 d1 f0 f1
      obtain ⟨d0, d1, f0, f1⟩ := E3.open2
      obtain ⟨d2, e2, rfl, -⟩ := m1.src
      obtain ⟨d3, e3, rfl, -⟩ := m2.src
      have eR : R = true := HR.out.symm.trans (decide_eq_true ⟨⟨rfl, rfl, r1⟩, hR⟩)
      subst eR
      go_wp2
      have a8 := nil2_at E3 (.slice d2 9 e2) (.slice d3 3 e3)
      obtain ⟨p0, p1, -⟩ := a8.open2
      have ho := (OpAt.store (q := W1.heap.size) ⟨_, _, rfl, m1, m2, ap⟩ (by omega) (.slice d2 9 e2) (.slice d3 3 e3)).wide (show w.heap.size ≤ w8.heap.size by omega) (Nat.le_of_eq (size_set2 w9 W1.heap.size (.slice d2 9 e2) (.slice d3 3 e3)).symm)
      exact bodyPost_ret (v := .tuple #[.agg #[.slice d2 9 e2, .slice d3 3 e3], .bool true]) (by simp [results, Try.results14, go_sem, p0, p1]) rfl ⟨_, rfl, ho, (bW1.setCell (show w.heap.size ≤ W1.heap.size by omega) _).setCell (show w.heap.size ≤ W1.heap.size by omega) _⟩
    · have ht := told_bad hR
      unfold opA at ht
      go_wp2_with fail
      refine (ht _).mono ?_
      rintro e w9 ⟨rfl, b9⟩
      replace E3 := E3.below b9
      replace bW1 := bW1.trans (b9.mono bW1.size)
      clear d0 d1 f0 f1
      obtain ⟨d0, d1, f0, f1⟩ := E3.open2
      have eR : R = false := HR.out.symm.trans (decide_eq_false (fun x => hR x.2))
      subst eR
      go_wp2
      have a8 := nil2_at E3 (.slice none 0 0) (.slice none 0 0)
      obtain ⟨p0, p1, -⟩ := a8.open2
      exact bodyPost_ret (v := .tuple #[.agg #[.slice none 0 0, .slice none 0 0], .bool false]) (by simp [results, Try.results14, go_sem, p0, p1]) rfl ⟨_, rfl, told_none _ _ _ _ _, (bW1.setCell (show w.heap.size ≤ W1.heap.size by omega) _).setCell (show w.heap.size ≤ W1.heap.size by omega) _⟩
  · have eR : R = false := HR.out.symm.trans (decide_eq_false (fun x => hpp (hp.symm.trans (decide_eq_true x.1))))
    subst eR
    obtain ⟨d0, d1, f0, f1⟩ := E3.open2
    have a8 := nil2_at E3 (.slice none 0 0) (.slice none 0 0)
    clear hp
    obtain rfl : p = false := by cases p <;> simp_all
    go_wp2
    obtain ⟨p0, p1, -⟩ := a8.open2
    exact bodyPost_ret (v := .tuple #[.agg #[.slice none 0 0, .slice none 0 0], .bool false]) (by simp [results, Try.results14, go_sem, p0, p1]) rfl ⟨_, rfl, told_none _ _ _ _ _, (bW1.setCell (show w.heap.size ≤ W1.heap.size by omega) _).setCell (show w.heap.size ≤ W1.heap.size by omega) _⟩
end Go.Proofs.Ytmlgkmgkicdnbaa
