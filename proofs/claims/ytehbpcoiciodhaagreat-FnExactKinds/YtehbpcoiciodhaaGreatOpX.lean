/-
  The order of an operator by the specification, walked.
-/
import Derived.Test.YtehbpcoiciodhaaGreatMG
import Derived.Test.YtehbpcoiciodhaaGreatOpV
import Derived.Test.YtehbpcoiciodhaaGreatME
namespace Go.Proofs.YtehbpcoiciodhaaGreat
open Go.RowKit

theorem cmpF_zero {f h : Nat → Int} {n : Nat} : ∀ k i, k + i = n → (cmpF f h n n k i = 0 ↔ ∀ j, i ≤ j → j < n → f j = h j) := by
  intro k
  induction k with
  | zero =>
    intro i hi
    simp only [cmpF]
    constructor
    · intro _ j h1 h2; omega
    · intro _; rw [if_neg (by omega)]
  | succ k ih =>
    intro i hi
    simp only [cmpF]
    rw [if_neg (by omega)]
    by_cases h1 : f i < h i
    · rw [if_pos h1]
      constructor
      · intro h; omega
      · intro h; have := h i (Nat.le_refl _) (by omega); omega
    · rw [if_neg h1]
      by_cases h2 : h i < f i
      · rw [if_pos h2]
        constructor
        · intro h; omega
        · intro h; have := h i (Nat.le_refl _) (by omega); omega
      · rw [if_neg h2, ih (i + 1) (by omega)]
        constructor
        · intro h j hj hn
          by_cases e : j = i
          · subst e; omega
          · exact h j (by omega) hn
        · intro h j hj hn
          exact h j (by omega) hn
theorem same_cmp (M T F H : Nat → Int) : (cmpF (cat 9 M T) (cat 9 F H) (9 + 3) (9 + 3) (9 + 3) 0 == 0) = sameB M T F H := by
  rw [Bool.eq_iff_iff, beq_iff_eq, cmpF_zero (f := cat 9 M T) (h := cat 9 F H) (n := 9 + 3) (9 + 3) 0 rfl]
  unfold sameB
  simp only [Bool.and_eq_true, List.all_eq_true, List.mem_range, beq_iff_eq]
  constructor
  · intro h
    refine ⟨fun i hi => ?_, fun i hi => ?_⟩
    · have := h i (Nat.zero_le _) (by omega)
      simpa [cat, hi] using this
    · have := h (9 + i) (Nat.zero_le _) (by omega)
      simpa [cat, show ¬ 9 + i < 9 by omega] using this
  · rintro ⟨h1, h2⟩ j - hj
    by_cases h9 : j < 9
    · simpa [cat, h9] using h1 j h9
    · simpa [cat, h9] using h2 (j - 9) (by omega)
theorem OpAt.some9 {w : World} {lo hi : Nat} {o : Value} {f h : Nat → Int} (ho : OpAt w lo hi o 9 f 3 h) : ∃ b1 o1 c1 b2 o2 c2, o = .agg #[.slice (some ⟨b1, o1, none⟩) 9 c1, .slice (some ⟨b2, o2, none⟩) 3 c2] ∧ Ints w b1 o1 9 f ∧ Ints w b2 o2 3 h ∧ b1 < w.heap.size ∧ b2 < w.heap.size := by
  obtain ⟨a, c, b, d, rfl, s1, s2⟩ := ho.src
  rcases s1 with h0 | ⟨b1, o1, rfl, l1, i1⟩
  · omega
  rcases s2 with h0 | ⟨b2, o2, rfl, l2, i2⟩
  · omega
  exact ⟨b1, o1, c, b2, o2, d, rfl, i1, i2, l1, l2⟩
theorem OpAt.ints' {w : World} {lo hi g1 p1 g2 p2 c d : Nat} {f h : Nat → Int} (ho : OpAt w lo hi (.agg #[.slice (some ⟨g1, p1, none⟩) 9 c, .slice (some ⟨g2, p2, none⟩) 3 d]) 9 f 3 h) : Ints w g1 p1 9 f ∧ Ints w g2 p2 3 h ∧ g1 < w.heap.size ∧ g2 < w.heap.size := by
  obtain ⟨b1, o1, c1, b2, o2, c2, e, i1, i2, l1, l2⟩ := ho.some9
  simp only [Value.agg.injEq, Array.mk.injEq, List.cons.injEq, Value.slice.injEq, Option.some.injEq, Addr.mk.injEq] at e
  obtain ⟨⟨⟨rfl, rfl, -⟩, -, -⟩, ⟨⟨rfl, rfl, -⟩, -, -⟩, -⟩ := e
  exact ⟨i1, i2, l1, l2⟩
set_option maxRecDepth 100000 in
set_option maxHeartbeats 1600000 in
theorem specOrder_any {w : World} {a b : Option Addr} {n k : Nat} {f h : Nat → Int} (cap cap' : Nat) (hs : Src w a n f) (ht : Src w b k h) :
    Calls Tryz.prog 53 #[.agg #[.slice a n cap, .slice b k cap']] w fun e w' => e = .returned (.int .i64 (ordOf n f k h)) ∧ Below w.heap.size w w' := by
  obtain ⟨R, hR⟩ : ∃ R, ordOf n f k h = R := ⟨_, rfl⟩
  rw [hR]
  have HR : Hid (ordOf n f k h = R) := hR
  clear hR
  obtain ⟨W1, hW1, a1, B, -⟩ := boxed w 59 #[.slice a n cap, .slice b k cap']
  have s1 := a1.lt
  obtain ⟨c0, c1, -⟩ := a1.open2
  go_enter Tryz.func53, Tryz.ntmps53
  go_wp2_with fail
  refine (specOk_any cap cap' (hs.below B) (ht.below B)).mono ?_
  rintro e w2 ⟨rfl, b2⟩
  replace a1 := a1.below b2
  replace B := B.trans (b2.mono B.size)
  have s2 := b2.size
  clear c0 c1 b2 hW1
  by_cases hop : isOp n f k h
  · rw [decide_eq_true hop]
    have hO : ordF f h (25 - 1) 1 f h = R := by rw [← HR.out]; exact (if_pos hop).symm
    have hop' := hop
    obtain ⟨rfl, rfl, r1⟩ := hop
    clear HR
    rcases hs with h0 | ⟨b1, o1, rfl, l1, i1⟩
    · omega
    rcases ht with h0 | ⟨b2, o2, rfl, l2, i2⟩
    · omega
    go_wp2_with fail
    refine (l3One_any _).mono ?_
    rintro e w3 ⟨g1, g2, rfl, oO, b3⟩
    replace a1 := a1.below b3
    replace B := B.trans (b3.mono B.size)
    have s3 := b3.size
    clear b3
    obtain ⟨X4, hX4, W4, hW4, a3, b4, x0, x1, y0, y1⟩ := boxed2 w3 (.slice (some ⟨g1, 0, none⟩) 9 9) (.slice (some ⟨g2, 0, none⟩) 3 3)
    replace a1 := a1.below b4
    replace oO := oO.below b4
    replace B := B.trans (b4.mono B.size)
    have s4 := a3.lt
    clear b4
    obtain ⟨c0, c1, -⟩ := a1.open2
    go_wp2_with fail
    refine (l3Copy_any cap cap' (i1.below l1 B) (i2.below l2 B) (Nat.lt_of_lt_of_le l1 B.size) (Nat.lt_of_lt_of_le l2 B.size) (by omega) (by omega)).mono ?_
    rintro e w5 ⟨o, rfl, oP, b5⟩
    replace a1 := a1.below b5
    replace a3 := a3.below b5
    replace oO := oO.below b5
    replace B := B.trans (b5.mono B.size)
    have s5 := b5.size
    clear b5 c0 c1 hX4 hW4 x0 x1 y0 y1
    obtain ⟨d1, p1, e1, d2, p2, e2, rfl, -⟩ := oP.some9
    obtain ⟨X6, hX6, W6, hW6, a4, b6, x0, x1, y0, y1⟩ := boxed2 w5 (.slice (some ⟨d1, p1, none⟩) 9 e1) (.slice (some ⟨d2, p2, none⟩) 3 e2)
    replace a1 := a1.below b6
    replace a3 := a3.below b6
    replace oO := oO.below b6
    replace oP := oP.below b6
    replace B := B.trans (b6.mono B.size)
    have s6 := a4.lt
    clear b6
    go_wp2
    clear hX6 hW6 x0 x1 y0 y1
    go_loopw [5] (fun s wr => ∃ (m : Nat) (M T : Nat → Int) (lo hi d1 p1 e1 d2 p2 e2 : Nat), (1 ≤ m ∧ m ≤ 25 ∧ w5.heap.size < wr.heap.size) ∧ s = .int .i64 m ∧ isR M T ∧ Hid (ordF f h (25 - m) m M T = R) ∧ At 59 wr w.heap.size #[.slice (some ⟨b1, o1, none⟩) 9 cap, .slice (some ⟨b2, o2, none⟩) 3 cap'] ∧ At 59 wr w3.heap.size #[.slice (some ⟨g1, 0, none⟩) 9 9, .slice (some ⟨g2, 0, none⟩) 3 3] ∧ At 59 wr w5.heap.size #[.slice (some ⟨d1, p1, none⟩) 9 e1, .slice (some ⟨d2, p2, none⟩) 3 e2] ∧ OpAt wr w2.heap.size w3.heap.size (.agg #[.slice (some ⟨g1, 0, none⟩) 9 9, .slice (some ⟨g2, 0, none⟩) 3 3]) 9 oneF 3 (fun _ => 0) ∧ OpAt wr lo hi (.agg #[.slice (some ⟨d1, p1, none⟩) 9 e1, .slice (some ⟨d2, p2, none⟩) 3 e2]) 9 M 3 T ∧ Below w.heap.size w wr) (fun s _ => 25 - (intOf s).toNat)
    case atStart => exact ⟨1, f, h, _, _, d1, p1, e1, d2, p2, e2, by omega, rfl, r1, hO, a1, a3, a4, oO, oP, B⟩
    case round =>
      clear a1 a3 a4 oO oP B hO
      obtain ⟨m, M, T, lo, hi, d1, p1, e1, d2, p2, e2, hm, rfl, hRi, hR, a1, a3, a4, oO, oP, B⟩ := hrel
      by_cases hlt : m ≤ 24
      · have hlt' : (m : Int) ≤ 24 := by omega
        have hst := hR.out
        rw [ordF_step hlt, ← same_cmp] at hst
        obtain ⟨c0, c1, -⟩ := a3.open2
        obtain ⟨c2, c3, -⟩ := a4.open2
        obtain ⟨j1, j2, j3, j4⟩ := oP.ints'
        obtain ⟨j5, j6, j7, j8⟩ := oO.ints'
        go_wp2_with fail
        refine (specCompare_any _ _ _ _ j1 j2 j5 j6 j3 j4 j7 j8 (by omega) (by omega) (by omega) (by omega)).mono ?_
        rintro e w7 ⟨rfl, b7⟩
        replace a1 := a1.below b7
        replace a3 := a3.below b7
        replace a4 := a4.below b7
        replace oO := oO.below b7
        replace oP := oP.below b7
        replace B := B.trans (b7.mono B.size)
        have s7 := b7.size
        clear c0 c1 c2 c3 j1 j2 j3 j4 j5 j6 j7 j8 b7
        obtain ⟨C, hC⟩ : ∃ C, cmpF (cat 9 M T) (cat 9 oneF (fun _ => 0)) (9 + 3) (9 + 3) (9 + 3) 0 = C := ⟨_, rfl⟩
        rw [hC] at hst ⊢
        clear hC hR
        by_cases hC0 : C = 0
        · subst hC0
          rw [if_pos (by rfl)] at hst
          subst hst
          go_wp2
          go_ret
          exact ⟨rfl, B⟩
        · have hCf : (C == 0) = false := by simpa using hC0
          rw [if_neg (by rw [hCf]; simp)] at hst
          obtain ⟨c0, c1, -⟩ := a1.open2
          obtain ⟨c2, c3, -⟩ := a4.open2
          obtain ⟨j1, j2, j3, j4⟩ := oP.ints'
          go_wp2_with fail
          refine (specMul_any cap cap' e1 e2 (.inr ⟨b1, o1, rfl, Nat.lt_of_lt_of_le l1 B.size, i1.below l1 B⟩) (.inr ⟨b2, o2, rfl, Nat.lt_of_lt_of_le l2 B.size, i2.below l2 B⟩) (.inr ⟨d1, p1, rfl, j3, j1⟩) (.inr ⟨d2, p2, rfl, j4, j2⟩)).mono ?_
          rintro e w8 ⟨o, rfl, oQ, b8⟩
          replace a1 := a1.below b8
          replace a3 := a3.below b8
          replace a4 := a4.below b8
          replace oO := oO.below b8
          replace B := B.trans (b8.mono B.size)
          have s8 := b8.size
          clear c0 c1 c2 c3 j1 j2 j3 j4 b8 oP
          by_cases hR2 : isR (mulM f M) (behV f h T)
          · rw [if_pos hR2] at hst
            have hd : decide (mulOk 9 f 3 h 9 M 3 T) = true := decide_eq_true ⟨hop', ⟨rfl, rfl, hRi⟩, hR2⟩
            rw [hd] at oQ ⊢
            replace oQ : OpAt w8 w7.heap.size w8.heap.size o 9 (mulM f M) 3 (behV f h T) := oQ
            have HS : Hid (ordF f h (25 - (m + 1)) (m + 1) (mulM f M) (behV f h T) = R) := hst
            clear hst
            obtain ⟨D1, P1, E1, D2, P2, E2, rfl, -⟩ := oQ.some9
            obtain ⟨X9, hX9, W9, hW9, a6, b9, x0, x1, y0, y1⟩ := boxed2 w8 (.slice (some ⟨D1, P1, none⟩) 9 E1) (.slice (some ⟨D2, P2, none⟩) 3 E2)
            replace a1 := a1.below b9
            replace a3 := a3.below b9
            replace a4 := a4.below b9
            replace oO := oO.below b9
            replace oQ := oQ.below b9
            replace B := B.trans (b9.mono B.size)
            have s9 := b9.size
            clear b9
            obtain ⟨c0, c1, -⟩ := a6.open2
            obtain ⟨c2, c3, f2, f3⟩ := a4.open2
            obtain ⟨Z, hZ⟩ : ∃ Z, (W9.setCell ⟨w5.heap.size, 0, none⟩ (.slice (some ⟨D1, P1, none⟩) 9 E1)).setCell ⟨w5.heap.size, 1, none⟩ (.slice (some ⟨D2, P2, none⟩) 3 E2) = Z := ⟨_, rfl⟩
            have q1 : At 59 Z w.heap.size #[.slice (some ⟨b1, o1, none⟩) 9 cap, .slice (some ⟨b2, o2, none⟩) 3 cap'] := hZ ▸ (a1.setOther (by omega) _).setOther (by omega) _
            have q3 : At 59 Z w3.heap.size #[.slice (some ⟨g1, 0, none⟩) 9 9, .slice (some ⟨g2, 0, none⟩) 3 3] := hZ ▸ (a3.setOther (by omega) _).setOther (by omega) _
            have q4 : At 59 Z w5.heap.size #[.slice (some ⟨D1, P1, none⟩) 9 E1, .slice (some ⟨D2, P2, none⟩) 3 E2] := hZ ▸ by simpa using (a4.set 0 (.slice (some ⟨D1, P1, none⟩) 9 E1)).set 1 (.slice (some ⟨D2, P2, none⟩) 3 E2)
            have qO : OpAt Z w2.heap.size w3.heap.size (.agg #[.slice (some ⟨g1, 0, none⟩) 9 9, .slice (some ⟨g2, 0, none⟩) 3 3]) 9 oneF 3 (fun _ => 0) := hZ ▸ oO.store' (by omega) _ _
            have qP : OpAt Z w7.heap.size w8.heap.size (.agg #[.slice (some ⟨D1, P1, none⟩) 9 E1, .slice (some ⟨D2, P2, none⟩) 3 E2]) 9 (mulM f M) 3 (behV f h T) := hZ ▸ oQ.store' (by omega) _ _
            have qB : Below w.heap.size w Z := hZ ▸ (B.setCell (show w.heap.size ≤ w5.heap.size by omega) _).setCell (show w.heap.size ≤ w5.heap.size by omega) _
            have qs : w5.heap.size < Z.heap.size := q4.lt
            clear a1 a3 a4 oO oQ B
            go_wp2
            exact ⟨⟨m + 1, _, _, _, _, _, _, _, _, _, _, by omega, by go_num, hR2, HS, q1, q3, q4, qO, qP, qB⟩, by simp [intOf]; omega⟩
          · rw [if_neg hR2] at hst
            subst hst
            have hd : decide (mulOk 9 f 3 h 9 M 3 T) = false := decide_eq_false (fun x => hR2 x.2.2)
            rw [hd] at oQ ⊢
            obtain ⟨aa, bb, cc, dd, rfl, -⟩ := OpAt.src oQ
            obtain ⟨X9, hX9, W9, hW9, a6, b9, x0, x1, y0, y1⟩ := boxed2 w8 (.slice aa 0 bb) (.slice cc 0 dd)
            replace B := B.trans (b9.mono B.size)
            go_wp2
            go_ret
            exact ⟨rfl, B⟩
      · have hlt' : ¬ (m : Int) ≤ 24 := by omega
        obtain rfl : m = 25 := by omega
        have hst : (0 : Int) = R := hR.out
        subst hst
        go_wp2
        go_ret
        exact ⟨rfl, B⟩
  · rw [decide_eq_false hop]
    have eR : R = 0 := HR.out.symm.trans (if_neg hop)
    subst eR
    go_wp2
    go_ret
    exact ⟨rfl, B⟩
end Go.Proofs.YtehbpcoiciodhaaGreat
