/-
  The law of Spread: walked.
-/
import Derived.Test.YtgjhbkpocbihbaaGreatSd5
import Derived.Test.YtgjhbkpocbihbaaGreatQAtom
import Derived.Test.YtgjhbkpocbihbaaGreatMN
import Derived.Test.YtgjhbkpocbihbaaGreatMO
import Derived.Test.YtgjhbkpocbihbaaGreatE6c
namespace Go.Proofs.YtgjhbkpocbihbaaGreat
open Go.RowKit

/-- How much is left. -/
theorem szOpS_from {w : World} {a : Option Addr} {n cap : Nat} {A : Nat → OpD} (l : Int) (hl : 0 ≤ l ∧ l ≤ 1048576) (hS : OpsS w a n A) (hn : n ≤ maxLen) :
    Calls Tryz.prog 11 #[.slice a n cap, .int .i64 l] w fun e w' => ∃ r : Int, e = .returned (.int .i64 r) ∧ (r = -1 ∨ (0 ≤ r ∧ r ≤ 1048576 ∧ Short n A ∧ totN A n ≤ 1048576)) ∧ Below w.heap.size w w' := by
  unfold maxLen at hn
  obtain ⟨hl0, hl1⟩ := hl
  by_cases hb : l < n
  · have h1 : l - (n : Int) < 0 := by omega
    go_enter Tryz.func11, Tryz.ntmps11
    go_wp2
    go_ret
    exact ⟨_, rfl, .inl rfl, Below.refl _ _⟩
  · have h1 : ¬ l - (n : Int) < 0 := by omega
    go_enter Tryz.func11, Tryz.ntmps11
    go_wp2
    go_loopw [1, 5] (fun l s wr => ∃ (k : Nat) (r : Int), k ≤ n ∧ s = .int .i64 k ∧ l = .int .i64 r ∧ 0 ≤ r ∧ r + (totN A k : Int) ≤ 1048576 ∧ Hid (∀ i, i < k → (A i).n ≤ 1048576 ∧ (A i).k ≤ 1048576) ∧ Below w.heap.size w wr) (fun _ s _ => n - (intOf s).toNat)
    case atStart => exact ⟨0, _, Nat.zero_le _, rfl, rfl, by omega, by simp [totN]; omega, fun i hi => by omega, Below.refl _ _⟩
    case round =>
      obtain ⟨k, r, hk, rfl, rfl, hr0, hr1, hok, B⟩ := hrel
      by_cases hlt : k < n
      · have hlt' : (k : Int) < (n : Int) := by omega
        rcases hS.below B with h0 | ⟨g, off, rfl, hg, rr⟩
        · omega
        obtain ⟨x, c, y, d, e1, e2, s1, s2, m1, m2⟩ := rr k hlt
        obtain ⟨N, hN⟩ : ∃ N, (A k).n = N := ⟨_, rfl⟩
        obtain ⟨K, hK⟩ : ∃ N, (A k).k = N := ⟨_, rfl⟩
        rw [hN] at e1 m1
        rw [hK] at e2 m2
        clear rr s1 s2
        go_wp2_with fail
        refine (szOp_any x y N c K d r wr m1 m2 (by omega)).mono ?_
        rintro e w3 ⟨r', rfl, hr', b3⟩
        replace B := B.trans (b3.mono B.size)
        clear b3 e1 e2 m1 m2
        rcases hr' with rfl | ⟨he, hr'⟩
        · go_wp2
          go_ret
          exact ⟨_, rfl, .inl rfl, B⟩
        · have hr2 : ¬ r' < 0 := by omega
          have HO : Hid (∀ i, i < k + 1 → (A i).n ≤ 1048576 ∧ (A i).k ≤ 1048576) := fun i hi => by
            by_cases e : i = k
            · rw [e, hN, hK]; omega
            · exact hok.out i (by omega)
          have hr3 : r' + (totN A (k + 1) : Int) ≤ 1048576 := by simp only [totN]; rw [hN, hK]; omega
          clear hok he
          go_wp2
          exact ⟨⟨k + 1, r', by omega, by go_num, rfl, hr', hr3, HO, B⟩, by simp [intOf]; omega⟩
      · have hlt' : ¬ (k : Int) < (n : Int) := by omega
        obtain rfl : k = n := by omega
        go_wp2
        go_ret
        exact ⟨_, rfl, .inr ⟨hr0, by omega, ⟨by omega, hok.out⟩, by omega⟩, B⟩
theorem ArK.lsA4 {w : World} {lo hi g c n : Nat} {f : Nat → Int} {t : TypeId} (h : ArK 4 t w lo hi (.slice (some ⟨g, 0, none⟩) n c) n f) : Ls 4 w (some ⟨g, 0, none⟩) n f := by
  rcases h with ⟨h1, _⟩ | ⟨g', c', e, _, _, _, _, h3⟩
  · cases h1
  · cases e
    exact .inr ⟨g, rfl, h3.recsN⟩
theorem ArK.quadsA {w : World} {lo hi g c n : Nat} {f : Nat → Int} {t : TypeId} (h : ArK 4 t w lo hi (.slice (some ⟨g, 0, none⟩) n c) n f) : Quads w g n f := by
  rcases h with ⟨h1, _⟩ | ⟨g', c', e, _, _, _, _, h3⟩
  · cases h1
  · cases e
    exact h3.recsN
/-- Both answers, with one list. -/
theorem spr_one (n : Nat) (A : Nat → OpD) (N : Nat) (f : Nat → Int) : ∃ (M : Nat) (fl : Nat → Int) (b : Bool), M ≤ 200 ∧ ∀ w e w', SprE w n A N f e w' → ∃ g c, e = .returned (.tuple #[.slice (some ⟨g, 0, none⟩) M c, .bool b]) ∧ ArK 4 81 w' w.heap.size w'.heap.size (.slice (some ⟨g, 0, none⟩) M c) M fl ∧ Below w.heap.size w w' := by
  by_cases h : ∃ l b, SpE n N A (aF f) (okS n A N f) l b
  · obtain ⟨l, b, hS⟩ := h
    refine ⟨l.length, flA l, b, ?_, ?_⟩
    · rcases hS with ⟨-, -, -, h⟩ | ⟨-, -, rfl, -⟩ | ⟨-, -, rfl⟩
      · exact h
      · exact Nat.zero_le _
      · exact Nat.zero_le _
    · rintro w e w' ⟨⟨l', b', g, c, rfl, hA, hS'⟩, hb⟩
      obtain ⟨rfl, rfl⟩ := hS.same hS'
      exact ⟨g, c, rfl, hA, hb⟩
  · refine ⟨0, fun _ => 0, false, by omega, ?_⟩
    rintro w e w' ⟨⟨l', b', g, c, rfl, hA, hS'⟩, hb⟩
    exact absurd ⟨l', b', hS'⟩ h
set_option maxRecDepth 100000 in
set_option maxHeartbeats 3000000 in
theorem exactSpread_walk {w : World} {a b : Option Addr} {n N cap cap' : Nat} {A : Nat → OpD} {f : Nat → Int} (hS : OpsS w a n A) (hn : n ≤ maxLen) (hS2 : Src w b (N * 4) f) (hN : N ≤ maxLen) :
    Calls Tryz.prog 5 #[.slice a n cap, .slice b N cap'] w fun e w' => e = .returned (.bool true) ∧ Below w.heap.size w w' := by
  obtain ⟨M, E, ok, hM200, hM0⟩ := spr_one n A N f
  have HM := hid_of hM0
  have hMn : M ≤ 1048576 := by omega
  have HS := hid_of hS
  have HS2 := hid_of hS2
  clear hM0 hS hS2
  go_enter Tryz.func5, Tryz.ntmps5
  go_wp2_with fail
  refine (szOpS_from 1048576 ⟨by omega, by omega⟩ HS.out hn).mono ?_
  rintro e w1 ⟨rr, rfl, hr, b1⟩
  have HB := hid_of b1
  clear b1
  rcases hr with rfl | ⟨h0, h0', hsh, htot⟩
  · go_wp2
    go_ret
    exact ⟨rfl, HB.out⟩
  have h1 : ¬ rr < 0 := by omega
  have HSH := hid_of hsh
  have HTT := hid_of htot
  clear hsh htot
  go_wp2_with fail
  refine (szAtom_any rr ⟨h0, h0'⟩ _ hN).mono ?_
  rintro e w2 ⟨⟨r2, rfl, hr2⟩, rfl⟩
  rcases hr2 with rfl | ⟨g0, g0', hN1⟩
  · go_wp2
    go_ret
    exact ⟨rfl, HB.out⟩
  have h2 : ¬ r2 < 0 := by omega
  clear h0 h0'
  go_wp2_with fail
  refine (toOpS_any (HS.out.below HB.out) HSH.out).mono ?_
  rintro e w3 ⟨g3, rfl, L3, b3⟩
  have HL3 := hid_of L3
  replace HB := hid_of (HB.out.trans (b3.mono HB.out.size))
  clear L3 b3
  go_wp2_with fail
  refine (toAtomS_any (HS2.out.below HB.out) hN1).mono ?_
  rintro e w4 ⟨g4, rfl, -, K4, b4⟩
  have HQ4 : Hid (Quads w4 g4 N f) := K4.recs
  replace HL3 := hid_of (HL3.out.below b4)
  replace HB := hid_of (HB.out.trans (b4.mono HB.out.size))
  clear K4 b4
  go_wp2_with fail
  refine (specSpread_any HL3.out HSH.out.1 HQ4.out hN1).mono ?_
  rintro e w5 hv
  obtain ⟨g5, c5, rfl, hO0, b5⟩ := HM.out _ _ _ hv
  have O0 := hid_of hO0
  replace HB := hid_of (HB.out.trans (b5.mono HB.out.size))
  obtain ⟨lo0, el0⟩ : ∃ q, w5.heap.size = q := ⟨_, rfl⟩
  have hw0 : Hid (w.heap.size ≤ lo0) := el0 ▸ HB.out.size
  rw [el0] at O0
  clear hv hO0 b5 HL3 HQ4
  go_wp2_with fail
  refine (toOpS_own (HS.out.below HB.out) HSH.out).mono ?_
  rintro e w6 ⟨X1, Y1, rfl, hO1, b6⟩
  rw [el0] at hO1 ⊢
  replace O0 := hid_of (O0.out.below b6)
  replace HB := hid_of (HB.out.trans (b6.mono HB.out.size))
  have h01 : Hid (lo0 ≤ w6.heap.size) := el0 ▸ b6.size
  obtain ⟨hi1, eh1⟩ : ∃ q, w6.heap.size = q := ⟨_, rfl⟩
  rw [eh1] at hO1 h01
  have O1 := hid_of hO1
  clear hO1 b6 el0
  go_wp2_with fail
  refine (toAtomS_any (HS2.out.below HB.out) hN1).mono ?_
  rintro e w7 ⟨g7, rfl, hg7, K7, b7⟩
  have hP : ArK 4 81 w7 w6.heap.size w7.heap.size (.slice (some ⟨g7, 0, none⟩) N N) N f := ArK.own K7 hg7 (Nat.le_refl _) hN
  have h12 : Hid (w6.heap.size ≤ w7.heap.size) := b7.size
  obtain ⟨hi2, eh2⟩ : ∃ q, w7.heap.size = q := ⟨_, rfl⟩
  rw [eh1, eh2] at hP h12
  have P1 := hid_of hP
  replace O0 := hid_of (O0.out.below b7)
  replace O1 := hid_of (O1.out.below b7)
  replace HB := hid_of (HB.out.trans (b7.mono HB.out.size))
  clear hP hg7 K7 b7 eh1
  go_wp2_with fail
  refine (implSpread_any O1.out.opsL HSH.out.1 P1.out.quadsA hN1).mono ?_
  rintro e w8 hv
  obtain ⟨g8, c8, rfl, hO2, b8⟩ := HM.out _ _ _ hv
  have h23 : Hid (w7.heap.size ≤ w8.heap.size) := b8.size
  obtain ⟨hi3, eh3⟩ : ∃ q, w8.heap.size = q := ⟨_, rfl⟩
  replace O0 := hid_of (O0.out.below b8)
  replace O1 := hid_of (O1.out.below b8)
  replace P1 := hid_of (P1.out.below b8)
  replace HB := hid_of (HB.out.trans (b8.mono HB.out.size))
  rw [eh2, eh3] at hO2 h23
  have O2 := hid_of hO2
  clear hO2 hv b8 eh2 eh3
  have hok : (ok != ok) = false := bne_self_eq_false ok
  go_wp2_with fail
  refine (eqAtomL_true O2.out.lsA4 O0.out.lsA4 hMn).mono ?_
  rintro e w9 ⟨rfl, b9⟩
  replace O0 := hid_of (O0.out.below b9)
  replace O1 := hid_of (O1.out.below b9)
  replace P1 := hid_of (P1.out.below b9)
  replace O2 := hid_of (O2.out.below b9)
  replace HB := hid_of (HB.out.trans (b9.mono HB.out.size))
  clear b9
  go_wp2_with fail
  refine (toOpS_any (HS.out.below HB.out) HSH.out).mono ?_
  rintro e w10 ⟨g10, rfl, L10, b10⟩
  have HL10 := hid_of L10
  replace O0 := hid_of (O0.out.below b10)
  replace O1 := hid_of (O1.out.below b10)
  replace P1 := hid_of (P1.out.below b10)
  replace O2 := hid_of (O2.out.below b10)
  replace HB := hid_of (HB.out.trans (b10.mono HB.out.size))
  clear b10 L10
  go_wp2_with fail
  refine (eqOpS_true O1.out.opsL HL10.out HSH.out).mono ?_
  rintro e w11 ⟨rfl, b11⟩
  replace O0 := hid_of (O0.out.below b11)
  replace O1 := hid_of (O1.out.below b11)
  replace P1 := hid_of (P1.out.below b11)
  replace O2 := hid_of (O2.out.below b11)
  replace HB := hid_of (HB.out.trans (b11.mono HB.out.size))
  clear b11 HL10
  go_wp2_with fail
  refine (toAtomS_any (HS2.out.below HB.out) hN1).mono ?_
  rintro e w12 ⟨g12, rfl, -, K12, b12⟩
  have HK12 := hid_of K12
  replace O0 := hid_of (O0.out.below b12)
  replace O1 := hid_of (O1.out.below b12)
  replace P1 := hid_of (P1.out.below b12)
  replace O2 := hid_of (O2.out.below b12)
  replace HB := hid_of (HB.out.trans (b12.mono HB.out.size))
  clear b12 K12
  go_wp2_with fail
  refine (eqAtomL_true P1.out.lsA4 (.inr ⟨g12, rfl, HK12.out.recs⟩) hN1).mono ?_
  rintro e w13 ⟨rfl, b13⟩
  replace O0 := hid_of (O0.out.below b13)
  replace O1 := hid_of (O1.out.below b13)
  replace P1 := hid_of (P1.out.below b13)
  replace O2 := hid_of (O2.out.below b13)
  replace HB := hid_of (HB.out.trans (b13.mono HB.out.size))
  clear b13 HK12
  obtain ⟨T1, hT1⟩ : ∃ t : Nat, 1 + totN A n = t := ⟨_, rfl⟩
  have hT1' : T1 ≤ 10000000 := by have := HTT.out; omega
  have MK := markOpS_any (c := n) O1.out HSH.out.1 HTT.out 1 (by omega)
  rw [hT1, show ((1 : Nat) : Int) = 1 from rfl] at MK
  clear hT1
  go_wp2_with fail
  refine MK.mono ?_
  rintro e w14 ⟨rfl, -, ht⟩
  replace O0 := hid_of (O0.out.turn ht (.inl (Nat.le_refl _)))
  replace P1 := hid_of (P1.out.turn ht (.inr (Nat.le_refl _)))
  replace O2 := hid_of (O2.out.turn ht (.inr h12.out))
  replace HB := hid_of (ht.below HB.out hw0.out HB.out.size)
  clear ht MK O1
  obtain ⟨T2, hT2⟩ : ∃ t : Int, ((T1 + N * 4 : Nat) : Int) = t := ⟨_, rfl⟩
  have hT2' : ¬ T2 < 0 := by omega
  have MK := markAtomK_any P1.out hN1 T1 hT1'
  rw [hT2] at MK
  clear hT2
  go_wp2_with fail
  refine MK.mono ?_
  rintro e w15 ⟨rfl, -, ho⟩
  have ht := Turn.of_onlyK ho P1.out
  replace O0 := hid_of (O0.out.turn ht (.inl h01.out))
  replace O2 := hid_of (O2.out.turn ht (.inr (Nat.le_refl _)))
  replace HB := hid_of (ht.below HB.out (Nat.le_trans hw0.out h01.out) HB.out.size)
  clear ht ho MK P1
  go_wp2_with fail
  refine (eqAtomL_true O2.out.lsA4 O0.out.lsA4 hMn).mono ?_
  rintro e w16 ⟨rfl, b16⟩
  replace O0 := hid_of (O0.out.below b16)
  replace O2 := hid_of (O2.out.below b16)
  replace HB := hid_of (HB.out.trans (b16.mono HB.out.size))
  clear b16
  obtain ⟨T3, hT3⟩ : ∃ t : Int, ((1 + M * 4 : Nat) : Int) = t := ⟨_, rfl⟩
  have hT3' : ¬ T3 < 0 := by omega
  have hT3n : (T3 != T3) = false := bne_self_eq_false T3
  have HT3 : Hid (((1 + M * 4 : Nat) : Int) = T3) := hT3
  have MK := markAtomK_any O2.out hMn 1 (by omega)
  rw [hT3, show ((1 : Nat) : Int) = 1 from rfl] at MK
  clear hT3
  go_wp2_with fail
  refine MK.mono ?_
  rintro e w17 ⟨rfl, hO2, ho⟩
  have ht := Turn.of_onlyK ho O2.out
  have O2' := hid_of hO2
  replace O0 := hid_of (O0.out.turn ht (.inl (Nat.le_trans h01.out h12.out)))
  replace HB := hid_of (ht.below HB.out (Nat.le_trans hw0.out (Nat.le_trans h01.out h12.out)) HB.out.size)
  clear ht ho MK O2 hO2
  have HD := heldAtomK_any 1 O2'.out hMn (by omega)
  rw [HT3.out, show ((1 : Nat) : Int) = 1 from rfl] at HD
  go_wp2_with fail
  refine HD.mono ?_
  rintro e w18 ⟨rfl, b18⟩
  replace O0 := hid_of (O0.out.below b18)
  replace O2' := hid_of (O2'.out.below b18)
  replace HB := hid_of (HB.out.trans (b18.mono HB.out.size))
  clear b18 HD
  go_wp2_with fail
  refine (toOpS_any (HS.out.below HB.out) HSH.out).mono ?_
  rintro e w19 ⟨g19, rfl, L19, b19⟩
  have HL19 := hid_of L19
  replace O0 := hid_of (O0.out.below b19)
  replace O2' := hid_of (O2'.out.below b19)
  replace HB := hid_of (HB.out.trans (b19.mono HB.out.size))
  clear b19 L19
  go_wp2_with fail
  refine (toAtomS_any (HS2.out.below HB.out) hN1).mono ?_
  rintro e w20 ⟨g20, rfl, -, K20, b20⟩
  have HQ20 : Hid (Quads w20 g20 N f) := K20.recs
  replace O0 := hid_of (O0.out.below b20)
  replace O2' := hid_of (O2'.out.below b20)
  replace HL19 := hid_of (HL19.out.below b20)
  replace HB := hid_of (HB.out.trans (b20.mono HB.out.size))
  clear b20 K20
  go_wp2_with fail
  refine (implSpread_any HL19.out HSH.out.1 HQ20.out hN1).mono ?_
  rintro e w21 hv
  obtain ⟨g21, c21, rfl, hO3, b21⟩ := HM.out _ _ _ hv
  have O3 := hid_of hO3
  replace O0 := hid_of (O0.out.below b21)
  replace O2' := hid_of (O2'.out.below b21)
  replace HB := hid_of (HB.out.trans (b21.mono HB.out.size))
  clear hO3 hv b21 HL19 HQ20
  go_wp2_with fail
  refine (eqAtomL_true O3.out.lsA4 O0.out.lsA4 hMn).mono ?_
  rintro e w22 ⟨rfl, b22⟩
  replace O2' := hid_of (O2'.out.below b22)
  replace HB := hid_of (HB.out.trans (b22.mono HB.out.size))
  clear b22 O3 O0
  have HD := heldAtomK_any 1 O2'.out hMn (by omega)
  rw [HT3.out, show ((1 : Nat) : Int) = 1 from rfl] at HD
  go_wp2_with fail
  refine HD.mono ?_
  rintro e w23 ⟨rfl, b23⟩
  replace HB := hid_of (HB.out.trans (b23.mono HB.out.size))
  clear b23 HD O2'
  go_wp2
  go_ret
  exact ⟨rfl, HB.out⟩
end Go.Proofs.YtgjhbkpocbihbaaGreat
