/-
  The law of Sites: walked.
-/
import Derived.Test.YtgjhbkpocbihbaaGreatSi4
import Derived.Test.YtgjhbkpocbihbaaGreatSi5
import Derived.Test.YtgjhbkpocbihbaaGreatQSite
import Derived.Test.YtgjhbkpocbihbaaGreatMT
namespace Go.Proofs.YtgjhbkpocbihbaaGreat
open Go.RowKit

theorem ArK.lsS {w : World} {lo hi g c n : Nat} {f : Nat → Int} {t : TypeId} (h : ArK 2 t w lo hi (.slice (some ⟨g, 0, none⟩) n c) n f) : Ls 2 w (some ⟨g, 0, none⟩) n f := by
  rcases h with ⟨h1, _⟩ | ⟨g', c', e, _, _, _, _, h3⟩
  · cases h1
  · cases e
    exact .inr ⟨g, rfl, h3.recsN⟩
/-- Both answers, with one length and one list of numbers. -/
theorem si_one (n : Nat) (A : Nat → OpD) : ∃ (M : Nat) (f : Nat → Int), M ≤ 193 ∧ ∀ w e w', SitE w n A e w' → ∃ g c, e = .returned (.slice (some ⟨g, 0, none⟩) M c) ∧ ArK 2 31 w' w.heap.size w'.heap.size (.slice (some ⟨g, 0, none⟩) M c) M f ∧ Below w.heap.size w w' := by
  by_cases h : isG n A
  · obtain ⟨L, hL⟩ : ∃ L, siL (ckN n A) 193 = L := ⟨_, rfl⟩
    refine ⟨L.length, flS L, hL ▸ siL_len _ _, ?_⟩
    rintro w e w' ⟨⟨l, g, k, hl, he, hA⟩, hb⟩
    rcases hl with ⟨-, hl⟩ | ⟨h', -⟩
    · rw [hL] at hl
      subst hl
      exact ⟨g, k, he, hA, hb⟩
    · exact absurd h h'
  · refine ⟨0, flS [], by omega, ?_⟩
    rintro w e w' ⟨⟨l, g, k, ⟨h', -⟩ | ⟨-, rfl⟩, he, hA⟩, hb⟩
    · exact absurd h' h
    · exact ⟨g, k, he, hA, hb⟩
set_option maxRecDepth 100000 in
set_option maxHeartbeats 3000000 in
theorem exactSites_walk {w : World} {a : Option Addr} {n cap : Nat} {A : Nat → OpD} (hS : OpsS w a n A) (hn : n ≤ maxLen) :
    Calls Tryz.prog 4 #[.slice a n cap] w fun e w' => e = .returned (.bool true) ∧ Below w.heap.size w w' := by
  obtain ⟨M, E, hM193, hM0⟩ := si_one n A
  have HM : Hid (∀ w e w', SitE w n A e w' → ∃ g c, e = .returned (.slice (some ⟨g, 0, none⟩) M c) ∧ ArK 2 31 w' w.heap.size w'.heap.size (.slice (some ⟨g, 0, none⟩) M c) M E ∧ Below w.heap.size w w') := hM0
  have hMn : M ≤ 1048576 := by omega
  have HS := hid_of hS
  clear hM0 hS
  go_enter Tryz.func4, Tryz.ntmps4
  go_wp2_with fail
  refine (szOpS_tot HS.out hn).mono ?_
  rintro e w1 ⟨rr, rfl, hr, b1⟩
  have HB := hid_of b1
  clear b1
  rcases hr with rfl | ⟨h0, hsh, htot⟩
  · go_wp2
    go_ret
    exact ⟨rfl, HB.out⟩
  have h1 : ¬ rr < 0 := by omega
  have HSH := hid_of hsh
  have HTT : Hid (totN A n ≤ 1048576) := htot
  clear hsh htot
  go_wp2_with fail
  refine (toOpS_any (HS.out.below HB.out) HSH.out).mono ?_
  rintro e w2 ⟨g2, rfl, L2, b2⟩
  replace HB := hid_of (HB.out.trans (b2.mono HB.out.size))
  have HL2 := hid_of L2
  clear L2 b2
  go_wp2_with fail
  refine (specSites_any HL2.out HSH.out.1).mono ?_
  rintro e w3 hv
  obtain ⟨g0, c0, rfl, hO0, b3⟩ := HM.out _ _ _ hv
  have O0 := hid_of hO0
  replace HB := hid_of (HB.out.trans (b3.mono HB.out.size))
  obtain ⟨lo0, el0⟩ : ∃ q, w3.heap.size = q := ⟨_, rfl⟩
  have hw0 : Hid (w.heap.size ≤ lo0) := el0 ▸ HB.out.size
  rw [el0] at O0
  clear hv hO0 b3 HL2
  go_wp2_with fail
  refine (toOpS_own (HS.out.below HB.out) HSH.out).mono ?_
  rintro e w4 ⟨X1, Y1, rfl, hO1, b4⟩
  rw [el0] at hO1 ⊢
  replace O0 := hid_of (O0.out.below b4)
  replace HB := hid_of (HB.out.trans (b4.mono HB.out.size))
  have h01 : Hid (lo0 ≤ w4.heap.size) := el0 ▸ b4.size
  obtain ⟨hi1, eh1⟩ : ∃ q, w4.heap.size = q := ⟨_, rfl⟩
  rw [eh1] at hO1 h01
  have O1 := hid_of hO1
  clear hO1 b4 el0
  go_wp2_with fail
  refine (implSites_any O1.out.opsL HSH.out.1).mono ?_
  rintro e w6 hv
  obtain ⟨g2, c2, rfl, hO2, b6⟩ := HM.out _ _ _ hv
  obtain ⟨hi2, eh2⟩ : ∃ q, w6.heap.size = q := ⟨_, rfl⟩
  replace O0 := hid_of (O0.out.below b6)
  replace O1 := hid_of (O1.out.below b6)
  replace HB := hid_of (HB.out.trans (b6.mono HB.out.size))
  have h12 : Hid (hi1 ≤ w6.heap.size) := eh1 ▸ b6.size
  rw [eh1] at hO2
  rw [eh2] at hO2 h12
  have O2 := hid_of hO2
  clear hO2 hv b6 eh2 eh1
  go_wp2_with fail
  refine (eqSiteL_true O2.out.lsS O0.out.lsS hMn).mono ?_
  rintro e w7 ⟨rfl, b7⟩
  replace O0 := hid_of (O0.out.below b7)
  replace O1 := hid_of (O1.out.below b7)
  replace O2 := hid_of (O2.out.below b7)
  replace HB := hid_of (HB.out.trans (b7.mono HB.out.size))
  clear b7
  go_wp2_with fail
  refine (toOpS_any (HS.out.below HB.out) HSH.out).mono ?_
  rintro e w8 ⟨g8, rfl, L8, b8⟩
  have HL8 := hid_of L8
  replace O0 := hid_of (O0.out.below b8)
  replace O1 := hid_of (O1.out.below b8)
  replace O2 := hid_of (O2.out.below b8)
  replace HB := hid_of (HB.out.trans (b8.mono HB.out.size))
  clear b8 L8
  go_wp2_with fail
  refine (eqOpS_true O1.out.opsL HL8.out HSH.out).mono ?_
  rintro e w9 ⟨rfl, b9⟩
  replace O0 := hid_of (O0.out.below b9)
  replace O1 := hid_of (O1.out.below b9)
  replace O2 := hid_of (O2.out.below b9)
  replace HB := hid_of (HB.out.trans (b9.mono HB.out.size))
  clear b9 HL8
  obtain ⟨T1, hT1⟩ : ∃ t : Int, ((1 + totN A n : Nat) : Int) = t := ⟨_, rfl⟩
  have hT1' : ¬ T1 < 0 := by omega
  have MK := markOpS_any (c := n) O1.out HSH.out.1 HTT.out 1 (by omega)
  rw [hT1, show ((1 : Nat) : Int) = 1 from rfl] at MK
  clear hT1
  go_wp2_with fail
  refine MK.mono ?_
  rintro e w10 ⟨rfl, -, ht⟩
  replace O0 := hid_of (O0.out.turn ht (.inl (Nat.le_refl _)))
  replace O2 := hid_of (O2.out.turn ht (.inr (Nat.le_refl _)))
  replace HB := hid_of (ht.below HB.out hw0.out HB.out.size)
  clear ht MK O1
  go_wp2_with fail
  refine (eqSiteL_true O2.out.lsS O0.out.lsS hMn).mono ?_
  rintro e w11 ⟨rfl, b11⟩
  replace O0 := hid_of (O0.out.below b11)
  replace O2 := hid_of (O2.out.below b11)
  replace HB := hid_of (HB.out.trans (b11.mono HB.out.size))
  clear b11
  obtain ⟨T2, hT2⟩ : ∃ t : Int, ((1 + M * 2 : Nat) : Int) = t := ⟨_, rfl⟩
  have hT2' : ¬ T2 < 0 := by omega
  have hT2n : (T2 != T2) = false := bne_self_eq_false T2
  have HT2 : Hid (((1 + M * 2 : Nat) : Int) = T2) := hT2
  have MK := markSiteK_any O2.out hMn 1 (by omega)
  rw [hT2, show ((1 : Nat) : Int) = 1 from rfl] at MK
  clear hT2
  go_wp2_with fail
  refine MK.mono ?_
  rintro e w12 ⟨rfl, hO2, ho⟩
  have ht := Turn.of_onlyK ho O2.out
  have O2' := hid_of hO2
  replace O0 := hid_of (O0.out.turn ht (.inl (by have := h01.out; omega)))
  replace HB := hid_of (ht.below HB.out (by have := hw0.out; have := h01.out; omega) HB.out.size)
  clear ht ho MK O2 hO2
  have HD := heldSiteK_any 1 O2'.out hMn (by omega)
  rw [HT2.out, show ((1 : Nat) : Int) = 1 from rfl] at HD
  go_wp2_with fail
  refine HD.mono ?_
  rintro e w13 ⟨rfl, b13⟩
  replace O0 := hid_of (O0.out.below b13)
  replace O2' := hid_of (O2'.out.below b13)
  replace HB := hid_of (HB.out.trans (b13.mono HB.out.size))
  clear b13 HD
  go_wp2_with fail
  refine (toOpS_any (HS.out.below HB.out) HSH.out).mono ?_
  rintro e w14 ⟨g14, rfl, L14, b14⟩
  have HL14 := hid_of L14
  replace O0 := hid_of (O0.out.below b14)
  replace O2' := hid_of (O2'.out.below b14)
  replace HB := hid_of (HB.out.trans (b14.mono HB.out.size))
  clear b14 L14
  go_wp2_with fail
  refine (implSites_any HL14.out HSH.out.1).mono ?_
  rintro e w15 hv
  obtain ⟨g3, c3, rfl, hO3, b15⟩ := HM.out _ _ _ hv
  have O3 := hid_of hO3
  replace O0 := hid_of (O0.out.below b15)
  replace O2' := hid_of (O2'.out.below b15)
  replace HB := hid_of (HB.out.trans (b15.mono HB.out.size))
  clear hO3 hv b15 HL14
  go_wp2_with fail
  refine (eqSiteL_true O3.out.lsS O0.out.lsS hMn).mono ?_
  rintro e w16 ⟨rfl, b16⟩
  replace O2' := hid_of (O2'.out.below b16)
  replace HB := hid_of (HB.out.trans (b16.mono HB.out.size))
  clear b16 O3 O0
  have HD := heldSiteK_any 1 O2'.out hMn (by omega)
  rw [HT2.out, show ((1 : Nat) : Int) = 1 from rfl] at HD
  go_wp2_with fail
  refine HD.mono ?_
  rintro e w17 ⟨rfl, b17⟩
  replace HB := hid_of (HB.out.trans (b17.mono HB.out.size))
  clear b17 HD O2'
  go_wp2
  go_ret
  exact ⟨rfl, HB.out⟩
end Go.Proofs.YtgjhbkpocbihbaaGreat
