/-
  The law of Table: walked.
-/
import Derived.Test.YtmjeplhigjlopaaE8c
import Derived.Test.YtmjeplhigjlopaaMT
namespace Go.Proofs.Ytmjeplhigjlopaa
open Go.RowKit

/-- Both tables have one length. -/
theorem tab_one (n : Nat) (A : Nat → OpD) : ∃ M, M ≤ 40000 ∧ ∀ w lo v, TabP w lo v n A → ∃ g c, v = .slice (some ⟨g, 0, none⟩) M c ∧ Arr w lo w.heap.size v M (tab n A) := by
  by_cases h : isG n A
  · refine ⟨n * n, ?_, fun w lo v hT => ?_⟩
    · have := Nat.mul_le_mul h.1 h.1
      omega
    · rcases hT with ⟨-, h1⟩ | ⟨h1, -⟩
      · obtain ⟨g, c, e, a, -⟩ := h1.arr
        exact ⟨g, c, e, a⟩
      · exact absurd h h1
  · refine ⟨0, by omega, fun w lo v hT => ?_⟩
    rcases hT with ⟨h1, -⟩ | ⟨-, h1⟩
    · exact absurd h1 h
    · obtain ⟨g, c, e, a, -⟩ := h1.arr
      exact ⟨g, c, e, a⟩
theorem eqArrs_true {w : World} {lo hi lo' hi' g g' n c c' : Nat} {f : Nat → Int} (h1 : Arr w lo hi (.slice (some ⟨g, 0, none⟩) n c) n f) (h2 : Arr w lo' hi' (.slice (some ⟨g', 0, none⟩) n c') n f) (hn : n ≤ 1048576) :
    Calls Try.prog 26 #[.slice (some ⟨g, 0, none⟩) n c, .slice (some ⟨g', 0, none⟩) n c'] w fun e w' => e = .returned (.bool true) ∧ Below w.heap.size w w' := by
  obtain ⟨_, _, e1, s1⟩ := h1.src
  obtain ⟨_, _, e2, s2⟩ := h2.src
  cases e1
  cases e2
  exact eqSrc_true s1 s2 (fun _ _ => rfl) hn
set_option maxRecDepth 100000 in
set_option maxHeartbeats 3000000 in
theorem exactTable_walk {w : World} {a : Option Addr} {n cap : Nat} {A : Nat → OpD} (hS : OpsS w a n A) (hn : n ≤ maxLen) :
    Calls Try.prog 6 #[.slice a n cap] w fun e w' => e = .returned (.bool true) ∧ Below w.heap.size w w' := by
  obtain ⟨M, hM4, hM0⟩ := tab_one n A
  have HM : Hid (∀ w lo v, TabP w lo v n A → ∃ g c, v = .slice (some ⟨g, 0, none⟩) M c ∧ Arr w lo w.heap.size v M (tab n A)) := hM0
  clear hM0
  have HS : Hid (OpsS w a n A) := hS
  clear hS
  go_enter Try.func6, Try.ntmps6
  go_wp2_with fail
  refine (szOpS_tot HS.out hn).mono ?_
  rintro e w1 ⟨rr, rfl, hr, b1⟩
  have B := b1
  clear b1
  rcases hr with rfl | ⟨h0, hsh, htot⟩
  · go_wp2
    go_ret
    exact ⟨rfl, B⟩
  have h1 : ¬ rr < 0 := by omega
  have HSH : Hid (Short n A) := hsh
  have HTT : Hid (totN A n ≤ 1048576) := htot
  clear hsh htot
  go_wp2_with fail
  refine (toOpS_any (HS.out.below B) HSH.out).mono ?_
  rintro e w2 ⟨g2, rfl, L2, b2⟩
  replace B := B.trans (b2.mono B.size)
  go_wp2_with fail
  refine (specTable_any L2 HSH.out.1).mono ?_
  rintro e wz5 ⟨⟨v0, rfl, hv⟩, b5⟩
  obtain ⟨g0, c0, rfl, hO0⟩ := HM.out _ _ _ hv
  have hw0 : w.heap.size ≤ wz5.heap.size := Nat.le_trans B.size b5.size
  replace B := B.trans (b5.mono B.size)
  have O0 := hidden hO0
  clear L2 b2 b5 hO0 hv
  go_wp2_with fail
  refine (toOpS_own (HS.out.below B) HSH.out).mono ?_
  rintro e w4 ⟨X1, Y1, rfl, hO1, b4⟩
  replace O0 := hidden (O0.out.below b4)
  replace B := B.trans (b4.mono B.size)
  have h01 : wz5.heap.size ≤ w4.heap.size := b4.size
  obtain ⟨hi0, eh0⟩ : ∃ q, wz5.heap.size = q := ⟨_, rfl⟩
  obtain ⟨hi1, eh1⟩ : ∃ q, w4.heap.size = q := ⟨_, rfl⟩
  rw [eh0] at O0 hO1 hw0 h01 ⊢
  rw [eh1] at hO1 h01
  have O1 := hidden hO1
  clear hO1 b4 eh0
  have h12 : hi1 ≤ w4.heap.size := eh1 ▸ Nat.le_refl _
  clear eh1
  go_wp2_with fail
  refine (implTable_any O1.out.opsL HSH.out.1).mono ?_
  rintro e w6 ⟨⟨v6, rfl, hv⟩, b6⟩
  obtain ⟨g2, c2, rfl, hO2⟩ := HM.out _ _ _ hv
  obtain ⟨lo2, el2⟩ : ∃ q, w4.heap.size = q := ⟨_, rfl⟩
  obtain ⟨hi2, eh2⟩ : ∃ q, w6.heap.size = q := ⟨_, rfl⟩
  replace O0 := hidden (O0.out.below b6)
  replace O1 := hidden (O1.out.below b6)
  replace B := B.trans (b6.mono B.size)
  rw [el2] at hO2 h12
  rw [eh2] at hO2
  have O2 := hidden hO2
  clear hO2 hv b6 el2 eh2
  go_wp2_with fail
  refine (eqArrs_true O2.out O0.out (by omega)).mono ?_
  rintro e w7 ⟨rfl, b7⟩
  replace O0 := hidden (O0.out.below b7)
  replace O1 := hidden (O1.out.below b7)
  replace O2 := hidden (O2.out.below b7)
  replace B := B.trans (b7.mono B.size)
  clear b7
  go_wp2_with fail
  refine (toOpS_any (HS.out.below B) HSH.out).mono ?_
  rintro e w8 ⟨g8, rfl, L8, b8⟩
  replace O0 := hidden (O0.out.below b8)
  replace O1 := hidden (O1.out.below b8)
  replace O2 := hidden (O2.out.below b8)
  replace B := B.trans (b8.mono B.size)
  clear b8
  go_wp2_with fail
  refine (eqOpS_true O1.out.opsL L8 HSH.out).mono ?_
  rintro e w9 ⟨rfl, b9⟩
  replace O0 := hidden (O0.out.below b9)
  replace O1 := hidden (O1.out.below b9)
  replace O2 := hidden (O2.out.below b9)
  replace B := B.trans (b9.mono B.size)
  clear b9 L8
  obtain ⟨T1, hT1⟩ : ∃ t : Int, ((1 + totN A n : Nat) : Int) = t := ⟨_, rfl⟩
  have hT1' : ¬ T1 < 0 := by omega
  have MK := markOpS_any (c := n) O1.out HSH.out.1 HTT.out 1 (by omega)
  rw [hT1, show ((1 : Nat) : Int) = 1 from rfl] at MK
  clear hT1
  go_wp2_with fail
  refine MK.mono ?_
  rintro e w10 ⟨rfl, -, ht⟩
  replace O0 := hidden (O0.out.turn ht (.inl (Nat.le_refl _)))
  replace O2 := hidden (O2.out.turn ht (.inr h12))
  replace B := ht.below B hw0 B.size
  clear ht MK O1
  go_wp2_with fail
  refine (eqArrs_true O2.out O0.out (by omega)).mono ?_
  rintro e w11 ⟨rfl, b11⟩
  replace O0 := hidden (O0.out.below b11)
  replace O2 := hidden (O2.out.below b11)
  replace B := B.trans (b11.mono B.size)
  clear b11
  obtain ⟨T2, hT2⟩ : ∃ t : Int, ((1 + M : Nat) : Int) = t := ⟨_, rfl⟩
  have hT2' : ¬ T2 < 0 := by omega
  have hT2n : (T2 != T2) = false := bne_self_eq_false T2
  have HT2 : Hid (((1 + M : Nat) : Int) = T2) := hT2
  have MK := markArr_any O2.out (by omega) 1 (by omega)
  rw [hT2, show ((1 : Nat) : Int) = 1 from rfl] at MK
  clear hT2
  go_wp2_with fail
  refine MK.mono ?_
  rintro e w12 ⟨rfl, hO2, ht⟩
  have O2' := hidden hO2
  replace O0 := hidden (O0.out.only ht (O2.out.apart O0.out (.inr (by omega))))
  replace B := ht.below O2.out (by omega) B B.size
  clear ht MK O2 hO2
  have HD := heldArr_any 1 O2'.out (by omega) (by omega)
  rw [HT2.out, show ((1 : Nat) : Int) = 1 from rfl] at HD
  go_wp2_with fail
  refine HD.mono ?_
  rintro e w13 ⟨rfl, b13⟩
  replace O0 := hidden (O0.out.below b13)
  replace O2' := hidden (O2'.out.below b13)
  replace B := B.trans (b13.mono B.size)
  clear b13 HD
  go_wp2_with fail
  refine (toOpS_any (HS.out.below B) HSH.out).mono ?_
  rintro e w14 ⟨g14, rfl, L14, b14⟩
  replace O0 := hidden (O0.out.below b14)
  replace O2' := hidden (O2'.out.below b14)
  replace B := B.trans (b14.mono B.size)
  clear b14
  go_wp2_with fail
  refine (implTable_any L14 HSH.out.1).mono ?_
  rintro e wz24 ⟨⟨v24, rfl, hv⟩, b24⟩
  obtain ⟨g3, c3, rfl, hO3⟩ := HM.out _ _ _ hv
  have O3 := hidden hO3
  replace O0 := hidden (O0.out.below b24)
  replace O2' := hidden (O2'.out.below b24)
  replace B := B.trans (b24.mono B.size)
  clear b24 hO3 hv L14
  go_wp2_with fail
  refine (eqArrs_true O3.out O0.out (by omega)).mono ?_
  rintro e w15 ⟨rfl, b15⟩
  replace O2' := hidden (O2'.out.below b15)
  replace B := B.trans (b15.mono B.size)
  clear b15 O3 O0
  have HD := heldArr_any 1 O2'.out (by omega) (by omega)
  rw [HT2.out, show ((1 : Nat) : Int) = 1 from rfl] at HD
  go_wp2_with fail
  refine HD.mono ?_
  rintro e w16 ⟨rfl, b16⟩
  replace B := B.trans (b16.mono B.size)
  clear b16 HD O2'
  go_wp2
  go_ret
  exact ⟨rfl, B⟩
end Go.Proofs.Ytmjeplhigjlopaa
