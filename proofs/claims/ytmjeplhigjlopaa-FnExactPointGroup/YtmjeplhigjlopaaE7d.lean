/-
  The law of Close: walked.
-/
import Derived.Test.YtmjeplhigjlopaaE7c
import Derived.Test.YtmjeplhigjlopaaMT
namespace Go.Proofs.Ytmjeplhigjlopaa
open Go.RowKit

/-- The program's answer, as the specification's. -/
theorem opsA_key {w : World} {lo hi g m : Nat} {X Y : Nat → Value} {G : Nat → Nat → Int} {E : Nat → OpD} (hO : OpsA w lo hi g m X Y (fun i => opD (G i))) (h9 : ∀ i, i < m → (E i).n = 9 ∧ (E i).k = 3) (hk : ∀ i, i < m → kV (G i) = kV (E i).key) : OpsA w lo hi g m X Y E := by
  refine hO.alike (fun i hi => ?_)
  obtain ⟨k1, k2⟩ := kV_ext.1 (hk i hi)
  refine ⟨(h9 i hi).1.symm, (h9 i hi).2.symm, fun j hj => ?_, fun j hj => ?_⟩
  · have := k1 j hj
    rw [key_lo _ hj] at this
    exact this
  · have := k2 j hj
    rw [key_hi] at this
    exact this
theorem ClsS.nine {n m : Nat} {A H : Nat → OpD} {b : Bool} (h : ClsS n A m H b) : m ≤ 192 ∧ ∀ i, i < m → (H i).n = 9 ∧ (H i).k = 3 := by
  rcases h with ⟨-, -, -, W, hC⟩ | ⟨-, rfl, -⟩
  · exact ⟨hC.few, fun i hi => ⟨(hC.ok i hi).1, (hC.ok i hi).2.1⟩⟩
  · exact ⟨by omega, fun i hi => by omega⟩
set_option maxRecDepth 100000 in
set_option maxHeartbeats 3000000 in
theorem exactClose_walk {w : World} {a : Option Addr} {n cap : Nat} {A : Nat → OpD} (hS : OpsS w a n A) (hn : n ≤ maxLen) :
    Calls Try.prog 3 #[.slice a n cap] w fun e w' => e = .returned (.bool true) ∧ Below w.heap.size w w' := by
  have HS : Hid (OpsS w a n A) := hS
  clear hS
  go_enter Try.func3, Try.ntmps3
  go_wp2_with fail
  refine (szOpS_tot HS.out hn).mono ?_
  rintro e w1 ⟨rr, rfl, hr, b1⟩
  have B := b1
  clear b1
  rcases hr with rfl | ⟨h0, hsh, htot⟩
  · go_wp2
    go_ret
    exact ⟨rfl, B⟩
  have h1 : ¬ rr < 0 := by omega
  have HSH : Hid (Short n A) := hsh
  have HTT : Hid (totN A n ≤ 1048576) := htot
  clear hsh htot
  go_wp2_with fail
  refine (toOpS_any (HS.out.below B) HSH.out).mono ?_
  rintro e w2 ⟨g2, rfl, L2, b2⟩
  replace B := B.trans (b2.mono B.size)
  go_wp2_with fail
  refine (specClose_any L2 HSH.out.1).mono ?_
  rintro e wz5 ⟨⟨g0, M, c0, bo, X0, Y0, E, rfl, hO0, hv⟩, b5⟩
  have hw0 : w.heap.size ≤ wz5.heap.size := Nat.le_trans B.size b5.size
  replace B := B.trans (b5.mono B.size)
  have O0 := hidden hO0
  have HV : Hid (ClsS n A M E bo) := hv
  have h9 := hv.nine
  have hMn : M ≤ 1048576 := by omega
  have HE : Hid (Short M E) := ⟨hMn, fun i hi => by have := h9.2 i hi; omega⟩
  have HT : Hid (totN E M ≤ 5000) := by rw [totN_nine h9.2]; have := h9.1; exact (by omega : 12 * M ≤ 5000)
  have H9 : Hid (∀ i, i < M → (E i).n = 9 ∧ (E i).k = 3) := h9.2
  have hbn : (bo != bo) = false := bne_self_eq_false bo
  clear L2 b2 b5 hO0 hv h9
  go_wp2_with fail
  refine (toOpS_own (HS.out.below B) HSH.out).mono ?_
  rintro e w4 ⟨X1, Y1, rfl, hO1, b4⟩
  replace O0 := hidden (O0.out.below b4)
  replace B := B.trans (b4.mono B.size)
  have h01 : wz5.heap.size ≤ w4.heap.size := b4.size
  obtain ⟨hi0, eh0⟩ : ∃ q, wz5.heap.size = q := ⟨_, rfl⟩
  obtain ⟨hi1, eh1⟩ : ∃ q, w4.heap.size = q := ⟨_, rfl⟩
  rw [eh0] at O0 hO1 hw0 h01 ⊢
  rw [eh1] at hO1 h01
  have O1 := hidden hO1
  clear hO1 b4 eh0
  have h12 : hi1 ≤ w4.heap.size := eh1 ▸ Nat.le_refl _
  clear eh1
  go_wp2_with fail
  refine (implClose_any O1.out.opsL HSH.out.1).mono ?_
  rintro e w6 ⟨⟨g2, M', c2, b', X2, Y2, G2, rfl, hO2, hv⟩, b6⟩
  obtain ⟨ee1, ee2, hkk⟩ := cls_same hv HV.out
  obtain rfl := ee1.symm
  obtain rfl := ee2.symm
  replace hO2 := opsA_key hO2 H9.out hkk
  obtain ⟨lo2, el2⟩ : ∃ q, w4.heap.size = q := ⟨_, rfl⟩
  obtain ⟨hi2, eh2⟩ : ∃ q, w6.heap.size = q := ⟨_, rfl⟩
  replace O0 := hidden (O0.out.below b6)
  replace O1 := hidden (O1.out.below b6)
  replace B := B.trans (b6.mono B.size)
  rw [el2] at hO2 h12
  rw [eh2] at hO2
  have O2 := hidden hO2
  clear hO2 hv b6 el2 eh2 hkk
  go_wp2_with fail
  refine (eqOpS_true O2.out.opsL O0.out.opsL HE.out).mono ?_
  rintro e w7 ⟨rfl, b7⟩
  replace O0 := hidden (O0.out.below b7)
  replace O1 := hidden (O1.out.below b7)
  replace O2 := hidden (O2.out.below b7)
  replace B := B.trans (b7.mono B.size)
  clear b7
  go_wp2_with fail
  refine (toOpS_any (HS.out.below B) HSH.out).mono ?_
  rintro e w8 ⟨g8, rfl, L8, b8⟩
  replace O0 := hidden (O0.out.below b8)
  replace O1 := hidden (O1.out.below b8)
  replace O2 := hidden (O2.out.below b8)
  replace B := B.trans (b8.mono B.size)
  clear b8
  go_wp2_with fail
  refine (eqOpS_true O1.out.opsL L8 HSH.out).mono ?_
  rintro e w9 ⟨rfl, b9⟩
  replace O0 := hidden (O0.out.below b9)
  replace O1 := hidden (O1.out.below b9)
  replace O2 := hidden (O2.out.below b9)
  replace B := B.trans (b9.mono B.size)
  clear b9 L8
  obtain ⟨T1, hT1⟩ : ∃ t : Int, ((1 + totN A n : Nat) : Int) = t := ⟨_, rfl⟩
  have hT1' : ¬ T1 < 0 := by omega
  have MK := markOpS_any (c := n) O1.out HSH.out.1 HTT.out 1 (by omega)
  rw [hT1, show ((1 : Nat) : Int) = 1 from rfl] at MK
  clear hT1
  go_wp2_with fail
  refine MK.mono ?_
  rintro e w10 ⟨rfl, -, ht⟩
  replace O0 := hidden (O0.out.turn ht (.inl (Nat.le_refl _)))
  replace O2 := hidden (O2.out.turn ht (.inr h12))
  replace B := ht.below B hw0 B.size
  clear ht MK O1
  go_wp2_with fail
  refine (eqOpS_true O2.out.opsL O0.out.opsL HE.out).mono ?_
  rintro e w11 ⟨rfl, b11⟩
  replace O0 := hidden (O0.out.below b11)
  replace O2 := hidden (O2.out.below b11)
  replace B := B.trans (b11.mono B.size)
  clear b11
  obtain ⟨T2, hT2⟩ : ∃ t : Int, ((1 + totN E M : Nat) : Int) = t := ⟨_, rfl⟩
  have hT2' : ¬ T2 < 0 := by omega
  have hT2n : (T2 != T2) = false := bne_self_eq_false T2
  have HT2 : Hid (((1 + totN E M : Nat) : Int) = T2) := hT2
  have MK := markOpS_any (c := c2) O2.out hMn (Nat.le_trans HT.out (by omega)) 1 (by omega)
  rw [hT2, show ((1 : Nat) : Int) = 1 from rfl] at MK
  clear hT2
  go_wp2_with fail
  refine MK.mono ?_
  rintro e w12 ⟨rfl, hO2, ht⟩
  have O2' := hidden hO2
  replace O0 := hidden (O0.out.turn ht (.inl (by omega)))
  replace B := ht.below B (by omega) B.size
  clear ht MK O2 hO2
  have HD := heldOpS_any (c := c2) 1 O2'.out hMn (Nat.le_trans HT.out (by omega)) (by omega)
  rw [HT2.out, show ((1 : Nat) : Int) = 1 from rfl] at HD
  go_wp2_with fail
  refine HD.mono ?_
  rintro e w13 ⟨rfl, b13⟩
  replace O0 := hidden (O0.out.below b13)
  replace O2' := hidden (O2'.out.below b13)
  replace B := B.trans (b13.mono B.size)
  clear b13 HD
  go_wp2_with fail
  refine (toOpS_any (HS.out.below B) HSH.out).mono ?_
  rintro e w14 ⟨g14, rfl, L14, b14⟩
  replace O0 := hidden (O0.out.below b14)
  replace O2' := hidden (O2'.out.below b14)
  replace B := B.trans (b14.mono B.size)
  clear b14
  go_wp2_with fail
  refine (implClose_any L14 HSH.out.1).mono ?_
  rintro e wz24 ⟨⟨g3, M', c3, b', X3, Y3, G3, rfl, hO3, hv⟩, b24⟩
  obtain ⟨ee1, ee2, hkk⟩ := cls_same hv HV.out
  obtain rfl := ee1.symm
  obtain rfl := ee2.symm
  replace hO3 := opsA_key hO3 H9.out hkk
  have O3 := hidden hO3
  replace O0 := hidden (O0.out.below b24)
  replace O2' := hidden (O2'.out.below b24)
  replace B := B.trans (b24.mono B.size)
  clear b24 hO3 hv hkk L14
  go_wp2_with fail
  refine (eqOpS_true O3.out.opsL O0.out.opsL HE.out).mono ?_
  rintro e w15 ⟨rfl, b15⟩
  replace O2' := hidden (O2'.out.below b15)
  replace B := B.trans (b15.mono B.size)
  clear b15 O3 O0
  have HD := heldOpS_any (c := c2) 1 O2'.out hMn (Nat.le_trans HT.out (by omega)) (by omega)
  rw [HT2.out, show ((1 : Nat) : Int) = 1 from rfl] at HD
  go_wp2_with fail
  refine HD.mono ?_
  rintro e w16 ⟨rfl, b16⟩
  replace B := B.trans (b16.mono B.size)
  clear b16 HD O2'
  go_wp2
  go_ret
  exact ⟨rfl, B⟩
end Go.Proofs.Ytmjeplhigjlopaa
