/-
  The law of Orbit: walked.
-/
import Derived.Test.YtehbpcoiciodhaaGreatO3h
import Derived.Test.YtehbpcoiciodhaaGreatQPoint
import Derived.Test.YtehbpcoiciodhaaGreatMT
namespace Go.Proofs.YtehbpcoiciodhaaGreat
open Go.RowKit

theorem PtG.ark {w : World} {lo m : Nat} {v : Value} {F : Nat → T3} (h : PtG w lo v m F) : ∃ g c, v = .slice (some ⟨g, 0, none⟩) m c ∧ ArK 3 30 w lo w.heap.size (.slice (some ⟨g, 0, none⟩) m c) m (fl3 F) := by
  obtain ⟨g, c, e, hl, hm, hc, hL⟩ := h.laid
  exact ⟨g, c, e, .inr ⟨g, c, rfl, hl, hL.lt, hm, hc, hL⟩⟩
theorem ArK.lsG {w : World} {lo hi g c n : Nat} {f : Nat → Int} {t : TypeId} (h : ArK 3 t w lo hi (.slice (some ⟨g, 0, none⟩) n c) n f) : Ls 3 w (some ⟨g, 0, none⟩) n f := by
  rcases h with ⟨h1, _⟩ | ⟨g', c', e, _, _, _, _, h3⟩
  · cases h1
  · cases e
    exact .inr ⟨g, rfl, h3.recsN⟩
/-- Both answers, with one length and one list of numbers. -/
theorem orb_one (n : Nat) (A : Nat → OpD) (x y z : Int) : ∃ (M : Nat) (f : Nat → Int), M ≤ 192 ∧ ∀ w e w', OrbR w n A x y z e w' → ∃ g c, e = .returned (.slice (some ⟨g, 0, none⟩) M c) ∧ ArK 3 30 w' w.heap.size w'.heap.size (.slice (some ⟨g, 0, none⟩) M c) M f ∧ Below w.heap.size w w' := by
  by_cases h : (isG n A ∧ inP x y z) ∧ ∃ m F, OrbI (orbP A x y z) n m F
  · obtain ⟨hG, m, F, hI⟩ := h
    refine ⟨m, fl3 F, Nat.le_trans hI.le hG.1.1, ?_⟩
    rintro w e w' ⟨⟨v, m', F', rfl, hP, hv⟩, hb⟩
    rcases hv with ⟨-, hI'⟩ | ⟨hn, -⟩
    · obtain ⟨rfl, hF⟩ := hI.same hI'
      obtain ⟨g, c, rfl, hA⟩ := hP.ark
      exact ⟨g, c, rfl, hA.same (fun i hi => (fl3_congr hF hi).symm), hb⟩
    · exact absurd hG hn
  · refine ⟨0, fun _ => 0, by omega, ?_⟩
    rintro w e w' ⟨⟨v, m', F', rfl, hP, hv⟩, hb⟩
    rcases hv with ⟨hG, hI'⟩ | ⟨-, rfl⟩
    · exact absurd ⟨hG, _, _, hI'⟩ h
    · obtain ⟨g, c, rfl, hA⟩ := hP.ark
      exact ⟨g, c, rfl, hA.same (fun i hi => by omega), hb⟩
set_option maxRecDepth 100000 in
set_option maxHeartbeats 3000000 in
theorem exactOrbit_walk {w : World} {a : Option Addr} {n cap : Nat} {A : Nat → OpD} (x y z : Int) (hS : OpsS w a n A) (hn : n ≤ maxLen) :
    Calls Tryz.prog 3 #[.slice a n cap, pV x y z] w fun e w' => e = .returned (.bool true) ∧ Below w.heap.size w w' := by
  obtain ⟨M, E, hM192, hM0⟩ := orb_one n A x y z
  have HM : Hid (∀ w e w', OrbR w n A x y z e w' → ∃ g c, e = .returned (.slice (some ⟨g, 0, none⟩) M c) ∧ ArK 3 30 w' w.heap.size w'.heap.size (.slice (some ⟨g, 0, none⟩) M c) M E ∧ Below w.heap.size w w') := hM0
  have hMn : M ≤ 1048576 := by omega
  clear hM0
  obtain ⟨W1, hW1, A1, B, -⟩ := boxed w 24 #[.int .i64 x, .int .i64 y, .int .i64 z]
  obtain ⟨q1, hq1⟩ : ∃ q, w.heap.size = q := ⟨_, rfl⟩
  rw [hq1] at A1
  have HS : Hid (OpsS w a n A) := hS
  clear hS
  unfold pV
  go_enter Tryz.func3, Tryz.ntmps3
  go_wp2_with fail
  refine (szOpS_tot (HS.out.below B) hn).mono ?_
  rintro e w1 ⟨rr, rfl, hr, b1⟩
  replace A1 := A1.below b1
  replace B := B.trans (b1.mono B.size)
  clear b1 hW1 hq1
  rcases hr with rfl | ⟨h0, hsh, htot⟩
  · go_wp2
    go_ret
    exact ⟨rfl, B⟩
  have h1 : ¬ rr < 0 := by omega
  have HSH : Hid (Short n A) := hsh
  have HTT : Hid (totN A n ≤ 1048576) := htot
  clear hsh htot
  go_wp2_with fail
  obtain ⟨u0, hu0, bb⟩ : ∃ uu, w1.drew = uu ∧ Below w1.heap.size w1 uu := ⟨_, rfl, (Below.refl _ _).drew⟩
  replace A1 := A1.below bb
  replace B := B.trans (bb.mono B.size)
  have A1u := A1
  clear bb
  refine wp_region_held_drew (S := Kb u0) (by kernel_rfl) (by rw [hu0]; exact Below.refl _ _) (fun hHeld => ?_)
  rw [hu0] at hHeld ⊢
  clear hu0
  have bu : Kb u0 u0 := Below.refl _ _
  change wpAnyH _ _ _ _ _ 6 #[false, false, false, false, false, false] _ _
  refine wpAnyH_take (i := 0) (v := .slice a n cap) rfl (by kernel_rfl) (by kernel_rfl) (by kernel_rfl) (fun _ _ _ h => h) (Or.inl ⟨by kernel_rfl, ?_⟩) hHeld ?_
  · intro w' hSw; go_simp
  try simp only [Act.put, List.setIfInBounds_toArray, List.set_cons_zero, List.set_cons_succ, List.getElem_toArray, List.getElem_cons_zero]
  refine wpAnyH_take (i := 2) (v := .agg #[.int .i64 x, .int .i64 y, .int .i64 z]) rfl (by kernel_rfl) (by kernel_rfl) (by kernel_rfl) (fun _ _ _ h => h) (Or.inl ⟨by kernel_rfl, ?_⟩) hHeld ?_
  · intro w' hSw; obtain ⟨z0, z1, z2, -⟩ := (A1u.below hSw).open3; go_simp
  try simp only [Act.put, List.setIfInBounds_toArray, List.set_cons_zero, List.set_cons_succ, List.getElem_toArray, List.getElem_cons_succ, List.getElem_cons_zero]
  refine wpAnyH_ready (rs := [1]) (by kernel_rfl) (by simp) ?_
  refine AllReadyH.cons rfl (fun KK hK' => ?_) AllReadyH.nil
  go_simp
  refine (toOpS_any (HS.out.below B) HSH.out).mono ?_
  rintro e u1 ⟨g2, rfl, L2, bb⟩
  replace A1 := A1.below bb
  replace B := B.trans (bb.mono B.size)
  replace bu : Kb u0 u1 := bu.trans (bb.mono bu.size)
  clear bb
  try go_wp2_with fail
  clear hHeld
  refine hK'.out _ _ (bu) (fun hHeld => ?_)
  clear hK' KK
  try simp only [List.setIfInBounds_toArray, List.set_cons_zero, List.set_cons_succ]
  refine wpAnyH_ready (rs := [3]) (by kernel_rfl) (by simp) ?_
  refine AllReadyH.cons rfl (fun KK hK' => ?_) AllReadyH.nil
  go_simp
  refine (toPoint_any x y z _).mono ?_
  rintro e u2 ⟨rfl, bb⟩
  replace L2 := L2.below bb
  replace A1 := A1.below bb
  replace B := B.trans (bb.mono B.size)
  replace bu : Kb u0 u2 := bu.trans (bb.mono bu.size)
  clear bb
  try go_wp2_with fail
  clear hHeld
  refine hK'.out _ _ (bu) (fun hHeld => ?_)
  clear hK' KK
  try simp only [List.setIfInBounds_toArray, List.set_cons_zero, List.set_cons_succ]
  refine wpAnyH_ready (rs := [4]) (by kernel_rfl) (by simp) ?_
  refine AllReadyH.cons rfl (fun KK hK' => ?_) AllReadyH.nil
  go_simp
  refine (specOrbit_any x y z L2 HSH.out.1).mono ?_
  rintro e u3 hv
  obtain ⟨g0', c0', rfl, hO0, bb⟩ := HM.out _ _ _ hv
  have O0 := hidden hO0
  clear hv hO0
  replace A1 := A1.below bb
  replace B := B.trans (bb.mono B.size)
  replace bu : Kb u0 u3 := bu.trans (bb.mono bu.size)
  clear bb L2
  try go_wp2_with fail
  clear hHeld
  refine hK'.out _ _ (bu) (fun hHeld => ?_)
  clear hK' KK
  try simp only [List.setIfInBounds_toArray, List.set_cons_zero, List.set_cons_succ]
  refine wpAnyH_take (i := 5) (v := .slice ((some ⟨g0', 0, none⟩)) M (c0')) rfl (by kernel_rfl) (by kernel_rfl) (by kernel_rfl) (fun _ _ _ h => h) (Or.inl ⟨by kernel_rfl, ?_⟩) hHeld ?_
  · intro w' hSw; go_simp
  try simp only [Act.put, List.setIfInBounds_toArray, List.set_cons_zero, List.set_cons_succ, List.getElem_toArray, List.getElem_cons_succ, List.getElem_cons_zero]
  refine wpAnyH_done (by kernel_rfl) ?_ _
  clear hHeld
  clear bu A1u
  obtain ⟨wz5, hwz⟩ : ∃ wz, wz = u3 := ⟨_, rfl⟩
  subst hwz
  have hq : q1 < wz5.heap.size := A1.lt
  have hw0 : w.heap.size ≤ wz5.heap.size := B.size
  go_wp2_with fail
  refine (toOpS_own (HS.out.below B) HSH.out).mono ?_
  rintro e w4 ⟨X1, Y1, rfl, hO1, b4⟩
  replace O0 := hidden (O0.out.below b4)
  replace A1 := A1.below b4
  replace B := B.trans (b4.mono B.size)
  have h01 : wz5.heap.size ≤ w4.heap.size := b4.size
  obtain ⟨hi0, eh0⟩ : ∃ q, wz5.heap.size = q := ⟨_, rfl⟩
  obtain ⟨hi1, eh1⟩ : ∃ q, w4.heap.size = q := ⟨_, rfl⟩
  rw [eh0] at O0 hO1 hq hw0 h01 ⊢
  rw [eh1] at hO1 h01
  have O1 := hidden hO1
  clear hO1 b4 eh0
  obtain ⟨d0, d1, d2, -⟩ := A1.open3
  go_wp2_with fail
  refine (toPoint_any x y z _).mono ?_
  rintro e w5 ⟨rfl, b5⟩
  replace O0 := hidden (O0.out.below b5)
  replace O1 := hidden (O1.out.below b5)
  replace A1 := A1.below b5
  replace B := B.trans (b5.mono B.size)
  have h12 : hi1 ≤ w5.heap.size := eh1 ▸ b5.size
  clear b5 d0 d1 d2 eh1
  go_wp2_with fail
  refine (implOrbit_any x y z O1.out.opsL HSH.out.1).mono ?_
  rintro e w6 hv
  obtain ⟨g2, c2, rfl, hO2, b6⟩ := HM.out _ _ _ hv
  obtain ⟨lo2, el2⟩ : ∃ q, w5.heap.size = q := ⟨_, rfl⟩
  obtain ⟨hi2, eh2⟩ : ∃ q, w6.heap.size = q := ⟨_, rfl⟩
  replace O0 := hidden (O0.out.below b6)
  replace O1 := hidden (O1.out.below b6)
  replace A1 := A1.below b6
  replace B := B.trans (b6.mono B.size)
  rw [el2] at hO2 h12
  rw [eh2] at hO2
  have O2 := hidden hO2
  clear hO2 hv b6 el2 eh2
  go_wp2_with fail
  refine (eqPointL_true O2.out.lsG O0.out.lsG hMn).mono ?_
  rintro e w7 ⟨rfl, b7⟩
  replace O0 := hidden (O0.out.below b7)
  replace O1 := hidden (O1.out.below b7)
  replace O2 := hidden (O2.out.below b7)
  replace A1 := A1.below b7
  replace B := B.trans (b7.mono B.size)
  clear b7
  go_wp2_with fail
  refine (toOpS_any (HS.out.below B) HSH.out).mono ?_
  rintro e w8 ⟨g8, rfl, L8, b8⟩
  replace O0 := hidden (O0.out.below b8)
  replace O1 := hidden (O1.out.below b8)
  replace O2 := hidden (O2.out.below b8)
  replace A1 := A1.below b8
  replace B := B.trans (b8.mono B.size)
  clear b8
  go_wp2_with fail
  refine (eqOpS_true O1.out.opsL L8 HSH.out).mono ?_
  rintro e w9 ⟨rfl, b9⟩
  replace O0 := hidden (O0.out.below b9)
  replace O1 := hidden (O1.out.below b9)
  replace O2 := hidden (O2.out.below b9)
  replace A1 := A1.below b9
  replace B := B.trans (b9.mono B.size)
  clear b9 L8
  obtain ⟨T1, hT1⟩ : ∃ t : Int, ((1 + totN A n : Nat) : Int) = t := ⟨_, rfl⟩
  have hT1' : ¬ T1 < 0 := by omega
  have MK := markOpS_any (c := n) O1.out HSH.out.1 HTT.out 1 (by omega)
  rw [hT1, show ((1 : Nat) : Int) = 1 from rfl] at MK
  clear hT1
  go_wp2_with fail
  refine MK.mono ?_
  rintro e w10 ⟨rfl, -, ht⟩
  replace O0 := hidden (O0.out.turn ht (.inl (Nat.le_refl _)))
  replace O2 := hidden (O2.out.turn ht (.inr h12))
  replace A1 := A1.turn ht (.inl hq)
  replace B := ht.below B hw0 B.size
  clear ht MK O1
  go_wp2_with fail
  refine (eqPointL_true O2.out.lsG O0.out.lsG hMn).mono ?_
  rintro e w11 ⟨rfl, b11⟩
  replace O0 := hidden (O0.out.below b11)
  replace O2 := hidden (O2.out.below b11)
  replace A1 := A1.below b11
  replace B := B.trans (b11.mono B.size)
  clear b11
  obtain ⟨T2, hT2⟩ : ∃ t : Int, ((1 + M * 3 : Nat) : Int) = t := ⟨_, rfl⟩
  have hT2' : ¬ T2 < 0 := by omega
  have hT2n : (T2 != T2) = false := bne_self_eq_false T2
  have HT2 : Hid (((1 + M * 3 : Nat) : Int) = T2) := hT2
  have MK := markPointK_any O2.out hMn 1 (by omega)
  rw [hT2, show ((1 : Nat) : Int) = 1 from rfl] at MK
  clear hT2
  go_wp2_with fail
  refine MK.mono ?_
  rintro e w12 ⟨rfl, hO2, ho⟩
  have ht := Turn.of_onlyK ho O2.out
  have O2' := hidden hO2
  replace O0 := hidden (O0.out.turn ht (.inl (by omega)))
  replace A1 := A1.turn ht (.inl (by omega))
  replace B := ht.below B (by omega) B.size
  clear ht ho MK O2 hO2
  have HD := heldPointK_any 1 O2'.out hMn (by omega)
  rw [HT2.out, show ((1 : Nat) : Int) = 1 from rfl] at HD
  go_wp2_with fail
  refine HD.mono ?_
  rintro e w13 ⟨rfl, b13⟩
  replace O0 := hidden (O0.out.below b13)
  replace O2' := hidden (O2'.out.below b13)
  replace A1 := A1.below b13
  replace B := B.trans (b13.mono B.size)
  clear b13 HD
  go_wp2_with fail
  obtain ⟨u0, hu0, bb⟩ : ∃ uu, w13.drew = uu ∧ Below w13.heap.size w13 uu := ⟨_, rfl, (Below.refl _ _).drew⟩
  replace A1 := A1.below bb
  replace B := B.trans (bb.mono B.size)
  replace O0 := hidden (O0.out.below bb)
  replace O2' := hidden (O2'.out.below bb)
  have A1u := A1
  clear bb
  refine wp_region_held_drew (S := Kb u0) (by kernel_rfl) (by rw [hu0]; exact Below.refl _ _) (fun hHeld => ?_)
  rw [hu0] at hHeld ⊢
  clear hu0
  have bu : Kb u0 u0 := Below.refl _ _
  change wpAnyH _ _ _ _ _ 6 #[false, false, false, false, false, false] _ _
  refine wpAnyH_take (i := 0) (v := .slice a n cap) rfl (by kernel_rfl) (by kernel_rfl) (by kernel_rfl) (fun _ _ _ h => h) (Or.inl ⟨by kernel_rfl, ?_⟩) hHeld ?_
  · intro w' hSw; go_simp
  try simp only [Act.put, List.setIfInBounds_toArray, List.set_cons_zero, List.set_cons_succ, List.getElem_toArray, List.getElem_cons_zero]
  refine wpAnyH_take (i := 2) (v := .agg #[.int .i64 x, .int .i64 y, .int .i64 z]) rfl (by kernel_rfl) (by kernel_rfl) (by kernel_rfl) (fun _ _ _ h => h) (Or.inl ⟨by kernel_rfl, ?_⟩) hHeld ?_
  · intro w' hSw; obtain ⟨z0, z1, z2, -⟩ := (A1u.below hSw).open3; go_simp
  try simp only [Act.put, List.setIfInBounds_toArray, List.set_cons_zero, List.set_cons_succ, List.getElem_toArray, List.getElem_cons_succ, List.getElem_cons_zero]
  refine wpAnyH_ready (rs := [1]) (by kernel_rfl) (by simp) ?_
  refine AllReadyH.cons rfl (fun KK hK' => ?_) AllReadyH.nil
  go_simp
  refine (toOpS_any (HS.out.below B) HSH.out).mono ?_
  rintro e u1 ⟨g2, rfl, L2, bb⟩
  replace A1 := A1.below bb
  replace B := B.trans (bb.mono B.size)
  replace O0 := hidden (O0.out.below bb)
  replace O2' := hidden (O2'.out.below bb)
  replace bu : Kb u0 u1 := bu.trans (bb.mono bu.size)
  clear bb
  try go_wp2_with fail
  clear hHeld
  refine hK'.out _ _ (bu) (fun hHeld => ?_)
  clear hK' KK
  try simp only [List.setIfInBounds_toArray, List.set_cons_zero, List.set_cons_succ]
  refine wpAnyH_ready (rs := [3]) (by kernel_rfl) (by simp) ?_
  refine AllReadyH.cons rfl (fun KK hK' => ?_) AllReadyH.nil
  go_simp
  refine (toPoint_any x y z _).mono ?_
  rintro e u2 ⟨rfl, bb⟩
  replace L2 := L2.below bb
  replace A1 := A1.below bb
  replace B := B.trans (bb.mono B.size)
  replace O0 := hidden (O0.out.below bb)
  replace O2' := hidden (O2'.out.below bb)
  replace bu : Kb u0 u2 := bu.trans (bb.mono bu.size)
  clear bb
  try go_wp2_with fail
  clear hHeld
  refine hK'.out _ _ (bu) (fun hHeld => ?_)
  clear hK' KK
  try simp only [List.setIfInBounds_toArray, List.set_cons_zero, List.set_cons_succ]
  refine wpAnyH_ready (rs := [4]) (by kernel_rfl) (by simp) ?_
  refine AllReadyH.cons rfl (fun KK hK' => ?_) AllReadyH.nil
  go_simp
  refine (implOrbit_any x y z L2 HSH.out.1).mono ?_
  rintro e u3 hv
  obtain ⟨g3', c3', rfl, hO3, bb⟩ := HM.out _ _ _ hv
  have O3 := hidden hO3
  clear hv hO3
  replace A1 := A1.below bb
  replace B := B.trans (bb.mono B.size)
  replace O0 := hidden (O0.out.below bb)
  replace O2' := hidden (O2'.out.below bb)
  replace bu : Kb u0 u3 := bu.trans (bb.mono bu.size)
  clear bb L2
  try go_wp2_with fail
  clear hHeld
  refine hK'.out _ _ (bu) (fun hHeld => ?_)
  clear hK' KK
  try simp only [List.setIfInBounds_toArray, List.set_cons_zero, List.set_cons_succ]
  refine wpAnyH_take (i := 5) (v := .slice ((some ⟨g3', 0, none⟩)) M (c3')) rfl (by kernel_rfl) (by kernel_rfl) (by kernel_rfl) (fun _ _ _ h => h) (Or.inl ⟨by kernel_rfl, ?_⟩) hHeld ?_
  · intro w' hSw; go_simp
  try simp only [Act.put, List.setIfInBounds_toArray, List.set_cons_zero, List.set_cons_succ, List.getElem_toArray, List.getElem_cons_succ, List.getElem_cons_zero]
  refine wpAnyH_done (by kernel_rfl) ?_ _
  clear hHeld
  clear bu A1u
  obtain ⟨wz24, hwz⟩ : ∃ wz, wz = u3 := ⟨_, rfl⟩
  subst hwz
  go_wp2_with fail
  refine (eqPointL_true O3.out.lsG O0.out.lsG hMn).mono ?_
  rintro e w15 ⟨rfl, b15⟩
  replace O2' := hidden (O2'.out.below b15)
  replace A1 := A1.below b15
  replace B := B.trans (b15.mono B.size)
  clear b15 O3 O0
  have HD := heldPointK_any 1 O2'.out hMn (by omega)
  rw [HT2.out, show ((1 : Nat) : Int) = 1 from rfl] at HD
  go_wp2_with fail
  refine HD.mono ?_
  rintro e w16 ⟨rfl, b16⟩
  replace B := B.trans (b16.mono B.size)
  clear b16 HD O2'
  go_wp2
  go_ret
  exact ⟨rfl, B⟩
end Go.Proofs.YtehbpcoiciodhaaGreat
