/-
  The size of a list of operators, told whole; operators told alike. For the law of Stabiliser.
-/
import Derived.Test.YtmjeplhigjlopaaE6b
import Derived.Test.YtmjeplhigjlopaaMO
import Derived.Test.YtmjeplhigjlopaaQe
namespace Go.Proofs.Ytmjeplhigjlopaa
open Go.RowKit

theorem arr_alike {w : World} {lo hi n : Nat} {v : Value} {f h : Nat → Int} (a : Arr w lo hi v n f) (e : ∀ i, i < n → f i = h i) : Arr w lo hi v n h := by
  rcases a with a | ⟨g, c, rfl, h1, h2, h3, cur, h4, h5⟩
  · exact .inl a
  · exact .inr ⟨g, c, rfl, h1, h2, h3, cur, h4, h5.1, fun i hi => by rw [← e i hi]; exact h5.2 i hi⟩
theorem OpsA.alike {w : World} {lo hi g n : Nat} {X Y : Nat → Value} {A A' : Nat → OpD} (h : OpsA w lo hi g n X Y A) (e : ∀ i, i < n → (A i).n = (A' i).n ∧ (A i).k = (A' i).k ∧ (∀ j, j < (A i).n → (A i).f j = (A' i).f j) ∧ ∀ j, j < (A i).k → (A i).h j = (A' i).h j) : OpsA w lo hi g n X Y A' :=
  ⟨h.blk, fun i hi => by rw [← (e i hi).1]; exact arr_alike (h.xs i hi) (e i hi).2.2.1, fun i hi => by rw [← (e i hi).2.1]; exact arr_alike (h.ys i hi) (e i hi).2.2.2, h.dj⟩
/-- The program's answer, as the specification's. -/
theorem StaQ.toP {w : World} {lo n : Nat} {v : Value} {A : Nat → OpD} {x y z : Int} (h : StaQ w lo v n A x y z) : StaP w lo v n A x y z := by
  obtain ⟨g, c, X, Y, m, rfl, hO, hm⟩ := h
  refine ⟨g, c, X, Y, m, rfl, hO.alike (fun j hj => ?_), hm⟩
  rcases hm with ⟨⟨hG, -⟩, rfl⟩ | ⟨-, rfl⟩
  · have ok := hG.2.1 _ (kI_lt hj)
    exact ⟨ok.1.symm, ok.2.1.symm, fun l hl => key_lo _ hl, fun l hl => key_hi _ l⟩
  · omega
set_option maxRecDepth 100000 in
theorem szOpS_tot {w : World} {a : Option Addr} {n cap : Nat} {A : Nat → OpD} (hS : OpsS w a n A) (hn : n ≤ maxLen) :
    Calls Try.prog 9 #[.slice a n cap, .int .i64 1048576] w fun e w' => ∃ r : Int, e = .returned (.int .i64 r) ∧ (r = -1 ∨ (0 ≤ r ∧ Short n A ∧ totN A n ≤ 1048576)) ∧ Below w.heap.size w w' := by
  unfold maxLen at hn
  by_cases hb : 1048576 < n
  · have h1 : (1048576 : Int) - (n : Int) < 0 := by omega
    go_enter Try.func9, Try.ntmps9
    go_wp2
    go_ret
    exact ⟨_, rfl, .inl rfl, Below.refl _ _⟩
  · have h1 : ¬ (1048576 : Int) - (n : Int) < 0 := by omega
    go_enter Try.func9, Try.ntmps9
    go_wp2
    go_loopw [1, 5] (fun l s wr => ∃ (k : Nat) (r : Int), k ≤ n ∧ s = .int .i64 k ∧ l = .int .i64 r ∧ 0 ≤ r ∧ r + (totN A k : Int) ≤ 1048576 ∧ Hid (∀ i, i < k → (A i).n ≤ 1048576 ∧ (A i).k ≤ 1048576) ∧ Below w.heap.size w wr) (fun _ s _ => n - (intOf s).toNat)
    case atStart => exact ⟨0, _, Nat.zero_le _, rfl, rfl, by omega, by simp [totN]; omega, fun i hi => by omega, Below.refl _ _⟩
    case round =>
      obtain ⟨k, r, hk, rfl, rfl, hr0, hr1, hok, B⟩ := hrel
      by_cases hlt : k < n
      · have hlt' : (k : Int) < (n : Int) := by omega
        rcases hS.below B with h0 | ⟨g, off, rfl, hg, rr⟩
        · omega
        obtain ⟨x, c, y, d, e1, e2, s1, s2, m1, m2⟩ := rr k hlt
        obtain ⟨N, hN⟩ : ∃ N, (A k).n = N := ⟨_, rfl⟩
        obtain ⟨K, hK⟩ : ∃ N, (A k).k = N := ⟨_, rfl⟩
        rw [hN] at e1 m1
        rw [hK] at e2 m2
        clear rr s1 s2
        go_wp2_with fail
        refine (szOp_any x y N c K d r wr m1 m2 (by omega)).mono ?_
        rintro e w3 ⟨r', rfl, hr', b3⟩
        replace B := B.trans (b3.mono B.size)
        clear b3 e1 e2 m1 m2
        rcases hr' with rfl | ⟨he, hr'⟩
        · go_wp2
          go_ret
          exact ⟨_, rfl, .inl rfl, B⟩
        · have hr2 : ¬ r' < 0 := by omega
          have HO : Hid (∀ i, i < k + 1 → (A i).n ≤ 1048576 ∧ (A i).k ≤ 1048576) := fun i hi => by
            by_cases e : i = k
            · rw [e, hN, hK]; omega
            · exact hok.out i (by omega)
          have hr3 : r' + (totN A (k + 1) : Int) ≤ 1048576 := by simp only [totN]; rw [hN, hK]; omega
          clear hok he
          go_wp2
          exact ⟨⟨k + 1, r', by omega, by go_num, rfl, hr', hr3, HO, B⟩, by simp [intOf]; omega⟩
      · have hlt' : ¬ (k : Int) < (n : Int) := by omega
        obtain rfl : k = n := by omega
        go_wp2
        go_ret
        exact ⟨_, rfl, .inr ⟨hr0, ⟨by omega, hok.out⟩, by omega⟩, B⟩
end Go.Proofs.Ytmjeplhigjlopaa
/-
  The law of Stabiliser: walked.
-/
namespace Go.Proofs.Ytmjeplhigjlopaa
open Go.RowKit

theorem totN_nine {A : Nat → OpD} {m : Nat} (h : ∀ i, i < m → (A i).n = 9 ∧ (A i).k = 3) : totN A m = 12 * m := by
  induction m with
  | zero => rfl
  | succ m ih =>
    have h1 := h m (by omega)
    have h2 := ih (fun i hi => h i (by omega))
    simp only [totN]
    omega
/-- Both answers, with one length. -/
theorem sta_one (n : Nat) (A : Nat → OpD) (x y z : Int) : ∃ (M : Nat) (E : Nat → OpD), (∀ w lo v, StaP w lo v n A x y z → ∃ g c X Y, v = .slice (some ⟨g, 0, none⟩) M c ∧ OpsA w lo w.heap.size g M X Y E) ∧ Short M E ∧ totN E M ≤ 5000 := by
  by_cases h : isG n A ∧ inP x y z
  · have hk := kN_le (fun i => stay x y z (A i)) n
    have h192 := h.1.1
    have hok : ∀ j, j < kN (fun i => stay x y z (A i)) n → (A (kI (fun i => stay x y z (A i)) n j)).n = 9 ∧ (A (kI (fun i => stay x y z (A i)) n j)).k = 3 := fun j hj => by
      have ok := h.1.2.1 _ (kI_lt hj)
      exact ⟨ok.1, ok.2.1⟩
    refine ⟨kN (fun i => stay x y z (A i)) n, fun j => A (kI (fun i => stay x y z (A i)) n j), ?_, ⟨by omega, fun i hi => by have := hok i hi; simp only []; omega⟩, ?_⟩
    · rintro w lo v ⟨g, c, X, Y, m, e, hO, ⟨-, rfl⟩ | ⟨hn, -⟩⟩
      · exact ⟨g, c, X, Y, e, hO⟩
      · exact absurd h hn
    · rw [totN_nine hok]; omega
  · refine ⟨0, fun j => A (kI (fun i => stay x y z (A i)) n j), ?_, ⟨by omega, fun i hi => by omega⟩, by simp [totN]⟩
    rintro w lo v ⟨g, c, X, Y, m, e, hO, ⟨hy, -⟩ | ⟨-, rfl⟩⟩
    · exact absurd hy h
    · exact ⟨g, c, X, Y, e, hO⟩
set_option maxRecDepth 100000 in
set_option maxHeartbeats 3000000 in
theorem exactSta_walk {w : World} {a : Option Addr} {n cap : Nat} {A : Nat → OpD} (x y z : Int) (hS : OpsS w a n A) (hn : n ≤ maxLen) :
    Calls Try.prog 7 #[.slice a n cap, pV x y z] w fun e w' => e = .returned (.bool true) ∧ Below w.heap.size w w' := by
  obtain ⟨M, E, hM0, hME, hMT⟩ := sta_one n A x y z
  have HM : Hid (∀ w lo v, StaP w lo v n A x y z → ∃ g c X Y, v = .slice (some ⟨g, 0, none⟩) M c ∧ OpsA w lo w.heap.size g M X Y E) := hM0
  have HE : Hid (Short M E) := hME
  have HT : Hid (totN E M ≤ 5000) := hMT
  have hMn : M ≤ 1048576 := hME.1
  clear hM0 hME hMT
  obtain ⟨W1, hW1, A1, B, -⟩ := boxed w 46 #[.int .i64 x, .int .i64 y, .int .i64 z]
  obtain ⟨q1, hq1⟩ : ∃ q, w.heap.size = q := ⟨_, rfl⟩
  rw [hq1] at A1
  have HS : Hid (OpsS w a n A) := hS
  clear hS
  unfold pV
  go_enter Try.func7, Try.ntmps7
  go_wp2_with fail
  refine (szOpS_tot (HS.out.below B) hn).mono ?_
  rintro e w1 ⟨rr, rfl, hr, b1⟩
  replace A1 := A1.below b1
  replace B := B.trans (b1.mono B.size)
  clear b1 hW1 hq1
  rcases hr with rfl | ⟨h0, hsh, htot⟩
  · go_wp2
    go_ret
    exact ⟨rfl, B⟩
  have h1 : ¬ rr < 0 := by omega
  have HSH : Hid (Short n A) := hsh
  have HTT : Hid (totN A n ≤ 1048576) := htot
  clear hsh htot
  go_wp2_with fail
  obtain ⟨u0, hu0, bb⟩ : ∃ uu, w1.drew = uu ∧ Below w1.heap.size w1 uu := ⟨_, rfl, (Below.refl _ _).drew⟩
  replace A1 := A1.below bb
  replace B := B.trans (bb.mono B.size)
  have A1u := A1
  clear bb
  refine wp_region_held_drew (S := Kb u0) (by kernel_rfl) (by rw [hu0]; exact Below.refl _ _) (fun hHeld => ?_)
  rw [hu0] at hHeld ⊢
  clear hu0
  have bu : Kb u0 u0 := Below.refl _ _
  change wpAnyH _ _ _ _ _ 6 #[false, false, false, false, false, false] _ _
  refine wpAnyH_take (i := 0) (v := .slice a n cap) rfl (by kernel_rfl) (by kernel_rfl) (by kernel_rfl) (fun _ _ _ h => h) (Or.inl ⟨by kernel_rfl, ?_⟩) hHeld ?_
  · intro w' hSw; go_simp
  try simp only [Act.put, List.setIfInBounds_toArray, List.set_cons_zero, List.set_cons_succ, List.getElem_toArray, List.getElem_cons_zero]
  refine wpAnyH_take (i := 2) (v := .agg #[.int .i64 x, .int .i64 y, .int .i64 z]) rfl (by kernel_rfl) (by kernel_rfl) (by kernel_rfl) (fun _ _ _ h => h) (Or.inl ⟨by kernel_rfl, ?_⟩) hHeld ?_
  · intro w' hSw; obtain ⟨z0, z1, z2, -⟩ := (A1u.below hSw).open3; go_simp
  try simp only [Act.put, List.setIfInBounds_toArray, List.set_cons_zero, List.set_cons_succ, List.getElem_toArray, List.getElem_cons_succ, List.getElem_cons_zero]
  refine wpAnyH_ready (rs := [1]) (by kernel_rfl) (by simp) ?_
  refine AllReadyH.cons rfl (fun KK hK' => ?_) AllReadyH.nil
  go_simp
  refine (toOpS_any (HS.out.below B) HSH.out).mono ?_
  rintro e u1 ⟨g2, rfl, L2, bb⟩
  replace A1 := A1.below bb
  replace B := B.trans (bb.mono B.size)
  replace bu : Kb u0 u1 := bu.trans (bb.mono bu.size)
  clear bb
  try go_wp2_with fail
  clear hHeld
  refine hK'.out _ _ (bu) (fun hHeld => ?_)
  clear hK' KK
  try simp only [List.setIfInBounds_toArray, List.set_cons_zero, List.set_cons_succ]
  refine wpAnyH_ready (rs := [3]) (by kernel_rfl) (by simp) ?_
  refine AllReadyH.cons rfl (fun KK hK' => ?_) AllReadyH.nil
  go_simp
  refine (toPoint_any x y z _).mono ?_
  rintro e u2 ⟨rfl, bb⟩
  replace L2 := L2.below bb
  replace A1 := A1.below bb
  replace B := B.trans (bb.mono B.size)
  replace bu : Kb u0 u2 := bu.trans (bb.mono bu.size)
  clear bb
  try go_wp2_with fail
  clear hHeld
  refine hK'.out _ _ (bu) (fun hHeld => ?_)
  clear hK' KK
  try simp only [List.setIfInBounds_toArray, List.set_cons_zero, List.set_cons_succ]
  refine wpAnyH_ready (rs := [4]) (by kernel_rfl) (by simp) ?_
  refine AllReadyH.cons rfl (fun KK hK' => ?_) AllReadyH.nil
  go_simp
  refine (specSta_any x y z L2 HSH.out.1).mono ?_
  rintro e u3 ⟨⟨v0, rfl, hv⟩, bb⟩
  obtain ⟨g0', c0', X0, Y0, rfl, hO0⟩ := HM.out _ _ _ hv
  have O0 := hidden hO0
  clear hv hO0
  replace A1 := A1.below bb
  replace B := B.trans (bb.mono B.size)
  replace bu : Kb u0 u3 := bu.trans (bb.mono bu.size)
  clear bb L2
  try go_wp2_with fail
  clear hHeld
  refine hK'.out _ _ (bu) (fun hHeld => ?_)
  clear hK' KK
  try simp only [List.setIfInBounds_toArray, List.set_cons_zero, List.set_cons_succ]
  refine wpAnyH_take (i := 5) (v := .slice ((some ⟨g0', 0, none⟩)) M (c0')) rfl (by kernel_rfl) (by kernel_rfl) (by kernel_rfl) (fun _ _ _ h => h) (Or.inl ⟨by kernel_rfl, ?_⟩) hHeld ?_
  · intro w' hSw; go_simp
  try simp only [Act.put, List.setIfInBounds_toArray, List.set_cons_zero, List.set_cons_succ, List.getElem_toArray, List.getElem_cons_succ, List.getElem_cons_zero]
  refine wpAnyH_done (by kernel_rfl) ?_ _
  clear hHeld
  clear bu A1u
  obtain ⟨wz5, hwz⟩ : ∃ wz, wz = u3 := ⟨_, rfl⟩
  subst hwz
  have hq : q1 < wz5.heap.size := A1.lt
  have hw0 : w.heap.size ≤ wz5.heap.size := B.size
  go_wp2_with fail
  refine (toOpS_own (HS.out.below B) HSH.out).mono ?_
  rintro e w4 ⟨X1, Y1, rfl, hO1, b4⟩
  replace O0 := hidden (O0.out.below b4)
  replace A1 := A1.below b4
  replace B := B.trans (b4.mono B.size)
  have h01 : wz5.heap.size ≤ w4.heap.size := b4.size
  obtain ⟨hi0, eh0⟩ : ∃ q, wz5.heap.size = q := ⟨_, rfl⟩
  obtain ⟨hi1, eh1⟩ : ∃ q, w4.heap.size = q := ⟨_, rfl⟩
  rw [eh0] at O0 hO1 hq hw0 h01 ⊢
  rw [eh1] at hO1 h01
  have O1 := hidden hO1
  clear hO1 b4 eh0
  obtain ⟨d0, d1, d2, -⟩ := A1.open3
  go_wp2_with fail
  refine (toPoint_any x y z _).mono ?_
  rintro e w5 ⟨rfl, b5⟩
  replace O0 := hidden (O0.out.below b5)
  replace O1 := hidden (O1.out.below b5)
  replace A1 := A1.below b5
  replace B := B.trans (b5.mono B.size)
  have h12 : hi1 ≤ w5.heap.size := eh1 ▸ b5.size
  clear b5 d0 d1 d2 eh1
  go_wp2_with fail
  refine (implSta_any x y z O1.out.opsL HSH.out.1).mono ?_
  rintro e w6 ⟨⟨v6, rfl, hv⟩, b6⟩
  obtain ⟨g2, c2, X2, Y2, rfl, hO2⟩ := HM.out _ _ _ hv.toP
  obtain ⟨lo2, el2⟩ : ∃ q, w5.heap.size = q := ⟨_, rfl⟩
  obtain ⟨hi2, eh2⟩ : ∃ q, w6.heap.size = q := ⟨_, rfl⟩
  replace O0 := hidden (O0.out.below b6)
  replace O1 := hidden (O1.out.below b6)
  replace A1 := A1.below b6
  replace B := B.trans (b6.mono B.size)
  rw [el2] at hO2 h12
  rw [eh2] at hO2
  have O2 := hidden hO2
  clear hO2 hv b6 el2 eh2
  go_wp2_with fail
  refine (eqOpS_true O2.out.opsL O0.out.opsL HE.out).mono ?_
  rintro e w7 ⟨rfl, b7⟩
  replace O0 := hidden (O0.out.below b7)
  replace O1 := hidden (O1.out.below b7)
  replace O2 := hidden (O2.out.below b7)
  replace A1 := A1.below b7
  replace B := B.trans (b7.mono B.size)
  clear b7
  go_wp2_with fail
  refine (toOpS_any (HS.out.below B) HSH.out).mono ?_
  rintro e w8 ⟨g8, rfl, L8, b8⟩
  replace O0 := hidden (O0.out.below b8)
  replace O1 := hidden (O1.out.below b8)
  replace O2 := hidden (O2.out.below b8)
  replace A1 := A1.below b8
  replace B := B.trans (b8.mono B.size)
  clear b8
  go_wp2_with fail
  refine (eqOpS_true O1.out.opsL L8 HSH.out).mono ?_
  rintro e w9 ⟨rfl, b9⟩
  replace O0 := hidden (O0.out.below b9)
  replace O1 := hidden (O1.out.below b9)
  replace O2 := hidden (O2.out.below b9)
  replace A1 := A1.below b9
  replace B := B.trans (b9.mono B.size)
  clear b9 L8
  obtain ⟨T1, hT1⟩ : ∃ t : Int, ((1 + totN A n : Nat) : Int) = t := ⟨_, rfl⟩
  have hT1' : ¬ T1 < 0 := by omega
  have MK := markOpS_any (c := n) O1.out HSH.out.1 HTT.out 1 (by omega)
  rw [hT1, show ((1 : Nat) : Int) = 1 from rfl] at MK
  clear hT1
  go_wp2_with fail
  refine MK.mono ?_
  rintro e w10 ⟨rfl, -, ht⟩
  replace O0 := hidden (O0.out.turn ht (.inl (Nat.le_refl _)))
  replace O2 := hidden (O2.out.turn ht (.inr h12))
  replace A1 := A1.turn ht (.inl hq)
  replace B := ht.below B hw0 B.size
  clear ht MK O1
  go_wp2_with fail
  refine (eqOpS_true O2.out.opsL O0.out.opsL HE.out).mono ?_
  rintro e w11 ⟨rfl, b11⟩
  replace O0 := hidden (O0.out.below b11)
  replace O2 := hidden (O2.out.below b11)
  replace A1 := A1.below b11
  replace B := B.trans (b11.mono B.size)
  clear b11
  obtain ⟨T2, hT2⟩ : ∃ t : Int, ((1 + totN E M : Nat) : Int) = t := ⟨_, rfl⟩
  have hT2' : ¬ T2 < 0 := by omega
  have hT2n : (T2 != T2) = false := bne_self_eq_false T2
  have HT2 : Hid (((1 + totN E M : Nat) : Int) = T2) := hT2
  have MK := markOpS_any (c := c2) O2.out hMn (Nat.le_trans HT.out (by omega)) 1 (by omega)
  rw [hT2, show ((1 : Nat) : Int) = 1 from rfl] at MK
  clear hT2
  go_wp2_with fail
  refine MK.mono ?_
  rintro e w12 ⟨rfl, hO2, ht⟩
  have O2' := hidden hO2
  replace O0 := hidden (O0.out.turn ht (.inl (by omega)))
  replace A1 := A1.turn ht (.inl (by omega))
  replace B := ht.below B (by omega) B.size
  clear ht MK O2 hO2
  have HD := heldOpS_any (c := c2) 1 O2'.out hMn (Nat.le_trans HT.out (by omega)) (by omega)
  rw [HT2.out, show ((1 : Nat) : Int) = 1 from rfl] at HD
  go_wp2_with fail
  refine HD.mono ?_
  rintro e w13 ⟨rfl, b13⟩
  replace O0 := hidden (O0.out.below b13)
  replace O2' := hidden (O2'.out.below b13)
  replace A1 := A1.below b13
  replace B := B.trans (b13.mono B.size)
  clear b13 HD
  go_wp2_with fail
  obtain ⟨u0, hu0, bb⟩ : ∃ uu, w13.drew = uu ∧ Below w13.heap.size w13 uu := ⟨_, rfl, (Below.refl _ _).drew⟩
  replace A1 := A1.below bb
  replace B := B.trans (bb.mono B.size)
  replace O0 := hidden (O0.out.below bb)
  replace O2' := hidden (O2'.out.below bb)
  have A1u := A1
  clear bb
  refine wp_region_held_drew (S := Kb u0) (by kernel_rfl) (by rw [hu0]; exact Below.refl _ _) (fun hHeld => ?_)
  rw [hu0] at hHeld ⊢
  clear hu0
  have bu : Kb u0 u0 := Below.refl _ _
  change wpAnyH _ _ _ _ _ 6 #[false, false, false, false, false, false] _ _
  refine wpAnyH_take (i := 0) (v := .slice a n cap) rfl (by kernel_rfl) (by kernel_rfl) (by kernel_rfl) (fun _ _ _ h => h) (Or.inl ⟨by kernel_rfl, ?_⟩) hHeld ?_
  · intro w' hSw; go_simp
  try simp only [Act.put, List.setIfInBounds_toArray, List.set_cons_zero, List.set_cons_succ, List.getElem_toArray, List.getElem_cons_zero]
  refine wpAnyH_take (i := 2) (v := .agg #[.int .i64 x, .int .i64 y, .int .i64 z]) rfl (by kernel_rfl) (by kernel_rfl) (by kernel_rfl) (fun _ _ _ h => h) (Or.inl ⟨by kernel_rfl, ?_⟩) hHeld ?_
  · intro w' hSw; obtain ⟨z0, z1, z2, -⟩ := (A1u.below hSw).open3; go_simp
  try simp only [Act.put, List.setIfInBounds_toArray, List.set_cons_zero, List.set_cons_succ, List.getElem_toArray, List.getElem_cons_succ, List.getElem_cons_zero]
  refine wpAnyH_ready (rs := [1]) (by kernel_rfl) (by simp) ?_
  refine AllReadyH.cons rfl (fun KK hK' => ?_) AllReadyH.nil
  go_simp
  refine (toOpS_any (HS.out.below B) HSH.out).mono ?_
  rintro e u1 ⟨g2, rfl, L2, bb⟩
  replace A1 := A1.below bb
  replace B := B.trans (bb.mono B.size)
  replace O0 := hidden (O0.out.below bb)
  replace O2' := hidden (O2'.out.below bb)
  replace bu : Kb u0 u1 := bu.trans (bb.mono bu.size)
  clear bb
  try go_wp2_with fail
  clear hHeld
  refine hK'.out _ _ (bu) (fun hHeld => ?_)
  clear hK' KK
  try simp only [List.setIfInBounds_toArray, List.set_cons_zero, List.set_cons_succ]
  refine wpAnyH_ready (rs := [3]) (by kernel_rfl) (by simp) ?_
  refine AllReadyH.cons rfl (fun KK hK' => ?_) AllReadyH.nil
  go_simp
  refine (toPoint_any x y z _).mono ?_
  rintro e u2 ⟨rfl, bb⟩
  replace L2 := L2.below bb
  replace A1 := A1.below bb
  replace B := B.trans (bb.mono B.size)
  replace O0 := hidden (O0.out.below bb)
  replace O2' := hidden (O2'.out.below bb)
  replace bu : Kb u0 u2 := bu.trans (bb.mono bu.size)
  clear bb
  try go_wp2_with fail
  clear hHeld
  refine hK'.out _ _ (bu) (fun hHeld => ?_)
  clear hK' KK
  try simp only [List.setIfInBounds_toArray, List.set_cons_zero, List.set_cons_succ]
  refine wpAnyH_ready (rs := [4]) (by kernel_rfl) (by simp) ?_
  refine AllReadyH.cons rfl (fun KK hK' => ?_) AllReadyH.nil
  go_simp
  refine (implSta_any x y z L2 HSH.out.1).mono ?_
  rintro e u3 ⟨⟨v0, rfl, hv⟩, bb⟩
  obtain ⟨g3', c3', X3, Y3, rfl, hO3⟩ := HM.out _ _ _ hv.toP
  have O3 := hidden hO3
  clear hv hO3
  replace A1 := A1.below bb
  replace B := B.trans (bb.mono B.size)
  replace O0 := hidden (O0.out.below bb)
  replace O2' := hidden (O2'.out.below bb)
  replace bu : Kb u0 u3 := bu.trans (bb.mono bu.size)
  clear bb L2
  try go_wp2_with fail
  clear hHeld
  refine hK'.out _ _ (bu) (fun hHeld => ?_)
  clear hK' KK
  try simp only [List.setIfInBounds_toArray, List.set_cons_zero, List.set_cons_succ]
  refine wpAnyH_take (i := 5) (v := .slice ((some ⟨g3', 0, none⟩)) M (c3')) rfl (by kernel_rfl) (by kernel_rfl) (by kernel_rfl) (fun _ _ _ h => h) (Or.inl ⟨by kernel_rfl, ?_⟩) hHeld ?_
  · intro w' hSw; go_simp
  try simp only [Act.put, List.setIfInBounds_toArray, List.set_cons_zero, List.set_cons_succ, List.getElem_toArray, List.getElem_cons_succ, List.getElem_cons_zero]
  refine wpAnyH_done (by kernel_rfl) ?_ _
  clear hHeld
  clear bu A1u
  obtain ⟨wz24, hwz⟩ : ∃ wz, wz = u3 := ⟨_, rfl⟩
  subst hwz
  go_wp2_with fail
  refine (eqOpS_true O3.out.opsL O0.out.opsL HE.out).mono ?_
  rintro e w15 ⟨rfl, b15⟩
  replace O2' := hidden (O2'.out.below b15)
  replace A1 := A1.below b15
  replace B := B.trans (b15.mono B.size)
  clear b15 O3 O0
  have HD := heldOpS_any (c := c2) 1 O2'.out hMn (Nat.le_trans HT.out (by omega)) (by omega)
  rw [HT2.out, show ((1 : Nat) : Int) = 1 from rfl] at HD
  go_wp2_with fail
  refine HD.mono ?_
  rintro e w16 ⟨rfl, b16⟩
  replace B := B.trans (b16.mono B.size)
  clear b16 HD O2'
  go_wp2
  go_ret
  exact ⟨rfl, B⟩
end Go.Proofs.Ytmjeplhigjlopaa
