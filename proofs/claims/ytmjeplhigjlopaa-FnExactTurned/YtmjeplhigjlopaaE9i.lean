/-
  The law of Turned: walked.
-/
import Derived.Test.YtmjeplhigjlopaaE9f
import Derived.Test.YtmjeplhigjlopaaE9h
import Derived.Test.YtmjeplhigjlopaaE7d
namespace Go.Proofs.Ytmjeplhigjlopaa
open Go.RowKit

theorem TurS.nine {n m : Nat} {A H : Nat → OpD} {o : OpD} {b : Bool} (h : TurS n A o m H b) : m ≤ 192 ∧ ∀ i, i < m → (H i).n = 9 ∧ (H i).k = 3 := by
  rcases h with ⟨-, rfl, h192, -, hI⟩ | ⟨-, rfl, -⟩
  · exact ⟨h192, fun i hi => ⟨(hI.ok i hi).1, (hI.ok i hi).2.1⟩⟩
  · exact ⟨by omega, fun i hi => by omega⟩
set_option maxRecDepth 100000 in
theorem szOpS_tot2 {w : World} {a : Option Addr} {n cap : Nat} {A : Nat → OpD} (hS : OpsS w a n A) (hn : n ≤ maxLen) :
    Calls Try.prog 9 #[.slice a n cap, .int .i64 1048576] w fun e w' => ∃ r : Int, e = .returned (.int .i64 r) ∧ (r = -1 ∨ (0 ≤ r ∧ r ≤ 1048576 ∧ Short n A ∧ totN A n ≤ 1048576)) ∧ Below w.heap.size w w' := by
  unfold maxLen at hn
  by_cases hb : 1048576 < n
  · have h1 : (1048576 : Int) - (n : Int) < 0 := by omega
    go_enter Try.func9, Try.ntmps9
    go_wp2
    go_ret
    exact ⟨_, rfl, .inl rfl, Below.refl _ _⟩
  · have h1 : ¬ (1048576 : Int) - (n : Int) < 0 := by omega
    go_enter Try.func9, Try.ntmps9
    go_wp2
    go_loopw [1, 5] (fun l s wr => ∃ (k : Nat) (r : Int), k ≤ n ∧ s = .int .i64 k ∧ l = .int .i64 r ∧ 0 ≤ r ∧ r + (totN A k : Int) ≤ 1048576 ∧ Hid (∀ i, i < k → (A i).n ≤ 1048576 ∧ (A i).k ≤ 1048576) ∧ Below w.heap.size w wr) (fun _ s _ => n - (intOf s).toNat)
    case atStart => exact ⟨0, _, Nat.zero_le _, rfl, rfl, by omega, by simp [totN]; omega, fun i hi => by omega, Below.refl _ _⟩
    case round =>
      obtain ⟨k, r, hk, rfl, rfl, hr0, hr1, hok, B⟩ := hrel
      by_cases hlt : k < n
      · have hlt' : (k : Int) < (n : Int) := by omega
        rcases hS.below B with h0 | ⟨g, off, rfl, hg, rr⟩
        · omega
        obtain ⟨x, c, y, d, e1, e2, s1, s2, m1, m2⟩ := rr k hlt
        obtain ⟨N, hN⟩ : ∃ N, (A k).n = N := ⟨_, rfl⟩
        obtain ⟨K, hK⟩ : ∃ N, (A k).k = N := ⟨_, rfl⟩
        rw [hN] at e1 m1
        rw [hK] at e2 m2
        clear rr s1 s2
        go_wp2_with fail
        refine (szOp_any x y N c K d r wr m1 m2 (by omega)).mono ?_
        rintro e w3 ⟨r', rfl, hr', b3⟩
        replace B := B.trans (b3.mono B.size)
        clear b3 e1 e2 m1 m2
        rcases hr' with rfl | ⟨he, hr'⟩
        · go_wp2
          go_ret
          exact ⟨_, rfl, .inl rfl, B⟩
        · have hr2 : ¬ r' < 0 := by omega
          have HO : Hid (∀ i, i < k + 1 → (A i).n ≤ 1048576 ∧ (A i).k ≤ 1048576) := fun i hi => by
            by_cases e : i = k
            · rw [e, hN, hK]; omega
            · exact hok.out i (by omega)
          have hr3 : r' + (totN A (k + 1) : Int) ≤ 1048576 := by simp only [totN]; rw [hN, hK]; omega
          clear hok he
          go_wp2
          exact ⟨⟨k + 1, r', by omega, by go_num, rfl, hr', hr3, HO, B⟩, by simp [intOf]; omega⟩
      · have hlt' : ¬ (k : Int) < (n : Int) := by omega
        obtain rfl : k = n := by omega
        go_wp2
        go_ret
        exact ⟨_, rfl, .inr ⟨hr0, by omega, ⟨by omega, hok.out⟩, by omega⟩, B⟩
set_option maxRecDepth 100000 in
set_option maxHeartbeats 6000000 in
theorem exactTurned_walk {w : World} {a a9 b9 : Option Addr} {n cap N cN K cK : Nat} {za zb : List Int} {A : Nat → OpD} (hS : OpsS w a n A) (hn : n ≤ maxLen) (hra : IsRow .i64 w a9 N cN za) (hrb : IsRow .i64 w b9 K cK zb) :
    Calls Try.prog 5 #[.slice a n cap, .agg #[.slice a9 N cN, .slice b9 K cK]] w fun e w' => e = .returned (.bool true) ∧ Below w.heap.size w w' := by
  obtain ⟨f, s1, hN, -⟩ := src_of hra
  obtain ⟨h, s2, hK, -⟩ := src_of hrb
  have HS : Hid (OpsS w a n A) := hS
  have S1 : Hid (Src w a9 N f) := s1
  have S2 : Hid (Src w b9 K h) := s2
  clear hS s1 s2 hra hrb
  obtain ⟨W1, hW1, A1, B, -⟩ := boxed w 34 #[.slice a9 N cN, .slice b9 K cK]
  obtain ⟨q1, hq1⟩ : ∃ q, w.heap.size = q := ⟨_, rfl⟩
  rw [hq1] at A1
  go_enter Try.func5, Try.ntmps5
  go_wp2_with fail
  refine (szOpS_tot2 (HS.out.below B) hn).mono ?_
  rintro e w1 ⟨rr, rfl, hr, b1⟩
  replace A1 := A1.below b1
  replace B := B.trans (b1.mono B.size)
  clear b1 hW1 hq1
  rcases hr with rfl | ⟨h0, hr2, hsh, htot⟩
  · go_wp2
    go_ret
    exact ⟨rfl, B⟩
  have h1 : ¬ rr < 0 := by omega
  have HSH : Hid (Short n A) := hsh
  have HTT : Hid (totN A n ≤ 1048576) := htot
  clear hsh htot
  obtain ⟨d0, d1, -⟩ := A1.open2
  go_wp2_with fail
  refine (szOp_any a9 b9 N cN K cK rr _ hN hK (by omega)).mono ?_
  rintro e w1' ⟨rr', rfl, hr, b1⟩
  replace A1 := A1.below b1
  replace B := B.trans (b1.mono B.size)
  clear b1 d0 d1 hN hK
  rcases hr with rfl | ⟨hr3, hr4⟩
  · go_wp2
    go_ret
    exact ⟨rfl, B⟩
  have h1' : ¬ rr' < 0 := by omega
  have hN : N ≤ 1048576 := by omega
  have hK : K ≤ 1048576 := by omega
  clear hr3 hr4 hr2 h0
  go_wp2_with fail
  obtain ⟨u0, hu0, bb⟩ : ∃ uu, w1'.drew = uu ∧ Below w1'.heap.size w1' uu := ⟨_, rfl, (Below.refl _ _).drew⟩
  replace A1 := A1.below bb
  replace B := B.trans (bb.mono B.size)
  have A1u := A1
  clear bb
  refine wp_region_held_drew (S := Kb u0) (by kernel_rfl) (by rw [hu0]; exact Below.refl _ _) (fun hHeld => ?_)
  rw [hu0] at hHeld ⊢
  clear hu0
  have bu : Kb u0 u0 := Below.refl _ _
  change wpAnyH _ _ _ _ _ 10 #[false, false, false, false, false, false, false, false, false, false] _ _
  refine wpAnyH_take (i := 0) (v := .slice a n cap) rfl (by kernel_rfl) (by kernel_rfl) (by kernel_rfl) (fun _ _ _ h => h) (Or.inl ⟨by kernel_rfl, ?_⟩) hHeld ?_
  · intro w' hSw; go_simp
  try simp only [Act.put, List.setIfInBounds_toArray, List.set_cons_zero, List.set_cons_succ, List.getElem_toArray, List.getElem_cons_zero]
  refine wpAnyH_take (i := 2) (v := .agg #[.slice a9 N cN, .slice b9 K cK]) rfl (by kernel_rfl) (by kernel_rfl) (by kernel_rfl) (fun _ _ _ h => h) (Or.inl ⟨by kernel_rfl, ?_⟩) hHeld ?_
  · intro w' hSw; obtain ⟨z0, z1, -⟩ := (A1u.below hSw).open2; go_simp
  try simp only [Act.put, List.setIfInBounds_toArray, List.set_cons_zero, List.set_cons_succ, List.getElem_toArray, List.getElem_cons_succ, List.getElem_cons_zero]
  refine wpAnyH_ready (rs := [1]) (by kernel_rfl) (by simp) ?_
  refine AllReadyH.cons rfl (fun KK hK' => ?_) AllReadyH.nil
  go_simp
  refine (toOpS_any (HS.out.below B) HSH.out).mono ?_
  rintro e u1 ⟨g2, rfl, L2, bb⟩
  replace A1 := A1.below bb
  replace B := B.trans (bb.mono B.size)
  replace bu : Kb u0 u1 := bu.trans (bb.mono bu.size)
  clear bb
  try go_wp2_with fail
  clear hHeld
  refine hK'.out _ _ (bu) (fun hHeld => ?_)
  clear hK' KK
  try simp only [List.setIfInBounds_toArray, List.set_cons_zero, List.set_cons_succ]
  refine wpAnyH_ready (rs := [3]) (by kernel_rfl) (by simp) ?_
  refine AllReadyH.cons rfl (fun KK hK' => ?_) AllReadyH.nil
  go_simp
  refine (toOp_any (S1.out.below B) (S2.out.below B) hN hK).mono ?_
  rintro e u2 ⟨o3, rfl, T3, bb⟩
  obtain ⟨p3, m3, p4, m4, rfl, sp3, sp4⟩ := T3.src
  replace L2 := L2.below bb
  replace A1 := A1.below bb
  replace B := B.trans (bb.mono B.size)
  replace bu : Kb u0 u2 := bu.trans (bb.mono bu.size)
  clear bb T3
  try go_wp2_with fail
  clear hHeld
  refine hK'.out _ _ (bu) (fun hHeld => ?_)
  clear hK' KK
  try simp only [List.setIfInBounds_toArray, List.set_cons_zero, List.set_cons_succ]
  refine wpAnyH_ready (rs := [4]) (by kernel_rfl) (by simp) ?_
  refine AllReadyH.cons rfl (fun KK hK' => ?_) AllReadyH.nil
  go_simp
  refine (specTurned_any (o := ⟨N, f, K, h⟩) L2 HSH.out.1 sp3 sp4).mono ?_
  rintro e u3 ⟨⟨g0, M, c0, bo, E, rfl, hO0, hv⟩, bb⟩
  have hlo := B.size
  have O0 := hid_of (hO0.lower hlo)
  have HV := hid_of hv
  clear hv hO0 hlo
  replace A1 := A1.below bb
  replace B := B.trans (bb.mono B.size)
  replace bu : Kb u0 u3 := bu.trans (bb.mono bu.size)
  clear bb L2 sp3 sp4
  try go_wp2_with fail
  clear hHeld
  refine hK'.out _ _ (bu) (fun hHeld => ?_)
  clear hK' KK
  try simp only [List.setIfInBounds_toArray, List.set_cons_zero, List.set_cons_succ]
  refine wpAnyH_take (i := 5) (v := .tuple #[.slice (some ⟨g0, 0, none⟩) M c0, .bool bo]) rfl (by kernel_rfl) (by kernel_rfl) (by kernel_rfl) (fun _ _ _ h => h) (Or.inl ⟨by kernel_rfl, ?_⟩) hHeld ?_
  · intro w' hSw; go_simp
  try simp only [Act.put, List.setIfInBounds_toArray, List.set_cons_zero, List.set_cons_succ, List.getElem_toArray, List.getElem_cons_succ, List.getElem_cons_zero]
  refine wpAnyH_take (i := 6) (v := .slice ((some ⟨g0, 0, none⟩)) M c0) rfl (by kernel_rfl) (by kernel_rfl) (by kernel_rfl) (fun _ _ _ h => h) (Or.inl ⟨by kernel_rfl, ?_⟩) hHeld ?_
  · intro w' hSw; go_simp
  try simp only [Act.put, List.setIfInBounds_toArray, List.set_cons_zero, List.set_cons_succ, List.getElem_toArray, List.getElem_cons_succ, List.getElem_cons_zero]
  refine wpAnyH_take (i := 7) (v := .bool bo) rfl (by kernel_rfl) (by kernel_rfl) (by kernel_rfl) (fun _ _ _ h => h) (Or.inl ⟨by kernel_rfl, ?_⟩) hHeld ?_
  · intro w' hSw; go_simp
  try simp only [Act.put, List.setIfInBounds_toArray, List.set_cons_zero, List.set_cons_succ, List.getElem_toArray, List.getElem_cons_succ, List.getElem_cons_zero]
  refine wpAnyH_take (i := 8) (v := .slice ((some ⟨g0, 0, none⟩)) M c0) rfl (by kernel_rfl) (by kernel_rfl) (by kernel_rfl) (fun _ _ _ h => h) (Or.inl ⟨by kernel_rfl, ?_⟩) hHeld ?_
  · intro w' hSw; go_simp
  try simp only [Act.put, List.setIfInBounds_toArray, List.set_cons_zero, List.set_cons_succ, List.getElem_toArray, List.getElem_cons_succ, List.getElem_cons_zero]
  refine wpAnyH_take (i := 9) (v := .bool bo) rfl (by kernel_rfl) (by kernel_rfl) (by kernel_rfl) (fun _ _ _ h => h) (Or.inl ⟨by kernel_rfl, ?_⟩) hHeld ?_
  · intro w' hSw; go_simp
  try simp only [Act.put, List.setIfInBounds_toArray, List.set_cons_zero, List.set_cons_succ, List.getElem_toArray, List.getElem_cons_succ, List.getElem_cons_zero]
  refine wpAnyH_done (by kernel_rfl) ?_ _
  clear hHeld
  clear bu A1u
  obtain ⟨wz8, hwz⟩ : ∃ wz, wz = u3 := ⟨_, rfl⟩
  subst hwz
  have hw0 : w.heap.size ≤ wz8.heap.size := B.size
  have hq : q1 < wz8.heap.size := A1.lt
  have h9 := HV.out.nine
  have hMn : M ≤ 1048576 := by omega
  have HE : Hid (Short M E) := ⟨hMn, fun i hi => by have := h9.2 i hi; omega⟩
  have HT : Hid (totN E M ≤ 5000) := by rw [totN_nine h9.2]; have := h9.1; exact (by omega : 12 * M ≤ 5000)
  have H9 : Hid (∀ i, i < M → (E i).n = 9 ∧ (E i).k = 3) := h9.2
  have hbn : (bo != bo) = false := bne_self_eq_false bo
  clear h9
  go_wp2_with fail
  refine (toOpS_own (HS.out.below B) HSH.out).mono ?_
  rintro e w4 ⟨X1, Y1, rfl, hO1, b4⟩
  replace O0 := hid_of (O0.out.below b4)
  replace A1 := A1.below b4
  replace B := B.trans (b4.mono B.size)
  have h01 : wz8.heap.size ≤ w4.heap.size := b4.size
  obtain ⟨hi0, eh0⟩ : ∃ q, wz8.heap.size = q := ⟨_, rfl⟩
  rw [eh0] at O0 hO1 hw0 h01 hq ⊢
  have O1 := hid_of hO1
  clear hO1 b4 eh0
  obtain ⟨d0, d1, -⟩ := A1.open2
  go_wp2_with fail
  refine (toOp_any (S1.out.below B) (S2.out.below B) hN hK).mono ?_
  rintro e w5 ⟨o5, rfl, T5, b5⟩
  clear d0 d1
  obtain ⟨_, _, ho5, u1, u2, ap5⟩ := T5
  obtain ⟨x1, l1, rfl, -⟩ := u1.src
  obtain ⟨x2, l2, rfl, -⟩ := u2.src
  subst ho5
  have X5 : Hid (OpAt w5 w4.heap.size w5.heap.size (.agg #[.slice x1 N l1, .slice x2 K l2]) N f K h) := ⟨_, _, rfl, u1, u2, ap5⟩
  obtain ⟨W6, hW6, A6, b6, -⟩ := boxed w5 37 #[.slice x1 N l1, .slice x2 K l2]
  obtain ⟨q6, hq6⟩ : ∃ q, w5.heap.size = q := ⟨_, rfl⟩
  rw [hq6] at A6 X5
  have b56 := b5.trans (b6.mono b5.size)
  replace O0 := hid_of (O0.out.below b56)
  replace O1 := hid_of (O1.out.below b56)
  replace X5 := hid_of (X5.out.below b6)
  replace A1 := A1.below b56
  replace B := B.trans (b56.mono B.size)
  have h14 : w4.heap.size ≤ q6 := by rw [← hq6]; exact b5.size
  have h6q : q6 < W6.heap.size := A6.lt
  obtain ⟨hi1, eh1⟩ : ∃ q, w4.heap.size = q := ⟨_, rfl⟩
  rw [eh1] at O1 X5 h14 h01
  obtain ⟨hi3, eh3⟩ : ∃ q, W6.heap.size = q := ⟨_, rfl⟩
  obtain ⟨d0, d1, -⟩ := A6.open2
  have sx := X5.out.srcs
  clear u1 u2 ap5 b5 b6 b56 eh1
  go_wp2_with fail
  refine (implTurned_any (o := ⟨N, f, K, h⟩) O1.out.opsL HSH.out.1 sx.1 sx.2).mono ?_
  rintro e w6 ⟨⟨g2, M', c2, b', X2, Y2, G2, rfl, hO2, hv⟩, b7⟩
  obtain ⟨ee1, ee2, hkk⟩ := tur_same hv HV.out
  obtain rfl := ee1.symm
  obtain rfl := ee2.symm
  replace hO2 := opsA_key hO2 H9.out hkk
  obtain ⟨hi4, eh4⟩ : ∃ q, w6.heap.size = q := ⟨_, rfl⟩
  replace O0 := hid_of (O0.out.below b7)
  replace O1 := hid_of (O1.out.below b7)
  replace X5 := hid_of (X5.out.below b7)
  replace A1 := A1.below b7
  replace A6 := A6.below b7
  replace B := B.trans (b7.mono B.size)
  have h34 : hi3 ≤ hi4 := by rw [← eh3, ← eh4]; exact b7.size
  rw [eh3] at hO2 h6q
  rw [eh4] at hO2
  have O2 := hid_of hO2
  clear hO2 hv b7 hkk d0 d1 sx hW6 hq6 eh3
  have hsz6 : hi4 ≤ w6.heap.size := Nat.le_of_eq eh4.symm
  clear eh4
  go_wp2_with fail
  refine (eqOpS_true O2.out.opsL O0.out.opsL HE.out).mono ?_
  rintro e w7 ⟨rfl, b7⟩
  replace O0 := hid_of (O0.out.below b7)
  replace O1 := hid_of (O1.out.below b7)
  replace O2 := hid_of (O2.out.below b7)
  replace X5 := hid_of (X5.out.below b7)
  replace A1 := A1.below b7
  replace A6 := A6.below b7
  replace B := B.trans (b7.mono B.size)
  have hsz7 : hi4 ≤ w7.heap.size := Nat.le_trans hsz6 b7.size
  clear b7 hsz6
  go_wp2_with fail
  refine (toOpS_any (HS.out.below B) HSH.out).mono ?_
  rintro e w8 ⟨g8, rfl, L8, b8⟩
  replace O0 := hid_of (O0.out.below b8)
  replace O1 := hid_of (O1.out.below b8)
  replace O2 := hid_of (O2.out.below b8)
  replace X5 := hid_of (X5.out.below b8)
  replace A1 := A1.below b8
  replace A6 := A6.below b8
  replace B := B.trans (b8.mono B.size)
  have hsz8 : hi4 ≤ w8.heap.size := Nat.le_trans hsz7 b8.size
  clear b8 hsz7
  go_wp2_with fail
  refine (eqOpS_true O1.out.opsL L8 HSH.out).mono ?_
  rintro e w9 ⟨rfl, b9⟩
  replace O0 := hid_of (O0.out.below b9)
  replace O1 := hid_of (O1.out.below b9)
  replace O2 := hid_of (O2.out.below b9)
  replace X5 := hid_of (X5.out.below b9)
  replace A1 := A1.below b9
  replace A6 := A6.below b9
  replace B := B.trans (b9.mono B.size)
  have hsz9 : hi4 ≤ w9.heap.size := Nat.le_trans hsz8 b9.size
  clear b9 L8 hsz8
  go_wp2_with fail
  obtain ⟨u0, hu0, bb⟩ : ∃ uu, w9.drew = uu ∧ Below w9.heap.size w9 uu := ⟨_, rfl, (Below.refl _ _).drew⟩
  replace A1 := A1.below bb
  replace A6 := A6.below bb
  replace B := B.trans (bb.mono B.size)
  replace O0 := hid_of (O0.out.below bb)
  replace O1 := hid_of (O1.out.below bb)
  replace O2 := hid_of (O2.out.below bb)
  replace X5 := hid_of (X5.out.below bb)
  have A1u := A1
  have A6u := A6
  have bk0 : Kb w9 u0 := bb
  clear bb
  refine wp_region_held_drew (S := Kb u0) (by kernel_rfl) (by rw [hu0]; exact Below.refl _ _) (fun hHeld => ?_)
  rw [hu0] at hHeld ⊢
  clear hu0
  have bu : Kb u0 u0 := Below.refl _ _
  change wpAnyH _ _ _ _ _ 5 #[false, false, false, false, false] _ _
  refine wpAnyH_take (i := 0) (v := .agg #[.slice x1 N l1, .slice x2 K l2]) rfl (by kernel_rfl) (by kernel_rfl) (by kernel_rfl) (fun _ _ _ h => h) (Or.inl ⟨by kernel_rfl, ?_⟩) hHeld ?_
  · intro w' hSw; obtain ⟨z0, z1, -⟩ := (A6u.below hSw).open2; go_simp
  try simp only [Act.put, List.setIfInBounds_toArray, List.set_cons_zero, List.set_cons_succ, List.getElem_toArray, List.getElem_cons_zero]
  refine wpAnyH_take (i := 1) (v := .agg #[.slice a9 N cN, .slice b9 K cK]) rfl (by kernel_rfl) (by kernel_rfl) (by kernel_rfl) (fun _ _ _ h => h) (Or.inl ⟨by kernel_rfl, ?_⟩) hHeld ?_
  · intro w' hSw; obtain ⟨z0, z1, -⟩ := (A1u.below hSw).open2; go_simp
  try simp only [Act.put, List.setIfInBounds_toArray, List.set_cons_zero, List.set_cons_succ, List.getElem_toArray, List.getElem_cons_succ, List.getElem_cons_zero]
  refine wpAnyH_ready (rs := [2]) (by kernel_rfl) (by simp) ?_
  refine AllReadyH.cons rfl (fun KK hK' => ?_) AllReadyH.nil
  go_simp
  refine (toOp_any (S1.out.below B) (S2.out.below B) hN hK).mono ?_
  rintro e u1 ⟨o3, rfl, T3, bb⟩
  obtain ⟨p3, m3, p4, m4, e3, sp3, sp4⟩ := T3.src
  subst e3
  replace A1 := A1.below bb
  replace A6 := A6.below bb
  replace B := B.trans (bb.mono B.size)
  replace O0 := hid_of (O0.out.below bb)
  replace O1 := hid_of (O1.out.below bb)
  replace O2 := hid_of (O2.out.below bb)
  replace X5 := hid_of (X5.out.below bb)
  replace bu : Kb u0 u1 := bu.trans (bb.mono bu.size)
  clear bb sp3 sp4
  try go_wp2_with fail
  clear hHeld
  refine hK'.out _ _ (bu) (fun hHeld => ?_)
  clear hK' KK
  try simp only [List.setIfInBounds_toArray, List.set_cons_zero, List.set_cons_succ]
  refine wpAnyH_ready (rs := [3]) (by kernel_rfl) (by simp) ?_
  refine AllReadyH.cons rfl (fun KK hK' => ?_) AllReadyH.nil
  go_simp
  refine (eqOp_true X5.out T3 hN hK).mono ?_
  rintro e u2 ⟨rfl, bb⟩
  replace A1 := A1.below bb
  replace A6 := A6.below bb
  replace B := B.trans (bb.mono B.size)
  replace O0 := hid_of (O0.out.below bb)
  replace O1 := hid_of (O1.out.below bb)
  replace O2 := hid_of (O2.out.below bb)
  replace X5 := hid_of (X5.out.below bb)
  replace bu : Kb u0 u2 := bu.trans (bb.mono bu.size)
  clear bb T3
  try go_wp2_with fail
  clear hHeld
  refine hK'.out _ _ (bu) (fun hHeld => ?_)
  clear hK' KK
  try simp only [List.setIfInBounds_toArray, List.set_cons_zero, List.set_cons_succ]
  refine wpAnyH_take (i := 4) (v := .bool false) rfl (by kernel_rfl) (by kernel_rfl) (by kernel_rfl) (fun _ _ _ h => h) (Or.inl ⟨by kernel_rfl, ?_⟩) hHeld ?_
  · intro w' hSw; go_simp
  try simp only [Act.put, List.setIfInBounds_toArray, List.set_cons_zero, List.set_cons_succ, List.getElem_toArray, List.getElem_cons_succ, List.getElem_cons_zero]
  refine wpAnyH_done (by kernel_rfl) ?_ _
  clear hHeld
  have bz := bk0.trans (Below.mono bu bk0.size)
  obtain ⟨wz16, hwz⟩ : ∃ wz, wz = u2 := ⟨_, rfl⟩
  subst hwz
  have hsz16 : hi4 ≤ wz16.heap.size := Nat.le_trans hsz9 bz.size
  clear bu A1u A6u bk0 bz hsz9
  obtain ⟨t1, ht1⟩ : ∃ t : Nat, 1 + totN A n = t := ⟨_, rfl⟩
  have ht1b : t1 ≤ 1048577 := by have := HTT.out; omega
  have MK := markOpS_any (c := n) O1.out HSH.out.1 HTT.out 1 (by omega)
  rw [ht1, show ((1 : Nat) : Int) = 1 from rfl] at MK
  clear ht1
  go_wp2_with fail
  refine MK.mono ?_
  rintro e w10 ⟨rfl, -, ht⟩
  replace O0 := hid_of (O0.out.turn ht (.inl (Nat.le_refl _)))
  replace O2 := hid_of (O2.out.turn ht (.inr (by omega)))
  replace X5 := hid_of (X5.out.turn ht (.inr (Nat.le_refl _)))
  replace A1 := A1.turn ht (.inl (by omega))
  replace A6 := A6.turn ht (.inr (by omega))
  replace B := ht.below B hw0 B.size
  have hsz10 : hi4 ≤ w10.heap.size := Nat.le_trans hsz16 ht.size
  clear ht MK O1 hsz16
  obtain ⟨d0, d1, -⟩ := A6.open2
  have MK := markOp_any X5.out hN hK t1 (by omega) (by omega)
  obtain ⟨t2, ht2⟩ : ∃ t : Nat, t1 + N + K = t := ⟨_, rfl⟩
  rw [ht2] at MK
  go_wp2_with fail
  refine MK.mono ?_
  rintro e w10' ⟨rfl, -, ht⟩
  replace O0 := hid_of (O0.out.turn ht (.inl (by omega)))
  replace O2 := hid_of (O2.out.turn ht (.inr (by omega)))
  replace A1 := A1.turn ht (.inl (by omega))
  replace B := ht.below B (by omega) B.size
  have hsz11 : hi4 ≤ w10'.heap.size := Nat.le_trans hsz10 ht.size
  have ht2' : ¬ (t2 : Int) < 0 := by omega
  clear ht MK X5 A6 hsz10 d0 d1 ht2
  go_wp2_with fail
  refine (eqOpS_true O2.out.opsL O0.out.opsL HE.out).mono ?_
  rintro e w11 ⟨rfl, b11⟩
  replace O0 := hid_of (O0.out.below b11)
  replace O2 := hid_of (O2.out.below b11)
  replace A1 := A1.below b11
  replace B := B.trans (b11.mono B.size)
  clear b11
  obtain ⟨T2, hT2⟩ : ∃ t : Int, ((1 + totN E M : Nat) : Int) = t := ⟨_, rfl⟩
  have hT2' : ¬ T2 < 0 := by omega
  have hT2n : (T2 != T2) = false := bne_self_eq_false T2
  have HT2 : Hid (((1 + totN E M : Nat) : Int) = T2) := hT2
  have MK := markOpS_any (c := c2) O2.out hMn (Nat.le_trans HT.out (by omega)) 1 (by omega)
  rw [hT2, show ((1 : Nat) : Int) = 1 from rfl] at MK
  clear hT2
  go_wp2_with fail
  refine MK.mono ?_
  rintro e w12 ⟨rfl, hO2, ht⟩
  have O2' := hid_of hO2
  replace O0 := hid_of (O0.out.turn ht (.inl (by omega)))
  replace A1 := A1.turn ht (.inl (by omega))
  replace B := ht.below B (by omega) B.size
  clear ht MK O2 hO2
  have HD := heldOpS_any (c := c2) 1 O2'.out hMn (Nat.le_trans HT.out (by omega)) (by omega)
  rw [HT2.out, show ((1 : Nat) : Int) = 1 from rfl] at HD
  go_wp2_with fail
  refine HD.mono ?_
  rintro e w13 ⟨rfl, b13⟩
  replace O0 := hid_of (O0.out.below b13)
  replace O2' := hid_of (O2'.out.below b13)
  replace A1 := A1.below b13
  replace B := B.trans (b13.mono B.size)
  clear b13 HD
  go_wp2_with fail
  obtain ⟨u0, hu0, bb⟩ : ∃ uu, w13.drew = uu ∧ Below w13.heap.size w13 uu := ⟨_, rfl, (Below.refl _ _).drew⟩
  replace A1 := A1.below bb
  replace B := B.trans (bb.mono B.size)
  replace O0 := hid_of (O0.out.below bb)
  replace O2' := hid_of (O2'.out.below bb)
  have A1u := A1
  clear bb
  refine wp_region_held_drew (S := Kb u0) (by kernel_rfl) (by rw [hu0]; exact Below.refl _ _) (fun hHeld => ?_)
  rw [hu0] at hHeld ⊢
  clear hu0
  have bu : Kb u0 u0 := Below.refl _ _
  change wpAnyH _ _ _ _ _ 10 #[false, false, false, false, false, false, false, false, false, false] _ _
  refine wpAnyH_take (i := 0) (v := .slice a n cap) rfl (by kernel_rfl) (by kernel_rfl) (by kernel_rfl) (fun _ _ _ h => h) (Or.inl ⟨by kernel_rfl, ?_⟩) hHeld ?_
  · intro w' hSw; go_simp
  try simp only [Act.put, List.setIfInBounds_toArray, List.set_cons_zero, List.set_cons_succ, List.getElem_toArray, List.getElem_cons_zero]
  refine wpAnyH_take (i := 2) (v := .agg #[.slice a9 N cN, .slice b9 K cK]) rfl (by kernel_rfl) (by kernel_rfl) (by kernel_rfl) (fun _ _ _ h => h) (Or.inl ⟨by kernel_rfl, ?_⟩) hHeld ?_
  · intro w' hSw; obtain ⟨z0, z1, -⟩ := (A1u.below hSw).open2; go_simp
  try simp only [Act.put, List.setIfInBounds_toArray, List.set_cons_zero, List.set_cons_succ, List.getElem_toArray, List.getElem_cons_succ, List.getElem_cons_zero]
  refine wpAnyH_ready (rs := [1]) (by kernel_rfl) (by simp) ?_
  refine AllReadyH.cons rfl (fun KK hK' => ?_) AllReadyH.nil
  go_simp
  refine (toOpS_any (HS.out.below B) HSH.out).mono ?_
  rintro e u1 ⟨g2, rfl, L2, bb⟩
  replace A1 := A1.below bb
  replace B := B.trans (bb.mono B.size)
  replace O0 := hid_of (O0.out.below bb)
  replace O2' := hid_of (O2'.out.below bb)
  replace bu : Kb u0 u1 := bu.trans (bb.mono bu.size)
  clear bb
  try go_wp2_with fail
  clear hHeld
  refine hK'.out _ _ (bu) (fun hHeld => ?_)
  clear hK' KK
  try simp only [List.setIfInBounds_toArray, List.set_cons_zero, List.set_cons_succ]
  refine wpAnyH_ready (rs := [3]) (by kernel_rfl) (by simp) ?_
  refine AllReadyH.cons rfl (fun KK hK' => ?_) AllReadyH.nil
  go_simp
  refine (toOp_any (S1.out.below B) (S2.out.below B) hN hK).mono ?_
  rintro e u2 ⟨o3, rfl, T3, bb⟩
  obtain ⟨p3, m3, p4, m4, rfl, sp3, sp4⟩ := T3.src
  replace L2 := L2.below bb
  replace A1 := A1.below bb
  replace B := B.trans (bb.mono B.size)
  replace O0 := hid_of (O0.out.below bb)
  replace O2' := hid_of (O2'.out.below bb)
  replace bu : Kb u0 u2 := bu.trans (bb.mono bu.size)
  clear bb T3
  try go_wp2_with fail
  clear hHeld
  refine hK'.out _ _ (bu) (fun hHeld => ?_)
  clear hK' KK
  try simp only [List.setIfInBounds_toArray, List.set_cons_zero, List.set_cons_succ]
  refine wpAnyH_ready (rs := [4]) (by kernel_rfl) (by simp) ?_
  refine AllReadyH.cons rfl (fun KK hK' => ?_) AllReadyH.nil
  go_simp
  refine (implTurned_any (o := ⟨N, f, K, h⟩) L2 HSH.out.1 sp3 sp4).mono ?_
  rintro e u3 ⟨⟨g3, M', c3, b', X3, Y3, G3, rfl, hO3, hv⟩, bb⟩
  obtain ⟨ee1, ee2, hkk⟩ := tur_same hv HV.out
  obtain rfl := ee1.symm
  obtain rfl := ee2.symm
  replace hO3 := opsA_key hO3 H9.out hkk
  have O3 := hid_of hO3
  clear hv hO3 hkk
  replace A1 := A1.below bb
  replace B := B.trans (bb.mono B.size)
  replace O0 := hid_of (O0.out.below bb)
  replace O2' := hid_of (O2'.out.below bb)
  replace bu : Kb u0 u3 := bu.trans (bb.mono bu.size)
  clear bb L2 sp3 sp4
  try go_wp2_with fail
  clear hHeld
  refine hK'.out _ _ (bu) (fun hHeld => ?_)
  clear hK' KK
  try simp only [List.setIfInBounds_toArray, List.set_cons_zero, List.set_cons_succ]
  refine wpAnyH_take (i := 5) (v := .tuple #[.slice (some ⟨g3, 0, none⟩) M c3, .bool bo]) rfl (by kernel_rfl) (by kernel_rfl) (by kernel_rfl) (fun _ _ _ h => h) (Or.inl ⟨by kernel_rfl, ?_⟩) hHeld ?_
  · intro w' hSw; go_simp
  try simp only [Act.put, List.setIfInBounds_toArray, List.set_cons_zero, List.set_cons_succ, List.getElem_toArray, List.getElem_cons_succ, List.getElem_cons_zero]
  refine wpAnyH_take (i := 6) (v := .slice ((some ⟨g3, 0, none⟩)) M c3) rfl (by kernel_rfl) (by kernel_rfl) (by kernel_rfl) (fun _ _ _ h => h) (Or.inl ⟨by kernel_rfl, ?_⟩) hHeld ?_
  · intro w' hSw; go_simp
  try simp only [Act.put, List.setIfInBounds_toArray, List.set_cons_zero, List.set_cons_succ, List.getElem_toArray, List.getElem_cons_succ, List.getElem_cons_zero]
  refine wpAnyH_take (i := 7) (v := .bool bo) rfl (by kernel_rfl) (by kernel_rfl) (by kernel_rfl) (fun _ _ _ h => h) (Or.inl ⟨by kernel_rfl, ?_⟩) hHeld ?_
  · intro w' hSw; go_simp
  try simp only [Act.put, List.setIfInBounds_toArray, List.set_cons_zero, List.set_cons_succ, List.getElem_toArray, List.getElem_cons_succ, List.getElem_cons_zero]
  refine wpAnyH_take (i := 8) (v := .slice ((some ⟨g3, 0, none⟩)) M c3) rfl (by kernel_rfl) (by kernel_rfl) (by kernel_rfl) (fun _ _ _ h => h) (Or.inl ⟨by kernel_rfl, ?_⟩) hHeld ?_
  · intro w' hSw; go_simp
  try simp only [Act.put, List.setIfInBounds_toArray, List.set_cons_zero, List.set_cons_succ, List.getElem_toArray, List.getElem_cons_succ, List.getElem_cons_zero]
  refine wpAnyH_take (i := 9) (v := .bool bo) rfl (by kernel_rfl) (by kernel_rfl) (by kernel_rfl) (fun _ _ _ h => h) (Or.inl ⟨by kernel_rfl, ?_⟩) hHeld ?_
  · intro w' hSw; go_simp
  try simp only [Act.put, List.setIfInBounds_toArray, List.set_cons_zero, List.set_cons_succ, List.getElem_toArray, List.getElem_cons_succ, List.getElem_cons_zero]
  refine wpAnyH_done (by kernel_rfl) ?_ _
  clear hHeld
  clear bu A1u
  obtain ⟨wz31, hwz⟩ : ∃ wz, wz = u3 := ⟨_, rfl⟩
  subst hwz
  go_wp2_with fail
  refine (eqOpS_true O3.out.opsL O0.out.opsL HE.out).mono ?_
  rintro e w15 ⟨rfl, b15⟩
  replace O2' := hid_of (O2'.out.below b15)
  replace B := B.trans (b15.mono B.size)
  clear b15 O3 O0
  have HD := heldOpS_any (c := c2) 1 O2'.out hMn (Nat.le_trans HT.out (by omega)) (by omega)
  rw [HT2.out, show ((1 : Nat) : Int) = 1 from rfl] at HD
  go_wp2_with fail
  refine HD.mono ?_
  rintro e w16 ⟨rfl, b16⟩
  replace B := B.trans (b16.mono B.size)
  clear b16 HD O2'
  go_wp2
  go_ret
  exact ⟨rfl, B⟩
end Go.Proofs.Ytmjeplhigjlopaa
