/-
  Which data are right: the program answers as the specification: walked.
-/
import Derived.Test.YtdhfoekfejcceaaD16i
namespace Go.Proofs.Ytdhfoekfejcceaa
open Go.RowKit

theorem fst_is (N : Nat) (rw : Nat → Int) : ∃ F, Fst F N rw := by
  induction N with
  | zero => exact ⟨0, Nat.le_refl _, fun i hi => by omega, fun h => by omega⟩
  | succ N ih =>
    obtain ⟨F, h1, h2, h3⟩ := ih
    by_cases e : F < N
    · exact ⟨F, by omega, h2, fun _ => h3 e⟩
    · obtain rfl : F = N := by omega
      by_cases hr : rw F = -1
      · refine ⟨F + 1, Nat.le_refl _, fun i hi => ?_, fun h => by omega⟩
        by_cases e : i = F
        · rw [e]; exact hr
        · exact h2 i (by omega)
      · exact ⟨F, by omega, h2, fun _ => hr⟩
/-- Every item behind the single ones is one of a loop. -/
theorem in_loop {F N : Nat} {lp : Nat → Int} : ∀ {M : Nat}, atL F lp M = N → ∀ {k : Nat}, F ≤ k → k < N → ∃ j, j < M ∧ atL F lp j ≤ k ∧ k < atL F lp j + (lp j).toNat
  | 0, h, k, h1, h2 => by
    have : F = N := h
    omega
  | M + 1, h, k, h1, h2 => by
    by_cases e : atL F lp M ≤ k
    · exact ⟨M, by omega, e, by rw [← h] at h2; exact h2⟩
    · obtain ⟨j, a, b, c⟩ := in_loop (M := M) (lp := lp) (N := atL F lp M) rfl h1 (by omega)
      exact ⟨j, by omega, b, c⟩
theorem ok_iff {s : ByteArray} {N M F : Nat} {nm : Nat → ByteArray} {n : Nat → Nat} {rw : Nat → Int} {f : Nat → Nat → ByteArray} {lp : Nat → Int} (hF : Fst F N rw) : DOk s N M nm n rw f lp ↔ nmOk s ∧ ArOk N nm n rw f ∧ PtOk N M F rw lp := by
  constructor
  · intro h
    obtain ⟨k1, k2, k3⟩ := h.fst hF
    obtain ⟨h1, h2, h3, -⟩ := h
    refine ⟨h1, ⟨h2, fun i hi => ⟨(h3 i hi).2.1, (h3 i hi).2.2.1, (h3 i hi).1, ?_, (h3 i hi).2.2.2⟩⟩, fun j hj => ⟨⟨(k2 j hj).1, (k2 j hj).2.1⟩, fun k hk => ?_⟩, k3⟩
    · by_cases e : i < F
      · rw [if_pos (hF.2.1 i e), k1 i e]; rfl
      · obtain ⟨j, a, b, c⟩ := in_loop k3 (show F ≤ i by omega) hi
        obtain ⟨e1, e2, e3⟩ := (k2 j a).2.2 i b c
        rw [if_neg (by omega), e2, e3]
    · obtain ⟨e1, e2, e3⟩ := (k2 j hj).2.2 (atL F lp j + k) (by omega) (by omega)
      exact ⟨by omega, e2⟩
  · rintro ⟨h1, ⟨h2, h3⟩, h4, h5⟩
    refine ⟨h1, h2, fun i hi => ⟨(h3 i hi).2.2.1, (h3 i hi).1, (h3 i hi).2.1, (h3 i hi).2.2.2.2⟩, F, hF, fun i hi => ?_, fun j hj => ⟨(h4 j hj).1.1, (h4 j hj).1.2, fun k hk1 hk2 => ?_⟩, h5⟩
    · have := (h3 i (by have := hF.1; omega)).2.2.2.1
      rw [if_pos (hF.2.1 i hi)] at this
      omega
    · obtain ⟨k', rfl⟩ : ∃ k', k = atL F lp j + k' := ⟨k - atL F lp j, by omega⟩
      obtain ⟨e1, e2⟩ := (h4 j hj).2 k' (by omega)
      have e3 := (h3 (atL F lp j + k') (by have := (h4 j hj).1; omega)).2.2.2.1
      rw [if_neg e1, e2] at e3
      exact ⟨by omega, e2, e3⟩
set_option maxRecDepth 100000 in
set_option maxHeartbeats 3200000 in
theorem implOk_any {w : World} {g N h M : Nat} {s : ByteArray} {vb : Nat → Nat} {nm : Nat → ByteArray} {n : Nat → Nat} {rw : Nat → Int} {f : Nat → Nat → ByteArray} {lp : Nat → Int} (D : DaO w g N h M vb nm n rw f lp) (hN : N ≤ 1048576) (hn : ∀ i, i < N → n i ≤ 1048576) (hM : M ≤ 1048576) (hl64 : ∀ j, j < M → -9223372036854775808 ≤ lp j ∧ lp j ≤ 9223372036854775807) (b : Bool) (hb : Hid (b = true ↔ DOk s N M nm n rw f lp)) :
    Calls Try.prog 9 #[dV s g N h M] w fun e w' => e = .returned (.bool b) ∧ Below w.heap.size w w' := by
  obtain ⟨F, hF⟩ := fst_is N rw
  have HI : Hid (b = true ↔ nmOk s ∧ ArOk N nm n rw f ∧ PtOk N M F rw lp) := show _ ↔ _ from hb.out.trans (ok_iff hF)
  clear hb
  have HE : dV s g N h M = .agg #[.string s, .slice (some ⟨g, 0, none⟩) N N, .slice (some ⟨h, 0, none⟩) M M] := rfl
  obtain ⟨W1, hW1, a1, b1, -⟩ := boxed w 30 #[.string s, .slice (some ⟨g, 0, none⟩) N N, .slice (some ⟨h, 0, none⟩) M M]
  obtain ⟨q1, hq1⟩ : ∃ q, w.heap.size = q := ⟨_, rfl⟩
  rw [hq1] at a1
  replace D := D.below b1
  obtain ⟨c0, c1, c2, -⟩ := a1.open3
  obtain ⟨y0, hy0⟩ := bool_of (nmOk s)
  have S0 := fun w => isName_any s w y0 hy0
  obtain ⟨y1, hy1⟩ := bool_of (ArOk N nm n rw f)
  obtain ⟨y2, hy2⟩ := bool_of (PtOk N M F rw lp)
  have H0 : Hid (y0 = true ↔ nmOk s) := hy0
  have H1 : Hid (y1 = true ↔ ArOk N nm n rw f) := hy1
  have H2 : Hid (y2 = true ↔ PtOk N M F rw lp) := hy2
  clear hy0 hy1 hy2
  rw [HE]
  go_enter Try.func9, Try.ntmps9
  go_wp2_with fail
  refine (S0 _).mono ?_
  rintro e w2 ⟨rfl, b2⟩
  replace D := D.below b2
  replace a1 := a1.below b2
  have B2 := b1.trans (b2.mono b1.size)
  clear c0 c1 c2 S0 b1 b2 hW1 hq1
  obtain ⟨c0, c1, c2, -⟩ := a1.open3
  cases y0
  · obtain rfl := no_of HI (fun k => iff_no H0.out k.1)
    clear H0 HI
    go_wp2
    go_ret
    exact ⟨rfl, B2⟩
  have K0 : Hid (nmOk s) := H0.out.1 rfl
  clear H0
  go_wp2_with fail
  refine (areItems_any D.it hN hn y1 H1).mono ?_
  rintro e w3 ⟨rfl, b3⟩
  replace D := D.below b3
  replace a1 := a1.below b3
  have B3 := B2.trans (b3.mono B2.size)
  clear c0 c1 c2 b3 B2
  obtain ⟨c0, c1, c2, -⟩ := a1.open3
  cases y1
  · obtain rfl := no_of HI (fun k => iff_no H1.out k.2.1)
    clear H1 HI
    go_wp2
    go_ret
    exact ⟨rfl, B3⟩
  have K1 : Hid (ArOk N nm n rw f) := H1.out.1 rfl
  clear H1
  go_wp2_with fail
  rw [← HE]
  refine (partsOf_any D hN hM hl64 hF y2 H2).mono ?_
  rintro e w4 ⟨v1, v2, rfl, -, b4⟩
  have B4 := B3.trans (b4.mono B3.size)
  clear c0 c1 c2 b4 B3 D a1
  obtain rfl : b = y2 := by
    rw [Bool.eq_iff_iff, HI.out, H2.out]
    exact ⟨fun k => k.2.2, fun k => ⟨K0.out, K1.out, k⟩⟩
  clear HI H2 K0 K1 HE
  go_wp2
  go_ret
  exact ⟨rfl, B4⟩
set_option maxRecDepth 100000 in
set_option maxHeartbeats 3200000 in
theorem exactDataOk_walk {w : World} {p q : Option Addr} {N cap M cap2 : Nat} {s : ByteArray} {nm : Nat → ByteArray} {a : Nat → Option Addr} {n c : Nat → Nat} {rw : Nat → Int} {f : Nat → Nat → ByteArray} {lp : Nat → Int} (hs : s.size ≤ maxLen) (hS : ItS w p N nm a n c rw f) (hN : N ≤ maxLen) (hn : ∀ i, i < N → n i ≤ maxLen) (hm : szAll N nm) (hf : ∀ i, i < N → szAll (n i) (f i)) (hL : Src w q M lp) (hM : M ≤ maxLen) (hl64 : ∀ j, j < M → -9223372036854775808 ≤ lp j ∧ lp j ≤ 9223372036854775807) :
    Calls Try.prog 3 #[.agg #[.string s, .slice p N cap, .slice q M cap2]] w fun e w' => e = .returned (.bool true) ∧ Below w.heap.size w w' := by
  obtain ⟨b, hb⟩ := bool_of (DOk s N M nm n rw f lp)
  have HB : Hid (b = true ↔ DOk s N M nm n rw f lp) := hb
  clear hb
  have hbb := bne_self_eq_false b
  obtain ⟨W1, hW1, a1, b1, -⟩ := boxed w 25 #[.string s, .slice p N cap, .slice q M cap2]
  obtain ⟨q1, hq1⟩ : ∃ q, w.heap.size = q := ⟨_, rfl⟩
  rw [hq1] at a1
  have HS : Hid (ItS w p N nm a n c rw f) := hS
  have HL : Hid (Src w q M lp) := hL
  obtain ⟨c0, c1, c2, -⟩ := a1.open3
  clear hS hL
  go_enter Try.func3, Try.ntmps3
  go_wp2_with fail
  refine (szData_any hs (HS.out.below b1) hN hn hm hf hM).mono ?_
  rintro e w2 ⟨r, rfl, hr, b2⟩
  have B := b1.trans (b2.mono b1.size)
  replace a1 := a1.below b2
  clear c0 c1 c2 hW1 hq1 b1 b2 hs hN hn hm hf hM
  obtain ⟨c0, c1, c2, -⟩ := a1.open3
  rcases hr with rfl | ⟨r0, hM, hN, hn⟩
  · go_wp2
    go_ret
    exact ⟨rfl, B⟩
  have hr0 : ¬ r < 0 := by omega
  go_wp2_with fail
  refine (toData_any (HS.out.below B) (HL.out.below B) hN hn hM).mono ?_
  rintro e w3 ⟨g3, h3, v3, rfl, -, -, D3, b3⟩
  replace B := B.trans (b3.mono B.size)
  replace a1 := a1.below b3
  clear c0 c1 c2 b3
  go_wp2_with fail
  refine (specOk_any D3 hN hn hM hl64 b HB).mono ?_
  rintro e w4 ⟨rfl, b4⟩
  replace B := B.trans (b4.mono B.size)
  replace a1 := a1.below b4
  clear b4 D3
  obtain ⟨c0, c1, c2, -⟩ := a1.open3
  go_wp2_with fail
  refine (toData_any (HS.out.below B) (HL.out.below B) hN hn hM).mono ?_
  rintro e w5 ⟨g5, h5, v5, rfl, -, -, D5, b5⟩
  replace B := B.trans (b5.mono B.size)
  replace a1 := a1.below b5
  clear c0 c1 c2 b5
  obtain ⟨W6, hW6, a6, b6, -⟩ := boxed w5 30 #[.string s, .slice (some ⟨g5, 0, none⟩) N N, .slice (some ⟨h5, 0, none⟩) M M]
  obtain ⟨q6, hq6⟩ : ∃ q, w5.heap.size = q := ⟨_, rfl⟩
  rw [hq6] at a6
  replace D5 := D5.below b6
  replace B := B.trans (b6.mono B.size)
  replace a1 := a1.below b6
  obtain ⟨c0, c1, c2, -⟩ := a6.open3
  unfold dV
  clear b6
  go_wp2_with fail
  refine (implOk_any D5 hN hn hM hl64 b HB).mono ?_
  rintro e w7 ⟨rfl, b7⟩
  replace B := B.trans (b7.mono B.size)
  replace a1 := a1.below b7
  replace a6 := a6.below b7
  replace D5 := D5.below b7
  clear c0 c1 c2 b7 hW6 hq6
  go_wp2_with fail
  obtain ⟨u0, hu0, bb⟩ : ∃ uu, w7.drew = uu ∧ Below w7.heap.size w7 uu := ⟨_, rfl, (Below.refl _ _).drew⟩
  replace a1 := a1.below bb
  replace a6 := a6.below bb
  replace D5 := D5.below bb
  replace B := B.trans (bb.mono B.size)
  clear bb
  refine wp_region_held_drew (S := Kb u0) (by kernel_rfl) (by rw [hu0]; exact Below.refl _ _) (fun hHeld => ?_)
  rw [hu0] at hHeld ⊢
  clear hu0
  have bu : Kb u0 u0 := Below.refl _ _
  change wpAnyH _ _ _ _ _ 5 #[false, false, false, false, false] _ _
  refine wpAnyH_take (i := 0) (v := .agg #[.string s, .slice ((some ⟨g5, 0, none⟩)) N N, .slice ((some ⟨h5, 0, none⟩)) M M]) rfl (by kernel_rfl) (by kernel_rfl) (by kernel_rfl) (fun _ _ _ h => h) (Or.inl ⟨by kernel_rfl, ?_⟩) hHeld ?_
  · intro w' hSw; obtain ⟨z0, z1, z2, -⟩ := (a6.below hSw).open3; go_simp
  try simp only [Act.put, List.setIfInBounds_toArray, List.set_cons_zero, List.set_cons_succ, List.getElem_toArray, List.getElem_cons_zero]
  refine wpAnyH_take (i := 1) (v := .agg #[.string s, .slice p N cap, .slice q M cap2]) rfl (by kernel_rfl) (by kernel_rfl) (by kernel_rfl) (fun _ _ _ h => h) (Or.inl ⟨by kernel_rfl, ?_⟩) hHeld ?_
  · intro w' hSw; obtain ⟨z0, z1, z2, -⟩ := (a1.below hSw).open3; go_simp
  try simp only [Act.put, List.setIfInBounds_toArray, List.set_cons_zero, List.set_cons_succ, List.getElem_toArray, List.getElem_cons_succ, List.getElem_cons_zero]
  refine wpAnyH_ready (rs := [2]) (by kernel_rfl) (by simp) ?_
  refine AllReadyH.cons rfl (fun KK hK' => ?_) AllReadyH.nil
  go_simp
  refine (toData_any (HS.out.below B) (HL.out.below B) hN hn hM).mono ?_
  rintro e u1 ⟨g9, h9, v9, rfl, -, -, D9, bb⟩
  replace D5 := D5.below bb
  replace B := B.trans (bb.mono B.size)
  replace bu : Kb u0 u1 := bu.trans (bb.mono bu.size)
  clear bb
  try go_wp2_with fail
  clear hHeld
  refine hK'.out _ _ (bu) (fun hHeld => ?_)
  clear hK' KK
  try simp only [List.setIfInBounds_toArray, List.set_cons_zero, List.set_cons_succ]
  refine wpAnyH_ready (rs := [3]) (by kernel_rfl) (by simp) ?_
  refine AllReadyH.cons rfl (fun KK hK' => ?_) AllReadyH.nil
  go_simp
  refine (eqData_true D5 D9 hN hn hM).mono ?_
  rintro e u2 ⟨rfl, bb⟩
  replace B := B.trans (bb.mono B.size)
  replace bu : Kb u0 u2 := bu.trans (bb.mono bu.size)
  clear bb D5 D9
  try go_wp2_with fail
  clear hHeld
  refine hK'.out _ _ (bu) (fun hHeld => ?_)
  clear hK' KK
  try simp only [List.setIfInBounds_toArray, List.set_cons_zero, List.set_cons_succ]
  refine wpAnyH_take (i := 4) (v := .bool false) rfl (by kernel_rfl) (by kernel_rfl) (by kernel_rfl) (fun _ _ _ h => h) (Or.inl ⟨by kernel_rfl, ?_⟩) hHeld ?_
  · intro w' hSw; go_simp
  try simp only [Act.put, List.setIfInBounds_toArray, List.set_cons_zero, List.set_cons_succ, List.getElem_toArray, List.getElem_cons_succ, List.getElem_cons_zero]
  refine wpAnyH_done (by kernel_rfl) ?_ _
  clear hHeld
  go_wp2
  go_ret
  exact ⟨rfl, B⟩
theorem exactDataOk_law {w : World} {p q : Option Addr} {N cap M cap2 : Nat} {s : ByteArray} {nm : Nat → ByteArray} {a : Nat → Option Addr} {n c : Nat → Nat} {rw : Nat → Int} {f : Nat → Nat → ByteArray} {zs : List Int} (hs : s.size ≤ maxLen) (hS : ItS w p N nm a n c rw f) (hN : N ≤ maxLen) (hn : ∀ i, i < N → n i ≤ maxLen) (hm : szAll N nm) (hf : ∀ i, i < N → szAll (n i) (f i)) (hr : IsRow .i64 w q M cap2 zs) :
    Calls Try.prog 3 #[.agg #[.string s, .slice p N cap, .slice q M cap2]] w fun e w' => e = .returned (.bool true) ∧ Below w.heap.size w w' := by
  obtain ⟨x, h1, h2, h3⟩ := src_of hr
  exact exactDataOk_walk hs hS hN hn hm hf h1 h2 h3
end Go.Proofs.Ytdhfoekfejcceaa
