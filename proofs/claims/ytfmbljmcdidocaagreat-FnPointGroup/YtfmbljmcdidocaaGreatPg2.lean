/-
  The law of the point group and its kinds: walked.
-/
import Derived.Test.YtfmbljmcdidocaaGreatDrA
import Derived.Test.YtfmbljmcdidocaaGreatNL
import Derived.Test.YtfmbljmcdidocaaGreatNN
import Derived.Test.YtfmbljmcdidocaaGreatMN
import Derived.Test.YtfmbljmcdidocaaGreatE6c
import Derived.Test.YtfmbljmcdidocaaGreatKd3
import Derived.Test.YtfmbljmcdidocaaGreatB17i
import Derived.Test.YtfmbljmcdidocaaGreatNY
namespace Go.Proofs.YtfmbljmcdidocaaGreat
open Go.RowKit

theorem recs_cell {w w' : World} {g L : Nat} {R : Nat → Q4Kn} (h : Recs 4 w g L (flR R)) (hb : Below w.heap.size w w') {i : Nat} (hi : i < L) : w'.cell? ⟨g, i * 4 + 3, none⟩ = some (.int .i64 (R i).2.2.2) ∧ w'.cell? ⟨g, i * 4, none⟩ = some (.int .i64 (R i).1) := by
  have e3 : flR R (i * 4 + 3) = (R i).2.2.2 := by
    unfold flR
    rw [show (i * 4 + 3) / 4 = i by omega, show (i * 4 + 3) % 4 = 3 by omega]; rfl
  have e0 : flR R (i * 4) = (R i).1 := by
    unfold flR
    rw [show i * 4 / 4 = i by omega, show i * 4 % 4 = 0 by omega]; rfl
  exact ⟨by rw [← e3]; exact (hb.cell (p := ⟨g, i * 4 + 3, none⟩) h.1).trans (h.2 _ (by omega)), by rw [← e0]; exact (hb.cell (p := ⟨g, i * 4, none⟩) h.1).trans (h.2 _ (by omega))⟩
open Classical in
/-- How many of the first turn nothing. -/
noncomputable def stN (A : Nat → OpD) (i : Nat) : Nat := kN (fun i => decide (stillP A i)) i
theorem stN_yes {A : Nat → OpD} {i : Nat} (h : stillP A i) : stN A (i + 1) = stN A i + 1 := by
  classical
  exact kN_yes (P := fun i => decide (stillP A i)) (decide_eq_true h)
theorem stN_no {A : Nat → OpD} {i : Nat} (h : ¬ stillP A i) : stN A (i + 1) = stN A i := by
  classical
  exact kN_no (P := fun i => decide (stillP A i)) (decide_eq_false h)
theorem stN_le (A : Nat → OpD) (i : Nat) : stN A i ≤ i := kN_le _ _
set_option maxRecDepth 100000 in
set_option maxHeartbeats 3000000 in
theorem pointGroup_walk {w : World} {a : Option Addr} {len cap : Nat} (hr : Row w w.heap.size a len) :
    Calls Tryz.prog 3 #[.slice a len cap] w fun e w' => e = .returned (.bool true) ∧ Below w.heap.size w w' := by
  go_enter Tryz.func3, Tryz.ntmps3
  go_wp2_with fail
  refine (big_any a len cap w hr.1).mono ?_
  rintro e w' ⟨rfl, rfl⟩
  by_cases hb : 1048576 < len
  · simp only [decide_eq_true hb]
    go_wp2
    go_ret
    exact ⟨rfl, Below.refl _ _⟩
  simp only [decide_eq_false hb]
  go_wp2_with fail
  refine (drawPoint_any hr).mono ?_
  rintro e w1 ⟨g, n, c, A, rfl, hn, L, B, -⟩
  clear hr hb
  have HL := hid_of L
  have HB := hid_of B
  clear L B
  go_wp2_with fail
  refine (groupOk_any HL.out (by omega)).mono ?_
  rintro e w2 ⟨⟨r, rfl, hrr⟩, b2⟩
  replace HL := hid_of (HL.out.below b2)
  replace HB := hid_of (HB.out.trans (b2.mono HB.out.size))
  clear b2
  cases r
  · clear hrr HL
    go_wp2
    go_ret
    exact ⟨rfl, HB.out⟩
  have HG : Hid (isG n A) := hid_of (hrr.1 rfl)
  have hn2 : n ≤ 192 := HG.out.1
  clear hrr hn
  have hn' : (n : Int) ≤ 192 := by omega
  go_wp2_with fail
  refine (copyOps_any HL.out hn2 HG.out.2.1).mono ?_
  rintro e w3 ⟨⟨X, Y, v, rfl, P⟩, b3⟩
  obtain ⟨g3, c3, rfl, -, L3⟩ := P.opsL
  have HL3 := hid_of L3
  replace HL := hid_of (HL.out.below b3)
  replace HB := hid_of (HB.out.trans (b3.mono HB.out.size))
  clear P L3 b3
  go_wp2_with fail
  refine (implPoint_any HL3.out (by omega)).mono ?_
  rintro e w4 ⟨⟨gp, m, cp, X4, Y4, rfl, hO, hcase⟩, b4⟩
  have hm0 : m = kN (dk A) n := by
    rcases hcase with ⟨-, h⟩ | ⟨h, -⟩
    · exact h
    · exact absurd HG.out h
  have HM := hid_of hm0
  have hO2 := hO.alike (A' := fun t => turnD (A (kI (dk A) n t))) (fun i hi => ⟨rfl, rfl, fun j hj => (zk_lo _ hj).trans (key_lo _ hj), fun j hj => zk_hi _ j⟩)
  have HP := hid_of hO2.opsL
  have HG2 : Hid (isG m (fun t => turnD (A (kI (dk A) n t)))) := by
    have := turns_group HG.out
    rw [← hm0] at this
    exact this
  have hm2 : m ≤ 192 := HG2.out.1
  replace HL := hid_of (HL.out.below b4)
  replace HB := hid_of (HB.out.trans (b4.mono HB.out.size))
  have H44 : Hid (Below w4.heap.size w4 w4) := hid_of (Below.refl _ _)
  clear hcase hm0 hO hO2 b4 HL3
  go_wp2
  go_loopw [5, 6] (fun v s wr => ∃ i : Nat, i ≤ n ∧ v = .int .i64 ((stN A i : Nat) : Int) ∧ s = .int .i64 (i : Int) ∧ Hid (Below w4.heap.size w4 wr)) (fun _ s _ => n - (intOf s).toNat)
  case atStart => exact ⟨0, Nat.zero_le _, rfl, rfl, H44⟩
  case round =>
    clear H44
    obtain ⟨i, hi, rfl, rfl, HK⟩ := hrel
    by_cases hlt : i < n
    · have hlt' : (i : Int) < (n : Int) := by omega
      obtain ⟨x1, c1, x2, d1, f1, f2, s1, s2⟩ := HL.out.2 i hlt
      have ok := HG.out.2.1 i hlt
      rw [ok.1] at f1 s1
      have CLi : Hid (∀ wq, Kb wr wq → wq.cell? ⟨g, i * 2, none⟩ = some (.slice x1 9 c1)) := fun wq hq => (hq.cell (p := ⟨g, i * 2, none⟩) (Nat.lt_of_lt_of_le HL.out.1 HK.out.size)).trans ((HK.out.cell (p := ⟨g, i * 2, none⟩) HL.out.1).trans f1)
      have CSr : Hid (∀ wq, Kb wr wq → Src wq x1 9 (A i).f) := fun wq hq => (s1.below HK.out).below hq
      clear f1 f2 s1 s2 ok
      obtain ⟨N, hN⟩ : ∃ N, stN A i = N := ⟨_, rfl⟩
      have hN192 : N ≤ 192 := by have := stN_le A i; omega
      have hw1 : IntKind.i64.wrap ((N : Int) + 1) = (N : Int) + 1 := IntWalk.i64_in _ (by omega)
      have HN := hid_of hN
      rw [hN]
      clear hN
      go_wp2_with fail
      obtain ⟨u0, hu0, bb⟩ : ∃ uu, wr.drew = uu ∧ Below wr.heap.size wr uu := ⟨_, rfl, (Below.refl _ _).drew⟩
      have bk0 : Kb wr u0 := bb
      clear bb
      refine wp_region_held_drew (S := Kb u0) (by kernel_rfl) (by rw [hu0]; exact Below.refl _ _) (fun hHeld => ?_)
      rw [hu0] at hHeld ⊢
      clear hu0
      have bu : Kb u0 u0 := Below.refl _ _
      change wpAnyH _ _ _ _ _ 8 #[false, false, false, false, false, false, false, false] _ _
      refine wpAnyH_take (i := 0) (v := .slice ((some ⟨g, 0, none⟩)) n c) rfl (by kernel_rfl) (by kernel_rfl) (by kernel_rfl) (fun _ _ _ h => h) (Or.inl ⟨by kernel_rfl, ?_⟩) hHeld ?_
      · intro w' hSw; go_simp
      try simp only [Act.put, List.setIfInBounds_toArray, List.set_cons_zero, List.set_cons_succ, List.getElem_toArray, List.getElem_cons_zero]
      refine wpAnyH_take (i := 1) (v := .int .i64 ((i : Int))) rfl (by kernel_rfl) (by kernel_rfl) (by kernel_rfl) (fun _ _ _ h => h) (Or.inl ⟨by kernel_rfl, ?_⟩) hHeld ?_
      · intro w' hSw; go_simp
      try simp only [Act.put, List.setIfInBounds_toArray, List.set_cons_zero, List.set_cons_succ, List.getElem_toArray, List.getElem_cons_succ, List.getElem_cons_zero]
      refine wpAnyH_take (i := 2) (v := .pointer (some ⟨g, i * 2, none⟩)) rfl (by kernel_rfl) (by kernel_rfl) (by kernel_rfl) (fun _ _ _ h => h) (Or.inl ⟨by kernel_rfl, ?_⟩) hHeld ?_
      · intro w' hSw; go_simp
      try simp only [Act.put, List.setIfInBounds_toArray, List.set_cons_zero, List.set_cons_succ, List.getElem_toArray, List.getElem_cons_succ, List.getElem_cons_zero]
      refine wpAnyH_take (i := 3) (v := .pointer (some ⟨g, i * 2, none⟩)) rfl (by kernel_rfl) (by kernel_rfl) (by kernel_rfl) (fun _ _ _ h => h) (Or.inl ⟨by kernel_rfl, ?_⟩) hHeld ?_
      · intro w' hSw; go_simp
      try simp only [Act.put, List.setIfInBounds_toArray, List.set_cons_zero, List.set_cons_succ, List.getElem_toArray, List.getElem_cons_succ, List.getElem_cons_zero]
      refine wpAnyH_take (i := 4) (v := .slice x1 9 c1) rfl (by kernel_rfl) (by kernel_rfl) (by kernel_rfl) (fun _ _ _ h => h) (Or.inl ⟨by kernel_rfl, ?_⟩) hHeld ?_
      · intro w' hSw; have z0 := CLi.out _ (bk0.trans (Below.mono hSw bk0.size)); go_simp
      try simp only [Act.put, List.setIfInBounds_toArray, List.set_cons_zero, List.set_cons_succ, List.getElem_toArray, List.getElem_cons_succ, List.getElem_cons_zero]
      refine wpAnyH_ready (rs := [5]) (by kernel_rfl) (by simp) ?_
      refine AllReadyH.cons rfl (fun KK hK' => ?_) AllReadyH.nil
      go_simp
      refine (one_any _).mono ?_
      rintro e u1 ⟨g1, g2, rfl, h1, bb⟩
      have H1 : Hid (Src u1 (some ⟨g1, 0, none⟩) 9 oneF) := by
        obtain ⟨x, y, e, a1, -⟩ := h1
        cases e
        obtain ⟨_, _, e2, hs⟩ := a1.src
        cases e2
        exact hs
      replace bu : Kb u0 u1 := bu.trans (bb.mono bu.size)
      clear bb h1
      try go_wp2_with fail
      clear hHeld
      refine hK'.out _ _ (bu) (fun hHeld => ?_)
      clear hK' KK
      try simp only [List.setIfInBounds_toArray, List.set_cons_zero, List.set_cons_succ]
      refine wpAnyH_take (i := 6) (v := .slice ((some ⟨g1, 0, none⟩)) 9 9) rfl (by kernel_rfl) (by kernel_rfl) (by kernel_rfl) (fun _ _ _ h => h) (Or.inl ⟨by kernel_rfl, ?_⟩) hHeld ?_
      · intro w' hSw; have hfd : ∀ u, (Instr.field 31 (.agg #[.slice (some ⟨g1, 0, none⟩) 9 9, .slice (some ⟨g2, 0, none⟩) 3 3]) 0).run Tryz.prog u = .ok (.slice (some ⟨g1, 0, none⟩) 9 9) u := (fun _ => by first | rfl | kernel_rfl); go_simp
      try simp only [Act.put, List.setIfInBounds_toArray, List.set_cons_zero, List.set_cons_succ, List.getElem_toArray, List.getElem_cons_succ, List.getElem_cons_zero]
      refine wpAnyH_ready (rs := [7]) (by kernel_rfl) (by simp) ?_
      refine AllReadyH.cons rfl (fun KK hK' => ?_) AllReadyH.nil
      go_simp
      refine (sameInts_any (CSr.out _ (bk0.trans (Below.mono bu bk0.size))) H1.out (by omega) (by omega)).mono ?_
      rintro e u2 ⟨⟨r, rfl, hrr⟩, bb⟩
      replace bu : Kb u0 u2 := bu.trans (bb.mono bu.size)
      clear bb
      have HR := hid_of hrr
      clear hrr H1
      try go_wp2_with fail
      clear hHeld
      refine hK'.out _ _ (bu) (fun hHeld => ?_)
      clear hK' KK
      try simp only [List.setIfInBounds_toArray, List.set_cons_zero, List.set_cons_succ]
      refine wpAnyH_done (by kernel_rfl) ?_ _
      clear hHeld
      have bz := hid_of (bk0.trans (Below.mono bu bk0.size))
      have hiff : r = true ↔ stillP A i := HR.out.trans ⟨fun h => h.2, fun h => ⟨trivial, h⟩⟩
      have HKz := hid_of (HK.out.trans (bz.out.mono HK.out.size))
      cases r
      · have hst : stN A (i + 1) = N := (stN_no (fun h => absurd (hiff.2 h) (by decide))).trans HN.out
        have HST := hid_of hst
        clear hst hiff HR
        go_wp2
        exact ⟨⟨i + 1, by omega, by rw [HST.out], by go_num, HKz⟩, by simp [intOf]; omega⟩
      · have hst : stN A (i + 1) = N + 1 := (stN_yes (hiff.1 rfl)).trans (by rw [HN.out])
        have HST := hid_of hst
        clear hst hiff HR
        go_wp2
        exact ⟨⟨i + 1, by omega, by rw [HST.out]; go_num, by go_num, HKz⟩, by simp [intOf]; omega⟩
    · obtain rfl : i = n := by omega
      have hlt' : ¬ (i : Int) < (i : Int) := by omega
      obtain ⟨N, hN⟩ : ∃ N, stN A i = N := ⟨_, rfl⟩
      have hcount : m * N = i := by
        rw [HM.out, ← hN]
        classical
        exact turns_count HG.out rfl
      have hmul : (m : Int) * (N : Int) = (i : Int) := by rw [← hcount]; simp
      have hw1 : IntKind.i64.wrap ((m : Int) * (N : Int)) = (i : Int) := by rw [hmul]; exact IntWalk.i64_in _ (by omega)
      have hne : ((i : Int) != (i : Int)) = false := bne_self_eq_false _
      rw [hN]
      replace HL := hid_of (HL.out.below HK.out)
      replace HP := hid_of (HP.out.below HK.out)
      replace HB := hid_of (HB.out.trans (HK.out.mono HB.out.size))
      clear hN hcount HK
      go_wp2_with fail
      refine (copyOps_any HP.out hm2 HG2.out.2.1).mono ?_
      rintro e w5 ⟨⟨X5, Y5, v5, rfl, P5⟩, b5⟩
      obtain ⟨g5, c5, rfl, -, L5⟩ := P5.opsL
      have HL5 := hid_of L5
      replace HL := hid_of (HL.out.below b5)
      replace HB := hid_of (HB.out.trans (b5.mono HB.out.size))
      clear P5 L5 b5 HP
      go_wp2_with fail
      refine (implGroupOk_any HL5.out (by omega)).mono ?_
      rintro e w6 ⟨⟨r6, rfl, hr6⟩, b6⟩
      obtain rfl : r6 = true := hr6.2 HG2.out
      replace HL := hid_of (HL.out.below b6)
      replace HB := hid_of (HB.out.trans (b6.mono HB.out.size))
      clear b6 hr6 HL5
      go_wp2_with fail
      refine (implKinds_any HL.out (by omega)).mono ?_
      rintro e w7 ⟨⟨v7, K, m', R, rfl, hnn, hA7, hK, hcase, HF⟩, b7⟩
      obtain rfl : m' = m := by
        rcases hcase with ⟨-, h⟩ | ⟨h, -⟩
        · rw [HM.out]; exact h
        · exact absurd HG.out h
      obtain ⟨gk, ck, rfl, -, hck, -, hLd⟩ := hA7.nn hnn
      have HRC := hid_of hLd.recsN
      have HFK := hid_of HF
      replace HB := hid_of (HB.out.trans (b7.mono HB.out.size))
      have H77 : Hid (Below w7.heap.size w7 w7) := hid_of (Below.refl _ _)
      have hK' : (K : Int) ≤ 192 := by omega
      clear hcase hA7 hnn hLd HF b7 HL hmul hw1 hne hck
      go_wp2
      go_loopw [7, 9] (fun v s wr => ∃ t : Nat, t ≤ K ∧ v = .int .i64 (sumZ (fun t => (R t).2.2.2) t) ∧ s = .int .i64 (t : Int) ∧ Hid (Below w7.heap.size w7 wr)) (fun _ s _ => K - (intOf s).toNat)
      case atStart => exact ⟨0, Nat.zero_le _, rfl, rfl, H77⟩
      case round =>
        clear H77
        obtain ⟨t, ht, rfl, rfl, HK⟩ := hrel
        obtain ⟨S, hS⟩ : ∃ S, sumZ (fun t => (R t).2.2.2) t = S := ⟨_, rfl⟩
        by_cases hlt : t < K
        · have hlt' : (t : Int) < (K : Int) := by omega
          obtain ⟨k3, -⟩ := recs_cell HRC.out HK.out hlt
          have hp1 := HFK.out.part t ht
          have hp2 := HFK.out.part (t + 1) (by omega)
          have hS1 : sumZ (fun t => (R t).2.2.2) (t + 1) = S + (R t).2.2.2 := by rw [← hS]; rfl
          obtain ⟨y, hy⟩ : ∃ y, (R t).2.2.2 = y := ⟨_, rfl⟩
          rw [hy] at k3 hS1
          rw [hS1] at hp2
          have hle : ((t + 1 : Nat) : Int) * (m' : Int) ≤ 192 * 192 := Int.mul_le_mul (by omega) (by omega) (by omega) (by omega)
          have hw2 : IntKind.i64.wrap (S + y) = S + y := IntWalk.i64_in _ (by omega)
          have HS1 := hid_of hS1
          rw [hS]
          clear hS hS1 hp1 hp2 hle hy
          by_cases h0 : t = 0
          · have hz : ¬ (0 : Int) < (t : Int) := by omega
            have HZ := hid_of h0
            clear h0
            go_wp2_with fail
            obtain ⟨u0, hu0, bb⟩ : ∃ uu, wr.drew = uu ∧ Below wr.heap.size wr uu := ⟨_, rfl, (Below.refl _ _).drew⟩
            have bk0 : Kb wr u0 := bb
            clear bb
            refine wp_region_held_drew (S := Kb u0) (by kernel_rfl) (by rw [hu0]; exact Below.refl _ _) (fun hHeld => ?_)
            rw [hu0] at hHeld ⊢
            clear hu0
            have bu : Kb u0 u0 := Below.refl _ _
            change wpAnyH _ _ _ _ _ 16 #[false, false, false, false, false, false, false, false, false, false, false, false, false, false, false, false] _ _
            refine wpAnyH_take (i := 0) (v := .int .i64 ((t : Int))) rfl (by kernel_rfl) (by kernel_rfl) (by kernel_rfl) (fun _ _ _ h => h) (Or.inl ⟨by kernel_rfl, ?_⟩) hHeld ?_
            · intro w' hSw; go_simp
            try simp only [Act.put, List.setIfInBounds_toArray, List.set_cons_zero, List.set_cons_succ, List.getElem_toArray, List.getElem_cons_zero]
            refine wpAnyH_take (i := 1) (v := .bool false) rfl (by kernel_rfl) (by kernel_rfl) (by kernel_rfl) (fun _ _ _ h => h) (Or.inl ⟨by kernel_rfl, ?_⟩) hHeld ?_
            · intro w' hSw; go_simp; exact HZ.out
            try simp only [Act.put, List.setIfInBounds_toArray, List.set_cons_zero, List.set_cons_succ, List.getElem_toArray, List.getElem_cons_succ, List.getElem_cons_zero]
            refine wpAnyH_take (i := 2) (v := .bool false) rfl (by kernel_rfl) (by kernel_rfl) (by kernel_rfl) (fun _ _ _ h => h) (Or.inl ⟨by kernel_rfl, ?_⟩) hHeld ?_
            · intro w' hSw; go_simp
            try simp only [Act.put, List.setIfInBounds_toArray, List.set_cons_zero, List.set_cons_succ, List.getElem_toArray, List.getElem_cons_succ, List.getElem_cons_zero]
            refine wpAnyH_take (i := 3) (v := undef) rfl (by kernel_rfl) (by kernel_rfl) (by kernel_rfl) (fun _ _ _ h => h) (Or.inr ⟨by kernel_rfl, rfl⟩) hHeld ?_
            try simp only [Act.put, List.setIfInBounds_toArray, List.set_cons_zero, List.set_cons_succ, List.getElem_toArray, List.getElem_cons_succ, List.getElem_cons_zero]
            refine wpAnyH_take (i := 4) (v := undef) rfl (by kernel_rfl) (by kernel_rfl) (by kernel_rfl) (fun _ _ _ h => h) (Or.inr ⟨by kernel_rfl, rfl⟩) hHeld ?_
            try simp only [Act.put, List.setIfInBounds_toArray, List.set_cons_zero, List.set_cons_succ, List.getElem_toArray, List.getElem_cons_succ, List.getElem_cons_zero]
            refine wpAnyH_take (i := 5) (v := undef) rfl (by kernel_rfl) (by kernel_rfl) (by kernel_rfl) (fun _ _ _ h => h) (Or.inr ⟨by kernel_rfl, rfl⟩) hHeld ?_
            try simp only [Act.put, List.setIfInBounds_toArray, List.set_cons_zero, List.set_cons_succ, List.getElem_toArray, List.getElem_cons_succ, List.getElem_cons_zero]
            refine wpAnyH_take (i := 6) (v := undef) rfl (by kernel_rfl) (by kernel_rfl) (by kernel_rfl) (fun _ _ _ h => h) (Or.inr ⟨by kernel_rfl, rfl⟩) hHeld ?_
            try simp only [Act.put, List.setIfInBounds_toArray, List.set_cons_zero, List.set_cons_succ, List.getElem_toArray, List.getElem_cons_succ, List.getElem_cons_zero]
            refine wpAnyH_take (i := 7) (v := undef) rfl (by kernel_rfl) (by kernel_rfl) (by kernel_rfl) (fun _ _ _ h => h) (Or.inr ⟨by kernel_rfl, rfl⟩) hHeld ?_
            try simp only [Act.put, List.setIfInBounds_toArray, List.set_cons_zero, List.set_cons_succ, List.getElem_toArray, List.getElem_cons_succ, List.getElem_cons_zero]
            refine wpAnyH_take (i := 8) (v := undef) rfl (by kernel_rfl) (by kernel_rfl) (by kernel_rfl) (fun _ _ _ h => h) (Or.inr ⟨by kernel_rfl, rfl⟩) hHeld ?_
            try simp only [Act.put, List.setIfInBounds_toArray, List.set_cons_zero, List.set_cons_succ, List.getElem_toArray, List.getElem_cons_succ, List.getElem_cons_zero]
            refine wpAnyH_take (i := 9) (v := undef) rfl (by kernel_rfl) (by kernel_rfl) (by kernel_rfl) (fun _ _ _ h => h) (Or.inr ⟨by kernel_rfl, rfl⟩) hHeld ?_
            try simp only [Act.put, List.setIfInBounds_toArray, List.set_cons_zero, List.set_cons_succ, List.getElem_toArray, List.getElem_cons_succ, List.getElem_cons_zero]
            refine wpAnyH_take (i := 10) (v := undef) rfl (by kernel_rfl) (by kernel_rfl) (by kernel_rfl) (fun _ _ _ h => h) (Or.inr ⟨by kernel_rfl, rfl⟩) hHeld ?_
            try simp only [Act.put, List.setIfInBounds_toArray, List.set_cons_zero, List.set_cons_succ, List.getElem_toArray, List.getElem_cons_succ, List.getElem_cons_zero]
            refine wpAnyH_take (i := 11) (v := undef) rfl (by kernel_rfl) (by kernel_rfl) (by kernel_rfl) (fun _ _ _ h => h) (Or.inr ⟨by kernel_rfl, rfl⟩) hHeld ?_
            try simp only [Act.put, List.setIfInBounds_toArray, List.set_cons_zero, List.set_cons_succ, List.getElem_toArray, List.getElem_cons_succ, List.getElem_cons_zero]
            refine wpAnyH_take (i := 12) (v := undef) rfl (by kernel_rfl) (by kernel_rfl) (by kernel_rfl) (fun _ _ _ h => h) (Or.inr ⟨by kernel_rfl, rfl⟩) hHeld ?_
            try simp only [Act.put, List.setIfInBounds_toArray, List.set_cons_zero, List.set_cons_succ, List.getElem_toArray, List.getElem_cons_succ, List.getElem_cons_zero]
            refine wpAnyH_take (i := 13) (v := undef) rfl (by kernel_rfl) (by kernel_rfl) (by kernel_rfl) (fun _ _ _ h => h) (Or.inr ⟨by kernel_rfl, rfl⟩) hHeld ?_
            try simp only [Act.put, List.setIfInBounds_toArray, List.set_cons_zero, List.set_cons_succ, List.getElem_toArray, List.getElem_cons_succ, List.getElem_cons_zero]
            refine wpAnyH_take (i := 14) (v := undef) rfl (by kernel_rfl) (by kernel_rfl) (by kernel_rfl) (fun _ _ _ h => h) (Or.inr ⟨by kernel_rfl, rfl⟩) hHeld ?_
            try simp only [Act.put, List.setIfInBounds_toArray, List.set_cons_zero, List.set_cons_succ, List.getElem_toArray, List.getElem_cons_succ, List.getElem_cons_zero]
            refine wpAnyH_take (i := 15) (v := .bool false) rfl (by kernel_rfl) (by kernel_rfl) (by kernel_rfl) (fun _ _ _ h => h) (Or.inl ⟨by kernel_rfl, ?_⟩) hHeld ?_
            · intro w' hSw; go_simp
            try simp only [Act.put, List.setIfInBounds_toArray, List.set_cons_zero, List.set_cons_succ, List.getElem_toArray, List.getElem_cons_succ, List.getElem_cons_zero]
            refine wpAnyH_done (by kernel_rfl) ?_ _
            clear hHeld
            have bz := hid_of (bk0.trans (Below.mono bu bk0.size))
            go_wp2
            exact ⟨⟨t + 1, by omega, by rw [HS1.out], by go_num, hid_of (HK.out.trans (bz.out.mono HK.out.size))⟩, by simp [intOf]; omega⟩
          · obtain ⟨i1, hi1⟩ : ∃ i1, t = i1 + 1 := ⟨t - 1, by omega⟩
            have hz : (0 : Int) < (t : Int) := by omega
            have hz2 : 0 < t := by omega
            have hw3 : IntKind.i64.wrap ((t : Int) - 1) = (i1 : Int) := (IntWalk.i64_in _ (by omega)).trans (by omega)
            have hkk : (t : Int) - 1 = (i1 : Int) := by omega
            have hw4 : IntKind.i64.wrap (i1 : Int) = (i1 : Int) := IntWalk.i64_in _ (by omega)
            have hlt2 : (i1 : Int) < (K : Int) := by omega
            obtain ⟨-, c1⟩ := recs_cell HRC.out HK.out (show i1 < K by omega)
            obtain ⟨-, c2⟩ := recs_cell HRC.out HK.out hlt
            have hord := HFK.out.ord (t := i1) (by omega)
            rw [← hi1] at hord
            have hglt : gk < wr.heap.size := Nat.lt_of_lt_of_le HRC.out.1 HK.out.size
            obtain ⟨o1, ho1⟩ : ∃ o, (R i1).1 = o := ⟨_, rfl⟩
            obtain ⟨o2, ho2⟩ : ∃ o, (R t).1 = o := ⟨_, rfl⟩
            rw [ho1] at c1 hord
            rw [ho2] at c2 hord
            have CLo : Hid (∀ wq, Kb wr wq → wq.cell? ⟨gk, i1 * 4, none⟩ = some (.int .i64 o1) ∧ wq.cell? ⟨gk, t * 4, none⟩ = some (.int .i64 o2)) := fun wq hq => ⟨(hq.cell (p := ⟨gk, i1 * 4, none⟩) hglt).trans c1, (hq.cell (p := ⟨gk, t * 4, none⟩) hglt).trans c2⟩
            have hno : ¬ o2 < o1 := by omega
            have hno2 : ¬ o1 > o2 := hno
            clear hord ho1 ho2 c1 c2 hi1 h0
            go_wp2_with fail
            obtain ⟨u0, hu0, bb⟩ : ∃ uu, wr.drew = uu ∧ Below wr.heap.size wr uu := ⟨_, rfl, (Below.refl _ _).drew⟩
            have bk0 : Kb wr u0 := bb
            clear bb
            refine wp_region_held_drew (S := Kb u0) (by kernel_rfl) (by rw [hu0]; exact Below.refl _ _) (fun hHeld => ?_)
            rw [hu0] at hHeld ⊢
            clear hu0
            have bu : Kb u0 u0 := Below.refl _ _
            change wpAnyH _ _ _ _ _ 16 #[false, false, false, false, false, false, false, false, false, false, false, false, false, false, false, false] _ _
            refine wpAnyH_take (i := 0) (v := .int .i64 ((t : Int))) rfl (by kernel_rfl) (by kernel_rfl) (by kernel_rfl) (fun _ _ _ h => h) (Or.inl ⟨by kernel_rfl, ?_⟩) hHeld ?_
            · intro w' hSw; go_simp
            try simp only [Act.put, List.setIfInBounds_toArray, List.set_cons_zero, List.set_cons_succ, List.getElem_toArray, List.getElem_cons_zero]
            refine wpAnyH_take (i := 1) (v := .bool true) rfl (by kernel_rfl) (by kernel_rfl) (by kernel_rfl) (fun _ _ _ h => h) (Or.inl ⟨by kernel_rfl, ?_⟩) hHeld ?_
            · intro w' hSw; go_simp
            try simp only [Act.put, List.setIfInBounds_toArray, List.set_cons_zero, List.set_cons_succ, List.getElem_toArray, List.getElem_cons_succ, List.getElem_cons_zero]
            refine wpAnyH_take (i := 2) (v := .bool true) rfl (by kernel_rfl) (by kernel_rfl) (by kernel_rfl) (fun _ _ _ h => h) (Or.inl ⟨by kernel_rfl, ?_⟩) hHeld ?_
            · intro w' hSw; go_simp
            try simp only [Act.put, List.setIfInBounds_toArray, List.set_cons_zero, List.set_cons_succ, List.getElem_toArray, List.getElem_cons_succ, List.getElem_cons_zero]
            refine wpAnyH_take (i := 3) (v := .slice ((some ⟨gk, 0, none⟩)) K ck) rfl (by kernel_rfl) (by kernel_rfl) (by kernel_rfl) (fun _ _ _ h => h) (Or.inl ⟨by kernel_rfl, ?_⟩) hHeld ?_
            · intro w' hSw; go_simp
            try simp only [Act.put, List.setIfInBounds_toArray, List.set_cons_zero, List.set_cons_succ, List.getElem_toArray, List.getElem_cons_succ, List.getElem_cons_zero]
            refine wpAnyH_take (i := 4) (v := .int .i64 ((t : Int))) rfl (by kernel_rfl) (by kernel_rfl) (by kernel_rfl) (fun _ _ _ h => h) (Or.inl ⟨by kernel_rfl, ?_⟩) hHeld ?_
            · intro w' hSw; go_simp
            try simp only [Act.put, List.setIfInBounds_toArray, List.set_cons_zero, List.set_cons_succ, List.getElem_toArray, List.getElem_cons_succ, List.getElem_cons_zero]
            refine wpAnyH_take (i := 5) (v := .int .i64 ((i1 : Int))) rfl (by kernel_rfl) (by kernel_rfl) (by kernel_rfl) (fun _ _ _ h => h) (Or.inl ⟨by kernel_rfl, ?_⟩) hHeld ?_
            · intro w' hSw; go_simp
            try simp only [Act.put, List.setIfInBounds_toArray, List.set_cons_zero, List.set_cons_succ, List.getElem_toArray, List.getElem_cons_succ, List.getElem_cons_zero]
            refine wpAnyH_take (i := 6) (v := .pointer (some ⟨gk, i1 * 4, none⟩)) rfl (by kernel_rfl) (by kernel_rfl) (by kernel_rfl) (fun _ _ _ h => h) (Or.inl ⟨by kernel_rfl, ?_⟩) hHeld ?_
            · intro w' hSw; go_simp
            try simp only [Act.put, List.setIfInBounds_toArray, List.set_cons_zero, List.set_cons_succ, List.getElem_toArray, List.getElem_cons_succ, List.getElem_cons_zero]
            refine wpAnyH_take (i := 7) (v := .pointer (some ⟨gk, i1 * 4, none⟩)) rfl (by kernel_rfl) (by kernel_rfl) (by kernel_rfl) (fun _ _ _ h => h) (Or.inl ⟨by kernel_rfl, ?_⟩) hHeld ?_
            · intro w' hSw; go_simp
            try simp only [Act.put, List.setIfInBounds_toArray, List.set_cons_zero, List.set_cons_succ, List.getElem_toArray, List.getElem_cons_succ, List.getElem_cons_zero]
            refine wpAnyH_take (i := 8) (v := .int .i64 (o1)) rfl (by kernel_rfl) (by kernel_rfl) (by kernel_rfl) (fun _ _ _ h => h) (Or.inl ⟨by kernel_rfl, ?_⟩) hHeld ?_
            · intro w' hSw; obtain ⟨z0, z1⟩ := CLo.out _ (bk0.trans (Below.mono hSw bk0.size)); go_simp
            try simp only [Act.put, List.setIfInBounds_toArray, List.set_cons_zero, List.set_cons_succ, List.getElem_toArray, List.getElem_cons_succ, List.getElem_cons_zero]
            refine wpAnyH_take (i := 9) (v := .slice ((some ⟨gk, 0, none⟩)) K ck) rfl (by kernel_rfl) (by kernel_rfl) (by kernel_rfl) (fun _ _ _ h => h) (Or.inl ⟨by kernel_rfl, ?_⟩) hHeld ?_
            · intro w' hSw; go_simp
            try simp only [Act.put, List.setIfInBounds_toArray, List.set_cons_zero, List.set_cons_succ, List.getElem_toArray, List.getElem_cons_succ, List.getElem_cons_zero]
            refine wpAnyH_take (i := 10) (v := .int .i64 ((t : Int))) rfl (by kernel_rfl) (by kernel_rfl) (by kernel_rfl) (fun _ _ _ h => h) (Or.inl ⟨by kernel_rfl, ?_⟩) hHeld ?_
            · intro w' hSw; go_simp
            try simp only [Act.put, List.setIfInBounds_toArray, List.set_cons_zero, List.set_cons_succ, List.getElem_toArray, List.getElem_cons_succ, List.getElem_cons_zero]
            refine wpAnyH_take (i := 11) (v := .pointer (some ⟨gk, t * 4, none⟩)) rfl (by kernel_rfl) (by kernel_rfl) (by kernel_rfl) (fun _ _ _ h => h) (Or.inl ⟨by kernel_rfl, ?_⟩) hHeld ?_
            · intro w' hSw; go_simp
            try simp only [Act.put, List.setIfInBounds_toArray, List.set_cons_zero, List.set_cons_succ, List.getElem_toArray, List.getElem_cons_succ, List.getElem_cons_zero]
            refine wpAnyH_take (i := 12) (v := .pointer (some ⟨gk, t * 4, none⟩)) rfl (by kernel_rfl) (by kernel_rfl) (by kernel_rfl) (fun _ _ _ h => h) (Or.inl ⟨by kernel_rfl, ?_⟩) hHeld ?_
            · intro w' hSw; go_simp
            try simp only [Act.put, List.setIfInBounds_toArray, List.set_cons_zero, List.set_cons_succ, List.getElem_toArray, List.getElem_cons_succ, List.getElem_cons_zero]
            refine wpAnyH_take (i := 13) (v := .int .i64 (o2)) rfl (by kernel_rfl) (by kernel_rfl) (by kernel_rfl) (fun _ _ _ h => h) (Or.inl ⟨by kernel_rfl, ?_⟩) hHeld ?_
            · intro w' hSw; obtain ⟨z0, z1⟩ := CLo.out _ (bk0.trans (Below.mono hSw bk0.size)); go_simp
            try simp only [Act.put, List.setIfInBounds_toArray, List.set_cons_zero, List.set_cons_succ, List.getElem_toArray, List.getElem_cons_succ, List.getElem_cons_zero]
            refine wpAnyH_take (i := 14) (v := .bool false) rfl (by kernel_rfl) (by kernel_rfl) (by kernel_rfl) (fun _ _ _ h => h) (Or.inl ⟨by kernel_rfl, ?_⟩) hHeld ?_
            · intro w' hSw; go_simp
            try simp only [Act.put, List.setIfInBounds_toArray, List.set_cons_zero, List.set_cons_succ, List.getElem_toArray, List.getElem_cons_succ, List.getElem_cons_zero]
            refine wpAnyH_take (i := 15) (v := .bool false) rfl (by kernel_rfl) (by kernel_rfl) (by kernel_rfl) (fun _ _ _ h => h) (Or.inl ⟨by kernel_rfl, ?_⟩) hHeld ?_
            · intro w' hSw; go_simp
            try simp only [Act.put, List.setIfInBounds_toArray, List.set_cons_zero, List.set_cons_succ, List.getElem_toArray, List.getElem_cons_succ, List.getElem_cons_zero]
            refine wpAnyH_done (by kernel_rfl) ?_ _
            clear hHeld
            have bz := hid_of (bk0.trans (Below.mono bu bk0.size))
            go_wp2
            exact ⟨⟨t + 1, by omega, by rw [HS1.out], by go_num, hid_of (HK.out.trans (bz.out.mono HK.out.size))⟩, by simp [intOf]; omega⟩
        · obtain rfl : t = K := by omega
          have hlt' : ¬ (t : Int) < (t : Int) := by omega
          have hSm : S = (m' : Int) := by rw [← hS]; exact HFK.out.sum
          rw [hS, hSm]
          have heq : ((m' : Int) == (m' : Int)) = true := by simp
          clear hS hSm
          have HBF := hid_of (HB.out.trans (HK.out.mono HB.out.size))
          clear HB HK HRC HFK
          go_wp2
          go_ret
          exact ⟨rfl, HBF.out⟩
end Go.Proofs.YtfmbljmcdidocaaGreat
