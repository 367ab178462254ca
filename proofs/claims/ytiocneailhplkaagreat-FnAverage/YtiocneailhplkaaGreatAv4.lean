/-
  Average by the program: walked.
-/
import Derived.Test.YtiocneailhplkaaGreatAv3
import Derived.Test.YtiocneailhplkaaGreatMN
import Derived.Test.YtiocneailhplkaaGreatO3a
import Derived.Test.YtiocneailhplkaaGreatMT
namespace Go.Proofs.YtiocneailhplkaaGreat
open Go.RowKit Go.Shelf

theorem Made.ints {w : World} {g c n : Nat} {f : Nat → Int} (h : Made w g c n f) : Ints w g 0 n f := by
  obtain ⟨cur, a, h1, h2⟩ := h
  intro i hi
  have := a.cell i (h2 i hi)
  simpa using this
theorem Made.kp {w w' : World} {g c n p : Nat} {f : Nat → Int} (h : Made w g c n f) (hk : Kept p w w') (hp : g ≠ p) : Made w' g c n f := by
  obtain ⟨cur, a, h1⟩ := h
  exact ⟨cur, atKp a hk hp, h1⟩
theorem Kept.gb {p : Nat} {w w' : World} (h : Kept p w w') : w.grownBy w' (some p) := ⟨h.os, h.tape, h.output, h.size, fun k hk hne => h.block k hk (fun e => hne (by rw [e]))⟩
theorem DeedsG.kp {w w' : World} {lo g c n p : Nat} {Q : Nat → Nat} {K : Nat → Nat → Int} (h : DeedsG w lo (.slice (some ⟨g, 0, none⟩) n c) n Q K) (hk : Kept p w w') (hg : g ≠ p) (hq : ∀ i, i < n → Q i ≠ p) : DeedsG w' lo (.slice (some ⟨g, 0, none⟩) n c) n Q K :=
  ⟨own_far h.row hk.gb (fun e => hg (by injection e)), h.nn, fun i hi => ⟨(h.bx i hi).1, atKp (h.bx i hi).2 hk (hq i hi)⟩⟩
/-- When there is an average. -/
def avO (N : Int) (len n : Nat) (A : Nat → OpD) (f : Nat → Int) : Prop := mapOk N len f ∧ isG n A ∧ goodN N n len A
/-- How Average ends, on either side. -/
def AvE (w : World) (N : Int) (len n : Nat) (A : Nat → OpD) (f : Nat → Int) (e : Ending) (w' : World) : Prop :=
  (∃ m, e = .returned m ∧ (avO N len n A f ∧ MapAt w' w.heap.size w'.heap.size m N len (avF N n A f) ∨ ¬ avO N len n A f ∧ m = mV 0 (.slice none 0 0))) ∧ Below w.heap.size w w'
theorem sm_open {w w' : World} {N : Int} {n k : Nat} {A : Nat → OpD} {f : Nat → Int} {e : Ending} (h : SmE w N n A f k e w') : ∃ (S : Int) (b : Bool), e = .returned (.tuple #[.int .i64 S, .bool b]) ∧ (b = true ∧ (∀ i, i < n → fitN N (goN N A k i)) ∧ S = avL N A f k (List.range n) ∨ b = false ∧ ¬ (∀ i, i < n → fitN N (goN N A k i))) ∧ Below w.heap.size w w' := by
  rcases h with ⟨⟨h1, rfl⟩ | ⟨h1, rfl⟩, hb⟩
  · exact ⟨_, true, rfl, .inl ⟨rfl, h1, rfl⟩, hb⟩
  · exact ⟨_, false, rfl, .inr ⟨rfl, h1⟩, hb⟩
/-- A map right is no map of nothing. -/
theorem arr_gf {w : World} {N : Int} {lo hi len : Nat} {v : Value} {f : Nat → Int} (h : Arr w lo hi v len f) (hm : mapOk N len f) : ∃ gf cf, v = .slice (some ⟨gf, 0, none⟩) len cf ∧ gf < w.heap.size ∧ Ints w gf 0 len f := by
  rcases h with ⟨rfl, rfl⟩ | ⟨gf, cf, rfl, -, -, -, hM⟩
  · have := (side_by hm.1).1
    have h2 := hm.2.1
    have h3 := cube_is hm.1
    exfalso; omega
  · exact ⟨gf, cf, rfl, hM.lt, hM.ints⟩
set_option maxRecDepth 100000 in
set_option maxHeartbeats 6000000 in
theorem implAverage_any {w : World} {N : Int} {v : Value} {lo hi len g n c : Nat} {A : Nat → OpD} {f : Nat → Int} (hNb : -9223372036854775808 ≤ N ∧ N ≤ 9223372036854775807) (hM : Arr w lo hi v len f) (hlen : len ≤ 1048576) (hL : OpsL w g n A) (hn : n ≤ 1048576) :
    Calls Tryz.prog 8 #[mV N v, .slice (some ⟨g, 0, none⟩) n c] w (AvE w N len n A f) := by
  have HL := hid_of hL
  have HM := hid_of hM
  obtain ⟨a0, cf, rfl, hS⟩ := hM.src
  have HSR := hid_of hS
  clear hL hM hS
  obtain ⟨q2, hq2⟩ : ∃ q, w.heap.size = q := ⟨_, rfl⟩
  obtain ⟨W1, hW1, a1, b1, -⟩ := boxed w 26 #[.int .i64 N, .slice a0 len cf]
  rw [hq2] at a1
  obtain ⟨q4, hq4⟩ : ∃ q, W1.heap.size = q := ⟨_, rfl⟩
  obtain ⟨W2, hW2, a2, b2, -⟩ := boxed W1 26 #[.int .i64 0, .slice none 0 0]
  rw [hq4] at a2
  have l24 : q2 < q4 := by have := a1.lt; omega
  have hwq : w.heap.size ≤ q4 := by omega
  have B2 := b1.trans (b2.mono b1.size)
  have A1 := hid_of (a1.below b2)
  have A2 := hid_of a2
  have HB := hid_of B2
  clear a1 a2 b1 b2 B2
  go_enter Tryz.func8, Tryz.ntmps8
  go_wp2_with fail
  refine (groupOf_any (HL.out.below HB.out) hn).mono ?_
  rintro e w3 ⟨⟨v3, rfl, hG⟩, b3⟩
  obtain ⟨g6, m6, c6, rfl, hO, hm6, hmn, hGm⟩ := grp_one hG
  have HO := hid_of hO
  replace A1 := hid_of (A1.out.below b3)
  replace A2 := hid_of (A2.out.below b3)
  replace HB := hid_of (HB.out.trans (b3.mono HB.out.size))
  clear hO hG b3 hW1 hW2 hq4
  go_wp2_with fail
  refine (deedsOf_any HO.out hm6).mono ?_
  rintro e w4 ⟨⟨v4, Q, rfl, hD⟩, b4⟩
  obtain ⟨gd, cd, ev4, -⟩ := hD.open
  subst ev4
  have HD := hid_of hD
  replace A1 := hid_of (A1.out.below b4)
  replace A2 := hid_of (A2.out.below b4)
  replace HB := hid_of (HB.out.trans (b4.mono HB.out.size))
  clear hD b4 HO
  obtain ⟨m0, m1, -⟩ := A1.out.open2
  go_wp2_with fail
  refine (implMapOk_any N hNb (HSR.out.below HB.out) hlen).mono ?_
  rintro e w5 ⟨rfl, b5⟩
  replace A1 := hid_of (A1.out.below b5)
  replace A2 := hid_of (A2.out.below b5)
  replace HB := hid_of (HB.out.trans (b5.mono HB.out.size))
  replace HD := hid_of (HD.out.below b5)
  clear b5 m0 m1
  by_cases hmo : mapOk N len f
  rotate_left
  · rw [decide_eq_false hmo]
    have HNO : Hid (¬ avO N len n A f) := fun h => hmo h.1
    obtain ⟨d0, d1, f0, f1⟩ := A2.out.open2
    clear hmo hGm
    go_wp2
    have a9 : At 26 ((w5.setCell ⟨q4, 0, none⟩ (.int .i64 0)).setCell ⟨q4, 1, none⟩ (.slice none 0 0)) q4 #[.int .i64 0, .slice none 0 0] := by simpa using (A2.out.set 0 (.int .i64 0)).set 1 (.slice none 0 0)
    obtain ⟨p0, p1, -⟩ := a9.open2
    exact bodyPost_ret (v := mV 0 (.slice none 0 0)) (by simp [results, Tryz.results8, go_sem, p0, p1]) rfl ⟨⟨_, rfl, .inr ⟨HNO.out, rfl⟩⟩, (HB.out.setCell (p := ⟨q4, 0, none⟩) hwq _).setCell (p := ⟨q4, 1, none⟩) hwq _⟩
  rw [decide_eq_true hmo]
  by_cases hg : isG n A
  rotate_left
  · obtain rfl : m6 = 0 := by
      rcases hGm with h | h
      · exact absurd h.1 hg
      · exact h.2
    have HNO : Hid (¬ avO N len n A f) := fun h => hg h.2.1
    obtain ⟨d0, d1, f0, f1⟩ := A2.out.open2
    clear hmo hGm hg
    go_wp2
    have a9 : At 26 ((w5.setCell ⟨q4, 0, none⟩ (.int .i64 0)).setCell ⟨q4, 1, none⟩ (.slice none 0 0)) q4 #[.int .i64 0, .slice none 0 0] := by simpa using (A2.out.set 0 (.int .i64 0)).set 1 (.slice none 0 0)
    obtain ⟨p0, p1, -⟩ := a9.open2
    exact bodyPost_ret (v := mV 0 (.slice none 0 0)) (by simp [results, Tryz.results8, go_sem, p0, p1]) rfl ⟨⟨_, rfl, .inr ⟨HNO.out, rfl⟩⟩, (HB.out.setCell (p := ⟨q4, 0, none⟩) hwq _).setCell (p := ⟨q4, 1, none⟩) hwq _⟩
  have e6 : m6 = n := by
    rcases hGm with h | h
    · exact h.2
    · exact absurd hg h.1
  subst e6
  have HG := hid_of hg
  have HMO := hid_of hmo
  have hside : side N := hmo.1
  have hpos : 0 < m6 := by obtain ⟨i, hi, -⟩ := hg.one; omega
  have hp0 : ((m6 : Int) == 0) = false := by
    simp; omega
  obtain ⟨gf, cf', egf, hgf, hF⟩ := arr_gf HM.out hmo
  cases egf
  have hcl : cube N = len := by have := cube_is hside; have := hmo.2.1; omega
  have hlen2 : (len : Int) ≤ 1728 := by have := cube_is hside; have := hmo.2.1; omega
  have HF := hid_of hF
  have BM : ∀ w, Calls Tryz.prog 34 #[.int .i64 N] w fun e w' => ∃ g, e = .returned (.agg #[.int .i64 N, .slice (some ⟨g, 0, none⟩) len len]) ∧ w.heap.size ≤ g ∧ Made w' g len len (fun _ => 0) ∧ Below w.heap.size w w' := fun w => by
    have h := blank_map N hside w
    rw [hcl] at h
    exact h
  have HBM := hid_of BM
  have HSD := hid_of hside
  clear hg hGm hmn hF hcl BM HSR hside hmo
  go_wp2_with fail
  refine (back_any hm6 _).mono ?_
  rintro e w6 ⟨rfl, b6⟩
  have hsh := shN_lt m6
  have HSHE : Hid (∃ x, shN m6 = x) := ⟨_, rfl⟩
  obtain ⟨sh, hsd⟩ : ∃ x, shN m6 = x := ⟨_, rfl⟩
  rw [hsd] at hsh ⊢
  have HSH := hid_of hsd
  replace A1 := hid_of (A1.out.below b6)
  replace A2 := hid_of (A2.out.below b6)
  replace HB := hid_of (HB.out.trans (b6.mono HB.out.size))
  replace HD := hid_of (HD.out.below b6)
  clear b6 hsd HSHE
  obtain ⟨m0, m1, -⟩ := A1.out.open2
  go_wp2_with fail
  refine (HBM.out _).mono ?_
  rintro e w7 ⟨go, rfl, hgo, hM0, b7⟩
  have z67 := HB.out.size
  have lA2 := A2.out.lt
  have hq4o : q4 < go := by omega
  have hgdo : gd < go := by
    obtain ⟨gd', cd', e', -, h, -⟩ := HD.out.open
    cases e'
    omega
  have HQO : Hid (∀ i, i < m6 → Q i < go) := fun i hi => by have := (HD.out.bx i hi).2.lt; omega
  have hgfo : gf < go := by omega
  have hwgo : w.heap.size ≤ go := by omega
  replace A1 := hid_of (A1.out.below b7)
  replace A2 := hid_of (A2.out.below b7)
  replace HB := hid_of (HB.out.trans (b7.mono HB.out.size))
  replace HD := hid_of (HD.out.below b7)
  obtain ⟨q7, hq7⟩ : ∃ q, w7.heap.size = q := ⟨_, rfl⟩
  obtain ⟨W7, hW7, a7, b8, -⟩ := boxed w7 26 #[.int .i64 N, .slice (some ⟨go, 0, none⟩) len len]
  rw [hq7] at a7
  have hgo7 : go < q7 := by have := hM0.lt; omega
  have M7 : Hid (Made W7 go len 0 (avF N m6 A f)) := by
    obtain ⟨cur, a, h1, -⟩ := hM0
    exact ⟨cur, a.below b8, h1, fun i hi => by omega⟩
  replace A1 := hid_of (A1.out.below b8)
  replace A2 := hid_of (A2.out.below b8)
  replace HB := hid_of (HB.out.trans (b8.mono HB.out.size))
  replace HD := hid_of (HD.out.below b8)
  have A7 := hid_of a7
  clear b7 m0 m1 hM0 b8 z67 lA2 hgo HBM
  obtain ⟨o0, o1, -⟩ := A7.out.open2
  clear a7
  go_wp2
  clear hW7 hq7 o0 o1
  have HKr := hid_of (Kept.refl go W7)
  go_loopw [32] (fun v wr => ∃ i : Nat, i ≤ len ∧ v = .int .i64 (i : Int) ∧ Hid (Made wr go len i (avF N m6 A f)) ∧ Hid (Kept go W7 wr) ∧ Hid (∀ k, k < i → ∀ j, j < m6 → fitN N (goN N A k j))) (fun v _ => len - (intOf v).toNat)
  case atStart => exact ⟨0, Nat.zero_le _, rfl, M7, HKr, fun k hk => by omega⟩
  case round =>
    clear M7 HKr
    obtain ⟨i, hi, rfl, M, K, HGD⟩ := hrel
    rename World => wr
    have A1r := atKp A1.out K.out (by omega)
    have A2r := hid_of (atKp A2.out K.out (by omega))
    have A7r := hid_of (atKp A7.out K.out (by omega))
    have HDr := hid_of (HD.out.kp K.out (by omega) (fun i hi => by have := HQO.out i hi; omega))
    have HBr : Hid (Below w.heap.size w wr) := HB.out.trans (K.out.below hwgo HB.out.size)
    by_cases hlt : i < len
    · have hlt' : (i : Int) < (len : Int) := by omega
      have hiN : (i : Int) < N * N * N := by have := HMO.out.2.1; omega
      have CPL := fun w => mplace_any (k := i) (.slice (some ⟨gf, 0, none⟩) len cf) w HSD.out hiN
      have SUM : ∀ w', Below wr.heap.size wr w' → Calls Tryz.prog 35 #[mV N (.slice (some ⟨gf, 0, none⟩) len cf), .slice (some ⟨gd, 0, none⟩) m6 cd, .agg #[.int .i64 ((i : Int) % N), .int .i64 ((i : Int) / N % N), .int .i64 ((i : Int) / N / N)]] w' (SmE w' N m6 A f i) := fun w' hb => by
        have hz := HBr.out.size
        have hb2 := HBr.out.trans (hb.mono hz)
        exact sumOver_any HSD.out HMO.out.2.1 HMO.out.2.2 (HF.out.below hgf hb2) (by have := hb2.size; omega) (HDr.out.below hb) hm6 HG.out.2.1 hlt
      generalize (i : Int) % N = kx at CPL SUM
      generalize (i : Int) / N % N = ky at CPL SUM
      generalize (i : Int) / N / N = kz at CPL SUM
      clear hiN
      go_wp2_with fail
      obtain ⟨u0, hu0, bb⟩ : ∃ uu, wr.drew = uu ∧ Below wr.heap.size wr uu := ⟨_, rfl, (Below.refl _ _).drew⟩
      replace A1r := A1r.below bb
      have bk0 : Kb wr u0 := bb
      have A1u := A1r
      clear bb
      refine wp_region_held_drew (S := Kb u0) (by kernel_rfl) (by rw [hu0]; exact Below.refl _ _) (fun hHeld => ?_)
      rw [hu0] at hHeld ⊢
      clear hu0
      have bu : Kb u0 u0 := Below.refl _ _
      change wpAnyH _ _ _ _ _ 11 #[false, false, false, false, false, false, false, false, false, false, false] _ _
      refine wpAnyH_take (i := 0) (v := .agg #[.int .i64 N, .slice (some ⟨gf, 0, none⟩) len cf]) rfl (by kernel_rfl) (by kernel_rfl) (by kernel_rfl) (fun _ _ _ h => h) (Or.inl ⟨by kernel_rfl, ?_⟩) hHeld ?_
      · intro w' hSw; obtain ⟨z0, z1, -⟩ := (A1u.below hSw).open2; go_simp
      try simp only [Act.put, List.setIfInBounds_toArray, List.set_cons_zero, List.set_cons_succ, List.getElem_toArray, List.getElem_cons_zero]
      refine wpAnyH_take (i := 1) (v := .slice ((some ⟨gd, 0, none⟩)) m6 cd) rfl (by kernel_rfl) (by kernel_rfl) (by kernel_rfl) (fun _ _ _ h => h) (Or.inl ⟨by kernel_rfl, ?_⟩) hHeld ?_
      · intro w' hSw; go_simp
      try simp only [Act.put, List.setIfInBounds_toArray, List.set_cons_zero, List.set_cons_succ, List.getElem_toArray, List.getElem_cons_succ, List.getElem_cons_zero]
      refine wpAnyH_take (i := 2) (v := .agg #[.int .i64 N, .slice (some ⟨gf, 0, none⟩) len cf]) rfl (by kernel_rfl) (by kernel_rfl) (by kernel_rfl) (fun _ _ _ h => h) (Or.inl ⟨by kernel_rfl, ?_⟩) hHeld ?_
      · intro w' hSw; obtain ⟨z0, z1, -⟩ := (A1u.below hSw).open2; go_simp
      try simp only [Act.put, List.setIfInBounds_toArray, List.set_cons_zero, List.set_cons_succ, List.getElem_toArray, List.getElem_cons_succ, List.getElem_cons_zero]
      refine wpAnyH_take (i := 3) (v := .int .i64 ((i : Int))) rfl (by kernel_rfl) (by kernel_rfl) (by kernel_rfl) (fun _ _ _ h => h) (Or.inl ⟨by kernel_rfl, ?_⟩) hHeld ?_
      · intro w' hSw; go_simp
      try simp only [Act.put, List.setIfInBounds_toArray, List.set_cons_zero, List.set_cons_succ, List.getElem_toArray, List.getElem_cons_succ, List.getElem_cons_zero]
      refine wpAnyH_ready (rs := [4]) (by kernel_rfl) (by simp) ?_
      refine AllReadyH.cons rfl (fun KK hK' => ?_) AllReadyH.nil
      go_simp
      refine (CPL _).mono ?_
      rintro e u1 ⟨rfl, bb⟩
      replace bu : Kb u0 u1 := bu.trans (bb.mono bu.size)
      clear bb
      try go_wp2_with fail
      clear hHeld
      refine hK'.out _ _ (bu) (fun hHeld => ?_)
      clear hK' KK
      try simp only [List.setIfInBounds_toArray, List.set_cons_zero, List.set_cons_succ]
      refine wpAnyH_ready (rs := [5]) (by kernel_rfl) (by simp) ?_
      refine AllReadyH.cons rfl (fun KK hK' => ?_) AllReadyH.nil
      go_simp
      refine (SUM _ (bk0.trans (Below.mono bu bk0.size))).mono ?_
      rintro e u2 hsm
      obtain ⟨S, b, rfl, hSb, bb⟩ := sm_open hsm
      have HSB := hid_of hSb
      replace bu : Kb u0 u2 := bu.trans (bb.mono bu.size)
      clear bb hsm hSb
      try go_wp2_with fail
      clear hHeld
      refine hK'.out _ _ (bu) (fun hHeld => ?_)
      clear hK' KK
      try simp only [List.setIfInBounds_toArray, List.set_cons_zero, List.set_cons_succ]
      refine wpAnyH_take (i := 6) (v := .tuple #[.int .i64 S, .bool b]) rfl (by kernel_rfl) (by kernel_rfl) (by kernel_rfl) (fun _ _ _ h => h) (Or.inl ⟨by kernel_rfl, ?_⟩) hHeld ?_
      · intro w' hSw; go_simp
      try simp only [Act.put, List.setIfInBounds_toArray, List.set_cons_zero, List.set_cons_succ, List.getElem_toArray, List.getElem_cons_succ, List.getElem_cons_zero]
      refine wpAnyH_take (i := 7) (v := .int .i64 (S)) rfl (by kernel_rfl) (by kernel_rfl) (by kernel_rfl) (fun _ _ _ h => h) (Or.inl ⟨by kernel_rfl, ?_⟩) hHeld ?_
      · intro w' hSw; go_simp
      try simp only [Act.put, List.setIfInBounds_toArray, List.set_cons_zero, List.set_cons_succ, List.getElem_toArray, List.getElem_cons_succ, List.getElem_cons_zero]
      refine wpAnyH_take (i := 8) (v := .bool b) rfl (by kernel_rfl) (by kernel_rfl) (by kernel_rfl) (fun _ _ _ h => h) (Or.inl ⟨by kernel_rfl, ?_⟩) hHeld ?_
      · intro w' hSw; go_simp
      try simp only [Act.put, List.setIfInBounds_toArray, List.set_cons_zero, List.set_cons_succ, List.getElem_toArray, List.getElem_cons_succ, List.getElem_cons_zero]
      refine wpAnyH_take (i := 9) (v := .int .i64 (S)) rfl (by kernel_rfl) (by kernel_rfl) (by kernel_rfl) (fun _ _ _ h => h) (Or.inl ⟨by kernel_rfl, ?_⟩) hHeld ?_
      · intro w' hSw; go_simp
      try simp only [Act.put, List.setIfInBounds_toArray, List.set_cons_zero, List.set_cons_succ, List.getElem_toArray, List.getElem_cons_succ, List.getElem_cons_zero]
      refine wpAnyH_take (i := 10) (v := .bool b) rfl (by kernel_rfl) (by kernel_rfl) (by kernel_rfl) (fun _ _ _ h => h) (Or.inl ⟨by kernel_rfl, ?_⟩) hHeld ?_
      · intro w' hSw; go_simp
      try simp only [Act.put, List.setIfInBounds_toArray, List.set_cons_zero, List.set_cons_succ, List.getElem_toArray, List.getElem_cons_succ, List.getElem_cons_zero]
      refine wpAnyH_done (by kernel_rfl) ?_ _
      clear hHeld
      have bz := bk0.trans (Below.mono bu bk0.size)
      clear bu bk0
      obtain ⟨wz, hwz⟩ : ∃ W, W = u2 := ⟨_, rfl⟩
      subst hwz
      cases b
      · have hno : ¬ (∀ j, j < m6 → fitN N (goN N A i j)) := by
          rcases HSB.out with ⟨h, -⟩ | ⟨-, h⟩
          · cases h
          · exact h
        have HNO : Hid (¬ avO N len m6 A f) := fun h => hno (h.2.2 i hlt)
        have A2 := hid_of (A2r.out.below bz)
        have HB := hid_of (HBr.out.trans (bz.mono HBr.out.size))
        obtain ⟨d0, d1, f0, f1⟩ := A2.out.open2
        clear hno HSB bz A1u A1r
        go_wp2
        have a9 : At 26 ((wz.setCell ⟨q4, 0, none⟩ (.int .i64 0)).setCell ⟨q4, 1, none⟩ (.slice none 0 0)) q4 #[.int .i64 0, .slice none 0 0] := by simpa using (A2.out.set 0 (.int .i64 0)).set 1 (.slice none 0 0)
        obtain ⟨p0, p1, -⟩ := a9.open2
        exact bodyPost_ret (v := mV 0 (.slice none 0 0)) (by simp [results, Tryz.results8, go_sem, p0, p1]) rfl ⟨⟨_, rfl, .inr ⟨HNO.out, rfl⟩⟩, (HB.out.setCell (p := ⟨q4, 0, none⟩) hwq _).setCell (p := ⟨q4, 1, none⟩) hwq _⟩
      · obtain ⟨hS, hgd⟩ : S = avL N A f i (List.range m6) ∧ ∀ j, j < m6 → fitN N (goN N A i j) := by
          rcases HSB.out with ⟨-, h, h2⟩ | ⟨h, -⟩
          · exact ⟨h2, h⟩
          · cases h
        have hSb := avL_le HSD.out HMO.out.2.1 HMO.out.2.2 (A := A) (k := i) (List.range m6)
        rw [← hS, List.length_range] at hSb
        obtain ⟨o0, o1, -⟩ := (A7r.out.below bz).open2
        have M9 : Made wz go len i (avF N m6 A f) := by
          obtain ⟨cur, a, h1⟩ := M.out
          exact ⟨cur, a.below bz, h1⟩
        have hS0 : 0 ≤ S := hSb.1
        have hS1 : S ≤ 2359296 := by omega
        have hp1 : 0 ≤ S * sh ∧ S * sh ≤ 2359296 * 12288 := ⟨Int.mul_nonneg hS0 hsh.1, Int.mul_le_mul hS1 (by omega) hsh.1 (by omega)⟩
        have hw1 : IntKind.i64.wrap (S * sh) = S * sh := by rw [IntKind.wrap_i64]; omega
        have ht1 : Int.tmod (S * sh) 12289 = S * sh % 12289 := Int.tmod_eq_emod_of_nonneg hp1.1
        have hav : S * sh % 12289 = avF N m6 A f i := by unfold avF; rw [← hS, HSH.out]
        obtain ⟨kO, fO⟩ := M9.open hlt
        have HM9 := hid_of (M9.set hlt)
        obtain ⟨av, hav2⟩ : ∃ x, avF N m6 A f i = x := ⟨_, rfl⟩
        rw [hav2] at HM9 hav
        rw [hav] at ht1
        have HK9 : Hid (Kept go W7 (wz.setCell ⟨go, i, none⟩ (.int .i64 av))) := (K.out.trans (Kept.of_below bz)).set _
        have HG9 : Hid (∀ k, k < i + 1 → ∀ j, j < m6 → fitN N (goN N A k j)) := fun k hk j hj => by
          by_cases e : k = i
          · subst e; exact hgd j hj
          · exact HGD.out k (by omega) j hj
        clear hS hgd hSb hp1 hav hav2 M9 HSB bz A1u A1r
        go_wp2
        exact ⟨⟨i + 1, by omega, by go_num, HM9, HK9, HG9⟩, by simp [intOf]; omega⟩
    · obtain rfl : i = len := by omega
      have hlt' : ¬ (i : Int) < (i : Int) := by omega
      obtain ⟨o0, o1, -⟩ := A7r.out.open2
      obtain ⟨d0, d1, f0, f1⟩ := A2r.out.open2
      clear A1r
      go_wp2
      have a9 : At 26 ((wr.setCell ⟨q4, 0, none⟩ (.int .i64 N)).setCell ⟨q4, 1, none⟩ (.slice (some ⟨go, 0, none⟩) i i)) q4 #[.int .i64 N, .slice (some ⟨go, 0, none⟩) i i] := by simpa using (A2r.out.set 0 (.int .i64 N)).set 1 (.slice (some ⟨go, 0, none⟩) i i)
      obtain ⟨p0, p1, -⟩ := a9.open2
      have hk4 : Kept q4 wr ((wr.setCell ⟨q4, 0, none⟩ (.int .i64 N)).setCell ⟨q4, 1, none⟩ (.slice (some ⟨go, 0, none⟩) i i)) := ((Kept.refl _ _).set _).set _
      have hMf := M.out.kp hk4 (by omega)
      exact bodyPost_ret (v := mV N (.slice (some ⟨go, 0, none⟩) i i)) (by simp [results, Tryz.results8, go_sem, p0, p1]) rfl ⟨⟨_, rfl, .inl ⟨⟨HMO.out, HG.out, HGD.out⟩, _, rfl, .inr ⟨go, i, rfl, hwgo, hMf.lt, ⟨Nat.le_refl _, by unfold maxLen; omega⟩, hMf⟩⟩⟩, HBr.out.trans (hk4.below hwq HBr.out.size)⟩
end Go.Proofs.YtiocneailhplkaaGreat
