/-
  Pairs that add up, by the program: walked.
-/
import Derived.Test.YtpelbbkkdmlmiaaT15c
namespace Go.Proofs.Ytpelbbkkdmlmiaa
open Go.RowKit

def Kb (V w : World) : Prop := Below V.heap.size V w
theorem addsB (f : Nat → Int) (a b c : Int) (i k : Nat) : adds f a b c i k = (f (k * 4) + f (i * 4) == a && (f (k * 4 + 1) + f (i * 4 + 1) == b && f (k * 4 + 2) + f (i * 4 + 2) == c)) := by
  rw [Bool.eq_iff_iff]
  simp [adds]
set_option maxRecDepth 100000 in
set_option maxHeartbeats 3200000 in
theorem implPairs_any {w : World} {g n cap : Nat} {f : Nat → Int} (a b c : Int) (h : Recs 4 w g n f) (ok : SgOk n f) (hcap : n ≤ cap) :
    Calls Try.prog 30 #[.slice (some ⟨g, 0, none⟩) n cap, hV a b c] w fun e w' => e = .returned (.tuple #[.int .i64 (pl f n a b c : Int), .int .i64 (mi f n a b c : Int)]) ∧ Below w.heap.size w w' := by
  have hn60 := ok.1
  have hn' : (n : Int) ≤ 60 := by omega
  obtain ⟨W1, hW1, a1, B1, -⟩ := boxed w 33 #[.int .i64 a, .int .i64 b, .int .i64 c]
  have h1 := h.below B1
  obtain ⟨q, hq⟩ : ∃ q, w.heap.size = q := ⟨_, rfl⟩
  rw [hq] at a1
  clear h
  go_enter Try.func30, Try.ntmps30
  go_wp2
  clear hq hW1
  go_loopw [6, 7, 14] (fun s t u wr => ∃ i : Nat, i ≤ n ∧ s = .int .i64 (ds (pP f a b c) i : Int) ∧ t = .int .i64 (ds (pM f a b c) i : Int) ∧ u = .int .i64 (i : Int) ∧ At 33 wr q #[.int .i64 a, .int .i64 b, .int .i64 c] ∧ Recs 4 wr g n f ∧ Below w.heap.size w wr) (fun _ _ u _ => n - (intOf u).toNat)
  case atStart => exact ⟨0, Nat.zero_le _, rfl, rfl, rfl, a1, h1, B1⟩
  case round =>
    clear a1 h1 B1
    obtain ⟨i, hi, rfl, rfl, rfl, a1, h1, B1⟩ := hrel
    by_cases hin : i < n
    · have hin' : (i : Int) < (n : Int) := by omega
      have hic : (i : Int) ≤ (cap : Int) := by omega
      obtain ⟨c0, c1, c2, c3⟩ := Signed3.open h1 i hin
      obtain ⟨V1, hV1, m1, bb1, -⟩ := boxed wr 49 #[.int .i64 (f (i * 4)), .int .i64 (f (i * 4 + 1)), .int .i64 (f (i * 4 + 2)), .int .i64 (f (i * 4 + 3))]
      obtain ⟨r1, hr1⟩ : ∃ r, wr.heap.size = r := ⟨_, rfl⟩
      rw [hr1] at m1
      replace h1 := h1.below bb1
      replace a1 := a1.below bb1
      replace B1 := B1.trans (bb1.mono B1.size)
      obtain ⟨X, hX⟩ : ∃ X, ds (pP f a b c) i = X := ⟨_, rfl⟩
      obtain ⟨Y, hY⟩ : ∃ Y, ds (pM f a b c) i = Y := ⟨_, rfl⟩
      have HX : Hid (ds (pP f a b c) i = X) := hX
      have HY : Hid (ds (pM f a b c) i = Y) := hY
      have bX : X ≤ 3600 := by rw [← hX]; exact Nat.le_trans (ds_le _ _) (Nat.mul_le_mul (Nat.le_trans hi hn60) (Nat.le_trans hi hn60))
      have bY : Y ≤ 3600 := by rw [← hY]; exact Nat.le_trans (ds_le _ _) (Nat.mul_le_mul (Nat.le_trans hi hn60) (Nat.le_trans hi hn60))
      rw [hX, hY]
      clear hX hY bb1
      go_wp2
      clear c0 c1 c2 c3 hV1 hr1
      go_loopw [6, 7, 23] (fun s t u wr => ∃ k : Nat, k ≤ i ∧ s = .int .i64 ((X + cs (pP f a b c i) k : Nat) : Int) ∧ t = .int .i64 ((Y + cs (pM f a b c i) k : Nat) : Int) ∧ u = .int .i64 (k : Int) ∧ At 33 wr q #[.int .i64 a, .int .i64 b, .int .i64 c] ∧ At 49 wr r1 #[.int .i64 (f (i * 4)), .int .i64 (f (i * 4 + 1)), .int .i64 (f (i * 4 + 2)), .int .i64 (f (i * 4 + 3))] ∧ Recs 4 wr g n f ∧ Below w.heap.size w wr) (fun _ _ u _ => i - (intOf u).toNat)
      case atStart => exact ⟨0, Nat.zero_le _, rfl, rfl, rfl, a1, m1, h1, B1⟩
      case round =>
        clear a1 m1 h1 B1
        obtain ⟨k, hk, rfl, rfl, rfl, a1, m1, h1, B1⟩ := hrel
        have E1 : cs (pP f a b c i) (k + 1) = cs (pP f a b c i) k + if pP f a b c i k then 1 else 0 := rfl
        have E2 : cs (pM f a b c i) (k + 1) = cs (pM f a b c i) k + if pM f a b c i k then 1 else 0 := rfl
        have b1 := cs_le (pP f a b c i) k
        have b2 := cs_le (pM f a b c i) k
        obtain ⟨X2, hX2⟩ : ∃ X2, cs (pP f a b c i) k = X2 := ⟨_, rfl⟩
        obtain ⟨Y2, hY2⟩ : ∃ Y2, cs (pM f a b c i) k = Y2 := ⟨_, rfl⟩
        rw [hX2] at E1 b1 ⊢
        rw [hY2] at E2 b2 ⊢
        by_cases hki : k < i
        · have hki' : (k : Int) < (i : Int) := by omega
          have hkn : k < n := by omega
          have K1 := ok.hk hin
          have K2 := ok.hk hkn
          obtain ⟨d0, d1, d2, d3⟩ := Signed3.open h1 k hkn
          have EA := addsB f a b c i k
          have EP : pP f a b c i k = (adds f a b c i k && (f (k * 4 + 3) == f (i * 4 + 3))) := rfl
          have EM : pM f a b c i k = (adds f a b c i k && !(f (k * 4 + 3) == f (i * 4 + 3))) := rfl
          obtain ⟨x0, hx0⟩ : ∃ x, f (i * 4) = x := ⟨_, rfl⟩
          obtain ⟨x1, hx1⟩ : ∃ x, f (i * 4 + 1) = x := ⟨_, rfl⟩
          obtain ⟨x2, hx2⟩ : ∃ x, f (i * 4 + 2) = x := ⟨_, rfl⟩
          obtain ⟨x3, hx3⟩ : ∃ x, f (i * 4 + 3) = x := ⟨_, rfl⟩
          obtain ⟨y0, hy0⟩ : ∃ x, f (k * 4) = x := ⟨_, rfl⟩
          obtain ⟨y1, hy1⟩ : ∃ x, f (k * 4 + 1) = x := ⟨_, rfl⟩
          obtain ⟨y2, hy2⟩ : ∃ x, f (k * 4 + 2) = x := ⟨_, rfl⟩
          obtain ⟨y3, hy3⟩ : ∃ x, f (k * 4 + 3) = x := ⟨_, rfl⟩
          rw [hx3, hy3] at EP EM
          rw [hx0, hx1, hx2, hy0, hy1, hy2] at EA
          rw [EP] at E1
          rw [EM] at E2
          have hm1 : Hid (#[Value.int .i64 (f (i * 4)), .int .i64 (f (i * 4 + 1)), .int .i64 (f (i * 4 + 2)), .int .i64 (f (i * 4 + 3))] = #[.int .i64 x0, .int .i64 x1, .int .i64 x2, .int .i64 x3]) := by
            show _ = _
            rw [hx0, hx1, hx2, hx3]
          rw [hm1.out] at m1
          rw [hx0, hx1, hx2] at K1
          rw [hy0, hy1, hy2] at K2
          rw [hy0] at d0
          rw [hy1] at d1
          rw [hy2] at d2
          rw [hy3] at d3
          clear hx0 hx1 hx2 hx3 hy0 hy1 hy2 hy3 EP EM
          obtain ⟨V2, hV2, m2, bb2, -⟩ := boxed wr 49 #[.int .i64 y0, .int .i64 y1, .int .i64 y2, .int .i64 y3]
          obtain ⟨r2, hr2⟩ : ∃ r, wr.heap.size = r := ⟨_, rfl⟩
          rw [hr2] at m2
          replace h1 := h1.below bb2
          replace a1 := a1.below bb2
          replace m1 := m1.below bb2
          replace B1 := B1.trans (bb2.mono B1.size)
          obtain ⟨ad, had⟩ : ∃ ad, adds f a b c i k = ad := ⟨_, rfl⟩
          rw [had] at E1 E2 EA
          have bnd : X + X2 ≤ 4000 ∧ Y + Y2 ≤ 4000 := by omega
          clear had bb2
          go_wp2_with fail
          clear d0 d1 d2 d3 hV2 hr2
          obtain ⟨u0, hu0, bb⟩ : ∃ uu, V2.drew = uu ∧ Below V2.heap.size V2 uu := ⟨_, rfl, (Below.refl _ _).drew⟩
          replace h1 := h1.below bb
          replace a1 := a1.below bb
          replace m1 := m1.below bb
          replace m2 := m2.below bb
          replace B1 := B1.trans (bb.mono B1.size)
          clear bb
          refine wp_region_held_drew (S := Kb u0) (by kernel_rfl) (by rw [hu0]; exact Below.refl _ _) (fun hHeld => ?_)
          rw [hu0] at hHeld ⊢
          clear hu0
          have bu : Kb u0 u0 := Below.refl _ _
          change wpAnyH _ _ _ _ _ 7 #[false, false, false, false, false, false, false] _ _
          refine wpAnyH_take (i := 0) (v := .agg #[.int .i64 (y0), .int .i64 (y1), .int .i64 (y2), .int .i64 (y3)]) rfl (by kernel_rfl) (by kernel_rfl) (by kernel_rfl) (fun _ _ _ h => h) (Or.inl ⟨by kernel_rfl, ?_⟩) hHeld ?_
          · intro w' hSw; obtain ⟨z0, z1, z2, z3, -⟩ := (m2.below hSw).open4; go_simp
          try simp only [Act.put, List.setIfInBounds_toArray, List.set_cons_zero, List.set_cons_succ, List.getElem_toArray, List.getElem_cons_zero]
          refine wpAnyH_take (i := 2) (v := .agg #[.int .i64 (x0), .int .i64 (x1), .int .i64 (x2), .int .i64 (x3)]) rfl (by kernel_rfl) (by kernel_rfl) (by kernel_rfl) (fun _ _ _ h => h) (Or.inl ⟨by kernel_rfl, ?_⟩) hHeld ?_
          · intro w' hSw; obtain ⟨z0, z1, z2, z3, -⟩ := (m1.below hSw).open4; go_simp
          try simp only [Act.put, List.setIfInBounds_toArray, List.set_cons_zero, List.set_cons_succ, List.getElem_toArray, List.getElem_cons_succ, List.getElem_cons_zero]
          refine wpAnyH_take (i := 5) (v := .agg #[.int .i64 (a), .int .i64 (b), .int .i64 (c)]) rfl (by kernel_rfl) (by kernel_rfl) (by kernel_rfl) (fun _ _ _ h => h) (Or.inl ⟨by kernel_rfl, ?_⟩) hHeld ?_
          · intro w' hSw; obtain ⟨z0, z1, z2, -⟩ := (a1.below hSw).open3; go_simp
          try simp only [Act.put, List.setIfInBounds_toArray, List.set_cons_zero, List.set_cons_succ, List.getElem_toArray, List.getElem_cons_succ, List.getElem_cons_zero]
          refine wpAnyH_ready (rs := [1]) (by kernel_rfl) (by simp) ?_
          refine AllReadyH.cons rfl (fun KK hK' => ?_) AllReadyH.nil
          go_simp
          refine (hkl_any _ _ _ _ _).mono ?_
          rintro e u1 ⟨rfl, bb⟩
          replace B1 := B1.trans (bb.mono B1.size)
          replace h1 := h1.below bb
          replace a1 := a1.below bb
          replace m1 := m1.below bb
          replace m2 := m2.below bb
          replace bu : Kb u0 u1 := bu.trans (bb.mono bu.size)
          clear bb
          try go_wp2_with fail
          clear hHeld
          refine hK'.out _ _ (bu) (fun hHeld => ?_)
          clear hK' KK
          try simp only [List.setIfInBounds_toArray, List.set_cons_zero, List.set_cons_succ]
          refine wpAnyH_ready (rs := [3]) (by kernel_rfl) (by simp) ?_
          refine AllReadyH.cons rfl (fun KK hK' => ?_) AllReadyH.nil
          go_simp
          refine (hkl_any _ _ _ _ _).mono ?_
          rintro e u2 ⟨rfl, bb⟩
          replace B1 := B1.trans (bb.mono B1.size)
          replace h1 := h1.below bb
          replace a1 := a1.below bb
          replace m1 := m1.below bb
          replace m2 := m2.below bb
          replace bu : Kb u0 u2 := bu.trans (bb.mono bu.size)
          clear bb
          try go_wp2_with fail
          clear hHeld
          refine hK'.out _ _ (bu) (fun hHeld => ?_)
          clear hK' KK
          try simp only [List.setIfInBounds_toArray, List.set_cons_zero, List.set_cons_succ]
          refine wpAnyH_ready (rs := [4]) (by kernel_rfl) (by simp) ?_
          refine AllReadyH.cons rfl (fun KK hK' => ?_) AllReadyH.nil
          go_simp
          refine (plus_any3 K2 K1 _).mono ?_
          rintro e u3 ⟨rfl, bb⟩
          replace B1 := B1.trans (bb.mono B1.size)
          replace h1 := h1.below bb
          replace a1 := a1.below bb
          replace m1 := m1.below bb
          replace m2 := m2.below bb
          replace bu : Kb u0 u3 := bu.trans (bb.mono bu.size)
          clear bb
          try go_wp2_with fail
          clear hHeld
          refine hK'.out _ _ (bu) (fun hHeld => ?_)
          clear hK' KK
          try simp only [List.setIfInBounds_toArray, List.set_cons_zero, List.set_cons_succ]
          refine wpAnyH_take (i := 6) (v := .bool ((!ad))) rfl (by kernel_rfl) (by kernel_rfl) (by kernel_rfl) (fun _ _ _ h => h) (Or.inl ⟨by kernel_rfl, ?_⟩) hHeld ?_
          · intro w' hSw; rw [EA]; go_simp; split <;> (try split) <;> (try split) <;> simp_all
          try simp only [Act.put, List.setIfInBounds_toArray, List.set_cons_zero, List.set_cons_succ, List.getElem_toArray, List.getElem_cons_succ, List.getElem_cons_zero]
          refine wpAnyH_done (by kernel_rfl) ?_ _
          clear hHeld
          cases ad
          · simp only [Bool.false_and, Bool.false_eq_true, if_false, Nat.add_zero] at E1 E2
            have H1 : Hid (cs (pP f a b c i) (k + 1) = X2) := E1
            have H2 : Hid (cs (pM f a b c i) (k + 1) = Y2) := E2
            clear E1 E2 hX2 hY2 EA
            go_wp2
            exact ⟨⟨k + 1, by omega, by rw [H1.out]; go_num, by rw [H2.out]; go_num, by go_num, a1, by rw [hm1.out]; exact m1, h1, B1⟩, by simp [intOf]; omega⟩
          · obtain ⟨k0, k1, k2, k3, -⟩ := Signed3.box m1
            obtain ⟨l0, l1, l2, l3, -⟩ := Signed3.box m2
            by_cases hs : y3 = x3
            · have hs' : (y3 == x3) = true := by simpa using hs
              rw [hs'] at E1 E2
              simp only [Bool.true_and, if_true, Bool.not_true, Bool.false_eq_true, if_false, Nat.add_zero] at E1 E2
              have H1 : Hid (cs (pP f a b c i) (k + 1) = X2 + 1) := E1
              have H2 : Hid (cs (pM f a b c i) (k + 1) = Y2) := E2
              clear E1 E2 hX2 hY2 EA hs
              go_wp2
              exact ⟨⟨k + 1, by omega, by rw [H1.out]; go_num, by rw [H2.out]; go_num, by go_num, a1, by rw [hm1.out]; exact m1, h1, B1⟩, by simp [intOf]; omega⟩
            · have hs' : (y3 == x3) = false := by simpa using hs
              rw [hs'] at E1 E2
              simp only [Bool.true_and, if_true, Bool.not_false, Bool.false_eq_true, if_false, Nat.add_zero] at E1 E2
              have H1 : Hid (cs (pP f a b c i) (k + 1) = X2) := E1
              have H2 : Hid (cs (pM f a b c i) (k + 1) = Y2 + 1) := E2
              clear E1 E2 hX2 hY2 EA hs
              go_wp2
              exact ⟨⟨k + 1, by omega, by rw [H1.out]; go_num, by rw [H2.out]; go_num, by go_num, a1, by rw [hm1.out]; exact m1, h1, B1⟩, by simp [intOf]; omega⟩
        · have hki' : ¬ (k : Int) < (i : Int) := by omega
          obtain rfl : k = i := by omega
          go_wp2
          refine ⟨⟨k + 1, by omega, ?_, ?_, by go_num, a1, h1, B1⟩, by simp [intOf]; omega⟩
          · rw [ds, HX.out, hX2]
          · rw [ds, HY.out, hY2]
    · have hin' : ¬ (i : Int) < (n : Int) := by omega
      obtain rfl : i = n := by omega
      go_wp2
      exact bodyPost_ret (v := .tuple #[.int .i64 (pl f i a b c : Int), .int .i64 (mi f i a b c : Int)]) (by simp [results, Try.results30, go_sem, pl, mi]) rfl ⟨rfl, B1⟩
end Go.Proofs.Ytpelbbkkdmlmiaa
