/-
  A turned group, turned back: walked.
-/
import Derived.Test.YtpolnkjmojofoaaGreatNT
import Derived.Test.YtpolnkjmojofoaaGreatNU
import Derived.Test.YtpolnkjmojofoaaGreatNQ
import Derived.Test.YtpolnkjmojofoaaGreatNR
import Derived.Test.YtpolnkjmojofoaaGreatNV
import Derived.Test.YtpolnkjmojofoaaGreatNS
import Derived.Test.YtpolnkjmojofoaaGreatMN
import Derived.Test.YtpolnkjmojofoaaGreatNN
import Derived.BigRegion
namespace Go.Proofs.YtpolnkjmojofoaaGreat
open Go.RowKit

set_option maxRecDepth 100000 in
set_option maxHeartbeats 3000000 in
theorem sameOps_true {w : World} {g1 g2 n c1 c2 : Nat} {A1 A2 : Nat → OpD} (h1 : OpsL w g1 n A1) (h2 : OpsL w g2 n A2) (k1 : ∀ i, i < n → (A1 i).n = 9 ∧ (A1 i).k = 3) (k2 : ∀ i, i < n → (A2 i).n = 9 ∧ (A2 i).k = 3) (hs : ∀ i, i < n → (∀ j, j < 9 → (A1 i).f j = (A2 i).f j) ∧ ∀ j, j < 3 → (A1 i).h j = (A2 i).h j) (hn : n ≤ 1048576) :
    Calls Tryz.prog 20 #[.slice (some ⟨g1, 0, none⟩) n c1, .slice (some ⟨g2, 0, none⟩) n c2] w fun e w' => e = .returned (.bool true) ∧ Below w.heap.size w w' := by
  have H1 := hid_of h1
  have H2 := hid_of h2
  have K1 := hid_of k1
  have K2 := hid_of k2
  have HS := hid_of hs
  clear h1 h2 k1 k2 hs
  go_enter Tryz.func20, Tryz.ntmps20
  go_wp2
  go_loopw [5] (fun s wr => ∃ k : Nat, k ≤ n ∧ s = .int .i64 k ∧ Hid (Below w.heap.size w wr)) (fun s _ => n - (intOf s).toNat)
  case atStart => exact ⟨0, Nat.zero_le _, rfl, Below.refl _ _⟩
  case round =>
    obtain ⟨k, hk, rfl, B⟩ := hrel
    by_cases hlt : k < n
    · have hlt' : (k : Int) < (n : Int) := by omega
      have hk0 : (0 : Int) ≤ (k : Int) := by omega
      obtain ⟨xa, xc, xb, xd, f0, f1, s1, s2⟩ := (H1.out.below B.out).2 k hlt
      obtain ⟨ya, yc, yb, yd, f2, f3, s3, s4⟩ := (H2.out.below B.out).2 k hlt
      rw [(K1.out k hlt).1] at f0 s1
      rw [(K1.out k hlt).2] at f1 s2
      rw [(K2.out k hlt).1] at f2 s3
      rw [(K2.out k hlt).2] at f3 s4
      have HL1 := hid_of (H1.out.below B.out)
      have HL2 := hid_of (H2.out.below B.out)
      have S1 := hid_of s1
      have S2 := hid_of s2
      have S3 := hid_of s3
      have S4 := hid_of s4
      clear s1 s2 s3 s4
      go_wp2_with fail
      obtain ⟨u0, hu0, bb⟩ : ∃ uu, wr.drew = uu ∧ Below wr.heap.size wr uu := ⟨_, rfl, (Below.refl _ _).drew⟩
      have bk0 : Kb wr u0 := bb
      clear bb
      refine wp_region_held_drew (S := Kb u0) (by kernel_rfl) (by rw [hu0]; exact Below.refl _ _) (fun hHeld => ?_)
      rw [hu0] at hHeld ⊢
      clear hu0
      have bu : Kb u0 u0 := Below.refl _ _
      change wpAnyH _ _ _ _ _ 10 #[false, false, false, false, false, false, false, false, false, false] _ _
      refine wpAnyH_take (i := 0) (v := .slice ((some ⟨g1, 0, none⟩)) n c1) rfl (by kernel_rfl) (by kernel_rfl) (by kernel_rfl) (fun _ _ _ h => h) (Or.inl ⟨by kernel_rfl, ?_⟩) hHeld ?_
      · intro w' hSw; go_simp
      try simp only [Act.put, List.setIfInBounds_toArray, List.set_cons_zero, List.set_cons_succ, List.getElem_toArray, List.getElem_cons_zero]
      refine wpAnyH_take (i := 1) (v := .int .i64 ((k : Int))) rfl (by kernel_rfl) (by kernel_rfl) (by kernel_rfl) (fun _ _ _ h => h) (Or.inl ⟨by kernel_rfl, ?_⟩) hHeld ?_
      · intro w' hSw; go_simp
      try simp only [Act.put, List.setIfInBounds_toArray, List.set_cons_zero, List.set_cons_succ, List.getElem_toArray, List.getElem_cons_succ, List.getElem_cons_zero]
      refine wpAnyH_take (i := 2) (v := .pointer (some ⟨g1, k * 2, none⟩)) rfl (by kernel_rfl) (by kernel_rfl) (by kernel_rfl) (fun _ _ _ h => h) (Or.inl ⟨by kernel_rfl, ?_⟩) hHeld ?_
      · intro w' hSw; go_simp
      try simp only [Act.put, List.setIfInBounds_toArray, List.set_cons_zero, List.set_cons_succ, List.getElem_toArray, List.getElem_cons_succ, List.getElem_cons_zero]
      refine wpAnyH_take (i := 3) (v := .agg #[.slice xa 9 xc, .slice xb 3 xd]) rfl (by kernel_rfl) (by kernel_rfl) (by kernel_rfl) (fun _ _ _ h => h) (Or.inl ⟨by kernel_rfl, ?_⟩) hHeld ?_
      · intro w' hSw; have z0 := OpsL.cell HL1.out (bk0.trans (Below.mono hSw bk0.size)) f0; have z1 := OpsL.cell HL1.out (bk0.trans (Below.mono hSw bk0.size)) f1; go_simp
      try simp only [Act.put, List.setIfInBounds_toArray, List.set_cons_zero, List.set_cons_succ, List.getElem_toArray, List.getElem_cons_succ, List.getElem_cons_zero]
      refine wpAnyH_take (i := 4) (v := .slice ((some ⟨g2, 0, none⟩)) n c2) rfl (by kernel_rfl) (by kernel_rfl) (by kernel_rfl) (fun _ _ _ h => h) (Or.inl ⟨by kernel_rfl, ?_⟩) hHeld ?_
      · intro w' hSw; go_simp
      try simp only [Act.put, List.setIfInBounds_toArray, List.set_cons_zero, List.set_cons_succ, List.getElem_toArray, List.getElem_cons_succ, List.getElem_cons_zero]
      refine wpAnyH_take (i := 5) (v := .int .i64 ((k : Int))) rfl (by kernel_rfl) (by kernel_rfl) (by kernel_rfl) (fun _ _ _ h => h) (Or.inl ⟨by kernel_rfl, ?_⟩) hHeld ?_
      · intro w' hSw; go_simp
      try simp only [Act.put, List.setIfInBounds_toArray, List.set_cons_zero, List.set_cons_succ, List.getElem_toArray, List.getElem_cons_succ, List.getElem_cons_zero]
      refine wpAnyH_take (i := 6) (v := .pointer (some ⟨g2, k * 2, none⟩)) rfl (by kernel_rfl) (by kernel_rfl) (by kernel_rfl) (fun _ _ _ h => h) (Or.inl ⟨by kernel_rfl, ?_⟩) hHeld ?_
      · intro w' hSw; go_simp
      try simp only [Act.put, List.setIfInBounds_toArray, List.set_cons_zero, List.set_cons_succ, List.getElem_toArray, List.getElem_cons_succ, List.getElem_cons_zero]
      refine wpAnyH_take (i := 7) (v := .agg #[.slice ya 9 yc, .slice yb 3 yd]) rfl (by kernel_rfl) (by kernel_rfl) (by kernel_rfl) (fun _ _ _ h => h) (Or.inl ⟨by kernel_rfl, ?_⟩) hHeld ?_
      · intro w' hSw; have z0 := OpsL.cell HL2.out (bk0.trans (Below.mono hSw bk0.size)) f2; have z1 := OpsL.cell HL2.out (bk0.trans (Below.mono hSw bk0.size)) f3; go_simp
      try simp only [Act.put, List.setIfInBounds_toArray, List.set_cons_zero, List.set_cons_succ, List.getElem_toArray, List.getElem_cons_succ, List.getElem_cons_zero]
      refine wpAnyH_ready (rs := [8]) (by kernel_rfl) (by simp) ?_
      refine AllReadyH.cons rfl (fun KK hK' => ?_) AllReadyH.nil
      go_simp
      refine (sameOp_true (S1.out.below (bk0.trans (Below.mono bu bk0.size))) (S3.out.below (bk0.trans (Below.mono bu bk0.size))) (S2.out.below (bk0.trans (Below.mono bu bk0.size))) (S4.out.below (bk0.trans (Below.mono bu bk0.size))) (HS.out k hlt).1 (HS.out k hlt).2 (by omega) (by omega)).mono ?_
      rintro e u1 ⟨rfl, bb⟩
      replace bu : Kb u0 u1 := bu.trans (bb.mono bu.size)
      clear bb
      try go_wp2_with fail
      clear hHeld
      refine hK'.out _ _ (bu) (fun hHeld => ?_)
      clear hK' KK
      try simp only [List.setIfInBounds_toArray, List.set_cons_zero, List.set_cons_succ]
      refine wpAnyH_take (i := 9) (v := .bool false) rfl (by kernel_rfl) (by kernel_rfl) (by kernel_rfl) (fun _ _ _ h => h) (Or.inl ⟨by kernel_rfl, ?_⟩) hHeld ?_
      · intro w' hSw; go_simp
      try simp only [Act.put, List.setIfInBounds_toArray, List.set_cons_zero, List.set_cons_succ, List.getElem_toArray, List.getElem_cons_succ, List.getElem_cons_zero]
      refine wpAnyH_done (by kernel_rfl) ?_ _
      clear hHeld
      have bz := bk0.trans (Below.mono bu bk0.size)
      replace B := hid_of (B.out.trans (bz.mono B.out.size))
      clear bu bk0 bz HL1 HL2 S1 S2 S3 S4 f0 f1 f2 f3
      go_wp2
      exact ⟨⟨k + 1, by omega, by go_num, B⟩, by simp [intOf]; omega⟩
    · have hlt' : ¬ (k : Int) < (n : Int) := by omega
      go_wp2
      go_ret
      exact ⟨rfl, B.out⟩
theorem TurG.open {w w' : World} {e : Ending} (h : TurG w e w') : ∃ (g n c : Nat) (A : Nat → OpD) (a b : Option Addr) (c1 c2 N K : Nat) (f h : Nat → Int), e = .returned (.tuple #[.slice (some ⟨g, 0, none⟩) n c, .agg #[.slice a N c1, .slice b K c2]]) ∧ n ≤ 193 ∧ OpsL w' g n A ∧ (∀ i, i < n → (A i).n ≤ 9 ∧ (A i).k ≤ 9) ∧ Src w' a N f ∧ Src w' b K h ∧ (N ≤ 9 ∧ K ≤ 9) ∧ Below w.heap.size w w' := by
  obtain ⟨g, n, c, A, a, b, c1, c2, ⟨N, f, K, h⟩, h⟩ := h
  exact ⟨g, n, c, A, a, b, c1, c2, N, K, f, _, h⟩
set_option maxRecDepth 100000 in
set_option maxHeartbeats 6400000 in
theorem turned_walk {w : World} {a : Option Addr} {len cap : Nat} (hr : Row w w.heap.size a len) :
    Calls Tryz.prog 4 #[.slice a len cap] w fun e w' => e = .returned (.bool true) ∧ Below w.heap.size w w' := by
  go_enter Tryz.func4, Tryz.ntmps4
  go_wp2_with fail
  refine (big_any a len cap w hr.1).mono ?_
  rintro e w' ⟨rfl, rfl⟩
  by_cases hb : 1048576 < len
  · simp only [decide_eq_true hb]
    go_wp2
    go_ret
    exact ⟨rfl, Below.refl _ _⟩
  simp only [decide_eq_false hb]
  go_wp2_with fail
  refine (drawTurned_any hr).mono ?_
  rintro e w1 TG
  obtain ⟨g, n, c, A, a4, b4, c4, d4, N, K, f, h, rfl, hn, L, LN, s1, s2, ⟨hN, hK⟩, B⟩ := TG.open
  have hn2 : n ≤ 200 := by omega
  obtain ⟨V1, hV1, x4, bb, -⟩ := boxed w1 31 #[.slice a4 N c4, .slice b4 K d4]
  obtain ⟨q4, hq4⟩ : ∃ q, w1.heap.size = q := ⟨_, rfl⟩
  rw [hq4] at x4
  have H4 := hid_of x4
  have HL := hid_of (L.below bb)
  have HS1 := hid_of (s1.below bb)
  have HS2 := hid_of (s2.below bb)
  have HB := hid_of (B.trans (bb.mono B.size))
  have HLN := hid_of LN
  obtain ⟨d0, d1, -⟩ := x4.open2
  clear hr hb L B x4 bb s1 s2 LN TG
  go_wp2_with fail
  refine (specTurned_any (o := ⟨N, f, K, h⟩) HL.out (by omega) HS1.out HS2.out).mono ?_
  rintro e w2 ⟨⟨g2, m, c2, bo, H, rfl, R2, S2⟩, b2⟩
  have HH2 := hid_of R2.opsL
  have HT2 := hid_of S2
  replace H4 := hid_of (H4.out.below b2)
  replace HL := hid_of (HL.out.below b2)
  replace HS1 := hid_of (HS1.out.below b2)
  replace HS2 := hid_of (HS2.out.below b2)
  replace HB := hid_of (HB.out.trans (b2.mono HB.out.size))
  clear R2 S2 b2 d0 d1 hV1 hq4
  go_wp2_with fail
  obtain ⟨u0, hu0, bb⟩ : ∃ uu, w2.drew = uu ∧ Below w2.heap.size w2 uu := ⟨_, rfl, (Below.refl _ _).drew⟩
  have bk0 : Kb w2 u0 := bb
  clear bb
  refine wp_region_held_drew (S := Kb u0) (by kernel_rfl) (by rw [hu0]; exact Below.refl _ _) (fun hHeld => ?_)
  rw [hu0] at hHeld ⊢
  clear hu0
  have bu : Kb u0 u0 := Below.refl _ _
  change wpAnyH _ _ _ _ _ 10 #[false, false, false, false, false, false, false, false, false, false] _ _
  refine wpAnyH_take (i := 0) (v := .slice ((some ⟨g, 0, none⟩)) n c) rfl (by kernel_rfl) (by kernel_rfl) (by kernel_rfl) (fun _ _ _ h => h) (Or.inl ⟨by kernel_rfl, ?_⟩) hHeld ?_
  · intro w' hSw; go_simp
  try simp only [Act.put, List.setIfInBounds_toArray, List.set_cons_zero, List.set_cons_succ, List.getElem_toArray, List.getElem_cons_zero]
  refine wpAnyH_take (i := 2) (v := .agg #[.slice a4 N c4, .slice b4 K d4]) rfl (by kernel_rfl) (by kernel_rfl) (by kernel_rfl) (fun _ _ _ h => h) (Or.inl ⟨by kernel_rfl, ?_⟩) hHeld ?_
  · intro w' hSw; obtain ⟨z0, z1, -⟩ := (H4.out.below (bk0.trans (Below.mono hSw bk0.size))).open2; go_simp
  try simp only [Act.put, List.setIfInBounds_toArray, List.set_cons_zero, List.set_cons_succ, List.getElem_toArray, List.getElem_cons_succ, List.getElem_cons_zero]
  refine wpAnyH_ready (rs := [1]) (by kernel_rfl) (by simp) ?_
  refine AllReadyH.cons rfl (fun KK hK' => ?_) AllReadyH.nil
  go_simp
  refine (copyOpsZ_any (HL.out.below (bk0.trans (Below.mono bu bk0.size))) hn2 HLN.out).mono ?_
  rintro e u1 ⟨⟨g6, c6, rfl, L6⟩, bb⟩
  replace bu : Kb u0 u1 := bu.trans (bb.mono bu.size)
  have HL6 := hid_of L6
  clear bb L6
  try go_wp2_with fail
  clear hHeld
  refine hK'.out _ _ (bu) (fun hHeld => ?_)
  clear hK' KK
  try simp only [List.setIfInBounds_toArray, List.set_cons_zero, List.set_cons_succ]
  refine wpAnyH_ready (rs := [3]) (by kernel_rfl) (by simp) ?_
  refine AllReadyH.cons rfl (fun KK hK' => ?_) AllReadyH.nil
  go_simp
  refine (copyOpZ_any (HS1.out.below (bk0.trans (Below.mono bu bk0.size))) (HS2.out.below (bk0.trans (Below.mono bu bk0.size))) (by omega) (by omega)).mono ?_
  rintro e u2 ⟨g7, c7, g8, c8, rfl, t7, t8, bb⟩
  replace HL6 := hid_of (HL6.out.below bb)
  have HS7 := hid_of (made_src' t7)
  have HS8 := hid_of (made_src' t8)
  replace bu : Kb u0 u2 := bu.trans (bb.mono bu.size)
  clear bb t7 t8
  try go_wp2_with fail
  clear hHeld
  refine hK'.out _ _ (bu) (fun hHeld => ?_)
  clear hK' KK
  try simp only [List.setIfInBounds_toArray, List.set_cons_zero, List.set_cons_succ]
  refine wpAnyH_ready (rs := [4]) (by kernel_rfl) (by simp) ?_
  refine AllReadyH.cons rfl (fun KK hK' => ?_) AllReadyH.nil
  go_simp
  refine (implTurned_any (o := ⟨N, f, K, h⟩) HL6.out (by omega) HS7.out HS8.out).mono ?_
  rintro e u3 ⟨⟨g3, m3, c3, bo3, X3, Y3, G3, rfl, OA3, T3⟩, bb⟩
  obtain ⟨ee1, ee2, -⟩ := tur_same T3 HT2.out
  obtain rfl := ee1.symm
  obtain rfl := ee2.symm
  have HO3 := hid_of OA3.opsL
  have HT3 := hid_of T3
  replace bu : Kb u0 u3 := bu.trans (bb.mono bu.size)
  clear bb OA3 T3 HL6 HS7 HS8
  try go_wp2_with fail
  clear hHeld
  refine hK'.out _ _ (bu) (fun hHeld => ?_)
  clear hK' KK
  try simp only [List.setIfInBounds_toArray, List.set_cons_zero, List.set_cons_succ]
  refine wpAnyH_take (i := 5) (v := .tuple #[.slice (some ⟨g3, 0, none⟩) m c3, .bool bo]) rfl (by kernel_rfl) (by kernel_rfl) (by kernel_rfl) (fun _ _ _ h => h) (Or.inl ⟨by kernel_rfl, ?_⟩) hHeld ?_
  · intro w' hSw; go_simp
  try simp only [Act.put, List.setIfInBounds_toArray, List.set_cons_zero, List.set_cons_succ, List.getElem_toArray, List.getElem_cons_succ, List.getElem_cons_zero]
  refine wpAnyH_take (i := 6) (v := .slice ((some ⟨g3, 0, none⟩)) m c3) rfl (by kernel_rfl) (by kernel_rfl) (by kernel_rfl) (fun _ _ _ h => h) (Or.inl ⟨by kernel_rfl, ?_⟩) hHeld ?_
  · intro w' hSw; go_simp
  try simp only [Act.put, List.setIfInBounds_toArray, List.set_cons_zero, List.set_cons_succ, List.getElem_toArray, List.getElem_cons_succ, List.getElem_cons_zero]
  refine wpAnyH_take (i := 7) (v := .bool bo) rfl (by kernel_rfl) (by kernel_rfl) (by kernel_rfl) (fun _ _ _ h => h) (Or.inl ⟨by kernel_rfl, ?_⟩) hHeld ?_
  · intro w' hSw; go_simp
  try simp only [Act.put, List.setIfInBounds_toArray, List.set_cons_zero, List.set_cons_succ, List.getElem_toArray, List.getElem_cons_succ, List.getElem_cons_zero]
  refine wpAnyH_take (i := 8) (v := .slice ((some ⟨g3, 0, none⟩)) m c3) rfl (by kernel_rfl) (by kernel_rfl) (by kernel_rfl) (fun _ _ _ h => h) (Or.inl ⟨by kernel_rfl, ?_⟩) hHeld ?_
  · intro w' hSw; go_simp
  try simp only [Act.put, List.setIfInBounds_toArray, List.set_cons_zero, List.set_cons_succ, List.getElem_toArray, List.getElem_cons_succ, List.getElem_cons_zero]
  refine wpAnyH_take (i := 9) (v := .bool bo) rfl (by kernel_rfl) (by kernel_rfl) (by kernel_rfl) (fun _ _ _ h => h) (Or.inl ⟨by kernel_rfl, ?_⟩) hHeld ?_
  · intro w' hSw; go_simp
  try simp only [Act.put, List.setIfInBounds_toArray, List.set_cons_zero, List.set_cons_succ, List.getElem_toArray, List.getElem_cons_succ, List.getElem_cons_zero]
  refine wpAnyH_done (by kernel_rfl) ?_ _
  clear hHeld
  have bz := bk0.trans (Below.mono bu bk0.size)
  obtain ⟨w5, hw5⟩ : ∃ W, u3 = W := ⟨_, rfl⟩
  rw [hw5] at bz HO3 ⊢
  clear bu bk0 hw5
  replace H4 := hid_of (H4.out.below bz)
  replace HL := hid_of (HL.out.below bz)
  replace HS1 := hid_of (HS1.out.below bz)
  replace HS2 := hid_of (HS2.out.below bz)
  replace HH2 := hid_of (HH2.out.below bz)
  replace HB := hid_of (HB.out.trans (bz.mono HB.out.size))
  cases bo
  · obtain rfl : m = 0 := by
      rcases HT2.out with ⟨h, -⟩ | ⟨-, h, -⟩
      · exact absurd h (by decide)
      · exact h
    go_wp2
    go_ret
    exact ⟨rfl, HB.out⟩
  obtain ⟨T, hmn⟩ : TurOk n A ⟨N, f, K, h⟩ ∧ m = n := by
    rcases HT2.out with ⟨-, h, -, h1, -⟩ | ⟨h, -⟩
    · exact ⟨h1, h⟩
    · exact absurd h (by decide)
  obtain rfl := hmn.symm
  obtain rfl : N = 9 := T.2.1.1
  obtain rfl : K = 3 := T.2.1.2.1
  obtain ⟨-, -, TI3⟩ := turT_I HT3.out
  have hG3 := tur_group T TI3
  have HT := hid_of T
  have HTI := hid_of TI3
  have HG3 := hid_of hG3
  clear T TI3 hG3 hmn
  go_wp2_with fail
  refine (copyOpsZ_any HO3.out hn2 (fun i _ => ⟨by show 9 ≤ 9; omega, by show 3 ≤ 9; omega⟩)).mono ?_
  rintro e w8 ⟨⟨g8, c8, rfl, L8⟩, b8⟩
  replace H4 := hid_of (H4.out.below b8)
  replace HL := hid_of (HL.out.below b8)
  replace HS1 := hid_of (HS1.out.below b8)
  replace HS2 := hid_of (HS2.out.below b8)
  replace HH2 := hid_of (HH2.out.below b8)
  replace HO3 := hid_of (HO3.out.below b8)
  replace HB := hid_of (HB.out.trans (b8.mono HB.out.size))
  clear b8
  go_wp2_with fail
  refine (implGroupOk_any L8 (by omega)).mono ?_
  rintro e w9 ⟨⟨b9, rfl, hg9⟩, b9'⟩
  obtain rfl : b9 = true := hg9.2 HG3.out
  replace H4 := hid_of (H4.out.below b9')
  replace HL := hid_of (HL.out.below b9')
  replace HS1 := hid_of (HS1.out.below b9')
  replace HS2 := hid_of (HS2.out.below b9')
  replace HH2 := hid_of (HH2.out.below b9')
  replace HO3 := hid_of (HO3.out.below b9')
  replace HB := hid_of (HB.out.trans (b9'.mono HB.out.size))
  clear b9' hg9 L8
  obtain ⟨d0, d1, -⟩ := H4.out.open2
  have bk : backOk 9 f 3 h := ⟨⟨rfl, rfl, HT.out.2.1.2.2⟩, HT.out.2.2.1.2.2⟩
  have SB := specBack_any c4 d4 HS1.out HS2.out
  rw [decide_eq_true bk] at SB
  clear bk
  go_wp2_with fail
  refine SB.mono ?_
  rintro e w12 ⟨ob, rfl, ⟨v1, v2, rfl, t1, t2, -⟩, b12⟩
  simp only [if_true] at t1 t2 ⊢
  obtain ⟨x1, l1, rfl, r1⟩ := t1.src
  obtain ⟨x2, l2, rfl, r2⟩ := t2.src
  replace H4 := hid_of (H4.out.below b12)
  replace HL := hid_of (HL.out.below b12)
  replace HS1 := hid_of (HS1.out.below b12)
  replace HS2 := hid_of (HS2.out.below b12)
  replace HH2 := hid_of (HH2.out.below b12)
  replace HO3 := hid_of (HO3.out.below b12)
  replace HB := hid_of (HB.out.trans (b12.mono HB.out.size))
  clear SB d0 d1 t1 t2 b12
  obtain ⟨V12, hV12, x9, bb, -⟩ := boxed w12 31 #[.slice x1 9 l1, .slice x2 3 l2]
  obtain ⟨q9, hq9⟩ : ∃ q, w12.heap.size = q := ⟨_, rfl⟩
  rw [hq9] at x9
  have H9 := hid_of x9
  have HR1 := hid_of (r1.below bb)
  have HR2 := hid_of (r2.below bb)
  replace H4 := hid_of (H4.out.below bb)
  replace HL := hid_of (HL.out.below bb)
  replace HS1 := hid_of (HS1.out.below bb)
  replace HS2 := hid_of (HS2.out.below bb)
  replace HH2 := hid_of (HH2.out.below bb)
  replace HO3 := hid_of (HO3.out.below bb)
  replace HB := hid_of (HB.out.trans (bb.mono HB.out.size))
  obtain ⟨d0, d1, -⟩ := x9.open2
  clear bb x9 r1 r2
  go_wp2_with fail
  refine (specTurned_any (o := ⟨9, backM f, 3, backV f h⟩) HH2.out (by omega) HR1.out HR2.out).mono ?_
  rintro e w13 ⟨⟨g13, m13, c13, bo13, H13, rfl, R13, S13⟩, b13⟩
  replace HL := hid_of (HL.out.below b13)
  replace HO3 := hid_of (HO3.out.below b13)
  replace H9 := hid_of (H9.out.below b13)
  replace HR1 := hid_of (HR1.out.below b13)
  replace HR2 := hid_of (HR2.out.below b13)
  replace HB := hid_of (HB.out.trans (b13.mono HB.out.size))
  clear d0 d1 hV12 hq9 R13 b13
  cases bo13
  · go_wp2
    go_ret
    exact ⟨rfl, HB.out⟩
  obtain ⟨T13, TI13⟩ : TurOk n H (backD ⟨9, f, 3, h⟩) ∧ m13 = n := by
    rcases S13 with ⟨-, h, -, h1, -⟩ | ⟨h, -⟩
    · exact ⟨h1, h⟩
    · exact absurd h (by decide)
  have hkk := (tur_same HT3.out HT2.out).2.2
  have T14 := turOk_keys (E := fun i => opD (G3 i)) T13 (fun i hi => (opD_key (G3 i)).trans (hkk i hi)) (fun i _ => ⟨rfl, rfl⟩)
  have HT14 := hid_of T14
  clear S13 T13 TI13 hkk T14
  obtain ⟨d0, d1, -⟩ := H9.out.open2
  go_wp2_with fail
  refine (implTurned_any (o := ⟨9, backM f, 3, backV f h⟩) HO3.out (by omega) HR1.out HR2.out).mono ?_
  rintro e w16 ⟨⟨g16, m16, c16, bo16, X16, Y16, G16, rfl, OA16, T16⟩, b16⟩
  obtain rfl : bo16 = true := by
    rcases T16 with ⟨h, -⟩ | ⟨-, -, h⟩
    · exact h
    · exact absurd HT14.out h
  obtain ⟨e16, -, TI16⟩ := turT_I T16
  obtain rfl := e16.symm
  have hk := tur_back HT.out HTI.out TI16 HT14.out
  have L16 := hid_of OA16.opsL
  replace HL := hid_of (HL.out.below b16)
  replace HB := hid_of (HB.out.trans (b16.mono HB.out.size))
  clear d0 d1 OA16 T16 b16 e16 TI16
  have CS := hid_of (sameOps_true (c1 := c16) (c2 := c) L16.out HL.out (fun i _ => ⟨rfl, rfl⟩) (fun i hi => ⟨(HT.out.1.2.1 i hi).1, (HT.out.1.2.1 i hi).2.1⟩) (fun i hi => same_nums (hk i hi)) (by omega))
  clear hk
  go_wp2_with fail
  refine CS.out.mono ?_
  rintro e w17 ⟨rfl, b17⟩
  replace HB := hid_of (HB.out.trans (b17.mono HB.out.size))
  clear b17 CS
  go_wp2
  go_ret
  exact ⟨rfl, HB.out⟩
end Go.Proofs.YtpolnkjmojofoaaGreat
