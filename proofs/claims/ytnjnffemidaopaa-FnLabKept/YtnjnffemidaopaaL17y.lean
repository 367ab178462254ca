/-
  The law FnExactLabPlay: walked.
-/
import Derived.Test.YtnjnffemidaopaaL17x
import Derived.Test.YtnjnffemidaopaaL17t
import Derived.Test.YtnjnffemidaopaaQDeed
namespace Go.Proofs.Ytnjnffemidaopaa
open Go.RowKit

set_option maxHeartbeats 1600000 in
theorem specPlay_no {w : World} {a : Option Addr} {n c : Nat} (hn : 1000 < n) (cs : Nat → Int) :
    Calls Try.prog 25 #[.slice a n c] w (PlP noL 0 cs w) := by
  have hn' : (1000 : Int) < (n : Int) := by omega
  obtain ⟨W3, hW3, A1, A2, A3, BW⟩ := bx3 w 27 27 2 #[.slice none 0 0, .slice none 0 0, .int .i64 0] #[.slice none 0 0, .slice none 0 0, .int .i64 0] #[]
  obtain ⟨q1, hq1⟩ : ∃ q, w.heap.size = q := ⟨_, rfl⟩
  obtain ⟨q2, hq2⟩ : ∃ q, q1 + 1 = q := ⟨_, rfl⟩
  obtain ⟨q3, hq3⟩ : ∃ q, q2 + 1 = q := ⟨_, rfl⟩
  rw [hq1] at A1 A2 A3
  rw [hq2] at A2
  rw [show q1 + 2 = q3 by omega] at A3
  have hbs : ∀ w, (Instr.buildSlice 42 0 #[]).run Try.prog w = .ok (.slice (some ⟨w.heap.size, 0, none⟩) 0 0) (w.alloc (.cells #[] 2)) := fun _ => by kernel_rfl
  have hq1w : w.heap.size ≤ q1 := by omega
  have hq3w : w.heap.size ≤ q3 := by omega
  have hq13 : q3 ≠ q1 := by omega
  obtain ⟨c0, c1, c2, -⟩ := A2.open3
  obtain ⟨d0, d1, d2, e0, e1, e2⟩ := A1.open3
  go_enter Try.func25, Try.ntmps25
  go_wp2
  have a7 := put3_at A1 (.slice none 0 0) (.slice none 0 0) (.int .i64 0)
  have A3' : At 2 (((W3.setCell ⟨q1, 0, none⟩ (.slice none 0 0)).setCell ⟨q1, 1, none⟩ (.slice none 0 0)).setCell ⟨q1, 2, none⟩ (.int .i64 0)) q3 #[] := ((A3.setOther hq13 _).setOther hq13 _).setOther hq13 _
  obtain ⟨p0, p1, p2, -⟩ := a7.open3
  refine bodyPost_ret (v := .tuple #[labV (.slice none 0 0) (.slice none 0 0) 0, .slice (some ⟨q3, 0, none⟩) 0 0]) (by simp [results, Try.results25, go_sem, p0, p1, p2]) rfl ?_
  exact ⟨_, _, _, rfl, .inl ⟨rfl, rfl⟩, .inl ⟨rfl, rfl⟩, .inr ⟨q3, 0, rfl, hq3w, A3'.lt, Nat.le_refl _, Nat.zero_le _, #[], A3', rfl, fun i hi => by omega⟩, (fun h => by cases h), below_put3 BW hq1w _ _ _⟩
theorem play_both (d : Nat → Int) (N : Nat) : ∃ (L : LS) (n : Nat) (cs : Nat → Int), L.n ≤ 100 ∧ L.m ≤ 300 ∧ n ≤ 1000 ∧ (∀ w g c, Recs 4 w g N d → Calls Try.prog 25 #[.slice (some ⟨g, 0, none⟩) N c] w (PlP L n cs w)) ∧ (∀ w g c, Recs 4 w g N d → Calls Try.prog 17 #[.slice (some ⟨g, 0, none⟩) N c] w (PlP L n cs w)) := by
  by_cases h : N ≤ 1000
  · have k : LbOk (ply d N).n (ply d N).f (ply d N).m (ply d N).g (ply d N).T := ply_ok d N
    obtain ⟨⟨h1, -⟩, ⟨h2, -⟩, -⟩ := k
    exact ⟨ply d N, N, cod d, h1, h2, h, fun w g c r => specPlay_any (.inr ⟨g, rfl, r⟩) h, fun w g c r => implPlay_any (.inr ⟨g, rfl, r⟩) h⟩
  · have h' : 1000 < N := by omega
    exact ⟨noL, 0, cod d, Nat.zero_le _, Nat.zero_le _, Nat.zero_le _, fun w g c _ => specPlay_no h' _, fun w g c _ => implPlay_no h' _⟩
theorem ark_arr {w : World} {lo hi : Nat} {v : Value} {n : Nat} {f : Nat → Int} (h : ArK 1 2 w lo hi v n f) : Arr w lo hi v n f := by
  refine h.imp id ?_
  rintro ⟨g, c, e, h1, h2, h3, -, cur, k1, k2, k3⟩
  exact ⟨g, c, e, h1, h2, h3, cur, k1, by omega, fun i hi => k3 i (by omega)⟩
set_option maxRecDepth 100000 in
set_option maxHeartbeats 12800000 in
theorem exactLabPlay_walk {w : World} {a : Option Addr} {N cap : Nat} {d : Nat → Int} (hS : Src w a (N * 4) d) (hN : N ≤ maxLen) :
    Calls Try.prog 8 #[.slice a N cap] w fun e w' => e = .returned (.bool true) ∧ Below w.heap.size w w' := by
  obtain ⟨L, n, cs, hLn, hLm, hn, hsp, him⟩ := play_both d N
  have HS : Hid (Src w a (N * 4) d) := hS
  clear hS
  have hXn : L.n ≤ 1048576 := by omega
  have hXm : L.m ≤ 1048576 := by omega
  have hn2 : n ≤ 1048576 := by omega
  go_enter Try.func8, Try.ntmps8
  go_wp2_with fail
  refine (szDeed_any 1048576 (by omega) _ hN).mono ?_
  rintro e w0 ⟨⟨r, rfl, hr⟩, rfl⟩
  rcases hr with rfl | ⟨r0, -, hN2⟩
  · go_wp2
    go_ret
    exact ⟨rfl, Below.refl _ _⟩
  have hr0 : ¬ r < 0 := by omega
  go_wp2_with fail
  refine (toDeedS_any HS.out hN2).mono ?_
  rintro e w1 ⟨g1, rfl, -, D1, B⟩
  try go_wp2_with fail
  refine (hsp _ g1 N D1.recsN).mono ?_
  rintro e w2 ⟨vS, vJ, vC, rfl, S6, J6, C6, -, bb⟩
  obtain ⟨H1, hH1⟩ : ∃ H, w1.heap.size = H := ⟨_, rfl⟩
  obtain ⟨H2, hH2⟩ : ∃ H, w2.heap.size = H := ⟨_, rfl⟩
  rw [hH1, hH2] at S6 J6 C6
  have hlo2 : w.heap.size ≤ H2 := by have := B.size; have := bb.size; omega
  replace B := B.trans (bb.mono B.size)
  clear bb D1 hH1
  obtain ⟨sS, cS, rfl, -, -⟩ := S6.ls
  obtain ⟨sJ, cJ, rfl, -, -⟩ := J6.ls
  obtain ⟨sC, cC, rfl, -, -⟩ := C6.ls
  obtain ⟨W3, hW3, A6, bb, -⟩ := boxed w2 27 #[.slice sS L.n cS, .slice sJ L.m cJ, .int .i64 L.T]
  rw [hH2] at A6
  have h23 := A6.lt
  replace S6 := S6.below bb
  replace J6 := J6.below bb
  replace C6 := C6.below bb
  replace B := B.trans (bb.mono B.size)
  clear bb
  go_wp2_with fail
  clear hW3 hH2
  refine (toDeedS_any (HS.out.below B) hN2).mono ?_
  rintro e w4 ⟨g5, rfl, hg5, D5, bb⟩
  replace A6 := A6.below bb
  replace S6 := S6.below bb
  replace J6 := J6.below bb
  replace C6 := C6.below bb
  replace B := B.trans (bb.mono B.size)
  clear bb
  have hg5w : w.heap.size ≤ g5 := by omega
  go_wp2_with fail
  refine (him _ g5 N D5.recsN).mono ?_
  rintro e w5 ⟨vT, vK, vD, rfl, S9, J9, C9, -, bb⟩
  obtain ⟨H4, hH4⟩ : ∃ H, w4.heap.size = H := ⟨_, rfl⟩
  obtain ⟨H5, hH5⟩ : ∃ H, w5.heap.size = H := ⟨_, rfl⟩
  rw [hH4, hH5] at S9 J9 C9
  have h24 : H2 ≤ H4 := by have := A6.lt; omega
  have hlo4 : w.heap.size ≤ H4 := by omega
  replace A6 := A6.below bb
  replace S6 := S6.below bb
  replace J6 := J6.below bb
  replace C6 := C6.below bb
  replace D5 := D5.below bb
  replace B := B.trans (bb.mono B.size)
  clear bb
  clear hH4 hg5 h23
  obtain ⟨sT, cT, rfl, -, -⟩ := S9.ls
  obtain ⟨sK, cK, rfl, -, -⟩ := J9.ls
  obtain ⟨sD, cD, rfl, -, -⟩ := C9.ls
  obtain ⟨W6, hW6, A9, bb, -⟩ := boxed w5 27 #[.slice sT L.n cT, .slice sK L.m cK, .int .i64 L.T]
  rw [hH5] at A9
  replace A6 := A6.below bb
  replace S6 := S6.below bb
  replace J6 := J6.below bb
  replace C6 := C6.below bb
  replace D5 := D5.below bb
  replace S9 := S9.below bb
  replace J9 := J9.below bb
  replace C9 := C9.below bb
  replace B := B.trans (bb.mono B.size)
  clear bb
  obtain ⟨c0, c1, c2, -⟩ := A9.open3
  obtain ⟨d0, d1, d2, -⟩ := A6.open3
  go_wp2_with fail
  clear hW6 hH5
  refine (eqLab_true (ark_ls S9) (ark_ls S6) (ark_ls J9) (ark_ls J6) hXn hXm).mono ?_
  rintro e v1 ⟨rfl, bb⟩
  replace A6 := A6.below bb
  replace A9 := A9.below bb
  replace S6 := S6.below bb
  replace J6 := J6.below bb
  replace C6 := C6.below bb
  replace D5 := D5.below bb
  replace S9 := S9.below bb
  replace J9 := J9.below bb
  replace C9 := C9.below bb
  replace B := B.trans (bb.mono B.size)
  clear bb
  clear c0 c1 c2 d0 d1 d2
  go_wp2_with fail
  refine (eqArr_true (ark_arr C9) (ark_arr C6) hn2).mono ?_
  rintro e v2 ⟨rfl, bb⟩
  replace A6 := A6.below bb
  replace A9 := A9.below bb
  replace S6 := S6.below bb
  replace J6 := J6.below bb
  replace C6 := C6.below bb
  replace D5 := D5.below bb
  replace S9 := S9.below bb
  replace J9 := J9.below bb
  replace C9 := C9.below bb
  replace B := B.trans (bb.mono B.size)
  clear bb
  go_wp2_with fail
  refine (toDeedS_any (HS.out.below B) hN2).mono ?_
  rintro e v3 ⟨gC, rfl, -, DC, bb⟩
  replace A6 := A6.below bb
  replace A9 := A9.below bb
  replace S6 := S6.below bb
  replace J6 := J6.below bb
  replace C6 := C6.below bb
  replace D5 := D5.below bb
  replace S9 := S9.below bb
  replace J9 := J9.below bb
  replace C9 := C9.below bb
  replace B := B.trans (bb.mono B.size)
  clear bb
  go_wp2_with fail
  refine (eqDeedL_true (.inr ⟨g5, rfl, D5.recsN⟩) (.inr ⟨gC, rfl, DC.recsN⟩) hN2).mono ?_
  rintro e v4 ⟨rfl, bb⟩
  replace A6 := A6.below bb
  replace A9 := A9.below bb
  replace S6 := S6.below bb
  replace J6 := J6.below bb
  replace C6 := C6.below bb
  replace D5 := D5.below bb
  replace S9 := S9.below bb
  replace J9 := J9.below bb
  replace C9 := C9.below bb
  replace B := B.trans (bb.mono B.size)
  clear bb
  clear DC
  have DK : ArK 4 29 v4 w.heap.size (g5 + 1) (.slice (some ⟨g5, 0, none⟩) N N) N d := .inr ⟨g5, N, rfl, hg5w, Nat.lt_succ_self _, Nat.le_refl _, hN, D5⟩
  clear D5
  go_wp2_with fail
  refine (markDeedK_any DK hN2 1 (by omega)).mono ?_
  rintro e v5 ⟨rfl, -, ho⟩
  replace A6 := A6.only ho (DK.box A6 (by decide))
  replace A9 := A9.only ho (DK.box A9 (by decide))
  replace S6 := S6.only ho (DK.apart S6 (by decide))
  replace J6 := J6.only ho (DK.apart J6 (by decide))
  replace C6 := C6.only ho (DK.apart C6 (by decide))
  replace S9 := S9.only ho (DK.apart S9 (by decide))
  replace J9 := J9.only ho (DK.apart J9 (by decide))
  replace C9 := C9.only ho (DK.apart C9 (by decide))
  replace B := ho.belowK DK (Nat.le_refl _) B B.size
  clear DK ho
  obtain ⟨kk, hkk⟩ : ∃ kk, 1 + N * 4 = kk := ⟨_, rfl⟩
  rw [hkk]
  clear hkk
  have hk0 : ¬ (kk : Int) < 0 := by omega
  obtain ⟨c0, c1, c2, -⟩ := A9.open3
  obtain ⟨d0, d1, d2, -⟩ := A6.open3
  go_wp2_with fail
  refine (eqLab_true (ark_ls S9) (ark_ls S6) (ark_ls J9) (ark_ls J6) hXn hXm).mono ?_
  rintro e v6 ⟨rfl, bb⟩
  replace A6 := A6.below bb
  replace A9 := A9.below bb
  replace S6 := S6.below bb
  replace J6 := J6.below bb
  replace C6 := C6.below bb
  replace S9 := S9.below bb
  replace J9 := J9.below bb
  replace C9 := C9.below bb
  replace B := B.trans (bb.mono B.size)
  clear bb
  clear c0 c1 c2 d0 d1 d2
  go_wp2_with fail
  refine (eqArr_true (ark_arr C9) (ark_arr C6) hn2).mono ?_
  rintro e v7 ⟨rfl, bb⟩
  replace A6 := A6.below bb
  replace A9 := A9.below bb
  replace S6 := S6.below bb
  replace J6 := J6.below bb
  replace C6 := C6.below bb
  replace S9 := S9.below bb
  replace J9 := J9.below bb
  replace C9 := C9.below bb
  replace B := B.trans (bb.mono B.size)
  clear bb
  obtain ⟨c0, c1, c2, -⟩ := A9.open3
  go_wp2_with fail
  refine (markLab_any S9 J9 hXn hXm 1 (by omega)).mono ?_
  rintro e v8 ⟨rfl, S9', J9', tt, bk⟩
  clear S9 J9 c0 c1 c2
  replace A6 := bk _ _ _ (by decide) (by decide) A6
  replace A9 := bk _ _ _ (by decide) (by decide) A9
  replace S6 := S6.turn tt (by omega)
  replace J6 := J6.turn tt (by omega)
  replace C6 := C6.ki (fun q vs h => bk _ _ _ (by decide) (by decide) h)
  replace C9 := C9.ki (fun q vs h => bk _ _ _ (by decide) (by decide) h)
  replace B := tt.below B hlo4 B.size
  clear tt bk
  obtain ⟨mm, hmm⟩ : ∃ mm, 1 + L.n * 3 + L.m * 4 = mm := ⟨_, rfl⟩
  have hmb : mm ≤ 10000 := by omega
  have hm0 : ¬ (mm : Int) < 0 := by omega
  have HH := fun w' (S : ArK 3 37 w' H4 H5 (.slice sT L.n cT) L.n (fun i => (1 + i : Nat))) (J : ArK 4 39 w' H4 H5 (.slice sK L.m cK) L.m (fun i => (1 + L.n * 3 + i : Nat))) => heldLab_any (T := L.T) 1 S J hXn hXm (by omega)
  rw [hmm] at HH ⊢
  clear hmm
  go_wp2_with fail
  refine (markArr_any (ark_arr C9) hn2 mm (by omega)).mono ?_
  rintro e v9 ⟨rfl, C9', ho⟩
  replace A6 := A6.only ho (C9.box A6 (by decide))
  replace A9 := A9.only ho (C9.box A9 (by decide))
  replace S6 := S6.only ho (C9.apart S6 (by decide))
  replace J6 := J6.only ho (C9.apart J6 (by decide))
  replace S9' := S9'.only ho (C9.apart S9' (by decide))
  replace J9' := J9'.only ho (C9.apart J9' (by decide))
  replace C6 := C6.only ho ((ark_arr C9).apart (ark_arr C6) (.inr h24))
  replace B := ho.belowK C9 hlo4 B B.size
  clear C9 ho
  obtain ⟨m2, hm2⟩ : ∃ k, mm + n = k := ⟨_, rfl⟩
  have hm20 : ¬ (m2 : Int) < 0 := by omega
  have hme := bne_self_eq_false (m2 : Int)
  have HC := fun w' (C : Arr w' H4 H5 (.slice sD n cD) n (fun i => (mm + i : Nat))) => heldArr_any mm C hn2 (by omega)
  rw [hm2] at HC ⊢
  clear hm2
  obtain ⟨c0, c1, c2, -⟩ := A9.open3
  go_wp2_with fail
  refine (HH _ S9' J9').mono ?_
  rintro e v10 ⟨rfl, bb⟩
  replace A6 := A6.below bb
  replace A9 := A9.below bb
  replace S6 := S6.below bb
  replace J6 := J6.below bb
  replace C6 := C6.below bb
  replace S9' := S9'.below bb
  replace J9' := J9'.below bb
  replace C9' := C9'.below bb
  replace B := B.trans (bb.mono B.size)
  clear bb
  clear c0 c1 c2
  go_wp2_with fail
  refine (HC _ C9').mono ?_
  rintro e v11 ⟨rfl, bb⟩
  replace A6 := A6.below bb
  replace A9 := A9.below bb
  replace S6 := S6.below bb
  replace J6 := J6.below bb
  replace C6 := C6.below bb
  replace S9' := S9'.below bb
  replace J9' := J9'.below bb
  replace C9' := C9'.below bb
  replace B := B.trans (bb.mono B.size)
  clear bb
  go_wp2_with fail
  refine (toDeedS_any (HS.out.below B) hN2).mono ?_
  rintro e v12 ⟨gE, rfl, -, DE, bb⟩
  replace A6 := A6.below bb
  replace A9 := A9.below bb
  replace S6 := S6.below bb
  replace J6 := J6.below bb
  replace C6 := C6.below bb
  replace S9' := S9'.below bb
  replace J9' := J9'.below bb
  replace C9' := C9'.below bb
  replace B := B.trans (bb.mono B.size)
  clear bb
  go_wp2_with fail
  refine (him _ gE N DE.recsN).mono ?_
  rintro e v13 ⟨vT, vK, vD, rfl, SH, JH, CH, -, bb⟩
  replace A6 := A6.below bb
  replace A9 := A9.below bb
  replace S6 := S6.below bb
  replace J6 := J6.below bb
  replace C6 := C6.below bb
  replace S9' := S9'.below bb
  replace J9' := J9'.below bb
  replace C9' := C9'.below bb
  replace B := B.trans (bb.mono B.size)
  clear bb
  clear DE
  obtain ⟨sU, cU, rfl, -, -⟩ := SH.ls
  obtain ⟨sL, cL, rfl, -, -⟩ := JH.ls
  obtain ⟨sE, cE, rfl, -, -⟩ := CH.ls
  obtain ⟨W14, hW14, AH, bb, -⟩ := boxed v13 27 #[.slice sU L.n cU, .slice sL L.m cL, .int .i64 L.T]
  obtain ⟨gH, hgH⟩ : ∃ q, v13.heap.size = q := ⟨_, rfl⟩
  rw [hgH] at AH
  replace A6 := A6.below bb
  replace A9 := A9.below bb
  replace S6 := S6.below bb
  replace J6 := J6.below bb
  replace C6 := C6.below bb
  replace S9' := S9'.below bb
  replace J9' := J9'.below bb
  replace C9' := C9'.below bb
  replace SH := SH.below bb
  replace JH := JH.below bb
  replace CH := CH.below bb
  replace B := B.trans (bb.mono B.size)
  clear bb
  obtain ⟨c0, c1, c2, -⟩ := AH.open3
  obtain ⟨d0, d1, d2, -⟩ := A6.open3
  go_wp2_with fail
  clear hW14 hgH
  refine (eqLab_true (ark_ls SH) (ark_ls S6) (ark_ls JH) (ark_ls J6) hXn hXm).mono ?_
  rintro e v15 ⟨rfl, bb⟩
  replace A9 := A9.below bb
  replace C6 := C6.below bb
  replace S9' := S9'.below bb
  replace J9' := J9'.below bb
  replace C9' := C9'.below bb
  replace CH := CH.below bb
  replace B := B.trans (bb.mono B.size)
  clear bb
  clear c0 c1 c2 d0 d1 d2
  go_wp2_with fail
  refine (eqArr_true (ark_arr CH) (ark_arr C6) hn2).mono ?_
  rintro e v16 ⟨rfl, bb⟩
  replace A9 := A9.below bb
  replace S9' := S9'.below bb
  replace J9' := J9'.below bb
  replace C9' := C9'.below bb
  replace B := B.trans (bb.mono B.size)
  clear bb
  obtain ⟨c0, c1, c2, -⟩ := A9.open3
  go_wp2_with fail
  refine (HH _ S9' J9').mono ?_
  rintro e v17 ⟨rfl, bb⟩
  replace C9' := C9'.below bb
  replace B := B.trans (bb.mono B.size)
  clear bb
  clear c0 c1 c2
  go_wp2_with fail
  refine (HC _ C9').mono ?_
  rintro e v18 ⟨rfl, bb⟩
  replace B := B.trans (bb.mono B.size)
  go_wp2
  go_ret
  exact ⟨rfl, B⟩
end Go.Proofs.Ytnjnffemidaopaa
