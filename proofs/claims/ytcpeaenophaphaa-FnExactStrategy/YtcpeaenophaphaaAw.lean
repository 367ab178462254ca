/-
  Strategy by the program: walked.
-/
import Derived.Test.YtcpeaenophaphaaAv
namespace Go.Proofs.Ytcpeaenophaphaa
open Go.RowKit

/-- A plan grown by one exposure. -/
theorem grown_pl {w0 w : World} {n : Nat → Nat} {f : Nat → Nat → Int} {x : Pl} (k : Nat) (h0 : w0.heap.size ≤ w.heap.size) (ho : Ok w x) (hx : Fit w0 n f x) (hk : k < 1000 ∧ x.l.length < 1000) :
    Calls Try.prog 42 #[pV x, .int .i64 (k : Int), .int .u64 ((msk (Hs f k (n k)) 64 : Nat) : Int)] w fun e w' => ∃ y : Pl, e = .returned (pV y) ∧ y.l = x.l ++ [k] ∧ Ok w' y ∧ Fit w0 n f y ∧ Below w.heap.size w w' := by
  refine (pGrown_any x.s _ k ho.ints.2 ho.ints.1 ho.2 hk.1).mono ?_
  rintro e w' ⟨g', c', rfl, hown, bb⟩
  refine ⟨⟨g', c', x.l ++ [k], ((msk (shw n f (x.l ++ [k])) 64 : Nat) : Int)⟩, ?_, rfl, ⟨?_, ?_⟩, ⟨?_, rfl⟩, bb⟩
  · rw [hx.2, stands_add]
    simp [pV]
  · have := own_downA hown (Nat.zero_le _)
    simpa using this
  · simp; omega
  · have := own_lt hown
    exact Nat.le_trans h0 this.1
theorem memL_none (F : Nat → Pl) : MemL 0 F = fun _ => False := funext fun _ => propext ⟨fun ⟨_, h, _⟩ => by omega, fun h => h.elim⟩
set_option maxRecDepth 100000 in
set_option maxHeartbeats 8000000 in
theorem implStrategy_any {w : World} {b N cap : Nat} {a : Nat → Option Addr} {c : Nat → Nat} {n : Nat → Nat} {f : Nat → Nat → Int} (hS : Lli w b 0 N a c n f) (hN : N ≤ 1048576) (hn : ∀ i, i < N → n i ≤ 1048576) :
    Calls Try.prog 12 #[.slice (some ⟨b, 0, none⟩) N cap] w (StgP w N n f) := by
  have hbs : ∀ w, (Instr.buildSlice 25 0 #[]).run Try.prog w = .ok (.slice (some ⟨w.heap.size, 0, none⟩) 0 0) (w.alloc (.cells #[] 2)) := fun _ => by kernel_rfl
  go_enter Try.func12, Try.ntmps12
  go_wp2_with fail
  refine (setsOf_any hS hN hn).mono ?_
  rintro e w1 ⟨hh, B1⟩
  rcases hh with ⟨hx, rfl⟩ | ⟨hx, gs, rfl, U⟩
  · obtain ⟨V, hV, A0, bb, -⟩ := boxed w1 2 #[]
    have B2 := B1.trans (bb.mono B1.size)
    have HX : Hid (¬ ExOk N n f) := hx
    have hlt := A0.lt
    clear hx bb
    go_wp2
    exact bodyPost_ret (v := .slice (some ⟨w1.heap.size, 0, none⟩) 0 0) (by simp [results, Try.results12, go_sem]) rfl ⟨[], .inr ⟨HX.out, rfl⟩, _, rfl, .inr ⟨w1.heap.size, 0, rfl, B1.size, hlt, Nat.le_refl _, #[], A0, rfl, fun i hi => absurd hi (Nat.not_lt_zero _)⟩, B2⟩
  have HX : Hid (ExOk N n f) := hx
  have hN12 := hx.1
  clear hx
  go_wp2_with fail
  refine (allOf_any U hN).mono ?_
  rintro e w2 ⟨rfl, bb⟩
  have U2 := U.below bb
  have B2 := B1.trans (bb.mono B1.size)
  clear U bb
  obtain ⟨AL, hAL⟩ : ∃ AL, ((msk (fun r => ∃ i, i < N ∧ Hs f i (n i) r) 64 : Nat) : Int) = AL := ⟨_, rfl⟩
  have HAL : Hid (((msk (fun r => ∃ i, i < N ∧ Hs f i (n i) r) 64 : Nat) : Int) = AL) := hAL
  rw [hAL]
  clear hAL
  obtain ⟨W1, hW1, hH, bb1, s1⟩ := boxed w2 59 #[.slice none 0 0, .func (.func 39) #[] #[]]
  obtain ⟨W2, hW2, aE, bb2, s2⟩ := boxed W1 2 #[]
  obtain ⟨W3, hW3, aP, bb3, s3⟩ := boxed W2 56 #[.slice (some ⟨W1.heap.size, 0, none⟩) 0 0, .int .u64 0]
  have U3 := ((U2.below bb1).below bb2).below bb3
  have hH3 := (hH.below bb2).below bb3
  have aE3 := aE.below bb3
  have B3 := ((B2.trans (bb1.mono B2.size)).trans (bb2.mono (Nat.le_trans B2.size bb1.size))).trans (bb3.mono (Nat.le_trans (Nat.le_trans B2.size bb1.size) bb2.size))
  have hgs2 := U2.lt
  have hB2 := B2.size
  obtain ⟨q, hq⟩ : ∃ q, w2.heap.size = q := ⟨_, rfl⟩
  obtain ⟨e0, he0⟩ : ∃ e0, W1.heap.size = e0 := ⟨_, rfl⟩
  obtain ⟨p, hp⟩ : ∃ p, W2.heap.size = p := ⟨_, rfl⟩
  rw [hq] at hH3 hgs2 hB2 s1
  rw [he0] at aE3 aP s1 s2 hW3
  rw [hp] at aP s2 s3
  have hs1 : q < e0 := by omega
  have hs2 : e0 < p := by omega
  have hs3 : p < W3.heap.size := by omega
  clear s1 s2 s3
  have OK0 : Ok W3 ⟨e0, 0, [], 0⟩ := ⟨⟨rfl, .inr ⟨e0, 0, #[], rfl, Nat.zero_le _, aE3, Nat.le_refl _, Nat.zero_le _, rfl, rfl⟩⟩, Nat.zero_le _⟩
  have BX0 : Bst w W3 p n f ⟨e0, 0, [], 0⟩ := ⟨aP, OK0, ⟨by show w.heap.size ≤ e0; omega, by show (0 : Int) = _; rw [stands_nil]; rfl⟩⟩
  have ST0 : Sta w W3 (p + 1) q p gs N n f 0 (.slice none 0 0) (fun _ => ⟨0, 0, [], 0⟩) := ⟨⟨⟨rfl, .inl ⟨rfl, rfl⟩⟩, hH3, by omega, fun i hi => by omega⟩, fun i h1 h2 => by omega, fun i j hi => by omega, fun i hi => by omega, U3, B3, hB2, hgs2, by omega, by omega, by omega⟩
  have SR0 : Srch N (Cov N n f) [] (MemL 0 (fun _ => ⟨0, 0, [], 0⟩)) := by rw [memL_none]; exact Srch.start N _
  have hN' : (N : Int) ≤ 12 := by omega
  have HW3 : Hid (W2.alloc (.cells #[.slice (some ⟨e0, 0, none⟩) 0 0, .int .u64 0] 56) = W3) := hW3
  clear hW3
  go_wp2_with fail
  rw [HW3.out]
  clear HW3 aE aE3 aP OK0 U2 U3 hH hH3 B2 B3 bb1 bb2 bb3 hW1 hW2 hq he0 hp hs1 hs2 hs3 hgs2 hB2
  go_loopw [8] (fun _ wr => ∃ (nH : Nat) (v : Value) (F : Nat → Pl) (x : Pl), Sta w wr (p + 1) q p gs N n f nH v F ∧ Bst w wr p n f x ∧ Srch N (Cov N n f) x.l (MemL nH F)) (fun _ wr => behind N (lOf wr p))
  case atStart => exact ⟨0, _, _, _, ST0, BX0, SR0⟩
  case round =>
    clear ST0 BX0 SR0
    obtain ⟨nH, v, F, x, S, SX, sr⟩ := hrel
    have Sr : Hid (Srch N (Cov N n f) x.l (MemL nH F)) := sr
    clear sr
    obtain ⟨d0, d1, -⟩ := SX.box.open2
    by_cases hc : Cov N n f x.l
    · have hs : x.s = AL := by rw [SX.fit.2, (stands_iff HX.out Sr.out.rb).2 hc]; exact HAL.out
      have HC : Hid (BestP N (Cov N n f) x.l) := Sr.out.done hc
      rw [hs] at d1
      clear hs hc
      go_wp2
      exact bodyPost_ret (v := .slice (some ⟨x.g, 0, none⟩) x.l.length x.c) (by simp [results, Try.results12, go_sem]) rfl ⟨x.l, .inl ⟨HX.out, HC.out⟩, _, rfl, SX.arr, S.b⟩
    · have hs : x.s ≠ AL := fun e => hc ((stands_iff HX.out Sr.out.rb).1 (by
        have h1 := SX.fit.2.symm.trans (e.trans HAL.out.symm)
        exact Int.ofNat_inj.1 h1))
      have hs' : (x.s != AL) = true := by simpa using hs
      have HC : Hid (¬ Cov N n f x.l) := hc
      clear hc hs
      have hlen : ∀ y, y ∈ x.l → y < 1000 := fun y hy => by have := Sr.out.rb.2 y hy; omega
      go_wp2_with fail
      refine (pEnd_any x.s SX.ok.ints.2 SX.ok.ints.1 SX.ok.2 hlen).mono ?_
      rintro e w3 ⟨rfl, bb⟩
      have hmeas : lOf wr p = x.l := SX.lOf
      have S2 := S.below bb
      have SX2 := SX.below bb
      have HMs : Hid (lOf wr p = x.l) := hmeas
      clear S SX bb d0 d1 hs' hmeas hlen
      have hEN : endOf x.l ≤ N := endOf_le Sr.out.rb
      obtain ⟨E, hE⟩ : ∃ E, endOf x.l = E := ⟨_, rfl⟩
      have HE : Hid (endOf x.l = E) := hE
      rw [hE] at hEN ⊢
      clear hE
      go_wp2
      go_loopw [8] (fun s wr => ∃ (k nH2 : Nat) (v2 : Value) (F2 : Nat → Pl), endOf x.l ≤ k ∧ k ≤ N ∧ s = .int .i64 (k : Int) ∧ Sta w wr (p + 1) q p gs N n f nH2 v2 F2 ∧ Bst w wr p n f x ∧ ∀ z, MemL nH2 F2 z ↔ gro x.l (MemL nH F) k z) (fun s _ => N - (intOf s).toNat)
      case atStart => exact ⟨E, nH, v, F, by rw [HE.out]; exact Nat.le_refl _, hEN, rfl, S2, SX2, fun z => by rw [← HE.out]; exact (gro_start x.l (MemL nH F) z).symm⟩
      case round =>
        clear S2 SX2 hEN HE
        obtain ⟨k, nH2, v2, F2, hek, hkN', rfl, S2, S2X, hm2⟩ := hrel
        have hM2 : Hid (∀ z, MemL nH2 F2 z ↔ gro x.l (MemL nH F) k z) := hm2
        clear hm2
        have hfew : nH2 ≤ 4096 := S2.few hN12 (fun y hy => by
          rcases (hM2.out y).1 hy with h1 | ⟨j, h1, h2, rfl⟩
          · exact Sr.out.rh y h1
          · exact rsg_add.2 ⟨Sr.out.rb, h1, by omega⟩)
        by_cases hkN : k < N
        · have hkN2 : (k : Int) < (N : Int) := by omega
          have hlx : x.l.length ≤ 12 := by
            obtain ⟨M0, -, e⟩ := mk_onto N x.l Sr.out.rb
            rw [← e]
            exact Nat.le_trans (mk_len M0 N) hN12
          have hk1000 : k < 1000 ∧ x.l.length < 1000 := by omega
          go_wp2_with fail
          obtain ⟨u0, hu0, bb⟩ : ∃ uu, wr.drew = uu ∧ Below wr.heap.size wr uu := ⟨_, rfl, (Below.refl _ _).drew⟩
          replace S2 := S2.below bb
          replace S2X := S2X.below bb
          clear bb
          refine wp_region_held_drew (S := fun w' => At 56 w' p #[.slice (some ⟨x.g, 0, none⟩) x.l.length x.c, .int .u64 x.s] ∧ U64s w' gs N (fun i => msk (Hs f i (n i)) 64)) (by kernel_rfl) (by rw [hu0]; exact ⟨S2X.box, S2.us⟩) (fun hHeld => ?_)
          rw [hu0] at hHeld ⊢
          clear hu0
          change wpAnyH _ _ _ _ _ 8 #[false, false, false, false, false, false, false, false] _ _
          refine wpAnyH_take (i := 0) (v := (.agg #[.slice (some ⟨x.g, 0, none⟩) x.l.length x.c, .int .u64 x.s])) rfl (by kernel_rfl) (by kernel_rfl) (by kernel_rfl) (fun _ _ _ h => h) (Or.inl ⟨by kernel_rfl, ?_⟩) hHeld ?_
          · intro w' hSw; obtain ⟨z0, z1, -⟩ := hSw.1.open2; go_simp
          try simp only [Act.put, List.setIfInBounds_toArray, List.set_cons_zero, List.set_cons_succ, List.getElem_toArray, List.getElem_cons_zero]
          refine wpAnyH_take (i := 1) (v := .int .i64 ((k : Int))) rfl (by kernel_rfl) (by kernel_rfl) (by kernel_rfl) (fun _ _ _ h => h) (Or.inl ⟨by kernel_rfl, ?_⟩) hHeld ?_
          · intro w' hSw; go_simp
          try simp only [Act.put, List.setIfInBounds_toArray, List.set_cons_zero, List.set_cons_succ, List.getElem_toArray, List.getElem_cons_succ, List.getElem_cons_zero]
          refine wpAnyH_take (i := 2) (v := .slice ((some ⟨gs, 0, none⟩)) N N) rfl (by kernel_rfl) (by kernel_rfl) (by kernel_rfl) (fun _ _ _ h => h) (Or.inl ⟨by kernel_rfl, ?_⟩) hHeld ?_
          · intro w' hSw; go_simp
          try simp only [Act.put, List.setIfInBounds_toArray, List.set_cons_zero, List.set_cons_succ, List.getElem_toArray, List.getElem_cons_succ, List.getElem_cons_zero]
          refine wpAnyH_take (i := 3) (v := .int .i64 ((k : Int))) rfl (by kernel_rfl) (by kernel_rfl) (by kernel_rfl) (fun _ _ _ h => h) (Or.inl ⟨by kernel_rfl, ?_⟩) hHeld ?_
          · intro w' hSw; go_simp
          try simp only [Act.put, List.setIfInBounds_toArray, List.set_cons_zero, List.set_cons_succ, List.getElem_toArray, List.getElem_cons_succ, List.getElem_cons_zero]
          refine wpAnyH_take (i := 4) (v := .pointer (some ⟨gs, k, none⟩)) rfl (by kernel_rfl) (by kernel_rfl) (by kernel_rfl) (fun _ _ _ h => h) (Or.inl ⟨by kernel_rfl, ?_⟩) hHeld ?_
          · intro w' hSw; go_simp
          try simp only [Act.put, List.setIfInBounds_toArray, List.set_cons_zero, List.set_cons_succ, List.getElem_toArray, List.getElem_cons_succ, List.getElem_cons_zero]
          refine wpAnyH_take (i := 5) (v := (.int .u64 ((msk (Hs f k (n k)) 64 : Nat) : Int))) rfl (by kernel_rfl) (by kernel_rfl) (by kernel_rfl) (fun _ _ _ h => h) (Or.inl ⟨by kernel_rfl, ?_⟩) hHeld ?_
          · intro w' hSw; obtain ⟨z0, -⟩ := hSw.2.open hkN; go_simp
          try simp only [Act.put, List.setIfInBounds_toArray, List.set_cons_zero, List.set_cons_succ, List.getElem_toArray, List.getElem_cons_succ, List.getElem_cons_zero]
          refine wpAnyH_ready (rs := [6]) (by kernel_rfl) (by simp) ?_
          refine AllReadyH.cons rfl (fun KK hK' => ?_) AllReadyH.nil
          go_simp
          refine (grown_pl k S2.b.size S2X.ok S2X.fit hk1000).mono ?_
          rintro e u1 ⟨y, rfl, hyl, hyo, hyf, bb⟩
          replace S2 := S2.below bb
          replace S2X := S2X.below bb
          clear bb
          try go_wp2_with fail
          clear hHeld
          refine hK'.out _ _ (⟨S2X.box, S2.us⟩) (fun hHeld => ?_)
          clear hK' KK
          try simp only [List.setIfInBounds_toArray, List.set_cons_zero, List.set_cons_succ]
          refine wpAnyH_ready (rs := [7]) (by kernel_rfl) (by simp) ?_
          refine AllReadyH.cons rfl (fun KK hK' => ?_) AllReadyH.nil
          go_simp
          refine (putP_any y S2.hv S2.hp (by omega) S2.o5 hyo).mono ?_
          rintro e u2 ⟨rfl, hpp⟩
          obtain ⟨v3, F3, S3, S3X, hM3⟩ := S2.put S2X hyf (by rw [hyl]; exact fun hh => Sr.out.new ((hM2.out _).1 hh)) hpp
          have HM3 : Hid (∀ z, MemL (nH2 + 1) F3 z ↔ gro x.l (MemL nH F) (k + 1) z) := fun z => by
            rw [hM3, hyl, gro_next x.l (MemL nH F) hek, hM2.out]
          clear hM3 hpp hyl hyo hyf S2 S2X hM2
          try go_wp2_with fail
          clear hHeld
          refine hK'.out _ _ (⟨S3X.box, S3.us⟩) (fun hHeld => ?_)
          clear hK' KK
          try simp only [List.setIfInBounds_toArray, List.set_cons_zero, List.set_cons_succ]
          refine wpAnyH_done (by kernel_rfl) ?_ _
          clear hHeld
          go_wp2
          exact ⟨⟨k + 1, nH2 + 1, v3, F3, by omega, by omega, by go_num, S3, S3X, HM3.out⟩, by simp [intOf]; omega⟩
        · have hkN2 : ¬ (k : Int) < (N : Int) := by omega
          obtain rfl : N = k := by omega
          obtain ⟨z0, hz1, -⟩ := Sr.out.some HC.out (range_rsg N) (range_cov HX.out)
          obtain ⟨i0, hi0, -⟩ := (hM2.out z0).2 hz1
          obtain ⟨m, rfl⟩ : ∃ m, nH2 = m + 1 := ⟨nH2 - 1, by omega⟩
          clear hz1 hi0
          go_wp2_with fail
          refine (takeP_any S2.hv S2.hp (by omega)).mono ?_
          rintro e w4 ⟨rfl, tp⟩
          obtain ⟨v4, F4, S4, a4, ok4, hM4⟩ := S2.take S2X.box tp
          have hfit := S2.fit 0 (by omega)
          have hbest : ∀ i, i < m + 1 → ¬ qlt (F2 i) (F2 0) := S2.hp.best qlt_swo
          have HST : Hid (Srch N (Cov N n f) (F2 0).l (MemL m F4) ∧ plt x.l (F2 0).l) := Sr.out.step HC.out ((hM2.out _).1 ⟨0, by omega, rfl⟩) (fun z => by rw [hM4, hM2.out]) (fun z hz => by
            obtain ⟨i, hi, rfl⟩ := (hM2.out z).2 hz
            exact hbest i hi)
          obtain ⟨S5, SX5⟩ := S4.box a4 ok4 hfit
          obtain ⟨e0', e1', k0, k1⟩ := a4.open2
          have hlt4 := a4.lt
          generalize hW9 : (w4.setCell ⟨p, 0, none⟩ (.slice (some ⟨(F2 0).g, 0, none⟩) (F2 0).l.length (F2 0).c)).setCell ⟨p, 1, none⟩ (.int .u64 (F2 0).s) = W9 at S5 SX5
          clear hbest hM4 tp S2 S2X hfit ok4 a4 S4 hM2
          go_wp2
          exact ⟨⟨m, v4, F4, F2 0, S5, SX5, HST.out.1⟩, by rw [SX5.lOf, HMs.out]; exact behind_lt HST.out.1.rb HST.out.2⟩
end Go.Proofs.Ytcpeaenophaphaa
