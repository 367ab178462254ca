/-
  Deeds played one after another, by the specification; too many deeds: walked.
-/
import Derived.Test.YtnjnffemidaopaaL17s
import Derived.Test.YtnjnffemidaopaaL17w
import Derived.Test.YtnjnffemidaopaaL17u0
import Derived.Deep.CutRange
namespace Go.Proofs.Ytnjnffemidaopaa
open Go.RowKit

theorem bx2n (w : World) (t u : TypeId) (vs us : Array Value) : ∃ W, (w.alloc (.cells vs t)).alloc (.cells us u) = W ∧ At t W w.heap.size vs ∧ At u W (w.heap.size + 1) us ∧ Below w.heap.size w W ∧ W.heap.size = w.heap.size + 2 := by
  obtain ⟨W2, e, a1, a2, b, hl⟩ := bx2 w t u vs us
  exact ⟨W2, e, a1, a2, b, by rw [← e]; simp⟩
set_option maxHeartbeats 1600000 in
theorem implPlay_no {w : World} {a : Option Addr} {n c : Nat} (hn : 1000 < n) (cs : Nat → Int) :
    Calls Try.prog 17 #[.slice a n c] w (PlP noL 0 cs w) := by
  have hn' : (1000 : Int) < (n : Int) := by omega
  obtain ⟨W2, hW2, A1, A2, BW, hsz⟩ := bx2n w 27 2 #[.slice none 0 0, .slice none 0 0, .int .i64 0] #[]
  obtain ⟨q1, hq1⟩ : ∃ q, w.heap.size = q := ⟨_, rfl⟩
  obtain ⟨q2, hq2⟩ : ∃ q, q1 + 1 = q := ⟨_, rfl⟩
  rw [hq1] at A1 A2
  rw [hq2] at A2
  have hbs : ∀ w, (Instr.buildSlice 42 0 #[]).run Try.prog w = .ok (.slice (some ⟨w.heap.size, 0, none⟩) 0 0) (w.alloc (.cells #[] 2)) := fun _ => by kernel_rfl
  have h12 : q1 ≠ q2 := by omega
  have hw2 : w.heap.size ≤ q2 := by omega
  have hw1 : w.heap.size ≤ q1 := by omega
  obtain ⟨d0, d1, d2, e0, e1, e2⟩ := A1.open3
  clear hsz
  go_enter Try.func17, Try.ntmps17
  go_wp2
  have a7 := put3_at A1 (.slice none 0 0) (.slice none 0 0) (.int .i64 0)
  have A2' : At 2 (((W2.setCell ⟨q1, 0, none⟩ (.slice none 0 0)).setCell ⟨q1, 1, none⟩ (.slice none 0 0)).setCell ⟨q1, 2, none⟩ (.int .i64 0)) q2 #[] := ((A2.setOther h12.symm _).setOther h12.symm _).setOther h12.symm _
  obtain ⟨p0, p1, p2, -⟩ := a7.open3
  refine bodyPost_ret (v := .tuple #[labV (.slice none 0 0) (.slice none 0 0) 0, .slice (some ⟨q2, 0, none⟩) 0 0]) (by simp [results, Try.results17, go_sem, p0, p1, p2]) rfl ?_
  exact ⟨_, _, _, rfl, .inl ⟨rfl, rfl⟩, .inl ⟨rfl, rfl⟩, .inr ⟨q2, 0, rfl, hw2, A2'.lt, Nat.le_refl _, Nat.zero_le _, #[], A2', rfl, fun i hi => by omega⟩, (fun h => by cases h), below_put3 BW hw1 _ _ _⟩
set_option maxRecDepth 100000 in
set_option maxHeartbeats 6400000 in
theorem specPlay_any {w : World} {a : Option Addr} {n c : Nat} {d : Nat → Int} (hd : Ls 4 w a n d) (hn : n ≤ 1000) :
    Calls Try.prog 25 #[.slice a n c] w (PlP (ply d n) n (cod d) w) := by
  have hn' : (n : Int) ≤ 1000 := by omega
  have hn2 : ¬ (1000 : Int) < (n : Int) := by omega
  obtain ⟨W3, hW3, A1, A2, A3, BW⟩ := bx3 w 27 27 2 #[.slice none 0 0, .slice none 0 0, .int .i64 0] #[.slice none 0 0, .slice none 0 0, .int .i64 0] #[]
  obtain ⟨q1, hq1⟩ : ∃ q, w.heap.size = q := ⟨_, rfl⟩
  obtain ⟨q2, hq2⟩ : ∃ q, q1 + 1 = q := ⟨_, rfl⟩
  obtain ⟨q3, hq3⟩ : ∃ q, q2 + 1 = q := ⟨_, rfl⟩
  rw [hq1] at A1 A2 A3
  rw [hq2] at A2
  rw [show q1 + 2 = q3 by omega] at A3
  have hbs : ∀ w, (Instr.buildSlice 42 0 #[]).run Try.prog w = .ok (.slice (some ⟨w.heap.size, 0, none⟩) 0 0) (w.alloc (.cells #[] 2)) := fun _ => by kernel_rfl
  have hq1w : w.heap.size ≤ q1 := by omega
  have hq2w : w.heap.size ≤ q2 := by omega
  have hq3w : w.heap.size ≤ q3 := by omega
  have hq12 : q1 ≠ q2 := by omega
  go_enter Try.func25, Try.ntmps25
  go_wp2_with fail
  have CK0 : ArK 1 2 W3 w.heap.size W3.heap.size (.slice (some ⟨q3, 0, none⟩) 0 0) 0 (cod d) := .inr ⟨q3, 0, rfl, hq3w, A3.lt, Nat.le_refl _, Nat.zero_le _, #[], A3, rfl, fun i hi => by omega⟩
  have LK0 : Lk w.heap.size q2 W3 (.slice none 0 0) (.slice none 0 0) 0 (fun _ => 0) 0 (fun _ => 0) 0 := ⟨A2, .inl ⟨rfl, rfl⟩, .inl ⟨rfl, rfl⟩, hq2w⟩
  clear hW3 hq1 hq2 hq3 hbs A2 A3
  go_loopw [5, 6] (fun s t wr => ∃ i : Nat, i ≤ n ∧ t = .int .i64 (i : Int) ∧ ∃ vS vJ gc cc, s = .slice (some ⟨gc, 0, none⟩) i cc ∧ Lk w.heap.size q2 wr vS vJ (ply d i).n (ply d i).f (ply d i).m (ply d i).g (ply d i).T ∧ ArK 1 2 wr w.heap.size wr.heap.size s i (cod d) ∧ At 27 wr q1 #[.slice none 0 0, .slice none 0 0, .int .i64 0] ∧ Below w.heap.size w wr) (fun _ t _ => n - (intOf t).toNat)
  case atStart => exact ⟨0, Nat.zero_le _, rfl, _, _, q3, 0, rfl, LK0, CK0, A1, BW⟩
  case round =>
    clear LK0 CK0 A1 BW
    obtain ⟨i, hi, rfl, vS, vJ, gc, cc, rfl, L, C, A1, BW⟩ := hrel
    have HL : Hid (LbOk (ply d i).n (ply d i).f (ply d i).m (ply d i).g (ply d i).T) := ply_ok d i
    by_cases hlt : i < n
    · have hlt' : (i : Int) < (n : Int) := by omega
      obtain ⟨gd, rfl, R⟩ := (hd.below BW).some hlt
      obtain ⟨-, p, ys, j, yj, hf, hst⟩ := stp_ok (ply_ok d i) (d (i * 4)) (d (i * 4 + 1)) (d (i * 4 + 2)) (d (i * 4 + 3))
      have HF : Hid (Fnd (ply d i).n (ply d i).f (ply d i).m (ply d i).g (d (i * 4 + 1)) (d (i * 4 + 2)) p ys j yj) := hf
      obtain ⟨sS, cS, rfl, -, -⟩ := L.S.ls
      obtain ⟨sJ, cJ, rfl, -, -⟩ := L.J.ls
      have DO := fun w' (l : Ls 3 w' sS (ply d i).n (ply d i).f) (k : Ls 4 w' sJ (ply d i).m (ply d i).g) => l17Do_any (d := cS) (c := cJ) (d (i * 4)) (d (i * 4 + 1)) (d (i * 4 + 2)) (d (i * 4 + 3)) l k (ark_c L.S) (ark_c L.J) HL HF
      rw [← hst] at DO
      obtain ⟨x, hx⟩ : ∃ X, stp (ply d i) (d (i * 4)) (d (i * 4 + 1)) (d (i * 4 + 2)) (d (i * 4 + 3)) = X := ⟨_, rfl⟩
      rw [hx] at DO
      have HP : Hid (ply d (i + 1) = x.2) := by show _ = _; rw [ply, hx]
      have HC : Hid (cod d i = x.1) := by show _ = _; rw [cod, hx]
      clear hx hst hf
      go_wp2_with fail
      go_cut [7, 8] from 22 to 30 (fun s7 s8 wc => CutL x wr s7 s8 wc)
      case first =>
        obtain ⟨u0, hu0, bb⟩ : ∃ uu, wr.drew = uu ∧ Below wr.heap.size wr uu := ⟨_, rfl, (Below.refl _ _).drew⟩
        replace R := R.below bb
        have hbW := bb
        have hlW := bb.size
        have L0 := L.below bb
        have m0 := L0.bx
        have R0 := R
        clear bb
        refine wp_region_held_drew (S := Kb u0) (by kernel_rfl) (by rw [hu0]; exact Below.refl _ _) (fun hHeld => ?_)
        rw [hu0] at hHeld ⊢
        clear hu0
        have bu : Kb u0 u0 := Below.refl _ _
        change wpAnyH _ _ _ _ _ 12 #[false, false, false, false, false, false, false, false, false, false, false, false] _ _
        refine wpAnyH_take (i := 0) (v := .agg #[.slice sS ((ply d i).n) cS, .slice sJ ((ply d i).m) cJ, .int .i64 ((ply d i).T)]) rfl (by kernel_rfl) (by kernel_rfl) (by kernel_rfl) (fun _ _ _ h => h) (Or.inl ⟨by kernel_rfl, ?_⟩) hHeld ?_
        · intro w' hSw; obtain ⟨z0, z1, z2, -⟩ := (m0.below hSw).open3; go_simp
        try simp only [Act.put, List.setIfInBounds_toArray, List.set_cons_zero, List.set_cons_succ, List.getElem_toArray, List.getElem_cons_zero]
        refine wpAnyH_take (i := 1) (v := .slice ((some ⟨gd, 0, none⟩)) n c) rfl (by kernel_rfl) (by kernel_rfl) (by kernel_rfl) (fun _ _ _ h => h) (Or.inl ⟨by kernel_rfl, ?_⟩) hHeld ?_
        · intro w' hSw; go_simp
        try simp only [Act.put, List.setIfInBounds_toArray, List.set_cons_zero, List.set_cons_succ, List.getElem_toArray, List.getElem_cons_succ, List.getElem_cons_zero]
        refine wpAnyH_take (i := 2) (v := .int .i64 ((i : Int))) rfl (by kernel_rfl) (by kernel_rfl) (by kernel_rfl) (fun _ _ _ h => h) (Or.inl ⟨by kernel_rfl, ?_⟩) hHeld ?_
        · intro w' hSw; go_simp
        try simp only [Act.put, List.setIfInBounds_toArray, List.set_cons_zero, List.set_cons_succ, List.getElem_toArray, List.getElem_cons_succ, List.getElem_cons_zero]
        refine wpAnyH_take (i := 3) (v := .pointer (some ⟨gd, i * 4, none⟩)) rfl (by kernel_rfl) (by kernel_rfl) (by kernel_rfl) (fun _ _ _ h => h) (Or.inl ⟨by kernel_rfl, ?_⟩) hHeld ?_
        · intro w' hSw; go_simp
        try simp only [Act.put, List.setIfInBounds_toArray, List.set_cons_zero, List.set_cons_succ, List.getElem_toArray, List.getElem_cons_succ, List.getElem_cons_zero]
        refine wpAnyH_take (i := 4) (v := deedV (d (i * 4)) (d (i * 4 + 1)) (d (i * 4 + 2)) (d (i * 4 + 3))) rfl (by kernel_rfl) (by kernel_rfl) (by kernel_rfl) (fun _ _ _ h => h) (Or.inl ⟨by kernel_rfl, ?_⟩) hHeld ?_
        · intro w' hSw; obtain ⟨z0, z1, z2, z3⟩ := Deed.open (R0.below hSw) i hlt; go_simp
        try simp only [Act.put, List.setIfInBounds_toArray, List.set_cons_zero, List.set_cons_succ, List.getElem_toArray, List.getElem_cons_succ, List.getElem_cons_zero]
        refine wpAnyH_ready (rs := [5, 9]) (by kernel_rfl) (by simp) ?_
        refine AllReadyH.cons rfl (fun KK hK' => ?_) (AllReadyH.cons rfl (fun KK hK' => ?_) AllReadyH.nil)
        · go_simp
          have hlo := bu.size
          refine (DO _ ((ark_ls L0.S).below bu) ((ark_ls L0.J).below bu)).mono ?_
          rintro e u1 ⟨vT, vK, rfl, OS, OJ, bb⟩
          replace bu : Kb u0 u1 := bu.trans (bb.mono bu.size)
          clear bb
          replace OS := OS.wide hlo (Nat.le_refl _)
          replace OJ := OJ.wide hlo (Nat.le_refl _)
          clear hlo
          obtain ⟨tS, dS, rfl, -, -⟩ := OS.ls
          obtain ⟨tJ, dJ, rfl, -, -⟩ := OJ.ls
          try go_wp2_with fail
          clear hHeld
          refine hK'.out _ _ (bu) (fun hHeld => ?_)
          clear hK' KK
          try simp only [List.setIfInBounds_toArray, List.set_cons_zero, List.set_cons_succ]
          refine wpAnyH_take (i := 6) (v := .tuple #[labV (.slice tS x.2.n dS) (.slice tJ x.2.m dJ) x.2.T, .int .i64 x.1]) rfl (by kernel_rfl) (by kernel_rfl) (by kernel_rfl) (fun _ _ _ h => h) (Or.inl ⟨by kernel_rfl, ?_⟩) hHeld ?_
          · intro w' hSw; go_simp
          try simp only [Act.put, List.setIfInBounds_toArray, List.set_cons_zero, List.set_cons_succ, List.getElem_toArray, List.getElem_cons_succ, List.getElem_cons_zero]
          refine wpAnyH_take (i := 7) (v := labV (.slice tS x.2.n dS) (.slice tJ x.2.m dJ) x.2.T) rfl (by kernel_rfl) (by kernel_rfl) (by kernel_rfl) (fun _ _ _ h => h) (Or.inl ⟨by kernel_rfl, ?_⟩) hHeld ?_
          · intro w' hSw; go_simp
          try simp only [Act.put, List.setIfInBounds_toArray, List.set_cons_zero, List.set_cons_succ, List.getElem_toArray, List.getElem_cons_succ, List.getElem_cons_zero]
          refine wpAnyH_take (i := 8) (v := .int .i64 (x.1)) rfl (by kernel_rfl) (by kernel_rfl) (by kernel_rfl) (fun _ _ _ h => h) (Or.inl ⟨by kernel_rfl, ?_⟩) hHeld ?_
          · intro w' hSw; go_simp
          try simp only [Act.put, List.setIfInBounds_toArray, List.set_cons_zero, List.set_cons_succ, List.getElem_toArray, List.getElem_cons_succ, List.getElem_cons_zero]
          refine wpAnyH_ready (rs := [9]) (by kernel_rfl) (by simp) ?_
          refine AllReadyH.cons rfl (fun KK hK' => ?_) AllReadyH.nil
          go_simp
          obtain ⟨u2, h6, G6, bb, -⟩ := boxed u1 27 #[.slice none 0 0, .slice none 0 0, .int .i64 0]
          rw [h6]
          clear h6
          obtain ⟨g6, hg6⟩ : ∃ q, u1.heap.size = q := ⟨_, rfl⟩
          rw [hg6] at G6 ⊢
          have hgu : u0.heap.size ≤ g6 := by have := bu.size; omega
          clear hg6
          replace OS := OS.below bb
          replace OJ := OJ.below bb
          replace bu : Kb u0 u2 := bu.trans (bb.mono bu.size)
          clear bb
          clear hHeld
          refine hK'.out _ _ (bu) (fun hHeld => ?_)
          clear hK' KK
          try simp only [List.setIfInBounds_toArray, List.set_cons_zero, List.set_cons_succ]
          refine wpAnyH_ready (rs := [10]) (by kernel_rfl) (by simp) ?_
          refine AllReadyH.cons rfl (fun KK hK' => ?_) AllReadyH.nil
          obtain ⟨y0, y1, y2, y3, y4, y5⟩ := G6.open3
          go_simp
          have G7 := put3_at G6 (.slice tS x.2.n dS) (.slice tJ x.2.m dJ) (.int .i64 x.2.T)
          replace OS := (OS.only (put3_only u2 g6 (.slice tS x.2.n dS) (.slice tJ x.2.m dJ) (.int .i64 x.2.T)) (apart_box (OS.box G6 (by decide)))).fit
          replace OJ := (OJ.only (put3_only u2 g6 (.slice tS x.2.n dS) (.slice tJ x.2.m dJ) (.int .i64 x.2.T)) (apart_box (OJ.box G6 (by decide)))).fit
          replace bu : Kb u0 (((u2.setCell ⟨g6, 0, none⟩ (.slice tS x.2.n dS)).setCell ⟨g6, 1, none⟩ (.slice tJ x.2.m dJ)).setCell ⟨g6, 2, none⟩ (.int .i64 x.2.T)) := below_put3 bu hgu _ _ _
          clear G6
          obtain ⟨u3, hv⟩ : ∃ V, ((u2.setCell ⟨g6, 0, none⟩ (.slice tS x.2.n dS)).setCell ⟨g6, 1, none⟩ (.slice tJ x.2.m dJ)).setCell ⟨g6, 2, none⟩ (.int .i64 x.2.T) = V := ⟨_, rfl⟩
          rw [hv] at G7 OS OJ bu ⊢
          clear hv y0 y1 y2 y3 y4 y5
          clear hHeld
          refine hK'.out _ _ (bu) (fun hHeld => ?_)
          clear hK' KK
          try simp only [List.setIfInBounds_toArray, List.set_cons_zero, List.set_cons_succ]
          refine wpAnyH_take (i := 11) (v := .int .i64 (x.1)) rfl (by kernel_rfl) (by kernel_rfl) (by kernel_rfl) (fun _ _ _ h => h) (Or.inl ⟨by kernel_rfl, ?_⟩) hHeld ?_
          · intro w' hSw; go_simp
          try simp only [Act.put, List.setIfInBounds_toArray, List.set_cons_zero, List.set_cons_succ, List.getElem_toArray, List.getElem_cons_succ, List.getElem_cons_zero]
          refine wpAnyH_done (by kernel_rfl) ?_ _
          clear hHeld
          go_wp2_with fail
          go_meet
          case rel => exact ⟨g6, tS, dS, tJ, dJ, rfl, rfl, G7, OS.wide hlW (Nat.le_refl _), OJ.wide hlW (Nat.le_refl _), hbW.trans (Below.mono bu hlW)⟩
        · go_simp
          obtain ⟨u1, h6, G6, bb, -⟩ := boxed u0 27 #[.slice none 0 0, .slice none 0 0, .int .i64 0]
          rw [h6]
          clear h6
          obtain ⟨g6, hg6⟩ : ∃ q, u0.heap.size = q := ⟨_, rfl⟩
          rw [hg6] at G6 ⊢
          have hgu : u0.heap.size ≤ g6 := by have := bu.size; omega
          clear hg6
          replace bu : Kb u0 u1 := bu.trans (bb.mono bu.size)
          clear bb
          clear hHeld
          refine hK'.out _ _ (bu) (fun hHeld => ?_)
          clear hK' KK
          try simp only [List.setIfInBounds_toArray, List.set_cons_zero, List.set_cons_succ]
          refine wpAnyH_ready (rs := [5]) (by kernel_rfl) (by simp) ?_
          refine AllReadyH.cons rfl (fun KK hK' => ?_) AllReadyH.nil
          go_simp
          have hlo := bu.size
          refine (DO _ ((ark_ls L0.S).below bu) ((ark_ls L0.J).below bu)).mono ?_
          rintro e u2 ⟨vT, vK, rfl, OS, OJ, bb⟩
          replace G6 := G6.below bb
          replace bu : Kb u0 u2 := bu.trans (bb.mono bu.size)
          clear bb
          replace OS := OS.wide hlo (Nat.le_refl _)
          replace OJ := OJ.wide hlo (Nat.le_refl _)
          clear hlo
          obtain ⟨tS, dS, rfl, -, -⟩ := OS.ls
          obtain ⟨tJ, dJ, rfl, -, -⟩ := OJ.ls
          try go_wp2_with fail
          clear hHeld
          refine hK'.out _ _ (bu) (fun hHeld => ?_)
          clear hK' KK
          try simp only [List.setIfInBounds_toArray, List.set_cons_zero, List.set_cons_succ]
          refine wpAnyH_take (i := 6) (v := .tuple #[labV (.slice tS x.2.n dS) (.slice tJ x.2.m dJ) x.2.T, .int .i64 x.1]) rfl (by kernel_rfl) (by kernel_rfl) (by kernel_rfl) (fun _ _ _ h => h) (Or.inl ⟨by kernel_rfl, ?_⟩) hHeld ?_
          · intro w' hSw; go_simp
          try simp only [Act.put, List.setIfInBounds_toArray, List.set_cons_zero, List.set_cons_succ, List.getElem_toArray, List.getElem_cons_succ, List.getElem_cons_zero]
          refine wpAnyH_take (i := 7) (v := labV (.slice tS x.2.n dS) (.slice tJ x.2.m dJ) x.2.T) rfl (by kernel_rfl) (by kernel_rfl) (by kernel_rfl) (fun _ _ _ h => h) (Or.inl ⟨by kernel_rfl, ?_⟩) hHeld ?_
          · intro w' hSw; go_simp
          try simp only [Act.put, List.setIfInBounds_toArray, List.set_cons_zero, List.set_cons_succ, List.getElem_toArray, List.getElem_cons_succ, List.getElem_cons_zero]
          refine wpAnyH_take (i := 8) (v := .int .i64 (x.1)) rfl (by kernel_rfl) (by kernel_rfl) (by kernel_rfl) (fun _ _ _ h => h) (Or.inl ⟨by kernel_rfl, ?_⟩) hHeld ?_
          · intro w' hSw; go_simp
          try simp only [Act.put, List.setIfInBounds_toArray, List.set_cons_zero, List.set_cons_succ, List.getElem_toArray, List.getElem_cons_succ, List.getElem_cons_zero]
          refine wpAnyH_ready (rs := [10]) (by kernel_rfl) (by simp) ?_
          refine AllReadyH.cons rfl (fun KK hK' => ?_) AllReadyH.nil
          obtain ⟨y0, y1, y2, y3, y4, y5⟩ := G6.open3
          go_simp
          have G7 := put3_at G6 (.slice tS x.2.n dS) (.slice tJ x.2.m dJ) (.int .i64 x.2.T)
          replace OS := (OS.only (put3_only u2 g6 (.slice tS x.2.n dS) (.slice tJ x.2.m dJ) (.int .i64 x.2.T)) (apart_box (OS.box G6 (by decide)))).fit
          replace OJ := (OJ.only (put3_only u2 g6 (.slice tS x.2.n dS) (.slice tJ x.2.m dJ) (.int .i64 x.2.T)) (apart_box (OJ.box G6 (by decide)))).fit
          replace bu : Kb u0 (((u2.setCell ⟨g6, 0, none⟩ (.slice tS x.2.n dS)).setCell ⟨g6, 1, none⟩ (.slice tJ x.2.m dJ)).setCell ⟨g6, 2, none⟩ (.int .i64 x.2.T)) := below_put3 bu hgu _ _ _
          clear G6
          obtain ⟨u3, hv⟩ : ∃ V, ((u2.setCell ⟨g6, 0, none⟩ (.slice tS x.2.n dS)).setCell ⟨g6, 1, none⟩ (.slice tJ x.2.m dJ)).setCell ⟨g6, 2, none⟩ (.int .i64 x.2.T) = V := ⟨_, rfl⟩
          rw [hv] at G7 OS OJ bu ⊢
          clear hv y0 y1 y2 y3 y4 y5
          clear hHeld
          refine hK'.out _ _ (bu) (fun hHeld => ?_)
          clear hK' KK
          try simp only [List.setIfInBounds_toArray, List.set_cons_zero, List.set_cons_succ]
          refine wpAnyH_take (i := 11) (v := .int .i64 (x.1)) rfl (by kernel_rfl) (by kernel_rfl) (by kernel_rfl) (fun _ _ _ h => h) (Or.inl ⟨by kernel_rfl, ?_⟩) hHeld ?_
          · intro w' hSw; go_simp
          try simp only [Act.put, List.setIfInBounds_toArray, List.set_cons_zero, List.set_cons_succ, List.getElem_toArray, List.getElem_cons_succ, List.getElem_cons_zero]
          refine wpAnyH_done (by kernel_rfl) ?_ _
          clear hHeld
          go_wp2_with fail
          go_meet
          case rel => exact ⟨g6, tS, dS, tJ, dJ, rfl, rfl, G7, OS.wide hlW (Nat.le_refl _), OJ.wide hlW (Nat.le_refl _), hbW.trans (Below.mono bu hlW)⟩
      case rest =>
        obtain ⟨g6, tS, dS, tJ, dJ, rfl, rfl, A6, S6, J6, bb⟩ := hcut
        rename World => v1
        replace BW := BW.trans (bb.mono BW.size)
        replace A1 := A1.below bb
        replace C := C.below bb
        have hrw := L.lt
        have bx := L.bx.below bb
        have S6' := S6.wide hrw (Nat.le_refl _)
        have J6' := J6.wide hrw (Nat.le_refl _)
        clear L S6 J6 bb DO
        obtain ⟨x0, x1, x2, -⟩ := A6.open3
        obtain ⟨y0, y1, y2, f0, f1, f2⟩ := bx.open3
        have U := put3_only v1 q2 (.slice tS x.2.n dS) (.slice tJ x.2.m dJ) (.int .i64 x.2.T)
        have L2 : Lk w.heap.size q2 _ (.slice tS x.2.n dS) (.slice tJ x.2.m dJ) x.2.n x.2.f x.2.m x.2.g x.2.T := ⟨put3_at bx (.slice tS x.2.n dS) (.slice tJ x.2.m dJ) (.int .i64 x.2.T), (S6'.only U (apart_box (S6'.box bx (by decide)))).fit, (J6'.only U (apart_box (J6'.box bx (by decide)))).fit, hq2w⟩
        have C2 := (C.only U (apart_box (C.box bx (by decide)))).fit
        have A2 : At 27 (((v1.setCell ⟨q2, 0, none⟩ (.slice tS x.2.n dS)).setCell ⟨q2, 1, none⟩ (.slice tJ x.2.m dJ)).setCell ⟨q2, 2, none⟩ (.int .i64 x.2.T)) q1 #[.slice none 0 0, .slice none 0 0, .int .i64 0] := ((A1.setOther hq12 _).setOther hq12 _).setOther hq12 _
        have BW2 := below_put3 BW hq2w (.slice tS x.2.n dS) (.slice tJ x.2.m dJ) (.int .i64 x.2.T)
        obtain ⟨u2, hu2⟩ : ∃ u, ((v1.setCell ⟨q2, 0, none⟩ (.slice tS x.2.n dS)).setCell ⟨q2, 1, none⟩ (.slice tJ x.2.m dJ)).setCell ⟨q2, 2, none⟩ (.int .i64 x.2.T) = u := ⟨_, rfl⟩
        rw [hu2] at L2 C2 A2 BW2
        clear U S6' J6' C A1 BW
        obtain ⟨V9, hV9, X9, b9, -⟩ := boxed u2 2 #[.int .i64 x.1]
        obtain ⟨gx, hgx⟩ : ∃ q, u2.heap.size = q := ⟨_, rfl⟩
        have hbs : ∀ w, (Instr.buildSlice 42 1 #[(0, .int .i64 x.1)]).run Try.prog w = .ok (.slice (some ⟨w.heap.size, 0, none⟩) 1 1) (w.alloc (.cells #[.int .i64 x.1] 2)) := fun _ => by kernel_rfl
        go_wp2_with (at_builtin; refine Hid.out (?_ : Hid _))
        have W9 := L2.below b9
        have C9 := C2.below b9
        have A9 := A2.below b9
        have BW9 := BW2.trans (b9.mono BW2.size)
        rw [hgx] at X9
        clear hV9 hgx hbs b9 x0 x1 x2 y0 y1 y2 f0 f1 f2 hu2 bx A6
        refine (?_ : wpList _ _ _ _ _ _)
        refine wpListK_append Try.underlying42 infoI rfl (by omega) (by omega) V9 rfl _ _ rfl rfl C9 rfl (.inr ⟨gx, rfl, one_recs X9⟩) (fun h => by cases h) (by omega) W9.lt ?_
        intro v' u3 C' ho hN
        obtain ⟨gv, cv', rfl, -, -, -, -⟩ := C'.nn (hN (fun h => by cases h))
        have W' : Lk w.heap.size q2 u3 (.slice tS x.2.n dS) (.slice tJ x.2.m dJ) (ply d (i + 1)).n (ply d (i + 1)).f (ply d (i + 1)).m (ply d (i + 1)).g (ply d (i + 1)).T := by
          rw [HP.out]
          exact ⟨W9.bx.only ho (C9.box W9.bx (by decide)), (W9.S.only ho (C9.apart W9.S (by decide))).fit, (W9.J.only ho (C9.apart W9.J (by decide))).fit, hq2w⟩
        have A' := A9.only ho (C9.box A9 (by decide))
        have BW' := ho.belowK C9 (Nat.le_refl _) BW9 BW9.size
        have C'' := C'.same (f' := cod d) (fun r hr => by
          unfold cat
          by_cases e : r < i * 1
          · rw [if_pos e]
          · rw [if_neg e, ← HC.out]
            show cod d i = cod d r
            rw [show r = i by omega])
        clear C' ho hN W9 C9 A9 BW9 X9 L2 C2 A2 BW2
        go_wp2
        exact ⟨⟨i + 1, by omega, by go_num, _, _, gv, cv', rfl, W', C'', A', BW'⟩, by simp [intOf]; omega⟩
    · have hlt' : ¬ (i : Int) < (n : Int) := by omega
      obtain rfl : i = n := by omega
      obtain ⟨sS, cS, rfl, -, -⟩ := L.S.ls
      obtain ⟨sJ, cJ, rfl, -, -⟩ := L.J.ls
      obtain ⟨c0, c1, c2, -⟩ := L.bx.open3
      obtain ⟨d0, d1, d2, e0, e1, e2⟩ := A1.open3
      go_wp2
      have a7 := put3_at A1 (.slice sS (ply d i).n cS) (.slice sJ (ply d i).m cJ) (.int .i64 (ply d i).T)
      obtain ⟨p0, p1, p2, -⟩ := a7.open3
      refine bodyPost_ret (v := .tuple #[labV (.slice sS (ply d i).n cS) (.slice sJ (ply d i).m cJ) (ply d i).T, .slice (some ⟨gc, 0, none⟩) i cc]) (by simp [results, Try.results25, go_sem, p0, p1, p2]) rfl ?_
      have U := put3_only wr q1 (.slice sS (ply d i).n cS) (.slice sJ (ply d i).m cJ) (.int .i64 (ply d i).T)
      exact ⟨_, _, _, rfl, (L.S.only U (apart_box (L.S.box A1 (by decide)))).fit, (L.J.only U (apart_box (L.J.box A1 (by decide)))).fit, (C.only U (apart_box (C.box A1 (by decide)))).fit, (fun h => by cases h), below_put3 BW hq1w _ _ _⟩
end Go.Proofs.Ytnjnffemidaopaa
