/-
  The law FnExactLabDo: walked.
-/
import Derived.Test.YtnjnffemidaopaaL17t
import Derived.Deep.CutRange
namespace Go.Proofs.Ytnjnffemidaopaa
open Go.RowKit

theorem outc_le {n m p j : Nat} {f g : Nat → Int} {T K s o a : Int} {ys yj : Bool} (hn : n ≤ 100) (hm : m ≤ 300) : (outc n f m g T K s o a p ys j yj).2.n ≤ 101 ∧ (outc n f m g T K s o a p ys j yj).2.m ≤ 301 := by
  unfold outc
  split
  · split
    · unfold nxt
      repeat' split
      all_goals exact ⟨by simp; omega, by simp; omega⟩
    · exact ⟨by simp; omega, by simp; omega⟩
  · exact ⟨by simp; omega, by simp; omega⟩
theorem ToldD.le {n m p j : Nat} {f g : Nat → Int} {T K s o a : Int} {ys yj : Bool} {x : Int × LS} (h : ToldD n f m g T K s o a p ys j yj x) : x.2.n ≤ 101 ∧ x.2.m ≤ 301 := by
  rcases h with ⟨h1, -, rfl⟩ | ⟨-, rfl⟩
  · exact outc_le h1.1.1 h1.2.1.1
  · exact ⟨by simp [noL], by simp [noL]⟩
theorem ark_ls {K : Nat} {t : TypeId} {w : World} {lo hi : Nat} {a : Option Addr} {n c : Nat} {f : Nat → Int} (h : ArK K t w lo hi (.slice a n c) n f) : Ls K w a n f := by
  obtain ⟨a', c', e, -, L⟩ := h.ls
  simp only [Value.slice.injEq, true_and] at e
  obtain ⟨rfl, rfl⟩ := e
  exact L
/-- A lab told, in a box of its own, and its code. -/
def CutL (x : Int × LS) (wv : World) (s6 s7 : Value) (wc : World) : Prop := ∃ g6 sS cS sJ cJ, s6 = .pointer (some ⟨g6, 0, none⟩) ∧ s7 = .int .i64 x.1 ∧ At 27 wc g6 #[.slice sS x.2.n cS, .slice sJ x.2.m cJ, .int .i64 x.2.T] ∧ ArK 3 37 wc wv.heap.size wc.heap.size (.slice sS x.2.n cS) x.2.n x.2.f ∧ ArK 4 39 wc wv.heap.size wc.heap.size (.slice sJ x.2.m cJ) x.2.m x.2.g ∧ Below wv.heap.size wv wc
set_option maxRecDepth 100000 in
set_option maxHeartbeats 12800000 in
theorem exactLabDo_walk {w : World} {p q : Option Addr} {N cap M cap2 : Nat} {T : Int} {f k : Nat → Int} (K s o a : Int) (hS : Src w p (N * 3) f) (hN : N ≤ maxLen) (hJ : Src w q (M * 4) k) (hM : M ≤ maxLen) :
    Calls Try.prog 7 #[lbV p N cap q M cap2 T, deedV K s o a] w fun e w' => e = .returned (.bool true) ∧ Below w.heap.size w w' := by
  obtain ⟨pp, ys, jj, yj, x, hx⟩ := told_is N f M k T K s o a
  have HX : Hid (ToldD N f M k T K s o a pp ys jj yj x) := hx
  obtain ⟨hxn, hxm⟩ := hx.le
  clear hx
  have hcc := bne_self_eq_false x.1
  obtain ⟨W1, hW1, A1, A2, B, -⟩ := bx2 w 48 53 #[.slice p N cap, .slice q M cap2, .int .i64 T] #[.int .i64 K, .int .i64 s, .int .i64 o, .int .i64 a]
  obtain ⟨q1, hq1⟩ : ∃ q, w.heap.size = q := ⟨_, rfl⟩
  obtain ⟨q2, hq2⟩ : ∃ q, q1 + 1 = q := ⟨_, rfl⟩
  rw [hq1] at A1 A2
  rw [hq2] at A2
  have HS : Hid (Src w p (N * 3) f) := hS
  have HL : Hid (Src w q (M * 4) k) := hJ
  obtain ⟨c0, c1, c2, -⟩ := A1.open3
  clear hS hJ
  go_enter Try.func7, Try.ntmps7
  go_wp2_with fail
  refine (szLab_any hN hM).mono ?_
  rintro e w2 ⟨r, rfl, hr, bb⟩
  replace B := B.trans (bb.mono B.size)
  replace A1 := A1.below bb
  replace A2 := A2.below bb
  clear c0 c1 c2 hW1 hq1 hq2 bb hN hM
  obtain ⟨c0, c1, c2, -⟩ := A1.open3
  rcases hr with rfl | ⟨r0, hN, hM⟩
  · go_wp2
    go_ret
    exact ⟨rfl, B⟩
  have hr0 : ¬ r < 0 := by omega
  clear c0 c1 c2
  go_wp2_with fail
  go_cut [6, 7] from 21 to 29 (fun s6 s7 wc => CutL x w2 s6 s7 wc)
  case first =>
    obtain ⟨u0, hu0, bb⟩ : ∃ uu, w2.drew = uu ∧ Below w2.heap.size w2 uu := ⟨_, rfl, (Below.refl _ _).drew⟩
    replace A1 := A1.below bb
    replace A2 := A2.below bb
    have hbW := bb
    have hlW := bb.size
    replace B := B.trans (bb.mono B.size)
    have m0 := A1
    have n0 := A2
    clear bb
    refine wp_region_held_drew (S := Kb u0) (by kernel_rfl) (by rw [hu0]; exact Below.refl _ _) (fun hHeld => ?_)
    rw [hu0] at hHeld ⊢
    clear hu0
    have bu : Kb u0 u0 := Below.refl _ _
    change wpAnyH _ _ _ _ _ 11 #[false, false, false, false, false, false, false, false, false, false, false] _ _
    refine wpAnyH_take (i := 0) (v := .agg #[.slice p N cap, .slice q M cap2, .int .i64 (T)]) rfl (by kernel_rfl) (by kernel_rfl) (by kernel_rfl) (fun _ _ _ h => h) (Or.inl ⟨by kernel_rfl, ?_⟩) hHeld ?_
    · intro w' hSw; obtain ⟨z0, z1, z2, -⟩ := (m0.below hSw).open3; go_simp
    try simp only [Act.put, List.setIfInBounds_toArray, List.set_cons_zero, List.set_cons_succ, List.getElem_toArray, List.getElem_cons_zero]
    refine wpAnyH_take (i := 2) (v := .agg #[.int .i64 (K), .int .i64 (s), .int .i64 (o), .int .i64 (a)]) rfl (by kernel_rfl) (by kernel_rfl) (by kernel_rfl) (fun _ _ _ h => h) (Or.inl ⟨by kernel_rfl, ?_⟩) hHeld ?_
    · intro w' hSw; obtain ⟨z0, z1, z2, z3, -⟩ := Job.box (n0.below hSw); go_simp
    try simp only [Act.put, List.setIfInBounds_toArray, List.set_cons_zero, List.set_cons_succ, List.getElem_toArray, List.getElem_cons_succ, List.getElem_cons_zero]
    refine wpAnyH_ready (rs := [1, 8]) (by kernel_rfl) (by simp) ?_
    refine AllReadyH.cons rfl (fun KK hK' => ?_) (AllReadyH.cons rfl (fun KK hK' => ?_) AllReadyH.nil)
    · go_simp
      refine (toLab_any (HS.out.below B) (HL.out.below B) hN hM).mono ?_
      rintro e u1 ⟨g3, h3, rfl, -, -, D3, E3, bb⟩
      replace A1 := A1.below bb
      replace A2 := A2.below bb
      replace B := B.trans (bb.mono B.size)
      replace bu : Kb u0 u1 := bu.trans (bb.mono bu.size)
      clear bb
      try go_wp2_with fail
      clear hHeld
      refine hK'.out _ _ (bu) (fun hHeld => ?_)
      clear hK' KK
      try simp only [List.setIfInBounds_toArray, List.set_cons_zero, List.set_cons_succ]
      refine wpAnyH_ready (rs := [3, 8]) (by kernel_rfl) (by simp) ?_
      refine AllReadyH.cons rfl (fun KK hK' => ?_) (AllReadyH.cons rfl (fun KK hK' => ?_) AllReadyH.nil)
      · go_simp
        refine (toDeed_any K s o a _).mono ?_
        rintro e u2 ⟨rfl, bb⟩
        replace A1 := A1.below bb
        replace A2 := A2.below bb
        replace B := B.trans (bb.mono B.size)
        replace D3 := D3.below bb
        replace E3 := E3.below bb
        replace bu : Kb u0 u2 := bu.trans (bb.mono bu.size)
        clear bb
        try go_wp2_with fail
        clear hHeld
        refine hK'.out _ _ (bu) (fun hHeld => ?_)
        clear hK' KK
        try simp only [List.setIfInBounds_toArray, List.set_cons_zero, List.set_cons_succ]
        refine wpAnyH_ready (rs := [4, 8]) (by kernel_rfl) (by simp) ?_
        refine AllReadyH.cons rfl (fun KK hK' => ?_) (AllReadyH.cons rfl (fun KK hK' => ?_) AllReadyH.nil)
        · go_simp
          have hlo := bu.size
          refine (specLabDo_any K s o a (.inr ⟨g3, rfl, D3.recsN⟩) (.inr ⟨h3, rfl, E3.recsN⟩) (fun h => by cases h) (fun h => by cases h) hN hM HX).mono ?_
          rintro e u3 ⟨vS, vJ, rfl, OS, OJ, bb⟩
          replace A1 := A1.below bb
          replace A2 := A2.below bb
          replace B := B.trans (bb.mono B.size)
          replace D3 := D3.below bb
          replace E3 := E3.below bb
          replace bu : Kb u0 u3 := bu.trans (bb.mono bu.size)
          clear bb
          replace OS := OS.wide hlo (Nat.le_refl _)
          replace OJ := OJ.wide hlo (Nat.le_refl _)
          clear hlo
          obtain ⟨sS, cS, rfl, -, -⟩ := OS.ls
          obtain ⟨sJ, cJ, rfl, -, -⟩ := OJ.ls
          try go_wp2_with fail
          clear hHeld
          refine hK'.out _ _ (bu) (fun hHeld => ?_)
          clear hK' KK
          try simp only [List.setIfInBounds_toArray, List.set_cons_zero, List.set_cons_succ]
          refine wpAnyH_take (i := 5) (v := .tuple #[labV (.slice sS x.2.n cS) (.slice sJ x.2.m cJ) x.2.T, .int .i64 x.1]) rfl (by kernel_rfl) (by kernel_rfl) (by kernel_rfl) (fun _ _ _ h => h) (Or.inl ⟨by kernel_rfl, ?_⟩) hHeld ?_
          · intro w' hSw; go_simp
          try simp only [Act.put, List.setIfInBounds_toArray, List.set_cons_zero, List.set_cons_succ, List.getElem_toArray, List.getElem_cons_succ, List.getElem_cons_zero]
          refine wpAnyH_take (i := 6) (v := labV (.slice sS x.2.n cS) (.slice sJ x.2.m cJ) x.2.T) rfl (by kernel_rfl) (by kernel_rfl) (by kernel_rfl) (fun _ _ _ h => h) (Or.inl ⟨by kernel_rfl, ?_⟩) hHeld ?_
          · intro w' hSw; go_simp
          try simp only [Act.put, List.setIfInBounds_toArray, List.set_cons_zero, List.set_cons_succ, List.getElem_toArray, List.getElem_cons_succ, List.getElem_cons_zero]
          refine wpAnyH_take (i := 7) (v := .int .i64 (x.1)) rfl (by kernel_rfl) (by kernel_rfl) (by kernel_rfl) (fun _ _ _ h => h) (Or.inl ⟨by kernel_rfl, ?_⟩) hHeld ?_
          · intro w' hSw; go_simp
          try simp only [Act.put, List.setIfInBounds_toArray, List.set_cons_zero, List.set_cons_succ, List.getElem_toArray, List.getElem_cons_succ, List.getElem_cons_zero]
          refine wpAnyH_ready (rs := [8]) (by kernel_rfl) (by simp) ?_
          refine AllReadyH.cons rfl (fun KK hK' => ?_) AllReadyH.nil
          go_simp
          obtain ⟨u4, h6, G6, bb, -⟩ := boxed u3 27 #[.slice none 0 0, .slice none 0 0, .int .i64 0]
          rw [h6]
          clear h6
          obtain ⟨g6, hg6⟩ : ∃ q, u3.heap.size = q := ⟨_, rfl⟩
          rw [hg6] at G6 ⊢
          have hgu : u0.heap.size ≤ g6 := by have := bu.size; omega
          clear hg6
          replace A1 := A1.below bb
          replace A2 := A2.below bb
          replace B := B.trans (bb.mono B.size)
          replace D3 := D3.below bb
          replace E3 := E3.below bb
          replace OS := OS.below bb
          replace OJ := OJ.below bb
          replace bu : Kb u0 u4 := bu.trans (bb.mono bu.size)
          clear bb
          clear hHeld
          refine hK'.out _ _ (bu) (fun hHeld => ?_)
          clear hK' KK
          try simp only [List.setIfInBounds_toArray, List.set_cons_zero, List.set_cons_succ]
          refine wpAnyH_ready (rs := [9]) (by kernel_rfl) (by simp) ?_
          refine AllReadyH.cons rfl (fun KK hK' => ?_) AllReadyH.nil
          obtain ⟨y0, y1, y2, y3, y4, y5⟩ := G6.open3
          go_simp
          have G7 := put3_at G6 (.slice sS x.2.n cS) (.slice sJ x.2.m cJ) (.int .i64 x.2.T)
          replace OS := (OS.only (put3_only u4 g6 (.slice sS x.2.n cS) (.slice sJ x.2.m cJ) (.int .i64 x.2.T)) (apart_box (OS.box G6 (by decide)))).fit
          replace OJ := (OJ.only (put3_only u4 g6 (.slice sS x.2.n cS) (.slice sJ x.2.m cJ) (.int .i64 x.2.T)) (apart_box (OJ.box G6 (by decide)))).fit
          replace bu : Kb u0 (((u4.setCell ⟨g6, 0, none⟩ (.slice sS x.2.n cS)).setCell ⟨g6, 1, none⟩ (.slice sJ x.2.m cJ)).setCell ⟨g6, 2, none⟩ (.int .i64 x.2.T)) := below_put3 bu hgu _ _ _
          clear G6 A1 A2 B 
          obtain ⟨u5, hv⟩ : ∃ V, ((u4.setCell ⟨g6, 0, none⟩ (.slice sS x.2.n cS)).setCell ⟨g6, 1, none⟩ (.slice sJ x.2.m cJ)).setCell ⟨g6, 2, none⟩ (.int .i64 x.2.T) = V := ⟨_, rfl⟩
          rw [hv] at G7 OS OJ bu ⊢
          clear hv y0 y1 y2 y3 y4 y5
          clear hHeld
          refine hK'.out _ _ (bu) (fun hHeld => ?_)
          clear hK' KK
          try simp only [List.setIfInBounds_toArray, List.set_cons_zero, List.set_cons_succ]
          refine wpAnyH_take (i := 10) (v := .int .i64 (x.1)) rfl (by kernel_rfl) (by kernel_rfl) (by kernel_rfl) (fun _ _ _ h => h) (Or.inl ⟨by kernel_rfl, ?_⟩) hHeld ?_
          · intro w' hSw; go_simp
          try simp only [Act.put, List.setIfInBounds_toArray, List.set_cons_zero, List.set_cons_succ, List.getElem_toArray, List.getElem_cons_succ, List.getElem_cons_zero]
          refine wpAnyH_done (by kernel_rfl) ?_ _
          clear hHeld
          go_wp2_with fail
          go_meet
          case rel => exact ⟨g6, sS, cS, sJ, cJ, rfl, rfl, G7, OS.wide hlW (Nat.le_refl _), OJ.wide hlW (Nat.le_refl _), hbW.trans (Below.mono bu hlW)⟩
        · go_simp
          obtain ⟨u3, h6, G6, bb, -⟩ := boxed u2 27 #[.slice none 0 0, .slice none 0 0, .int .i64 0]
          rw [h6]
          clear h6
          obtain ⟨g6, hg6⟩ : ∃ q, u2.heap.size = q := ⟨_, rfl⟩
          rw [hg6] at G6 ⊢
          have hgu : u0.heap.size ≤ g6 := by have := bu.size; omega
          clear hg6
          replace A1 := A1.below bb
          replace A2 := A2.below bb
          replace B := B.trans (bb.mono B.size)
          replace D3 := D3.below bb
          replace E3 := E3.below bb
          replace bu : Kb u0 u3 := bu.trans (bb.mono bu.size)
          clear bb
          clear hHeld
          refine hK'.out _ _ (bu) (fun hHeld => ?_)
          clear hK' KK
          try simp only [List.setIfInBounds_toArray, List.set_cons_zero, List.set_cons_succ]
          refine wpAnyH_ready (rs := [4]) (by kernel_rfl) (by simp) ?_
          refine AllReadyH.cons rfl (fun KK hK' => ?_) AllReadyH.nil
          go_simp
          have hlo := bu.size
          refine (specLabDo_any K s o a (.inr ⟨g3, rfl, D3.recsN⟩) (.inr ⟨h3, rfl, E3.recsN⟩) (fun h => by cases h) (fun h => by cases h) hN hM HX).mono ?_
          rintro e u4 ⟨vS, vJ, rfl, OS, OJ, bb⟩
          replace A1 := A1.below bb
          replace A2 := A2.below bb
          replace B := B.trans (bb.mono B.size)
          replace D3 := D3.below bb
          replace E3 := E3.below bb
          replace G6 := G6.below bb
          replace bu : Kb u0 u4 := bu.trans (bb.mono bu.size)
          clear bb
          replace OS := OS.wide hlo (Nat.le_refl _)
          replace OJ := OJ.wide hlo (Nat.le_refl _)
          clear hlo
          obtain ⟨sS, cS, rfl, -, -⟩ := OS.ls
          obtain ⟨sJ, cJ, rfl, -, -⟩ := OJ.ls
          try go_wp2_with fail
          clear hHeld
          refine hK'.out _ _ (bu) (fun hHeld => ?_)
          clear hK' KK
          try simp only [List.setIfInBounds_toArray, List.set_cons_zero, List.set_cons_succ]
          refine wpAnyH_take (i := 5) (v := .tuple #[labV (.slice sS x.2.n cS) (.slice sJ x.2.m cJ) x.2.T, .int .i64 x.1]) rfl (by kernel_rfl) (by kernel_rfl) (by kernel_rfl) (fun _ _ _ h => h) (Or.inl ⟨by kernel_rfl, ?_⟩) hHeld ?_
          · intro w' hSw; go_simp
          try simp only [Act.put, List.setIfInBounds_toArray, List.set_cons_zero, List.set_cons_succ, List.getElem_toArray, List.getElem_cons_succ, List.getElem_cons_zero]
          refine wpAnyH_take (i := 6) (v := labV (.slice sS x.2.n cS) (.slice sJ x.2.m cJ) x.2.T) rfl (by kernel_rfl) (by kernel_rfl) (by kernel_rfl) (fun _ _ _ h => h) (Or.inl ⟨by kernel_rfl, ?_⟩) hHeld ?_
          · intro w' hSw; go_simp
          try simp only [Act.put, List.setIfInBounds_toArray, List.set_cons_zero, List.set_cons_succ, List.getElem_toArray, List.getElem_cons_succ, List.getElem_cons_zero]
          refine wpAnyH_take (i := 7) (v := .int .i64 (x.1)) rfl (by kernel_rfl) (by kernel_rfl) (by kernel_rfl) (fun _ _ _ h => h) (Or.inl ⟨by kernel_rfl, ?_⟩) hHeld ?_
          · intro w' hSw; go_simp
          try simp only [Act.put, List.setIfInBounds_toArray, List.set_cons_zero, List.set_cons_succ, List.getElem_toArray, List.getElem_cons_succ, List.getElem_cons_zero]
          refine wpAnyH_ready (rs := [9]) (by kernel_rfl) (by simp) ?_
          refine AllReadyH.cons rfl (fun KK hK' => ?_) AllReadyH.nil
          obtain ⟨y0, y1, y2, y3, y4, y5⟩ := G6.open3
          go_simp
          have G7 := put3_at G6 (.slice sS x.2.n cS) (.slice sJ x.2.m cJ) (.int .i64 x.2.T)
          replace OS := (OS.only (put3_only u4 g6 (.slice sS x.2.n cS) (.slice sJ x.2.m cJ) (.int .i64 x.2.T)) (apart_box (OS.box G6 (by decide)))).fit
          replace OJ := (OJ.only (put3_only u4 g6 (.slice sS x.2.n cS) (.slice sJ x.2.m cJ) (.int .i64 x.2.T)) (apart_box (OJ.box G6 (by decide)))).fit
          replace bu : Kb u0 (((u4.setCell ⟨g6, 0, none⟩ (.slice sS x.2.n cS)).setCell ⟨g6, 1, none⟩ (.slice sJ x.2.m cJ)).setCell ⟨g6, 2, none⟩ (.int .i64 x.2.T)) := below_put3 bu hgu _ _ _
          clear G6 A1 A2 B 
          obtain ⟨u5, hv⟩ : ∃ V, ((u4.setCell ⟨g6, 0, none⟩ (.slice sS x.2.n cS)).setCell ⟨g6, 1, none⟩ (.slice sJ x.2.m cJ)).setCell ⟨g6, 2, none⟩ (.int .i64 x.2.T) = V := ⟨_, rfl⟩
          rw [hv] at G7 OS OJ bu ⊢
          clear hv y0 y1 y2 y3 y4 y5
          clear hHeld
          refine hK'.out _ _ (bu) (fun hHeld => ?_)
          clear hK' KK
          try simp only [List.setIfInBounds_toArray, List.set_cons_zero, List.set_cons_succ]
          refine wpAnyH_take (i := 10) (v := .int .i64 (x.1)) rfl (by kernel_rfl) (by kernel_rfl) (by kernel_rfl) (fun _ _ _ h => h) (Or.inl ⟨by kernel_rfl, ?_⟩) hHeld ?_
          · intro w' hSw; go_simp
          try simp only [Act.put, List.setIfInBounds_toArray, List.set_cons_zero, List.set_cons_succ, List.getElem_toArray, List.getElem_cons_succ, List.getElem_cons_zero]
          refine wpAnyH_done (by kernel_rfl) ?_ _
          clear hHeld
          go_wp2_with fail
          go_meet
          case rel => exact ⟨g6, sS, cS, sJ, cJ, rfl, rfl, G7, OS.wide hlW (Nat.le_refl _), OJ.wide hlW (Nat.le_refl _), hbW.trans (Below.mono bu hlW)⟩
      · go_simp
        obtain ⟨u2, h6, G6, bb, -⟩ := boxed u1 27 #[.slice none 0 0, .slice none 0 0, .int .i64 0]
        rw [h6]
        clear h6
        obtain ⟨g6, hg6⟩ : ∃ q, u1.heap.size = q := ⟨_, rfl⟩
        rw [hg6] at G6 ⊢
        have hgu : u0.heap.size ≤ g6 := by have := bu.size; omega
        clear hg6
        replace A1 := A1.below bb
        replace A2 := A2.below bb
        replace B := B.trans (bb.mono B.size)
        replace D3 := D3.below bb
        replace E3 := E3.below bb
        replace bu : Kb u0 u2 := bu.trans (bb.mono bu.size)
        clear bb
        clear hHeld
        refine hK'.out _ _ (bu) (fun hHeld => ?_)
        clear hK' KK
        try simp only [List.setIfInBounds_toArray, List.set_cons_zero, List.set_cons_succ]
        refine wpAnyH_ready (rs := [3]) (by kernel_rfl) (by simp) ?_
        refine AllReadyH.cons rfl (fun KK hK' => ?_) AllReadyH.nil
        go_simp
        refine (toDeed_any K s o a _).mono ?_
        rintro e u3 ⟨rfl, bb⟩
        replace A1 := A1.below bb
        replace A2 := A2.below bb
        replace B := B.trans (bb.mono B.size)
        replace D3 := D3.below bb
        replace E3 := E3.below bb
        replace G6 := G6.below bb
        replace bu : Kb u0 u3 := bu.trans (bb.mono bu.size)
        clear bb
        try go_wp2_with fail
        clear hHeld
        refine hK'.out _ _ (bu) (fun hHeld => ?_)
        clear hK' KK
        try simp only [List.setIfInBounds_toArray, List.set_cons_zero, List.set_cons_succ]
        refine wpAnyH_ready (rs := [4]) (by kernel_rfl) (by simp) ?_
        refine AllReadyH.cons rfl (fun KK hK' => ?_) AllReadyH.nil
        go_simp
        have hlo := bu.size
        refine (specLabDo_any K s o a (.inr ⟨g3, rfl, D3.recsN⟩) (.inr ⟨h3, rfl, E3.recsN⟩) (fun h => by cases h) (fun h => by cases h) hN hM HX).mono ?_
        rintro e u4 ⟨vS, vJ, rfl, OS, OJ, bb⟩
        replace A1 := A1.below bb
        replace A2 := A2.below bb
        replace B := B.trans (bb.mono B.size)
        replace D3 := D3.below bb
        replace E3 := E3.below bb
        replace G6 := G6.below bb
        replace bu : Kb u0 u4 := bu.trans (bb.mono bu.size)
        clear bb
        replace OS := OS.wide hlo (Nat.le_refl _)
        replace OJ := OJ.wide hlo (Nat.le_refl _)
        clear hlo
        obtain ⟨sS, cS, rfl, -, -⟩ := OS.ls
        obtain ⟨sJ, cJ, rfl, -, -⟩ := OJ.ls
        try go_wp2_with fail
        clear hHeld
        refine hK'.out _ _ (bu) (fun hHeld => ?_)
        clear hK' KK
        try simp only [List.setIfInBounds_toArray, List.set_cons_zero, List.set_cons_succ]
        refine wpAnyH_take (i := 5) (v := .tuple #[labV (.slice sS x.2.n cS) (.slice sJ x.2.m cJ) x.2.T, .int .i64 x.1]) rfl (by kernel_rfl) (by kernel_rfl) (by kernel_rfl) (fun _ _ _ h => h) (Or.inl ⟨by kernel_rfl, ?_⟩) hHeld ?_
        · intro w' hSw; go_simp
        try simp only [Act.put, List.setIfInBounds_toArray, List.set_cons_zero, List.set_cons_succ, List.getElem_toArray, List.getElem_cons_succ, List.getElem_cons_zero]
        refine wpAnyH_take (i := 6) (v := labV (.slice sS x.2.n cS) (.slice sJ x.2.m cJ) x.2.T) rfl (by kernel_rfl) (by kernel_rfl) (by kernel_rfl) (fun _ _ _ h => h) (Or.inl ⟨by kernel_rfl, ?_⟩) hHeld ?_
        · intro w' hSw; go_simp
        try simp only [Act.put, List.setIfInBounds_toArray, List.set_cons_zero, List.set_cons_succ, List.getElem_toArray, List.getElem_cons_succ, List.getElem_cons_zero]
        refine wpAnyH_take (i := 7) (v := .int .i64 (x.1)) rfl (by kernel_rfl) (by kernel_rfl) (by kernel_rfl) (fun _ _ _ h => h) (Or.inl ⟨by kernel_rfl, ?_⟩) hHeld ?_
        · intro w' hSw; go_simp
        try simp only [Act.put, List.setIfInBounds_toArray, List.set_cons_zero, List.set_cons_succ, List.getElem_toArray, List.getElem_cons_succ, List.getElem_cons_zero]
        refine wpAnyH_ready (rs := [9]) (by kernel_rfl) (by simp) ?_
        refine AllReadyH.cons rfl (fun KK hK' => ?_) AllReadyH.nil
        obtain ⟨y0, y1, y2, y3, y4, y5⟩ := G6.open3
        go_simp
        have G7 := put3_at G6 (.slice sS x.2.n cS) (.slice sJ x.2.m cJ) (.int .i64 x.2.T)
        replace OS := (OS.only (put3_only u4 g6 (.slice sS x.2.n cS) (.slice sJ x.2.m cJ) (.int .i64 x.2.T)) (apart_box (OS.box G6 (by decide)))).fit
        replace OJ := (OJ.only (put3_only u4 g6 (.slice sS x.2.n cS) (.slice sJ x.2.m cJ) (.int .i64 x.2.T)) (apart_box (OJ.box G6 (by decide)))).fit
        replace bu : Kb u0 (((u4.setCell ⟨g6, 0, none⟩ (.slice sS x.2.n cS)).setCell ⟨g6, 1, none⟩ (.slice sJ x.2.m cJ)).setCell ⟨g6, 2, none⟩ (.int .i64 x.2.T)) := below_put3 bu hgu _ _ _
        clear G6 A1 A2 B 
        obtain ⟨u5, hv⟩ : ∃ V, ((u4.setCell ⟨g6, 0, none⟩ (.slice sS x.2.n cS)).setCell ⟨g6, 1, none⟩ (.slice sJ x.2.m cJ)).setCell ⟨g6, 2, none⟩ (.int .i64 x.2.T) = V := ⟨_, rfl⟩
        rw [hv] at G7 OS OJ bu ⊢
        clear hv y0 y1 y2 y3 y4 y5
        clear hHeld
        refine hK'.out _ _ (bu) (fun hHeld => ?_)
        clear hK' KK
        try simp only [List.setIfInBounds_toArray, List.set_cons_zero, List.set_cons_succ]
        refine wpAnyH_take (i := 10) (v := .int .i64 (x.1)) rfl (by kernel_rfl) (by kernel_rfl) (by kernel_rfl) (fun _ _ _ h => h) (Or.inl ⟨by kernel_rfl, ?_⟩) hHeld ?_
        · intro w' hSw; go_simp
        try simp only [Act.put, List.setIfInBounds_toArray, List.set_cons_zero, List.set_cons_succ, List.getElem_toArray, List.getElem_cons_succ, List.getElem_cons_zero]
        refine wpAnyH_done (by kernel_rfl) ?_ _
        clear hHeld
        go_wp2_with fail
        go_meet
        case rel => exact ⟨g6, sS, cS, sJ, cJ, rfl, rfl, G7, OS.wide hlW (Nat.le_refl _), OJ.wide hlW (Nat.le_refl _), hbW.trans (Below.mono bu hlW)⟩
    · go_simp
      obtain ⟨u1, h6, G6, bb, -⟩ := boxed u0 27 #[.slice none 0 0, .slice none 0 0, .int .i64 0]
      rw [h6]
      clear h6
      obtain ⟨g6, hg6⟩ : ∃ q, u0.heap.size = q := ⟨_, rfl⟩
      rw [hg6] at G6 ⊢
      have hgu : u0.heap.size ≤ g6 := by have := bu.size; omega
      clear hg6
      replace A1 := A1.below bb
      replace A2 := A2.below bb
      replace B := B.trans (bb.mono B.size)
      replace bu : Kb u0 u1 := bu.trans (bb.mono bu.size)
      clear bb
      clear hHeld
      refine hK'.out _ _ (bu) (fun hHeld => ?_)
      clear hK' KK
      try simp only [List.setIfInBounds_toArray, List.set_cons_zero, List.set_cons_succ]
      refine wpAnyH_ready (rs := [1]) (by kernel_rfl) (by simp) ?_
      refine AllReadyH.cons rfl (fun KK hK' => ?_) AllReadyH.nil
      go_simp
      refine (toLab_any (HS.out.below B) (HL.out.below B) hN hM).mono ?_
      rintro e u2 ⟨g3, h3, rfl, -, -, D3, E3, bb⟩
      replace A1 := A1.below bb
      replace A2 := A2.below bb
      replace B := B.trans (bb.mono B.size)
      replace G6 := G6.below bb
      replace bu : Kb u0 u2 := bu.trans (bb.mono bu.size)
      clear bb
      try go_wp2_with fail
      clear hHeld
      refine hK'.out _ _ (bu) (fun hHeld => ?_)
      clear hK' KK
      try simp only [List.setIfInBounds_toArray, List.set_cons_zero, List.set_cons_succ]
      refine wpAnyH_ready (rs := [3]) (by kernel_rfl) (by simp) ?_
      refine AllReadyH.cons rfl (fun KK hK' => ?_) AllReadyH.nil
      go_simp
      refine (toDeed_any K s o a _).mono ?_
      rintro e u3 ⟨rfl, bb⟩
      replace A1 := A1.below bb
      replace A2 := A2.below bb
      replace B := B.trans (bb.mono B.size)
      replace D3 := D3.below bb
      replace E3 := E3.below bb
      replace G6 := G6.below bb
      replace bu : Kb u0 u3 := bu.trans (bb.mono bu.size)
      clear bb
      try go_wp2_with fail
      clear hHeld
      refine hK'.out _ _ (bu) (fun hHeld => ?_)
      clear hK' KK
      try simp only [List.setIfInBounds_toArray, List.set_cons_zero, List.set_cons_succ]
      refine wpAnyH_ready (rs := [4]) (by kernel_rfl) (by simp) ?_
      refine AllReadyH.cons rfl (fun KK hK' => ?_) AllReadyH.nil
      go_simp
      have hlo := bu.size
      refine (specLabDo_any K s o a (.inr ⟨g3, rfl, D3.recsN⟩) (.inr ⟨h3, rfl, E3.recsN⟩) (fun h => by cases h) (fun h => by cases h) hN hM HX).mono ?_
      rintro e u4 ⟨vS, vJ, rfl, OS, OJ, bb⟩
      replace A1 := A1.below bb
      replace A2 := A2.below bb
      replace B := B.trans (bb.mono B.size)
      replace D3 := D3.below bb
      replace E3 := E3.below bb
      replace G6 := G6.below bb
      replace bu : Kb u0 u4 := bu.trans (bb.mono bu.size)
      clear bb
      replace OS := OS.wide hlo (Nat.le_refl _)
      replace OJ := OJ.wide hlo (Nat.le_refl _)
      clear hlo
      obtain ⟨sS, cS, rfl, -, -⟩ := OS.ls
      obtain ⟨sJ, cJ, rfl, -, -⟩ := OJ.ls
      try go_wp2_with fail
      clear hHeld
      refine hK'.out _ _ (bu) (fun hHeld => ?_)
      clear hK' KK
      try simp only [List.setIfInBounds_toArray, List.set_cons_zero, List.set_cons_succ]
      refine wpAnyH_take (i := 5) (v := .tuple #[labV (.slice sS x.2.n cS) (.slice sJ x.2.m cJ) x.2.T, .int .i64 x.1]) rfl (by kernel_rfl) (by kernel_rfl) (by kernel_rfl) (fun _ _ _ h => h) (Or.inl ⟨by kernel_rfl, ?_⟩) hHeld ?_
      · intro w' hSw; go_simp
      try simp only [Act.put, List.setIfInBounds_toArray, List.set_cons_zero, List.set_cons_succ, List.getElem_toArray, List.getElem_cons_succ, List.getElem_cons_zero]
      refine wpAnyH_take (i := 6) (v := labV (.slice sS x.2.n cS) (.slice sJ x.2.m cJ) x.2.T) rfl (by kernel_rfl) (by kernel_rfl) (by kernel_rfl) (fun _ _ _ h => h) (Or.inl ⟨by kernel_rfl, ?_⟩) hHeld ?_
      · intro w' hSw; go_simp
      try simp only [Act.put, List.setIfInBounds_toArray, List.set_cons_zero, List.set_cons_succ, List.getElem_toArray, List.getElem_cons_succ, List.getElem_cons_zero]
      refine wpAnyH_take (i := 7) (v := .int .i64 (x.1)) rfl (by kernel_rfl) (by kernel_rfl) (by kernel_rfl) (fun _ _ _ h => h) (Or.inl ⟨by kernel_rfl, ?_⟩) hHeld ?_
      · intro w' hSw; go_simp
      try simp only [Act.put, List.setIfInBounds_toArray, List.set_cons_zero, List.set_cons_succ, List.getElem_toArray, List.getElem_cons_succ, List.getElem_cons_zero]
      refine wpAnyH_ready (rs := [9]) (by kernel_rfl) (by simp) ?_
      refine AllReadyH.cons rfl (fun KK hK' => ?_) AllReadyH.nil
      obtain ⟨y0, y1, y2, y3, y4, y5⟩ := G6.open3
      go_simp
      have G7 := put3_at G6 (.slice sS x.2.n cS) (.slice sJ x.2.m cJ) (.int .i64 x.2.T)
      replace OS := (OS.only (put3_only u4 g6 (.slice sS x.2.n cS) (.slice sJ x.2.m cJ) (.int .i64 x.2.T)) (apart_box (OS.box G6 (by decide)))).fit
      replace OJ := (OJ.only (put3_only u4 g6 (.slice sS x.2.n cS) (.slice sJ x.2.m cJ) (.int .i64 x.2.T)) (apart_box (OJ.box G6 (by decide)))).fit
      replace bu : Kb u0 (((u4.setCell ⟨g6, 0, none⟩ (.slice sS x.2.n cS)).setCell ⟨g6, 1, none⟩ (.slice sJ x.2.m cJ)).setCell ⟨g6, 2, none⟩ (.int .i64 x.2.T)) := below_put3 bu hgu _ _ _
      clear G6 A1 A2 B 
      obtain ⟨u5, hv⟩ : ∃ V, ((u4.setCell ⟨g6, 0, none⟩ (.slice sS x.2.n cS)).setCell ⟨g6, 1, none⟩ (.slice sJ x.2.m cJ)).setCell ⟨g6, 2, none⟩ (.int .i64 x.2.T) = V := ⟨_, rfl⟩
      rw [hv] at G7 OS OJ bu ⊢
      clear hv y0 y1 y2 y3 y4 y5
      clear hHeld
      refine hK'.out _ _ (bu) (fun hHeld => ?_)
      clear hK' KK
      try simp only [List.setIfInBounds_toArray, List.set_cons_zero, List.set_cons_succ]
      refine wpAnyH_take (i := 10) (v := .int .i64 (x.1)) rfl (by kernel_rfl) (by kernel_rfl) (by kernel_rfl) (fun _ _ _ h => h) (Or.inl ⟨by kernel_rfl, ?_⟩) hHeld ?_
      · intro w' hSw; go_simp
      try simp only [Act.put, List.setIfInBounds_toArray, List.set_cons_zero, List.set_cons_succ, List.getElem_toArray, List.getElem_cons_succ, List.getElem_cons_zero]
      refine wpAnyH_done (by kernel_rfl) ?_ _
      clear hHeld
      go_wp2_with fail
      go_meet
      case rel => exact ⟨g6, sS, cS, sJ, cJ, rfl, rfl, G7, OS.wide hlW (Nat.le_refl _), OJ.wide hlW (Nat.le_refl _), hbW.trans (Below.mono bu hlW)⟩
  case rest =>
    obtain ⟨g6, sS, cS, sJ, cJ, rfl, rfl, A6, S6, J6, bb⟩ := hcut
    rename World => w6
    replace B := B.trans (bb.mono B.size)
    replace A1 := A1.below bb
    replace A2 := A2.below bb
    have hle26 := bb.size
    clear bb
    obtain ⟨H2, hH2⟩ : ∃ H, w2.heap.size = H := ⟨_, rfl⟩
    obtain ⟨H6, hH6⟩ : ∃ H, w6.heap.size = H := ⟨_, rfl⟩
    rw [hH2, hH6] at S6 J6
    have hlo6 : w.heap.size ≤ H6 := by have := B.size; omega
    obtain ⟨c0, c1, c2, -⟩ := A1.open3
    go_wp2_with fail
    refine (toLab_any (HS.out.below B) (HL.out.below B) hN hM).mono ?_
    rintro e w7 ⟨g5, h5, rfl, hg5, hh5, D5, E5, bb⟩
    rw [hH6] at hg5 hh5
    replace B := B.trans (bb.mono B.size)
    replace A1 := A1.below bb
    replace A2 := A2.below bb
    replace A6 := A6.below bb
    replace S6 := S6.below bb
    replace J6 := J6.below bb
    clear c0 c1 c2 bb hH2 hH6 hle26
    obtain ⟨W8, hW8, A8, b8, -⟩ := boxed w7 27 #[.slice (some ⟨g5, 0, none⟩) N N, .slice (some ⟨h5, 0, none⟩) M M, .int .i64 T]
    obtain ⟨g8, hg8⟩ : ∃ q, w7.heap.size = q := ⟨_, rfl⟩
    have A8' : At 27 W8 g8 #[.slice (some ⟨g5, 0, none⟩) N N, .slice (some ⟨h5, 0, none⟩) M M, .int .i64 T] := by rw [← hg8]; exact A8
    clear A8
    have A8 := A8'
    clear A8'
    replace D5 := D5.below b8
    replace E5 := E5.below b8
    replace B := B.trans (b8.mono B.size)
    replace A1 := A1.below b8
    replace A2 := A2.below b8
    replace A6 := A6.below b8
    replace S6 := S6.below b8
    replace J6 := J6.below b8
    go_wp2_with fail
    clear hW8 hg8 b8
    go_cut [9, 10] from 31 to 37 (fun s9 s10 wc => CutL x W8 s9 s10 wc)
    case first =>
      obtain ⟨u0, hu0, bb⟩ : ∃ uu, W8.drew = uu ∧ Below W8.heap.size W8 uu := ⟨_, rfl, (Below.refl _ _).drew⟩
      replace A1 := A1.below bb
      replace A2 := A2.below bb
      replace A6 := A6.below bb
      replace S6 := S6.below bb
      replace J6 := J6.below bb
      replace D5 := D5.below bb
      replace E5 := E5.below bb
      replace A8 := A8.below bb
      have hbW := bb
      have hlW := bb.size
      replace B := B.trans (bb.mono B.size)
      have m0 := A1
      have n0 := A2
      have l0 := A8
      clear bb
      refine wp_region_held_drew (S := Kb u0) (by kernel_rfl) (by rw [hu0]; exact Below.refl _ _) (fun hHeld => ?_)
      rw [hu0] at hHeld ⊢
      clear hu0
      have bu : Kb u0 u0 := Below.refl _ _
      change wpAnyH _ _ _ _ _ 10 #[false, false, false, false, false, false, false, false, false, false] _ _
      refine wpAnyH_take (i := 0) (v := .agg #[.slice ((some ⟨g5, 0, none⟩)) N N, .slice ((some ⟨h5, 0, none⟩)) M M, .int .i64 (T)]) rfl (by kernel_rfl) (by kernel_rfl) (by kernel_rfl) (fun _ _ _ h => h) (Or.inl ⟨by kernel_rfl, ?_⟩) hHeld ?_
      · intro w' hSw; obtain ⟨z0, z1, z2, -⟩ := (l0.below hSw).open3; go_simp
      try simp only [Act.put, List.setIfInBounds_toArray, List.set_cons_zero, List.set_cons_succ, List.getElem_toArray, List.getElem_cons_zero]
      refine wpAnyH_take (i := 1) (v := .agg #[.int .i64 (K), .int .i64 (s), .int .i64 (o), .int .i64 (a)]) rfl (by kernel_rfl) (by kernel_rfl) (by kernel_rfl) (fun _ _ _ h => h) (Or.inl ⟨by kernel_rfl, ?_⟩) hHeld ?_
      · intro w' hSw; obtain ⟨z0, z1, z2, z3, -⟩ := Job.box (n0.below hSw); go_simp
      try simp only [Act.put, List.setIfInBounds_toArray, List.set_cons_zero, List.set_cons_succ, List.getElem_toArray, List.getElem_cons_succ, List.getElem_cons_zero]
      refine wpAnyH_ready (rs := [2, 7]) (by kernel_rfl) (by simp) ?_
      refine AllReadyH.cons rfl (fun KK hK' => ?_) (AllReadyH.cons rfl (fun KK hK' => ?_) AllReadyH.nil)
      · go_simp
        refine (toDeed_any K s o a _).mono ?_
        rintro e u1 ⟨rfl, bb⟩
        replace A1 := A1.below bb
        replace A2 := A2.below bb
        replace A6 := A6.below bb
        replace S6 := S6.below bb
        replace J6 := J6.below bb
        replace D5 := D5.below bb
        replace E5 := E5.below bb
        replace A8 := A8.below bb
        replace B := B.trans (bb.mono B.size)
        replace bu : Kb u0 u1 := bu.trans (bb.mono bu.size)
        clear bb
        try go_wp2_with fail
        clear hHeld
        refine hK'.out _ _ (bu) (fun hHeld => ?_)
        clear hK' KK
        try simp only [List.setIfInBounds_toArray, List.set_cons_zero, List.set_cons_succ]
        refine wpAnyH_ready (rs := [3, 7]) (by kernel_rfl) (by simp) ?_
        refine AllReadyH.cons rfl (fun KK hK' => ?_) (AllReadyH.cons rfl (fun KK hK' => ?_) AllReadyH.nil)
        · go_simp
          have hlo := bu.size
          refine (implLabDo_any K s o a (.inr ⟨g5, rfl, D5.recsN⟩) (.inr ⟨h5, rfl, E5.recsN⟩) (fun h => by cases h) (fun h => by cases h) hN hM (Nat.le_refl _) HX).mono ?_
          rintro e u2 ⟨vS, vJ, rfl, OS, OJ, bb⟩
          replace A1 := A1.below bb
          replace A2 := A2.below bb
          replace A6 := A6.below bb
          replace S6 := S6.below bb
          replace J6 := J6.below bb
          replace D5 := D5.below bb
          replace E5 := E5.below bb
          replace A8 := A8.below bb
          replace B := B.trans (bb.mono B.size)
          replace bu : Kb u0 u2 := bu.trans (bb.mono bu.size)
          clear bb
          replace OS := OS.wide hlo (Nat.le_refl _)
          replace OJ := OJ.wide hlo (Nat.le_refl _)
          clear hlo
          obtain ⟨sS, cS, rfl, -, -⟩ := OS.ls
          obtain ⟨sJ, cJ, rfl, -, -⟩ := OJ.ls
          try go_wp2_with fail
          clear hHeld
          refine hK'.out _ _ (bu) (fun hHeld => ?_)
          clear hK' KK
          try simp only [List.setIfInBounds_toArray, List.set_cons_zero, List.set_cons_succ]
          refine wpAnyH_take (i := 4) (v := .tuple #[labV (.slice sS x.2.n cS) (.slice sJ x.2.m cJ) x.2.T, .int .i64 x.1]) rfl (by kernel_rfl) (by kernel_rfl) (by kernel_rfl) (fun _ _ _ h => h) (Or.inl ⟨by kernel_rfl, ?_⟩) hHeld ?_
          · intro w' hSw; go_simp
          try simp only [Act.put, List.setIfInBounds_toArray, List.set_cons_zero, List.set_cons_succ, List.getElem_toArray, List.getElem_cons_succ, List.getElem_cons_zero]
          refine wpAnyH_take (i := 5) (v := labV (.slice sS x.2.n cS) (.slice sJ x.2.m cJ) x.2.T) rfl (by kernel_rfl) (by kernel_rfl) (by kernel_rfl) (fun _ _ _ h => h) (Or.inl ⟨by kernel_rfl, ?_⟩) hHeld ?_
          · intro w' hSw; go_simp
          try simp only [Act.put, List.setIfInBounds_toArray, List.set_cons_zero, List.set_cons_succ, List.getElem_toArray, List.getElem_cons_succ, List.getElem_cons_zero]
          refine wpAnyH_take (i := 6) (v := .int .i64 (x.1)) rfl (by kernel_rfl) (by kernel_rfl) (by kernel_rfl) (fun _ _ _ h => h) (Or.inl ⟨by kernel_rfl, ?_⟩) hHeld ?_
          · intro w' hSw; go_simp
          try simp only [Act.put, List.setIfInBounds_toArray, List.set_cons_zero, List.set_cons_succ, List.getElem_toArray, List.getElem_cons_succ, List.getElem_cons_zero]
          refine wpAnyH_ready (rs := [7]) (by kernel_rfl) (by simp) ?_
          refine AllReadyH.cons rfl (fun KK hK' => ?_) AllReadyH.nil
          go_simp
          obtain ⟨u3, h6, G6, bb, -⟩ := boxed u2 27 #[.slice none 0 0, .slice none 0 0, .int .i64 0]
          rw [h6]
          clear h6
          obtain ⟨g6, hg6⟩ : ∃ q, u2.heap.size = q := ⟨_, rfl⟩
          rw [hg6] at G6 ⊢
          have hgu : u0.heap.size ≤ g6 := by have := bu.size; omega
          clear hg6
          replace A1 := A1.below bb
          replace A2 := A2.below bb
          replace A6 := A6.below bb
          replace S6 := S6.below bb
          replace J6 := J6.below bb
          replace D5 := D5.below bb
          replace E5 := E5.below bb
          replace A8 := A8.below bb
          replace B := B.trans (bb.mono B.size)
          replace OS := OS.below bb
          replace OJ := OJ.below bb
          replace bu : Kb u0 u3 := bu.trans (bb.mono bu.size)
          clear bb
          clear hHeld
          refine hK'.out _ _ (bu) (fun hHeld => ?_)
          clear hK' KK
          try simp only [List.setIfInBounds_toArray, List.set_cons_zero, List.set_cons_succ]
          refine wpAnyH_ready (rs := [8]) (by kernel_rfl) (by simp) ?_
          refine AllReadyH.cons rfl (fun KK hK' => ?_) AllReadyH.nil
          obtain ⟨y0, y1, y2, y3, y4, y5⟩ := G6.open3
          go_simp
          have G7 := put3_at G6 (.slice sS x.2.n cS) (.slice sJ x.2.m cJ) (.int .i64 x.2.T)
          replace OS := (OS.only (put3_only u3 g6 (.slice sS x.2.n cS) (.slice sJ x.2.m cJ) (.int .i64 x.2.T)) (apart_box (OS.box G6 (by decide)))).fit
          replace OJ := (OJ.only (put3_only u3 g6 (.slice sS x.2.n cS) (.slice sJ x.2.m cJ) (.int .i64 x.2.T)) (apart_box (OJ.box G6 (by decide)))).fit
          replace bu : Kb u0 (((u3.setCell ⟨g6, 0, none⟩ (.slice sS x.2.n cS)).setCell ⟨g6, 1, none⟩ (.slice sJ x.2.m cJ)).setCell ⟨g6, 2, none⟩ (.int .i64 x.2.T)) := below_put3 bu hgu _ _ _
          clear G6 A1 A2 B A6 S6 J6 D5 E5 A8
          obtain ⟨u4, hv⟩ : ∃ V, ((u3.setCell ⟨g6, 0, none⟩ (.slice sS x.2.n cS)).setCell ⟨g6, 1, none⟩ (.slice sJ x.2.m cJ)).setCell ⟨g6, 2, none⟩ (.int .i64 x.2.T) = V := ⟨_, rfl⟩
          rw [hv] at G7 OS OJ bu ⊢
          clear hv y0 y1 y2 y3 y4 y5
          clear hHeld
          refine hK'.out _ _ (bu) (fun hHeld => ?_)
          clear hK' KK
          try simp only [List.setIfInBounds_toArray, List.set_cons_zero, List.set_cons_succ]
          refine wpAnyH_take (i := 9) (v := .int .i64 (x.1)) rfl (by kernel_rfl) (by kernel_rfl) (by kernel_rfl) (fun _ _ _ h => h) (Or.inl ⟨by kernel_rfl, ?_⟩) hHeld ?_
          · intro w' hSw; go_simp
          try simp only [Act.put, List.setIfInBounds_toArray, List.set_cons_zero, List.set_cons_succ, List.getElem_toArray, List.getElem_cons_succ, List.getElem_cons_zero]
          refine wpAnyH_done (by kernel_rfl) ?_ _
          clear hHeld
          go_wp2_with fail
          go_meet
          case rel => exact ⟨g6, sS, cS, sJ, cJ, rfl, rfl, G7, OS.wide hlW (Nat.le_refl _), OJ.wide hlW (Nat.le_refl _), hbW.trans (Below.mono bu hlW)⟩
        · go_simp
          obtain ⟨u2, h6, G6, bb, -⟩ := boxed u1 27 #[.slice none 0 0, .slice none 0 0, .int .i64 0]
          rw [h6]
          clear h6
          obtain ⟨g6, hg6⟩ : ∃ q, u1.heap.size = q := ⟨_, rfl⟩
          rw [hg6] at G6 ⊢
          have hgu : u0.heap.size ≤ g6 := by have := bu.size; omega
          clear hg6
          replace A1 := A1.below bb
          replace A2 := A2.below bb
          replace A6 := A6.below bb
          replace S6 := S6.below bb
          replace J6 := J6.below bb
          replace D5 := D5.below bb
          replace E5 := E5.below bb
          replace A8 := A8.below bb
          replace B := B.trans (bb.mono B.size)
          replace bu : Kb u0 u2 := bu.trans (bb.mono bu.size)
          clear bb
          clear hHeld
          refine hK'.out _ _ (bu) (fun hHeld => ?_)
          clear hK' KK
          try simp only [List.setIfInBounds_toArray, List.set_cons_zero, List.set_cons_succ]
          refine wpAnyH_ready (rs := [3]) (by kernel_rfl) (by simp) ?_
          refine AllReadyH.cons rfl (fun KK hK' => ?_) AllReadyH.nil
          go_simp
          have hlo := bu.size
          refine (implLabDo_any K s o a (.inr ⟨g5, rfl, D5.recsN⟩) (.inr ⟨h5, rfl, E5.recsN⟩) (fun h => by cases h) (fun h => by cases h) hN hM (Nat.le_refl _) HX).mono ?_
          rintro e u3 ⟨vS, vJ, rfl, OS, OJ, bb⟩
          replace A1 := A1.below bb
          replace A2 := A2.below bb
          replace A6 := A6.below bb
          replace S6 := S6.below bb
          replace J6 := J6.below bb
          replace D5 := D5.below bb
          replace E5 := E5.below bb
          replace A8 := A8.below bb
          replace B := B.trans (bb.mono B.size)
          replace G6 := G6.below bb
          replace bu : Kb u0 u3 := bu.trans (bb.mono bu.size)
          clear bb
          replace OS := OS.wide hlo (Nat.le_refl _)
          replace OJ := OJ.wide hlo (Nat.le_refl _)
          clear hlo
          obtain ⟨sS, cS, rfl, -, -⟩ := OS.ls
          obtain ⟨sJ, cJ, rfl, -, -⟩ := OJ.ls
          try go_wp2_with fail
          clear hHeld
          refine hK'.out _ _ (bu) (fun hHeld => ?_)
          clear hK' KK
          try simp only [List.setIfInBounds_toArray, List.set_cons_zero, List.set_cons_succ]
          refine wpAnyH_take (i := 4) (v := .tuple #[labV (.slice sS x.2.n cS) (.slice sJ x.2.m cJ) x.2.T, .int .i64 x.1]) rfl (by kernel_rfl) (by kernel_rfl) (by kernel_rfl) (fun _ _ _ h => h) (Or.inl ⟨by kernel_rfl, ?_⟩) hHeld ?_
          · intro w' hSw; go_simp
          try simp only [Act.put, List.setIfInBounds_toArray, List.set_cons_zero, List.set_cons_succ, List.getElem_toArray, List.getElem_cons_succ, List.getElem_cons_zero]
          refine wpAnyH_take (i := 5) (v := labV (.slice sS x.2.n cS) (.slice sJ x.2.m cJ) x.2.T) rfl (by kernel_rfl) (by kernel_rfl) (by kernel_rfl) (fun _ _ _ h => h) (Or.inl ⟨by kernel_rfl, ?_⟩) hHeld ?_
          · intro w' hSw; go_simp
          try simp only [Act.put, List.setIfInBounds_toArray, List.set_cons_zero, List.set_cons_succ, List.getElem_toArray, List.getElem_cons_succ, List.getElem_cons_zero]
          refine wpAnyH_take (i := 6) (v := .int .i64 (x.1)) rfl (by kernel_rfl) (by kernel_rfl) (by kernel_rfl) (fun _ _ _ h => h) (Or.inl ⟨by kernel_rfl, ?_⟩) hHeld ?_
          · intro w' hSw; go_simp
          try simp only [Act.put, List.setIfInBounds_toArray, List.set_cons_zero, List.set_cons_succ, List.getElem_toArray, List.getElem_cons_succ, List.getElem_cons_zero]
          refine wpAnyH_ready (rs := [8]) (by kernel_rfl) (by simp) ?_
          refine AllReadyH.cons rfl (fun KK hK' => ?_) AllReadyH.nil
          obtain ⟨y0, y1, y2, y3, y4, y5⟩ := G6.open3
          go_simp
          have G7 := put3_at G6 (.slice sS x.2.n cS) (.slice sJ x.2.m cJ) (.int .i64 x.2.T)
          replace OS := (OS.only (put3_only u3 g6 (.slice sS x.2.n cS) (.slice sJ x.2.m cJ) (.int .i64 x.2.T)) (apart_box (OS.box G6 (by decide)))).fit
          replace OJ := (OJ.only (put3_only u3 g6 (.slice sS x.2.n cS) (.slice sJ x.2.m cJ) (.int .i64 x.2.T)) (apart_box (OJ.box G6 (by decide)))).fit
          replace bu : Kb u0 (((u3.setCell ⟨g6, 0, none⟩ (.slice sS x.2.n cS)).setCell ⟨g6, 1, none⟩ (.slice sJ x.2.m cJ)).setCell ⟨g6, 2, none⟩ (.int .i64 x.2.T)) := below_put3 bu hgu _ _ _
          clear G6 A1 A2 B A6 S6 J6 D5 E5 A8
          obtain ⟨u4, hv⟩ : ∃ V, ((u3.setCell ⟨g6, 0, none⟩ (.slice sS x.2.n cS)).setCell ⟨g6, 1, none⟩ (.slice sJ x.2.m cJ)).setCell ⟨g6, 2, none⟩ (.int .i64 x.2.T) = V := ⟨_, rfl⟩
          rw [hv] at G7 OS OJ bu ⊢
          clear hv y0 y1 y2 y3 y4 y5
          clear hHeld
          refine hK'.out _ _ (bu) (fun hHeld => ?_)
          clear hK' KK
          try simp only [List.setIfInBounds_toArray, List.set_cons_zero, List.set_cons_succ]
          refine wpAnyH_take (i := 9) (v := .int .i64 (x.1)) rfl (by kernel_rfl) (by kernel_rfl) (by kernel_rfl) (fun _ _ _ h => h) (Or.inl ⟨by kernel_rfl, ?_⟩) hHeld ?_
          · intro w' hSw; go_simp
          try simp only [Act.put, List.setIfInBounds_toArray, List.set_cons_zero, List.set_cons_succ, List.getElem_toArray, List.getElem_cons_succ, List.getElem_cons_zero]
          refine wpAnyH_done (by kernel_rfl) ?_ _
          clear hHeld
          go_wp2_with fail
          go_meet
          case rel => exact ⟨g6, sS, cS, sJ, cJ, rfl, rfl, G7, OS.wide hlW (Nat.le_refl _), OJ.wide hlW (Nat.le_refl _), hbW.trans (Below.mono bu hlW)⟩
      · go_simp
        obtain ⟨u1, h6, G6, bb, -⟩ := boxed u0 27 #[.slice none 0 0, .slice none 0 0, .int .i64 0]
        rw [h6]
        clear h6
        obtain ⟨g6, hg6⟩ : ∃ q, u0.heap.size = q := ⟨_, rfl⟩
        rw [hg6] at G6 ⊢
        have hgu : u0.heap.size ≤ g6 := by have := bu.size; omega
        clear hg6
        replace A1 := A1.below bb
        replace A2 := A2.below bb
        replace A6 := A6.below bb
        replace S6 := S6.below bb
        replace J6 := J6.below bb
        replace D5 := D5.below bb
        replace E5 := E5.below bb
        replace A8 := A8.below bb
        replace B := B.trans (bb.mono B.size)
        replace bu : Kb u0 u1 := bu.trans (bb.mono bu.size)
        clear bb
        clear hHeld
        refine hK'.out _ _ (bu) (fun hHeld => ?_)
        clear hK' KK
        try simp only [List.setIfInBounds_toArray, List.set_cons_zero, List.set_cons_succ]
        refine wpAnyH_ready (rs := [2]) (by kernel_rfl) (by simp) ?_
        refine AllReadyH.cons rfl (fun KK hK' => ?_) AllReadyH.nil
        go_simp
        refine (toDeed_any K s o a _).mono ?_
        rintro e u2 ⟨rfl, bb⟩
        replace A1 := A1.below bb
        replace A2 := A2.below bb
        replace A6 := A6.below bb
        replace S6 := S6.below bb
        replace J6 := J6.below bb
        replace D5 := D5.below bb
        replace E5 := E5.below bb
        replace A8 := A8.below bb
        replace B := B.trans (bb.mono B.size)
        replace G6 := G6.below bb
        replace bu : Kb u0 u2 := bu.trans (bb.mono bu.size)
        clear bb
        try go_wp2_with fail
        clear hHeld
        refine hK'.out _ _ (bu) (fun hHeld => ?_)
        clear hK' KK
        try simp only [List.setIfInBounds_toArray, List.set_cons_zero, List.set_cons_succ]
        refine wpAnyH_ready (rs := [3]) (by kernel_rfl) (by simp) ?_
        refine AllReadyH.cons rfl (fun KK hK' => ?_) AllReadyH.nil
        go_simp
        have hlo := bu.size
        refine (implLabDo_any K s o a (.inr ⟨g5, rfl, D5.recsN⟩) (.inr ⟨h5, rfl, E5.recsN⟩) (fun h => by cases h) (fun h => by cases h) hN hM (Nat.le_refl _) HX).mono ?_
        rintro e u3 ⟨vS, vJ, rfl, OS, OJ, bb⟩
        replace A1 := A1.below bb
        replace A2 := A2.below bb
        replace A6 := A6.below bb
        replace S6 := S6.below bb
        replace J6 := J6.below bb
        replace D5 := D5.below bb
        replace E5 := E5.below bb
        replace A8 := A8.below bb
        replace B := B.trans (bb.mono B.size)
        replace G6 := G6.below bb
        replace bu : Kb u0 u3 := bu.trans (bb.mono bu.size)
        clear bb
        replace OS := OS.wide hlo (Nat.le_refl _)
        replace OJ := OJ.wide hlo (Nat.le_refl _)
        clear hlo
        obtain ⟨sS, cS, rfl, -, -⟩ := OS.ls
        obtain ⟨sJ, cJ, rfl, -, -⟩ := OJ.ls
        try go_wp2_with fail
        clear hHeld
        refine hK'.out _ _ (bu) (fun hHeld => ?_)
        clear hK' KK
        try simp only [List.setIfInBounds_toArray, List.set_cons_zero, List.set_cons_succ]
        refine wpAnyH_take (i := 4) (v := .tuple #[labV (.slice sS x.2.n cS) (.slice sJ x.2.m cJ) x.2.T, .int .i64 x.1]) rfl (by kernel_rfl) (by kernel_rfl) (by kernel_rfl) (fun _ _ _ h => h) (Or.inl ⟨by kernel_rfl, ?_⟩) hHeld ?_
        · intro w' hSw; go_simp
        try simp only [Act.put, List.setIfInBounds_toArray, List.set_cons_zero, List.set_cons_succ, List.getElem_toArray, List.getElem_cons_succ, List.getElem_cons_zero]
        refine wpAnyH_take (i := 5) (v := labV (.slice sS x.2.n cS) (.slice sJ x.2.m cJ) x.2.T) rfl (by kernel_rfl) (by kernel_rfl) (by kernel_rfl) (fun _ _ _ h => h) (Or.inl ⟨by kernel_rfl, ?_⟩) hHeld ?_
        · intro w' hSw; go_simp
        try simp only [Act.put, List.setIfInBounds_toArray, List.set_cons_zero, List.set_cons_succ, List.getElem_toArray, List.getElem_cons_succ, List.getElem_cons_zero]
        refine wpAnyH_take (i := 6) (v := .int .i64 (x.1)) rfl (by kernel_rfl) (by kernel_rfl) (by kernel_rfl) (fun _ _ _ h => h) (Or.inl ⟨by kernel_rfl, ?_⟩) hHeld ?_
        · intro w' hSw; go_simp
        try simp only [Act.put, List.setIfInBounds_toArray, List.set_cons_zero, List.set_cons_succ, List.getElem_toArray, List.getElem_cons_succ, List.getElem_cons_zero]
        refine wpAnyH_ready (rs := [8]) (by kernel_rfl) (by simp) ?_
        refine AllReadyH.cons rfl (fun KK hK' => ?_) AllReadyH.nil
        obtain ⟨y0, y1, y2, y3, y4, y5⟩ := G6.open3
        go_simp
        have G7 := put3_at G6 (.slice sS x.2.n cS) (.slice sJ x.2.m cJ) (.int .i64 x.2.T)
        replace OS := (OS.only (put3_only u3 g6 (.slice sS x.2.n cS) (.slice sJ x.2.m cJ) (.int .i64 x.2.T)) (apart_box (OS.box G6 (by decide)))).fit
        replace OJ := (OJ.only (put3_only u3 g6 (.slice sS x.2.n cS) (.slice sJ x.2.m cJ) (.int .i64 x.2.T)) (apart_box (OJ.box G6 (by decide)))).fit
        replace bu : Kb u0 (((u3.setCell ⟨g6, 0, none⟩ (.slice sS x.2.n cS)).setCell ⟨g6, 1, none⟩ (.slice sJ x.2.m cJ)).setCell ⟨g6, 2, none⟩ (.int .i64 x.2.T)) := below_put3 bu hgu _ _ _
        clear G6 A1 A2 B A6 S6 J6 D5 E5 A8
        obtain ⟨u4, hv⟩ : ∃ V, ((u3.setCell ⟨g6, 0, none⟩ (.slice sS x.2.n cS)).setCell ⟨g6, 1, none⟩ (.slice sJ x.2.m cJ)).setCell ⟨g6, 2, none⟩ (.int .i64 x.2.T) = V := ⟨_, rfl⟩
        rw [hv] at G7 OS OJ bu ⊢
        clear hv y0 y1 y2 y3 y4 y5
        clear hHeld
        refine hK'.out _ _ (bu) (fun hHeld => ?_)
        clear hK' KK
        try simp only [List.setIfInBounds_toArray, List.set_cons_zero, List.set_cons_succ]
        refine wpAnyH_take (i := 9) (v := .int .i64 (x.1)) rfl (by kernel_rfl) (by kernel_rfl) (by kernel_rfl) (fun _ _ _ h => h) (Or.inl ⟨by kernel_rfl, ?_⟩) hHeld ?_
        · intro w' hSw; go_simp
        try simp only [Act.put, List.setIfInBounds_toArray, List.set_cons_zero, List.set_cons_succ, List.getElem_toArray, List.getElem_cons_succ, List.getElem_cons_zero]
        refine wpAnyH_done (by kernel_rfl) ?_ _
        clear hHeld
        go_wp2_with fail
        go_meet
        case rel => exact ⟨g6, sS, cS, sJ, cJ, rfl, rfl, G7, OS.wide hlW (Nat.le_refl _), OJ.wide hlW (Nat.le_refl _), hbW.trans (Below.mono bu hlW)⟩
    case rest =>
      obtain ⟨g9, sT, cT, sK, cK, rfl, rfl, A9, S9, J9, bb⟩ := hcut
      rename World => w9
      have B8s := B.size
      replace B := B.trans (bb.mono B.size)
      replace A1 := A1.below bb
      replace A2 := A2.below bb
      replace A6 := A6.below bb
      replace A8 := A8.below bb
      replace S6 := S6.below bb
      replace J6 := J6.below bb
      have hg5l := D5.lt
      have hh5l := E5.lt
      replace D5 := D5.below bb
      replace E5 := E5.below bb
      clear bb
      obtain ⟨H8, hH8⟩ : ∃ H, W8.heap.size = H := ⟨_, rfl⟩
      obtain ⟨H9, hH9⟩ : ∃ H, w9.heap.size = H := ⟨_, rfl⟩
      rw [hH8, hH9] at S9 J9
      have hlo8 : w.heap.size ≤ H8 := by have := B8s; omega
      have h68 : H6 ≤ H8 := by omega
      rw [hH8] at hg5l hh5l
      clear hH8 hH9
      have L6 := ark_ls S6
      have LJ6 := ark_ls J6
      have L9 := ark_ls S9
      have LJ9 := ark_ls J9
      have hXn : x.2.n ≤ 1048576 := by omega
      have hXm : x.2.m ≤ 1048576 := by omega
      obtain ⟨c0, c1, c2, -⟩ := A9.open3
      obtain ⟨d0, d1, d2, -⟩ := A6.open3
      go_wp2_with fail
      refine (eqLab_true L9 L6 LJ9 LJ6 hXn hXm).mono ?_
      rintro e v1 ⟨rfl, bb⟩
      replace A1 := A1.below bb
      replace A2 := A2.below bb
      replace A6 := A6.below bb
      replace A8 := A8.below bb
      replace A9 := A9.below bb
      replace S6 := S6.below bb
      replace J6 := J6.below bb
      replace S9 := S9.below bb
      replace J9 := J9.below bb
      replace D5 := D5.below bb
      replace E5 := E5.below bb
      replace B := B.trans (bb.mono B.size)
      clear bb
      clear c0 c1 c2 d0 d1 d2 L6 LJ6 L9 LJ9
      go_wp2_with fail
      obtain ⟨u0, hu0, bb⟩ : ∃ uu, v1.drew = uu ∧ Below v1.heap.size v1 uu := ⟨_, rfl, (Below.refl _ _).drew⟩
      replace A1 := A1.below bb
      replace A2 := A2.below bb
      replace A6 := A6.below bb
      replace A8 := A8.below bb
      replace A9 := A9.below bb
      replace S6 := S6.below bb
      replace J6 := J6.below bb
      replace S9 := S9.below bb
      replace J9 := J9.below bb
      replace D5 := D5.below bb
      replace E5 := E5.below bb
      replace B := B.trans (bb.mono B.size)
      have m0 := A1
      have l0 := A8
      have n0 := A2
      clear bb
      refine wp_region_held_drew (S := Kb u0) (by kernel_rfl) (by rw [hu0]; exact Below.refl _ _) (fun hHeld => ?_)
      rw [hu0] at hHeld ⊢
      clear hu0
      have bu : Kb u0 u0 := Below.refl _ _
      change wpAnyH _ _ _ _ _ 5 #[false, false, false, false, false] _ _
      refine wpAnyH_take (i := 0) (v := .agg #[.slice ((some ⟨g5, 0, none⟩)) N N, .slice ((some ⟨h5, 0, none⟩)) M M, .int .i64 (T)]) rfl (by kernel_rfl) (by kernel_rfl) (by kernel_rfl) (fun _ _ _ h => h) (Or.inl ⟨by kernel_rfl, ?_⟩) hHeld ?_
      · intro w' hSw; obtain ⟨z0, z1, z2, -⟩ := (l0.below hSw).open3; go_simp
      try simp only [Act.put, List.setIfInBounds_toArray, List.set_cons_zero, List.set_cons_succ, List.getElem_toArray, List.getElem_cons_zero]
      refine wpAnyH_take (i := 1) (v := .agg #[.slice p N cap, .slice q M cap2, .int .i64 (T)]) rfl (by kernel_rfl) (by kernel_rfl) (by kernel_rfl) (fun _ _ _ h => h) (Or.inl ⟨by kernel_rfl, ?_⟩) hHeld ?_
      · intro w' hSw; obtain ⟨z0, z1, z2, -⟩ := (m0.below hSw).open3; go_simp
      try simp only [Act.put, List.setIfInBounds_toArray, List.set_cons_zero, List.set_cons_succ, List.getElem_toArray, List.getElem_cons_succ, List.getElem_cons_zero]
      refine wpAnyH_ready (rs := [2]) (by kernel_rfl) (by simp) ?_
      refine AllReadyH.cons rfl (fun KK hK' => ?_) AllReadyH.nil
      go_simp
      refine (toLab_any (HS.out.below B) (HL.out.below B) hN hM).mono ?_
      rintro e u1 ⟨gC, hC, rfl, -, -, DC, EC, bb⟩
      replace A1 := A1.below bb
      replace A2 := A2.below bb
      replace A6 := A6.below bb
      replace A8 := A8.below bb
      replace A9 := A9.below bb
      replace S6 := S6.below bb
      replace J6 := J6.below bb
      replace S9 := S9.below bb
      replace J9 := J9.below bb
      replace D5 := D5.below bb
      replace E5 := E5.below bb
      replace B := B.trans (bb.mono B.size)
      replace bu : Kb u0 u1 := bu.trans (bb.mono bu.size)
      clear bb
      try go_wp2_with fail
      clear hHeld
      refine hK'.out _ _ (bu) (fun hHeld => ?_)
      clear hK' KK
      try simp only [List.setIfInBounds_toArray, List.set_cons_zero, List.set_cons_succ]
      refine wpAnyH_ready (rs := [3]) (by kernel_rfl) (by simp) ?_
      refine AllReadyH.cons rfl (fun KK hK' => ?_) AllReadyH.nil
      go_simp
      refine (eqLab_true (.inr ⟨g5, rfl, D5.recsN⟩) (.inr ⟨gC, rfl, DC.recsN⟩) (.inr ⟨h5, rfl, E5.recsN⟩) (.inr ⟨hC, rfl, EC.recsN⟩) hN hM).mono ?_
      rintro e u2 ⟨rfl, bb⟩
      replace A1 := A1.below bb
      replace A2 := A2.below bb
      replace A6 := A6.below bb
      replace A8 := A8.below bb
      replace A9 := A9.below bb
      replace S6 := S6.below bb
      replace J6 := J6.below bb
      replace S9 := S9.below bb
      replace J9 := J9.below bb
      replace D5 := D5.below bb
      replace E5 := E5.below bb
      replace B := B.trans (bb.mono B.size)
      replace bu : Kb u0 u2 := bu.trans (bb.mono bu.size)
      clear bb DC EC
      try go_wp2_with fail
      clear hHeld
      refine hK'.out _ _ (bu) (fun hHeld => ?_)
      clear hK' KK
      try simp only [List.setIfInBounds_toArray, List.set_cons_zero, List.set_cons_succ]
      refine wpAnyH_take (i := 4) (v := .bool false) rfl (by kernel_rfl) (by kernel_rfl) (by kernel_rfl) (fun _ _ _ h => h) (Or.inl ⟨by kernel_rfl, ?_⟩) hHeld ?_
      · intro w' hSw; go_simp
      try simp only [Act.put, List.setIfInBounds_toArray, List.set_cons_zero, List.set_cons_succ, List.getElem_toArray, List.getElem_cons_succ, List.getElem_cons_zero]
      refine wpAnyH_done (by kernel_rfl) ?_ _
      clear hHeld
      clear m0 n0 l0
      obtain ⟨c0, c1, c2, -⟩ := A8.open3
      have M5 : ArK 3 37 u2 H6 H8 (.slice (some ⟨g5, 0, none⟩) N N) N f := .inr ⟨g5, N, rfl, hg5, hg5l, Nat.le_refl _, by unfold maxLen; omega, D5⟩
      have M6 : ArK 4 39 u2 H6 H8 (.slice (some ⟨h5, 0, none⟩) M M) M k := .inr ⟨h5, M, rfl, hh5, hh5l, Nat.le_refl _, by unfold maxLen; omega, E5⟩
      go_wp2_with fail
      refine (markLab_any M5 M6 hN hM 1 (by omega)).mono ?_
      rintro e v2 ⟨rfl, -, -, tt, bk⟩
      replace A1 := bk _ _ _ (by decide) (by decide) A1
      replace A2 := bk _ _ _ (by decide) (by decide) A2
      replace A6 := bk _ _ _ (by decide) (by decide) A6
      replace A9 := bk _ _ _ (by decide) (by decide) A9
      replace S6 := S6.turn tt (by omega)
      replace J6 := J6.turn tt (by omega)
      replace S9 := S9.turn tt (by omega)
      replace J9 := J9.turn tt (by omega)
      replace B := tt.below B hlo6 B.size
      clear c0 c1 c2 D5 E5 M5 M6 tt bk A8
      obtain ⟨kk, hkk⟩ : ∃ kk, 1 + N * 3 + M * 4 = kk := ⟨_, rfl⟩
      rw [hkk]
      clear hkk
      have hk0 : ¬ (kk : Int) < 0 := by omega
      obtain ⟨c0, c1, c2, -⟩ := A9.open3
      obtain ⟨d0, d1, d2, -⟩ := A6.open3
      go_wp2_with fail
      refine (eqLab_true (ark_ls S9) (ark_ls S6) (ark_ls J9) (ark_ls J6) hXn hXm).mono ?_
      rintro e v3 ⟨rfl, bb⟩
      replace A1 := A1.below bb
      replace A2 := A2.below bb
      replace A6 := A6.below bb
      replace A9 := A9.below bb
      replace S6 := S6.below bb
      replace J6 := J6.below bb
      replace S9 := S9.below bb
      replace J9 := J9.below bb
      replace B := B.trans (bb.mono B.size)
      clear bb
      clear c0 c1 c2 d0 d1 d2
      obtain ⟨c0, c1, c2, -⟩ := A9.open3
      go_wp2_with fail
      refine (markLab_any S9 J9 hXn hXm 1 (by omega)).mono ?_
      rintro e v4 ⟨rfl, S9', J9', tt, bk⟩
      clear S9 J9
      replace A1 := bk _ _ _ (by decide) (by decide) A1
      replace A2 := bk _ _ _ (by decide) (by decide) A2
      replace A6 := bk _ _ _ (by decide) (by decide) A6
      replace A9 := bk _ _ _ (by decide) (by decide) A9
      replace S6 := S6.turn tt (by omega)
      replace J6 := J6.turn tt (by omega)
      replace B := tt.below B hlo8 B.size
      clear c0 c1 c2 tt bk
      obtain ⟨mm, hmm⟩ : ∃ mm, 1 + x.2.n * 3 + x.2.m * 4 = mm := ⟨_, rfl⟩
      have hm0 : ¬ (mm : Int) < 0 := by omega
      have hme := bne_self_eq_false (mm : Int)
      have HH := fun w' (S : ArK 3 37 w' H8 H9 (.slice sT x.2.n cT) x.2.n (fun i => (1 + i : Nat))) (J : ArK 4 39 w' H8 H9 (.slice sK x.2.m cK) x.2.m (fun i => (1 + x.2.n * 3 + i : Nat))) => heldLab_any (T := x.2.T) 1 S J hXn hXm (by omega)
      rw [hmm] at HH ⊢
      clear hmm
      obtain ⟨c0, c1, c2, -⟩ := A9.open3
      go_wp2_with fail
      refine (HH _ S9' J9').mono ?_
      rintro e v5 ⟨rfl, bb⟩
      replace A1 := A1.below bb
      replace A2 := A2.below bb
      replace A6 := A6.below bb
      replace A9 := A9.below bb
      replace S6 := S6.below bb
      replace J6 := J6.below bb
      replace S9' := S9'.below bb
      replace J9' := J9'.below bb
      replace B := B.trans (bb.mono B.size)
      clear bb
      clear c0 c1 c2
      go_wp2_with fail
      go_cut [14, 15] from 79 to 86 (fun s14 s15 wc => CutL x v5 s14 s15 wc)
      case first =>
        obtain ⟨u0, hu0, bb⟩ : ∃ uu, v5.drew = uu ∧ Below v5.heap.size v5 uu := ⟨_, rfl, (Below.refl _ _).drew⟩
        replace A1 := A1.below bb
        replace A2 := A2.below bb
        replace A6 := A6.below bb
        replace S6 := S6.below bb
        replace J6 := J6.below bb
        replace A9 := A9.below bb
        replace S9' := S9'.below bb
        replace J9' := J9'.below bb
        have hbW := bb
        have hlW := bb.size
        replace B := B.trans (bb.mono B.size)
        have m0 := A1
        have n0 := A2
        clear bb
        refine wp_region_held_drew (S := Kb u0) (by kernel_rfl) (by rw [hu0]; exact Below.refl _ _) (fun hHeld => ?_)
        rw [hu0] at hHeld ⊢
        clear hu0
        have bu : Kb u0 u0 := Below.refl _ _
        change wpAnyH _ _ _ _ _ 11 #[false, false, false, false, false, false, false, false, false, false, false] _ _
        refine wpAnyH_take (i := 0) (v := .agg #[.slice p N cap, .slice q M cap2, .int .i64 (T)]) rfl (by kernel_rfl) (by kernel_rfl) (by kernel_rfl) (fun _ _ _ h => h) (Or.inl ⟨by kernel_rfl, ?_⟩) hHeld ?_
        · intro w' hSw; obtain ⟨z0, z1, z2, -⟩ := (m0.below hSw).open3; go_simp
        try simp only [Act.put, List.setIfInBounds_toArray, List.set_cons_zero, List.set_cons_succ, List.getElem_toArray, List.getElem_cons_zero]
        refine wpAnyH_take (i := 2) (v := .agg #[.int .i64 (K), .int .i64 (s), .int .i64 (o), .int .i64 (a)]) rfl (by kernel_rfl) (by kernel_rfl) (by kernel_rfl) (fun _ _ _ h => h) (Or.inl ⟨by kernel_rfl, ?_⟩) hHeld ?_
        · intro w' hSw; obtain ⟨z0, z1, z2, z3, -⟩ := Job.box (n0.below hSw); go_simp
        try simp only [Act.put, List.setIfInBounds_toArray, List.set_cons_zero, List.set_cons_succ, List.getElem_toArray, List.getElem_cons_succ, List.getElem_cons_zero]
        refine wpAnyH_ready (rs := [1, 8]) (by kernel_rfl) (by simp) ?_
        refine AllReadyH.cons rfl (fun KK hK' => ?_) (AllReadyH.cons rfl (fun KK hK' => ?_) AllReadyH.nil)
        · go_simp
          refine (toLab_any (HS.out.below B) (HL.out.below B) hN hM).mono ?_
          rintro e u1 ⟨g3, h3, rfl, -, -, D3, E3, bb⟩
          replace A1 := A1.below bb
          replace A2 := A2.below bb
          replace A6 := A6.below bb
          replace S6 := S6.below bb
          replace J6 := J6.below bb
          replace A9 := A9.below bb
          replace S9' := S9'.below bb
          replace J9' := J9'.below bb
          replace B := B.trans (bb.mono B.size)
          replace bu : Kb u0 u1 := bu.trans (bb.mono bu.size)
          clear bb
          try go_wp2_with fail
          clear hHeld
          refine hK'.out _ _ (bu) (fun hHeld => ?_)
          clear hK' KK
          try simp only [List.setIfInBounds_toArray, List.set_cons_zero, List.set_cons_succ]
          refine wpAnyH_ready (rs := [3, 8]) (by kernel_rfl) (by simp) ?_
          refine AllReadyH.cons rfl (fun KK hK' => ?_) (AllReadyH.cons rfl (fun KK hK' => ?_) AllReadyH.nil)
          · go_simp
            refine (toDeed_any K s o a _).mono ?_
            rintro e u2 ⟨rfl, bb⟩
            replace A1 := A1.below bb
            replace A2 := A2.below bb
            replace A6 := A6.below bb
            replace S6 := S6.below bb
            replace J6 := J6.below bb
            replace A9 := A9.below bb
            replace S9' := S9'.below bb
            replace J9' := J9'.below bb
            replace B := B.trans (bb.mono B.size)
            replace D3 := D3.below bb
            replace E3 := E3.below bb
            replace bu : Kb u0 u2 := bu.trans (bb.mono bu.size)
            clear bb
            try go_wp2_with fail
            clear hHeld
            refine hK'.out _ _ (bu) (fun hHeld => ?_)
            clear hK' KK
            try simp only [List.setIfInBounds_toArray, List.set_cons_zero, List.set_cons_succ]
            refine wpAnyH_ready (rs := [4, 8]) (by kernel_rfl) (by simp) ?_
            refine AllReadyH.cons rfl (fun KK hK' => ?_) (AllReadyH.cons rfl (fun KK hK' => ?_) AllReadyH.nil)
            · go_simp
              have hlo := bu.size
              refine (implLabDo_any K s o a (.inr ⟨g3, rfl, D3.recsN⟩) (.inr ⟨h3, rfl, E3.recsN⟩) (fun h => by cases h) (fun h => by cases h) hN hM (Nat.le_refl _) HX).mono ?_
              rintro e u3 ⟨vS, vJ, rfl, OS, OJ, bb⟩
              replace A1 := A1.below bb
              replace A2 := A2.below bb
              replace A6 := A6.below bb
              replace S6 := S6.below bb
              replace J6 := J6.below bb
              replace A9 := A9.below bb
              replace S9' := S9'.below bb
              replace J9' := J9'.below bb
              replace B := B.trans (bb.mono B.size)
              replace D3 := D3.below bb
              replace E3 := E3.below bb
              replace bu : Kb u0 u3 := bu.trans (bb.mono bu.size)
              clear bb
              replace OS := OS.wide hlo (Nat.le_refl _)
              replace OJ := OJ.wide hlo (Nat.le_refl _)
              clear hlo
              obtain ⟨sS, cS, rfl, -, -⟩ := OS.ls
              obtain ⟨sJ, cJ, rfl, -, -⟩ := OJ.ls
              try go_wp2_with fail
              clear hHeld
              refine hK'.out _ _ (bu) (fun hHeld => ?_)
              clear hK' KK
              try simp only [List.setIfInBounds_toArray, List.set_cons_zero, List.set_cons_succ]
              refine wpAnyH_take (i := 5) (v := .tuple #[labV (.slice sS x.2.n cS) (.slice sJ x.2.m cJ) x.2.T, .int .i64 x.1]) rfl (by kernel_rfl) (by kernel_rfl) (by kernel_rfl) (fun _ _ _ h => h) (Or.inl ⟨by kernel_rfl, ?_⟩) hHeld ?_
              · intro w' hSw; go_simp
              try simp only [Act.put, List.setIfInBounds_toArray, List.set_cons_zero, List.set_cons_succ, List.getElem_toArray, List.getElem_cons_succ, List.getElem_cons_zero]
              refine wpAnyH_take (i := 6) (v := labV (.slice sS x.2.n cS) (.slice sJ x.2.m cJ) x.2.T) rfl (by kernel_rfl) (by kernel_rfl) (by kernel_rfl) (fun _ _ _ h => h) (Or.inl ⟨by kernel_rfl, ?_⟩) hHeld ?_
              · intro w' hSw; go_simp
              try simp only [Act.put, List.setIfInBounds_toArray, List.set_cons_zero, List.set_cons_succ, List.getElem_toArray, List.getElem_cons_succ, List.getElem_cons_zero]
              refine wpAnyH_take (i := 7) (v := .int .i64 (x.1)) rfl (by kernel_rfl) (by kernel_rfl) (by kernel_rfl) (fun _ _ _ h => h) (Or.inl ⟨by kernel_rfl, ?_⟩) hHeld ?_
              · intro w' hSw; go_simp
              try simp only [Act.put, List.setIfInBounds_toArray, List.set_cons_zero, List.set_cons_succ, List.getElem_toArray, List.getElem_cons_succ, List.getElem_cons_zero]
              refine wpAnyH_ready (rs := [8]) (by kernel_rfl) (by simp) ?_
              refine AllReadyH.cons rfl (fun KK hK' => ?_) AllReadyH.nil
              go_simp
              obtain ⟨u4, h6, G6, bb, -⟩ := boxed u3 27 #[.slice none 0 0, .slice none 0 0, .int .i64 0]
              rw [h6]
              clear h6
              obtain ⟨g6, hg6⟩ : ∃ q, u3.heap.size = q := ⟨_, rfl⟩
              rw [hg6] at G6 ⊢
              have hgu : u0.heap.size ≤ g6 := by have := bu.size; omega
              clear hg6
              replace A1 := A1.below bb
              replace A2 := A2.below bb
              replace A6 := A6.below bb
              replace S6 := S6.below bb
              replace J6 := J6.below bb
              replace A9 := A9.below bb
              replace S9' := S9'.below bb
              replace J9' := J9'.below bb
              replace B := B.trans (bb.mono B.size)
              replace D3 := D3.below bb
              replace E3 := E3.below bb
              replace OS := OS.below bb
              replace OJ := OJ.below bb
              replace bu : Kb u0 u4 := bu.trans (bb.mono bu.size)
              clear bb
              clear hHeld
              refine hK'.out _ _ (bu) (fun hHeld => ?_)
              clear hK' KK
              try simp only [List.setIfInBounds_toArray, List.set_cons_zero, List.set_cons_succ]
              refine wpAnyH_ready (rs := [9]) (by kernel_rfl) (by simp) ?_
              refine AllReadyH.cons rfl (fun KK hK' => ?_) AllReadyH.nil
              obtain ⟨y0, y1, y2, y3, y4, y5⟩ := G6.open3
              go_simp
              have G7 := put3_at G6 (.slice sS x.2.n cS) (.slice sJ x.2.m cJ) (.int .i64 x.2.T)
              replace OS := (OS.only (put3_only u4 g6 (.slice sS x.2.n cS) (.slice sJ x.2.m cJ) (.int .i64 x.2.T)) (apart_box (OS.box G6 (by decide)))).fit
              replace OJ := (OJ.only (put3_only u4 g6 (.slice sS x.2.n cS) (.slice sJ x.2.m cJ) (.int .i64 x.2.T)) (apart_box (OJ.box G6 (by decide)))).fit
              replace bu : Kb u0 (((u4.setCell ⟨g6, 0, none⟩ (.slice sS x.2.n cS)).setCell ⟨g6, 1, none⟩ (.slice sJ x.2.m cJ)).setCell ⟨g6, 2, none⟩ (.int .i64 x.2.T)) := below_put3 bu hgu _ _ _
              clear G6 A1 A2 B A6 S6 J6 A9 S9' J9'
              obtain ⟨u5, hv⟩ : ∃ V, ((u4.setCell ⟨g6, 0, none⟩ (.slice sS x.2.n cS)).setCell ⟨g6, 1, none⟩ (.slice sJ x.2.m cJ)).setCell ⟨g6, 2, none⟩ (.int .i64 x.2.T) = V := ⟨_, rfl⟩
              rw [hv] at G7 OS OJ bu ⊢
              clear hv y0 y1 y2 y3 y4 y5
              clear hHeld
              refine hK'.out _ _ (bu) (fun hHeld => ?_)
              clear hK' KK
              try simp only [List.setIfInBounds_toArray, List.set_cons_zero, List.set_cons_succ]
              refine wpAnyH_take (i := 10) (v := .int .i64 (x.1)) rfl (by kernel_rfl) (by kernel_rfl) (by kernel_rfl) (fun _ _ _ h => h) (Or.inl ⟨by kernel_rfl, ?_⟩) hHeld ?_
              · intro w' hSw; go_simp
              try simp only [Act.put, List.setIfInBounds_toArray, List.set_cons_zero, List.set_cons_succ, List.getElem_toArray, List.getElem_cons_succ, List.getElem_cons_zero]
              refine wpAnyH_done (by kernel_rfl) ?_ _
              clear hHeld
              go_wp2_with fail
              go_meet
              case rel => exact ⟨g6, sS, cS, sJ, cJ, rfl, rfl, G7, OS.wide hlW (Nat.le_refl _), OJ.wide hlW (Nat.le_refl _), hbW.trans (Below.mono bu hlW)⟩
            · go_simp
              obtain ⟨u3, h6, G6, bb, -⟩ := boxed u2 27 #[.slice none 0 0, .slice none 0 0, .int .i64 0]
              rw [h6]
              clear h6
              obtain ⟨g6, hg6⟩ : ∃ q, u2.heap.size = q := ⟨_, rfl⟩
              rw [hg6] at G6 ⊢
              have hgu : u0.heap.size ≤ g6 := by have := bu.size; omega
              clear hg6
              replace A1 := A1.below bb
              replace A2 := A2.below bb
              replace A6 := A6.below bb
              replace S6 := S6.below bb
              replace J6 := J6.below bb
              replace A9 := A9.below bb
              replace S9' := S9'.below bb
              replace J9' := J9'.below bb
              replace B := B.trans (bb.mono B.size)
              replace D3 := D3.below bb
              replace E3 := E3.below bb
              replace bu : Kb u0 u3 := bu.trans (bb.mono bu.size)
              clear bb
              clear hHeld
              refine hK'.out _ _ (bu) (fun hHeld => ?_)
              clear hK' KK
              try simp only [List.setIfInBounds_toArray, List.set_cons_zero, List.set_cons_succ]
              refine wpAnyH_ready (rs := [4]) (by kernel_rfl) (by simp) ?_
              refine AllReadyH.cons rfl (fun KK hK' => ?_) AllReadyH.nil
              go_simp
              have hlo := bu.size
              refine (implLabDo_any K s o a (.inr ⟨g3, rfl, D3.recsN⟩) (.inr ⟨h3, rfl, E3.recsN⟩) (fun h => by cases h) (fun h => by cases h) hN hM (Nat.le_refl _) HX).mono ?_
              rintro e u4 ⟨vS, vJ, rfl, OS, OJ, bb⟩
              replace A1 := A1.below bb
              replace A2 := A2.below bb
              replace A6 := A6.below bb
              replace S6 := S6.below bb
              replace J6 := J6.below bb
              replace A9 := A9.below bb
              replace S9' := S9'.below bb
              replace J9' := J9'.below bb
              replace B := B.trans (bb.mono B.size)
              replace D3 := D3.below bb
              replace E3 := E3.below bb
              replace G6 := G6.below bb
              replace bu : Kb u0 u4 := bu.trans (bb.mono bu.size)
              clear bb
              replace OS := OS.wide hlo (Nat.le_refl _)
              replace OJ := OJ.wide hlo (Nat.le_refl _)
              clear hlo
              obtain ⟨sS, cS, rfl, -, -⟩ := OS.ls
              obtain ⟨sJ, cJ, rfl, -, -⟩ := OJ.ls
              try go_wp2_with fail
              clear hHeld
              refine hK'.out _ _ (bu) (fun hHeld => ?_)
              clear hK' KK
              try simp only [List.setIfInBounds_toArray, List.set_cons_zero, List.set_cons_succ]
              refine wpAnyH_take (i := 5) (v := .tuple #[labV (.slice sS x.2.n cS) (.slice sJ x.2.m cJ) x.2.T, .int .i64 x.1]) rfl (by kernel_rfl) (by kernel_rfl) (by kernel_rfl) (fun _ _ _ h => h) (Or.inl ⟨by kernel_rfl, ?_⟩) hHeld ?_
              · intro w' hSw; go_simp
              try simp only [Act.put, List.setIfInBounds_toArray, List.set_cons_zero, List.set_cons_succ, List.getElem_toArray, List.getElem_cons_succ, List.getElem_cons_zero]
              refine wpAnyH_take (i := 6) (v := labV (.slice sS x.2.n cS) (.slice sJ x.2.m cJ) x.2.T) rfl (by kernel_rfl) (by kernel_rfl) (by kernel_rfl) (fun _ _ _ h => h) (Or.inl ⟨by kernel_rfl, ?_⟩) hHeld ?_
              · intro w' hSw; go_simp
              try simp only [Act.put, List.setIfInBounds_toArray, List.set_cons_zero, List.set_cons_succ, List.getElem_toArray, List.getElem_cons_succ, List.getElem_cons_zero]
              refine wpAnyH_take (i := 7) (v := .int .i64 (x.1)) rfl (by kernel_rfl) (by kernel_rfl) (by kernel_rfl) (fun _ _ _ h => h) (Or.inl ⟨by kernel_rfl, ?_⟩) hHeld ?_
              · intro w' hSw; go_simp
              try simp only [Act.put, List.setIfInBounds_toArray, List.set_cons_zero, List.set_cons_succ, List.getElem_toArray, List.getElem_cons_succ, List.getElem_cons_zero]
              refine wpAnyH_ready (rs := [9]) (by kernel_rfl) (by simp) ?_
              refine AllReadyH.cons rfl (fun KK hK' => ?_) AllReadyH.nil
              obtain ⟨y0, y1, y2, y3, y4, y5⟩ := G6.open3
              go_simp
              have G7 := put3_at G6 (.slice sS x.2.n cS) (.slice sJ x.2.m cJ) (.int .i64 x.2.T)
              replace OS := (OS.only (put3_only u4 g6 (.slice sS x.2.n cS) (.slice sJ x.2.m cJ) (.int .i64 x.2.T)) (apart_box (OS.box G6 (by decide)))).fit
              replace OJ := (OJ.only (put3_only u4 g6 (.slice sS x.2.n cS) (.slice sJ x.2.m cJ) (.int .i64 x.2.T)) (apart_box (OJ.box G6 (by decide)))).fit
              replace bu : Kb u0 (((u4.setCell ⟨g6, 0, none⟩ (.slice sS x.2.n cS)).setCell ⟨g6, 1, none⟩ (.slice sJ x.2.m cJ)).setCell ⟨g6, 2, none⟩ (.int .i64 x.2.T)) := below_put3 bu hgu _ _ _
              clear G6 A1 A2 B A6 S6 J6 A9 S9' J9'
              obtain ⟨u5, hv⟩ : ∃ V, ((u4.setCell ⟨g6, 0, none⟩ (.slice sS x.2.n cS)).setCell ⟨g6, 1, none⟩ (.slice sJ x.2.m cJ)).setCell ⟨g6, 2, none⟩ (.int .i64 x.2.T) = V := ⟨_, rfl⟩
              rw [hv] at G7 OS OJ bu ⊢
              clear hv y0 y1 y2 y3 y4 y5
              clear hHeld
              refine hK'.out _ _ (bu) (fun hHeld => ?_)
              clear hK' KK
              try simp only [List.setIfInBounds_toArray, List.set_cons_zero, List.set_cons_succ]
              refine wpAnyH_take (i := 10) (v := .int .i64 (x.1)) rfl (by kernel_rfl) (by kernel_rfl) (by kernel_rfl) (fun _ _ _ h => h) (Or.inl ⟨by kernel_rfl, ?_⟩) hHeld ?_
              · intro w' hSw; go_simp
              try simp only [Act.put, List.setIfInBounds_toArray, List.set_cons_zero, List.set_cons_succ, List.getElem_toArray, List.getElem_cons_succ, List.getElem_cons_zero]
              refine wpAnyH_done (by kernel_rfl) ?_ _
              clear hHeld
              go_wp2_with fail
              go_meet
              case rel => exact ⟨g6, sS, cS, sJ, cJ, rfl, rfl, G7, OS.wide hlW (Nat.le_refl _), OJ.wide hlW (Nat.le_refl _), hbW.trans (Below.mono bu hlW)⟩
          · go_simp
            obtain ⟨u2, h6, G6, bb, -⟩ := boxed u1 27 #[.slice none 0 0, .slice none 0 0, .int .i64 0]
            rw [h6]
            clear h6
            obtain ⟨g6, hg6⟩ : ∃ q, u1.heap.size = q := ⟨_, rfl⟩
            rw [hg6] at G6 ⊢
            have hgu : u0.heap.size ≤ g6 := by have := bu.size; omega
            clear hg6
            replace A1 := A1.below bb
            replace A2 := A2.below bb
            replace A6 := A6.below bb
            replace S6 := S6.below bb
            replace J6 := J6.below bb
            replace A9 := A9.below bb
            replace S9' := S9'.below bb
            replace J9' := J9'.below bb
            replace B := B.trans (bb.mono B.size)
            replace D3 := D3.below bb
            replace E3 := E3.below bb
            replace bu : Kb u0 u2 := bu.trans (bb.mono bu.size)
            clear bb
            clear hHeld
            refine hK'.out _ _ (bu) (fun hHeld => ?_)
            clear hK' KK
            try simp only [List.setIfInBounds_toArray, List.set_cons_zero, List.set_cons_succ]
            refine wpAnyH_ready (rs := [3]) (by kernel_rfl) (by simp) ?_
            refine AllReadyH.cons rfl (fun KK hK' => ?_) AllReadyH.nil
            go_simp
            refine (toDeed_any K s o a _).mono ?_
            rintro e u3 ⟨rfl, bb⟩
            replace A1 := A1.below bb
            replace A2 := A2.below bb
            replace A6 := A6.below bb
            replace S6 := S6.below bb
            replace J6 := J6.below bb
            replace A9 := A9.below bb
            replace S9' := S9'.below bb
            replace J9' := J9'.below bb
            replace B := B.trans (bb.mono B.size)
            replace D3 := D3.below bb
            replace E3 := E3.below bb
            replace G6 := G6.below bb
            replace bu : Kb u0 u3 := bu.trans (bb.mono bu.size)
            clear bb
            try go_wp2_with fail
            clear hHeld
            refine hK'.out _ _ (bu) (fun hHeld => ?_)
            clear hK' KK
            try simp only [List.setIfInBounds_toArray, List.set_cons_zero, List.set_cons_succ]
            refine wpAnyH_ready (rs := [4]) (by kernel_rfl) (by simp) ?_
            refine AllReadyH.cons rfl (fun KK hK' => ?_) AllReadyH.nil
            go_simp
            have hlo := bu.size
            refine (implLabDo_any K s o a (.inr ⟨g3, rfl, D3.recsN⟩) (.inr ⟨h3, rfl, E3.recsN⟩) (fun h => by cases h) (fun h => by cases h) hN hM (Nat.le_refl _) HX).mono ?_
            rintro e u4 ⟨vS, vJ, rfl, OS, OJ, bb⟩
            replace A1 := A1.below bb
            replace A2 := A2.below bb
            replace A6 := A6.below bb
            replace S6 := S6.below bb
            replace J6 := J6.below bb
            replace A9 := A9.below bb
            replace S9' := S9'.below bb
            replace J9' := J9'.below bb
            replace B := B.trans (bb.mono B.size)
            replace D3 := D3.below bb
            replace E3 := E3.below bb
            replace G6 := G6.below bb
            replace bu : Kb u0 u4 := bu.trans (bb.mono bu.size)
            clear bb
            replace OS := OS.wide hlo (Nat.le_refl _)
            replace OJ := OJ.wide hlo (Nat.le_refl _)
            clear hlo
            obtain ⟨sS, cS, rfl, -, -⟩ := OS.ls
            obtain ⟨sJ, cJ, rfl, -, -⟩ := OJ.ls
            try go_wp2_with fail
            clear hHeld
            refine hK'.out _ _ (bu) (fun hHeld => ?_)
            clear hK' KK
            try simp only [List.setIfInBounds_toArray, List.set_cons_zero, List.set_cons_succ]
            refine wpAnyH_take (i := 5) (v := .tuple #[labV (.slice sS x.2.n cS) (.slice sJ x.2.m cJ) x.2.T, .int .i64 x.1]) rfl (by kernel_rfl) (by kernel_rfl) (by kernel_rfl) (fun _ _ _ h => h) (Or.inl ⟨by kernel_rfl, ?_⟩) hHeld ?_
            · intro w' hSw; go_simp
            try simp only [Act.put, List.setIfInBounds_toArray, List.set_cons_zero, List.set_cons_succ, List.getElem_toArray, List.getElem_cons_succ, List.getElem_cons_zero]
            refine wpAnyH_take (i := 6) (v := labV (.slice sS x.2.n cS) (.slice sJ x.2.m cJ) x.2.T) rfl (by kernel_rfl) (by kernel_rfl) (by kernel_rfl) (fun _ _ _ h => h) (Or.inl ⟨by kernel_rfl, ?_⟩) hHeld ?_
            · intro w' hSw; go_simp
            try simp only [Act.put, List.setIfInBounds_toArray, List.set_cons_zero, List.set_cons_succ, List.getElem_toArray, List.getElem_cons_succ, List.getElem_cons_zero]
            refine wpAnyH_take (i := 7) (v := .int .i64 (x.1)) rfl (by kernel_rfl) (by kernel_rfl) (by kernel_rfl) (fun _ _ _ h => h) (Or.inl ⟨by kernel_rfl, ?_⟩) hHeld ?_
            · intro w' hSw; go_simp
            try simp only [Act.put, List.setIfInBounds_toArray, List.set_cons_zero, List.set_cons_succ, List.getElem_toArray, List.getElem_cons_succ, List.getElem_cons_zero]
            refine wpAnyH_ready (rs := [9]) (by kernel_rfl) (by simp) ?_
            refine AllReadyH.cons rfl (fun KK hK' => ?_) AllReadyH.nil
            obtain ⟨y0, y1, y2, y3, y4, y5⟩ := G6.open3
            go_simp
            have G7 := put3_at G6 (.slice sS x.2.n cS) (.slice sJ x.2.m cJ) (.int .i64 x.2.T)
            replace OS := (OS.only (put3_only u4 g6 (.slice sS x.2.n cS) (.slice sJ x.2.m cJ) (.int .i64 x.2.T)) (apart_box (OS.box G6 (by decide)))).fit
            replace OJ := (OJ.only (put3_only u4 g6 (.slice sS x.2.n cS) (.slice sJ x.2.m cJ) (.int .i64 x.2.T)) (apart_box (OJ.box G6 (by decide)))).fit
            replace bu : Kb u0 (((u4.setCell ⟨g6, 0, none⟩ (.slice sS x.2.n cS)).setCell ⟨g6, 1, none⟩ (.slice sJ x.2.m cJ)).setCell ⟨g6, 2, none⟩ (.int .i64 x.2.T)) := below_put3 bu hgu _ _ _
            clear G6 A1 A2 B A6 S6 J6 A9 S9' J9'
            obtain ⟨u5, hv⟩ : ∃ V, ((u4.setCell ⟨g6, 0, none⟩ (.slice sS x.2.n cS)).setCell ⟨g6, 1, none⟩ (.slice sJ x.2.m cJ)).setCell ⟨g6, 2, none⟩ (.int .i64 x.2.T) = V := ⟨_, rfl⟩
            rw [hv] at G7 OS OJ bu ⊢
            clear hv y0 y1 y2 y3 y4 y5
            clear hHeld
            refine hK'.out _ _ (bu) (fun hHeld => ?_)
            clear hK' KK
            try simp only [List.setIfInBounds_toArray, List.set_cons_zero, List.set_cons_succ]
            refine wpAnyH_take (i := 10) (v := .int .i64 (x.1)) rfl (by kernel_rfl) (by kernel_rfl) (by kernel_rfl) (fun _ _ _ h => h) (Or.inl ⟨by kernel_rfl, ?_⟩) hHeld ?_
            · intro w' hSw; go_simp
            try simp only [Act.put, List.setIfInBounds_toArray, List.set_cons_zero, List.set_cons_succ, List.getElem_toArray, List.getElem_cons_succ, List.getElem_cons_zero]
            refine wpAnyH_done (by kernel_rfl) ?_ _
            clear hHeld
            go_wp2_with fail
            go_meet
            case rel => exact ⟨g6, sS, cS, sJ, cJ, rfl, rfl, G7, OS.wide hlW (Nat.le_refl _), OJ.wide hlW (Nat.le_refl _), hbW.trans (Below.mono bu hlW)⟩
        · go_simp
          obtain ⟨u1, h6, G6, bb, -⟩ := boxed u0 27 #[.slice none 0 0, .slice none 0 0, .int .i64 0]
          rw [h6]
          clear h6
          obtain ⟨g6, hg6⟩ : ∃ q, u0.heap.size = q := ⟨_, rfl⟩
          rw [hg6] at G6 ⊢
          have hgu : u0.heap.size ≤ g6 := by have := bu.size; omega
          clear hg6
          replace A1 := A1.below bb
          replace A2 := A2.below bb
          replace A6 := A6.below bb
          replace S6 := S6.below bb
          replace J6 := J6.below bb
          replace A9 := A9.below bb
          replace S9' := S9'.below bb
          replace J9' := J9'.below bb
          replace B := B.trans (bb.mono B.size)
          replace bu : Kb u0 u1 := bu.trans (bb.mono bu.size)
          clear bb
          clear hHeld
          refine hK'.out _ _ (bu) (fun hHeld => ?_)
          clear hK' KK
          try simp only [List.setIfInBounds_toArray, List.set_cons_zero, List.set_cons_succ]
          refine wpAnyH_ready (rs := [1]) (by kernel_rfl) (by simp) ?_
          refine AllReadyH.cons rfl (fun KK hK' => ?_) AllReadyH.nil
          go_simp
          refine (toLab_any (HS.out.below B) (HL.out.below B) hN hM).mono ?_
          rintro e u2 ⟨g3, h3, rfl, -, -, D3, E3, bb⟩
          replace A1 := A1.below bb
          replace A2 := A2.below bb
          replace A6 := A6.below bb
          replace S6 := S6.below bb
          replace J6 := J6.below bb
          replace A9 := A9.below bb
          replace S9' := S9'.below bb
          replace J9' := J9'.below bb
          replace B := B.trans (bb.mono B.size)
          replace G6 := G6.below bb
          replace bu : Kb u0 u2 := bu.trans (bb.mono bu.size)
          clear bb
          try go_wp2_with fail
          clear hHeld
          refine hK'.out _ _ (bu) (fun hHeld => ?_)
          clear hK' KK
          try simp only [List.setIfInBounds_toArray, List.set_cons_zero, List.set_cons_succ]
          refine wpAnyH_ready (rs := [3]) (by kernel_rfl) (by simp) ?_
          refine AllReadyH.cons rfl (fun KK hK' => ?_) AllReadyH.nil
          go_simp
          refine (toDeed_any K s o a _).mono ?_
          rintro e u3 ⟨rfl, bb⟩
          replace A1 := A1.below bb
          replace A2 := A2.below bb
          replace A6 := A6.below bb
          replace S6 := S6.below bb
          replace J6 := J6.below bb
          replace A9 := A9.below bb
          replace S9' := S9'.below bb
          replace J9' := J9'.below bb
          replace B := B.trans (bb.mono B.size)
          replace D3 := D3.below bb
          replace E3 := E3.below bb
          replace G6 := G6.below bb
          replace bu : Kb u0 u3 := bu.trans (bb.mono bu.size)
          clear bb
          try go_wp2_with fail
          clear hHeld
          refine hK'.out _ _ (bu) (fun hHeld => ?_)
          clear hK' KK
          try simp only [List.setIfInBounds_toArray, List.set_cons_zero, List.set_cons_succ]
          refine wpAnyH_ready (rs := [4]) (by kernel_rfl) (by simp) ?_
          refine AllReadyH.cons rfl (fun KK hK' => ?_) AllReadyH.nil
          go_simp
          have hlo := bu.size
          refine (implLabDo_any K s o a (.inr ⟨g3, rfl, D3.recsN⟩) (.inr ⟨h3, rfl, E3.recsN⟩) (fun h => by cases h) (fun h => by cases h) hN hM (Nat.le_refl _) HX).mono ?_
          rintro e u4 ⟨vS, vJ, rfl, OS, OJ, bb⟩
          replace A1 := A1.below bb
          replace A2 := A2.below bb
          replace A6 := A6.below bb
          replace S6 := S6.below bb
          replace J6 := J6.below bb
          replace A9 := A9.below bb
          replace S9' := S9'.below bb
          replace J9' := J9'.below bb
          replace B := B.trans (bb.mono B.size)
          replace D3 := D3.below bb
          replace E3 := E3.below bb
          replace G6 := G6.below bb
          replace bu : Kb u0 u4 := bu.trans (bb.mono bu.size)
          clear bb
          replace OS := OS.wide hlo (Nat.le_refl _)
          replace OJ := OJ.wide hlo (Nat.le_refl _)
          clear hlo
          obtain ⟨sS, cS, rfl, -, -⟩ := OS.ls
          obtain ⟨sJ, cJ, rfl, -, -⟩ := OJ.ls
          try go_wp2_with fail
          clear hHeld
          refine hK'.out _ _ (bu) (fun hHeld => ?_)
          clear hK' KK
          try simp only [List.setIfInBounds_toArray, List.set_cons_zero, List.set_cons_succ]
          refine wpAnyH_take (i := 5) (v := .tuple #[labV (.slice sS x.2.n cS) (.slice sJ x.2.m cJ) x.2.T, .int .i64 x.1]) rfl (by kernel_rfl) (by kernel_rfl) (by kernel_rfl) (fun _ _ _ h => h) (Or.inl ⟨by kernel_rfl, ?_⟩) hHeld ?_
          · intro w' hSw; go_simp
          try simp only [Act.put, List.setIfInBounds_toArray, List.set_cons_zero, List.set_cons_succ, List.getElem_toArray, List.getElem_cons_succ, List.getElem_cons_zero]
          refine wpAnyH_take (i := 6) (v := labV (.slice sS x.2.n cS) (.slice sJ x.2.m cJ) x.2.T) rfl (by kernel_rfl) (by kernel_rfl) (by kernel_rfl) (fun _ _ _ h => h) (Or.inl ⟨by kernel_rfl, ?_⟩) hHeld ?_
          · intro w' hSw; go_simp
          try simp only [Act.put, List.setIfInBounds_toArray, List.set_cons_zero, List.set_cons_succ, List.getElem_toArray, List.getElem_cons_succ, List.getElem_cons_zero]
          refine wpAnyH_take (i := 7) (v := .int .i64 (x.1)) rfl (by kernel_rfl) (by kernel_rfl) (by kernel_rfl) (fun _ _ _ h => h) (Or.inl ⟨by kernel_rfl, ?_⟩) hHeld ?_
          · intro w' hSw; go_simp
          try simp only [Act.put, List.setIfInBounds_toArray, List.set_cons_zero, List.set_cons_succ, List.getElem_toArray, List.getElem_cons_succ, List.getElem_cons_zero]
          refine wpAnyH_ready (rs := [9]) (by kernel_rfl) (by simp) ?_
          refine AllReadyH.cons rfl (fun KK hK' => ?_) AllReadyH.nil
          obtain ⟨y0, y1, y2, y3, y4, y5⟩ := G6.open3
          go_simp
          have G7 := put3_at G6 (.slice sS x.2.n cS) (.slice sJ x.2.m cJ) (.int .i64 x.2.T)
          replace OS := (OS.only (put3_only u4 g6 (.slice sS x.2.n cS) (.slice sJ x.2.m cJ) (.int .i64 x.2.T)) (apart_box (OS.box G6 (by decide)))).fit
          replace OJ := (OJ.only (put3_only u4 g6 (.slice sS x.2.n cS) (.slice sJ x.2.m cJ) (.int .i64 x.2.T)) (apart_box (OJ.box G6 (by decide)))).fit
          replace bu : Kb u0 (((u4.setCell ⟨g6, 0, none⟩ (.slice sS x.2.n cS)).setCell ⟨g6, 1, none⟩ (.slice sJ x.2.m cJ)).setCell ⟨g6, 2, none⟩ (.int .i64 x.2.T)) := below_put3 bu hgu _ _ _
          clear G6 A1 A2 B A6 S6 J6 A9 S9' J9'
          obtain ⟨u5, hv⟩ : ∃ V, ((u4.setCell ⟨g6, 0, none⟩ (.slice sS x.2.n cS)).setCell ⟨g6, 1, none⟩ (.slice sJ x.2.m cJ)).setCell ⟨g6, 2, none⟩ (.int .i64 x.2.T) = V := ⟨_, rfl⟩
          rw [hv] at G7 OS OJ bu ⊢
          clear hv y0 y1 y2 y3 y4 y5
          clear hHeld
          refine hK'.out _ _ (bu) (fun hHeld => ?_)
          clear hK' KK
          try simp only [List.setIfInBounds_toArray, List.set_cons_zero, List.set_cons_succ]
          refine wpAnyH_take (i := 10) (v := .int .i64 (x.1)) rfl (by kernel_rfl) (by kernel_rfl) (by kernel_rfl) (fun _ _ _ h => h) (Or.inl ⟨by kernel_rfl, ?_⟩) hHeld ?_
          · intro w' hSw; go_simp
          try simp only [Act.put, List.setIfInBounds_toArray, List.set_cons_zero, List.set_cons_succ, List.getElem_toArray, List.getElem_cons_succ, List.getElem_cons_zero]
          refine wpAnyH_done (by kernel_rfl) ?_ _
          clear hHeld
          go_wp2_with fail
          go_meet
          case rel => exact ⟨g6, sS, cS, sJ, cJ, rfl, rfl, G7, OS.wide hlW (Nat.le_refl _), OJ.wide hlW (Nat.le_refl _), hbW.trans (Below.mono bu hlW)⟩
      case rest =>
        obtain ⟨gH, sU, cU, sL, cL, rfl, rfl, AH, SH, JH, bb⟩ := hcut
        rename World => v6
        replace A1 := A1.below bb
        replace A2 := A2.below bb
        replace A6 := A6.below bb
        replace A9 := A9.below bb
        replace S6 := S6.below bb
        replace J6 := J6.below bb
        replace S9' := S9'.below bb
        replace J9' := J9'.below bb
        replace B := B.trans (bb.mono B.size)
        clear bb
        obtain ⟨c0, c1, c2, -⟩ := AH.open3
        obtain ⟨d0, d1, d2, -⟩ := A6.open3
        go_wp2_with fail
        refine (eqLab_true (ark_ls SH) (ark_ls S6) (ark_ls JH) (ark_ls J6) hXn hXm).mono ?_
        rintro e v7 ⟨rfl, bb⟩
        replace A9 := A9.below bb
        replace S9' := S9'.below bb
        replace J9' := J9'.below bb
        replace B := B.trans (bb.mono B.size)
        clear bb
        clear c0 c1 c2 d0 d1 d2
        obtain ⟨c0, c1, c2, -⟩ := A9.open3
        go_wp2_with fail
        refine (HH _ S9' J9').mono ?_
        rintro e v8 ⟨rfl, bb⟩
        replace B := B.trans (bb.mono B.size)
        go_wp2
        go_ret
        exact ⟨rfl, B⟩
end Go.Proofs.Ytnjnffemidaopaa
