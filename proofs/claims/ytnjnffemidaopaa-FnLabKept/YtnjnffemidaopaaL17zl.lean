/-
  The law FnOnce: walked.
-/
import Derived.Test.YtnjnffemidaopaaL17zk
namespace Go.Proofs.Ytnjnffemidaopaa
open Go.RowKit

theorem put4_only (w : World) (q : Nat) (v0 v1 v2 v3 : Value) : Only (.slice (some ⟨q, 0, none⟩) 0 0) w ((((w.setCell ⟨q, 0, none⟩ v0).setCell ⟨q, 1, none⟩ v1).setCell ⟨q, 2, none⟩ v2).setCell ⟨q, 3, none⟩ v3) :=
  .of_kept (a := ⟨q, 0, none⟩) (Kept.set (Kept.set (Kept.set (Kept.set (Kept.refl q w) v0) v1) v2) v3)
theorem put1_only (w : World) (q i : Nat) (v : Value) : Only (.slice (some ⟨q, 0, none⟩) 0 0) w (w.setCell ⟨q, i, none⟩ v) :=
  .of_kept (a := ⟨q, 0, none⟩) (Kept.set (Kept.refl q w) v)
theorem Lk.onlyB {B q q' : Nat} {w w' : World} {vS vJ : Value} {n m : Nat} {f g : Nat → Int} {T : Int} {vs : Array Value} (h : Lk B q w vS vJ n f m g T) (U : Only (.slice (some ⟨q', 0, none⟩) 0 0) w w') (b : At 29 w q' vs) (hne : q ≠ q') : Lk B q w' vS vJ n f m g T :=
  ⟨h.bx.only U (ownb hne), (h.S.only U (apart_box (h.S.box b (by decide)))).fit, (h.J.only U (apart_box (h.J.box b (by decide)))).fit, h.hq⟩
theorem Only.belowB {B q : Nat} {w0 w w' : World} (U : Only (.slice (some ⟨q, 0, none⟩) 0 0) w w') (h : Below B w0 w) (hq : B ≤ q) (hB : B ≤ w.heap.size) : Below B w0 w' :=
  { os := U.os.trans h.os, tape := U.tape.trans h.tape, output := U.output.trans h.output, size := Nat.le_trans h.size U.size, block := fun k hk => (U.block k (Nat.lt_of_lt_of_le hk hB) (ownb (by omega))).trans (h.block k hk) }
set_option maxRecDepth 100000 in
set_option maxHeartbeats 12800000 in
theorem once_walk (hD : DeedC) {w : World} {a : Option Addr} {len cap : Nat} (hr : Row w w.heap.size a len) :
    Calls Try.prog 4 #[.slice a len cap] w fun e w' => e = .returned (.bool true) ∧ Below w.heap.size w w' := by
  have hl := hr.1
  go_enter Try.func4, Try.ntmps4
  go_wp2_with fail
  refine (big_any a len cap w hl).mono ?_
  rintro e w0 ⟨rfl, rfl⟩
  by_cases hbig : 1048576 < len
  · have e1 : decide (1048576 < len) = true := by simp; omega
    rw [e1]
    go_wp2
    go_ret
    exact ⟨rfl, Below.refl _ _⟩
  have e1 : decide (1048576 < len) = false := by simp; omega
  rw [e1]
  clear e1 hbig
  go_wp2_with fail
  refine (drawDo_any hD hr).mono ?_
  rintro e w1 ⟨vS, vJ, n, f, m, g, T, k0, k1, k2, k3, rfl, hn, hm, S6, J6, B⟩
  obtain ⟨sS, cS, rfl, -, -⟩ := S6.ls
  obtain ⟨sJ, cJ, rfl, hcJ, -⟩ := J6.ls
  obtain ⟨W2, hW2, A3, A4, b2, hsz⟩ := bx2n w1 27 29 #[.slice none 0 0, .slice none 0 0, .int .i64 0] #[.int .i64 0, .int .i64 0, .int .i64 0, .int .i64 0]
  obtain ⟨q3, hq3⟩ : ∃ q, w1.heap.size = q := ⟨_, rfl⟩
  obtain ⟨q4, hq4⟩ : ∃ q, q3 + 1 = q := ⟨_, rfl⟩
  rw [hq3] at A3 A4
  rw [hq4] at A4
  obtain ⟨z0, z1, z2, y0, y1, y2⟩ := A3.open3
  obtain ⟨c0, c1, c2, c3, -⟩ := Deed.box A4
  obtain ⟨f0, f1, f2, f3⟩ := Deed.boxF A4
  clear hsz
  have hB1 := B.size
  have hq3w : w.heap.size ≤ q3 := by omega
  have hq4w : w.heap.size ≤ q4 := by omega
  have h34 : q3 ≠ q4 := by omega
  have bx := put3_at A3 (.slice sS n cS) (.slice sJ m cJ) (.int .i64 T)
  have U := put3_only W2 q3 (.slice sS n cS) (.slice sJ m cJ) (.int .i64 T)
  have S7 := S6.below b2
  have J7 := J6.below b2
  have K : Lk w.heap.size q3 _ (.slice sS n cS) (.slice sJ m cJ) n f m g T := ⟨bx, (S7.only U (apart_box (S7.box A3 (by decide)))).fit, (J7.only U (apart_box (J7.box A3 (by decide)))).fit, hq3w⟩
  have D := A4.only U (ownb (Ne.symm h34))
  have B2 := U.belowB (B.trans (b2.mono B.size)) hq3w (by have := b2.size; omega)
  obtain ⟨W3, hW3⟩ : ∃ V, ((W2.setCell ⟨q3, 0, none⟩ (.slice sS n cS)).setCell ⟨q3, 1, none⟩ (.slice sJ m cJ)).setCell ⟨q3, 2, none⟩ (.int .i64 T) = V := ⟨_, rfl⟩
  rw [hW3] at K D B2
  have U2 := put4_only W3 q4 (.int .i64 k0) (.int .i64 k1) (.int .i64 k2) (.int .i64 k3)
  have K2 := K.onlyB U2 D h34
  have D2 := Deed.putBox D (.int .i64 k0) (.int .i64 k1) (.int .i64 k2) (.int .i64 k3)
  have B3 := U2.belowB B2 hq4w (by have := B2.size; omega)
  obtain ⟨W4, hW4⟩ : ∃ V, ((((W3.setCell ⟨q4, 0, none⟩ (.int .i64 k0)).setCell ⟨q4, 1, none⟩ (.int .i64 k1)).setCell ⟨q4, 2, none⟩ (.int .i64 k2)).setCell ⟨q4, 3, none⟩ (.int .i64 k3)) = V := ⟨_, rfl⟩
  rw [hW4] at K2 D2 B3
  obtain ⟨d0, d1, d2, d3, -⟩ := Deed.box D
  obtain ⟨g0, g1, g2, g3⟩ := Deed.boxF D
  go_wp2_with fail
  clear hW2 A3 A4 z0 z1 z2 y0 y1 y2 c0 c1 c2 c3 f0 f1 f2 f3 bx U S7 J7 S6 J6 b2 B hB1 hq3 hq4 B2 K D U2 d0 d1 d2 d3 g0 g1 g2 g3 hW3 hW4
  go_loopw [5] (fun s wr => ∃ (i : Nat) (s1 : Int), i ≤ n ∧ s = .int .i64 (i : Int) ∧ Lk w.heap.size q3 wr (.slice sS n cS) (.slice sJ m cJ) n f m g T ∧ At 29 wr q4 #[.int .i64 k0, .int .i64 s1, .int .i64 k2, .int .i64 k3] ∧ Below w.heap.size w wr) (fun s _ => n - (intOf s).toNat)
  case atStart => exact ⟨0, _, Nat.zero_le _, rfl, K2, D2, B3⟩
  case round =>
    clear K2 D2 B3
    obtain ⟨i, s1, hi, rfl, K, D, B⟩ := hrel
    obtain ⟨z0, z1, z2, -⟩ := K.bx.open3
    by_cases hin : i < n
    · have hin' : (i : Int) < (n : Int) := by omega
      obtain ⟨ga, rfl, Ra⟩ := (ark_ls K.S).some hin
      obtain ⟨a0, a1, a2⟩ := Sample.open Ra i hin
      by_cases hpl : f (i * 3 + 1) = 3
      · have hpl' : (f (i * 3 + 1) == 3) = true := by simp [hpl]
        obtain ⟨c0, c1, c2, c3, -⟩ := Deed.box D
        obtain ⟨f0, f1, f2, f3⟩ := Deed.boxF D
        have U := put1_only wr q4 1 (.int .i64 (f (i * 3)))
        have K2 := K.onlyB U D h34
        have D2 := D.set 1 (.int .i64 (f (i * 3)))
        simp only [List.setIfInBounds_toArray, List.set_cons_zero, List.set_cons_succ] at D2
        have B2 := U.belowB B hq4w B.size
        go_wp2
        exact ⟨⟨i + 1, _, by omega, by go_num, K2, D2, B2⟩, by simp [intOf]; omega⟩
      · have hpl' : (f (i * 3 + 1) == 3) = false := by simp [hpl]
        go_wp2
        exact ⟨⟨i + 1, _, by omega, by go_num, K, D, B⟩, by simp [intOf]; omega⟩
    · have hin' : ¬ (i : Int) < (n : Int) := by omega
      obtain ⟨c0, c1, c2, c3, -⟩ := Deed.box D
      obtain ⟨f0, f1, f2, f3⟩ := Deed.boxF D
      have U := put1_only wr q4 0 (.int .i64 6)
      have K2 := K.onlyB U D h34
      have D2 := D.set 0 (.int .i64 6)
      simp only [List.setIfInBounds_toArray, List.set_cons_zero] at D2
      have B2 := U.belowB B hq4w B.size
      obtain ⟨W5, hW5⟩ : ∃ V, wr.setCell ⟨q4, 0, none⟩ (.int .i64 6) = V := ⟨_, rfl⟩
      rw [hW5] at K2 D2 B2
      clear U B
      obtain ⟨p, ys, j, yj, x, hx⟩ := told_is n f m g T 6 s1 k2 k3
      have HX : Hid (ToldD n f m g T 6 s1 k2 k3 p ys j yj x) := hx
      clear hx
      have hn1 : n ≤ 1048576 := by omega
      have hm1 : m ≤ 1048576 := by omega
      obtain ⟨z3, z4, z5, -⟩ := K2.bx.open3
      obtain ⟨c4, c5, c6, c7, -⟩ := Deed.box D2
      go_wp2_with fail
      refine (specLabDo_any 6 s1 k2 k3 (ark_ls K2.S) (ark_ls K2.J) (ark_c K2.S) (ark_c K2.J) hn1 hm1 HX).mono ?_
      rintro e w6 ⟨vS, vJ, rfl, S6, J6, bb⟩
      clear z0 z1 z2 z3 z4 z5 c0 c1 c2 c3 c4 c5 c6 c7 f0 f1 f2 f3 hW5 K D
      replace B2 := B2.trans (bb.mono B2.size)
      replace K2 := K2.below bb
      replace D2 := D2.below bb
      obtain ⟨sS6, cS6, rfl, -, -⟩ := S6.ls
      obtain ⟨sJ6, cJ6, rfl, -, -⟩ := J6.ls
      obtain ⟨W7, hW7, A7, b7, -⟩ := boxed w6 27 #[.slice sS6 x.2.n cS6, .slice sJ6 x.2.m cJ6, .int .i64 x.2.T]
      replace B2 := B2.trans (b7.mono B2.size)
      replace K2 := K2.below b7
      replace D2 := D2.below b7
      clear S6 J6 A7 bb b7
      obtain ⟨z3, z4, z5, -⟩ := K2.bx.open3
      obtain ⟨c4, c5, c6, c7, -⟩ := Deed.box D2
      by_cases hx0 : x.1 = 0
      · skip
        have hx0' : (x.1 == 0) = true := by simp [hx0]
        have hn9 : n ≤ 900000 := by omega
        have hm9 : m ≤ 900000 := by omega
        have DO1 := fun w' sa dd aj cc (l : Ls 3 w' sa n f) (k : Ls 4 w' aj m g) (h1 : sa = none → n = 0 ∧ dd = 0) (h2 : aj = none → m = 0 ∧ cc = 0) (h3 : m ≤ cc) => implLabDo_any (d := dd) (c := cc) 6 s1 k2 k3 l k h1 h2 hn1 hm1 h3 HX
        go_wp2_with fail
        clear z3 z4 z5 c4 c5 c6 c7 hW7
        go_cut [10, 11] from 62 to 69 (fun s10 s11 wc => CutL x W7 s10 s11 wc)
        case first =>
          obtain ⟨u0, hu0, bb⟩ : ∃ uu, W7.drew = uu ∧ Below W7.heap.size W7 uu := ⟨_, rfl, (Below.refl _ _).drew⟩
          have hbW := bb
          have hlW := bb.size
          have m3 := K2.bx.below bb
          have S0 := (K2.S.below bb).fit
          have J0 := (K2.J.below bb).fit
          have m4 := D2.below bb
          clear bb
          refine wp_region_held_drew (S := Kb u0) (by kernel_rfl) (by rw [hu0]; exact Below.refl _ _) (fun hHeld => ?_)
          rw [hu0] at hHeld ⊢
          clear hu0
          have bu : Kb u0 u0 := Below.refl _ _
          change wpAnyH _ _ _ _ _ 10 #[false, false, false, false, false, false, false, false, false, false] _ _
          refine wpAnyH_take (i := 0) (v := lbV sS n cS sJ m cJ T) rfl (by kernel_rfl) (by kernel_rfl) (by kernel_rfl) (fun _ _ _ h => h) (Or.inl ⟨by kernel_rfl, ?_⟩) hHeld ?_
          · intro w' hSw; obtain ⟨z0, z1, z2, -⟩ := (m3.below hSw).open3; go_simp
          try simp only [Act.put, List.setIfInBounds_toArray, List.set_cons_zero, List.set_cons_succ, List.getElem_toArray, List.getElem_cons_zero]
          refine wpAnyH_take (i := 2) (v := deedV 6 s1 k2 k3) rfl (by kernel_rfl) (by kernel_rfl) (by kernel_rfl) (fun _ _ _ h => h) (Or.inl ⟨by kernel_rfl, ?_⟩) hHeld ?_
          · intro w' hSw; obtain ⟨z0, z1, z2, z3, -⟩ := Deed.box (m4.below hSw); go_simp
          try simp only [Act.put, List.setIfInBounds_toArray, List.set_cons_zero, List.set_cons_succ, List.getElem_toArray, List.getElem_cons_succ, List.getElem_cons_zero]
          refine wpAnyH_ready (rs := [1, 7]) (by kernel_rfl) (by simp) ?_
          refine AllReadyH.cons rfl (fun KK hK' => ?_) (AllReadyH.cons rfl (fun KK hK' => ?_) AllReadyH.nil)
          · go_simp
            refine (copyLab_any ((ark_ls S0).below bu) ((ark_ls J0).below bu) (ark_c S0) (ark_c J0) hn9 hm9).mono ?_
            rintro e u1 ⟨vT, vK, rfl, CS, CJ, hvS, hvJ, bb⟩
            replace bu : Kb u0 u1 := bu.trans (bb.mono bu.size)
            clear bb
            obtain ⟨yS, zS, rfl, -, -, -, -⟩ := CS.nn hvS
            obtain ⟨yJ, zJ, rfl, -, hzJ, -, -⟩ := CJ.nn hvJ
            clear hvS hvJ
            try go_wp2_with fail
            clear hHeld
            refine hK'.out _ _ (bu) (fun hHeld => ?_)
            clear hK' KK
            try simp only [List.setIfInBounds_toArray, List.set_cons_zero, List.set_cons_succ]
            refine wpAnyH_ready (rs := [3, 7]) (by kernel_rfl) (by simp) ?_
            refine AllReadyH.cons rfl (fun KK hK' => ?_) (AllReadyH.cons rfl (fun KK hK' => ?_) AllReadyH.nil)
            · go_simp
              have hlo := bu.size
              refine (DO1 _ _ _ _ _ (ark_ls CS) (ark_ls CJ) (ark_c CS) (ark_c CJ) hzJ).mono ?_
              rintro e u2 ⟨vT, vK, rfl, OS, OJ, bb⟩
              replace CS := CS.below bb
              replace CJ := CJ.below bb
              replace bu : Kb u0 u2 := bu.trans (bb.mono bu.size)
              clear bb
              replace OS := OS.wide hlo (Nat.le_refl _)
              replace OJ := OJ.wide hlo (Nat.le_refl _)
              clear hlo
              obtain ⟨aS, bS, rfl, -, -⟩ := OS.ls
              obtain ⟨aJ, bJ, rfl, -, -⟩ := OJ.ls
              try go_wp2_with fail
              clear hHeld
              refine hK'.out _ _ (bu) (fun hHeld => ?_)
              clear hK' KK
              try simp only [List.setIfInBounds_toArray, List.set_cons_zero, List.set_cons_succ]
              refine wpAnyH_take (i := 4) (v := .tuple #[labV (.slice aS x.2.n bS) (.slice aJ x.2.m bJ) x.2.T, .int .i64 x.1]) rfl (by kernel_rfl) (by kernel_rfl) (by kernel_rfl) (fun _ _ _ h => h) (Or.inl ⟨by kernel_rfl, ?_⟩) hHeld ?_
              · intro w' hSw; go_simp
              try simp only [Act.put, List.setIfInBounds_toArray, List.set_cons_zero, List.set_cons_succ, List.getElem_toArray, List.getElem_cons_succ, List.getElem_cons_zero]
              refine wpAnyH_take (i := 5) (v := labV (.slice aS x.2.n bS) (.slice aJ x.2.m bJ) x.2.T) rfl (by kernel_rfl) (by kernel_rfl) (by kernel_rfl) (fun _ _ _ h => h) (Or.inl ⟨by kernel_rfl, ?_⟩) hHeld ?_
              · intro w' hSw; go_simp
              try simp only [Act.put, List.setIfInBounds_toArray, List.set_cons_zero, List.set_cons_succ, List.getElem_toArray, List.getElem_cons_succ, List.getElem_cons_zero]
              refine wpAnyH_take (i := 6) (v := .int .i64 (x.1)) rfl (by kernel_rfl) (by kernel_rfl) (by kernel_rfl) (fun _ _ _ h => h) (Or.inl ⟨by kernel_rfl, ?_⟩) hHeld ?_
              · intro w' hSw; go_simp
              try simp only [Act.put, List.setIfInBounds_toArray, List.set_cons_zero, List.set_cons_succ, List.getElem_toArray, List.getElem_cons_succ, List.getElem_cons_zero]
              refine wpAnyH_ready (rs := [7]) (by kernel_rfl) (by simp) ?_
              refine AllReadyH.cons rfl (fun KK hK' => ?_) AllReadyH.nil
              go_simp
              obtain ⟨u3, h6, G6, bb, -⟩ := boxed u2 27 #[.slice none 0 0, .slice none 0 0, .int .i64 0]
              rw [h6]
              clear h6
              obtain ⟨g6, hg6⟩ : ∃ q, u2.heap.size = q := ⟨_, rfl⟩
              rw [hg6] at G6 ⊢
              have hgu : u0.heap.size ≤ g6 := by have := bu.size; omega
              clear hg6
              replace CS := CS.below bb
              replace CJ := CJ.below bb
              replace OS := OS.below bb
              replace OJ := OJ.below bb
              replace bu : Kb u0 u3 := bu.trans (bb.mono bu.size)
              clear bb
              clear hHeld
              refine hK'.out _ _ (bu) (fun hHeld => ?_)
              clear hK' KK
              try simp only [List.setIfInBounds_toArray, List.set_cons_zero, List.set_cons_succ]
              refine wpAnyH_ready (rs := [8]) (by kernel_rfl) (by simp) ?_
              refine AllReadyH.cons rfl (fun KK hK' => ?_) AllReadyH.nil
              obtain ⟨y0, y1, y2, y3, y4, y5⟩ := G6.open3
              go_simp
              have G7 := put3_at G6 (.slice aS x.2.n bS) (.slice aJ x.2.m bJ) (.int .i64 x.2.T)
              replace OS := (OS.only (put3_only u3 g6 (.slice aS x.2.n bS) (.slice aJ x.2.m bJ) (.int .i64 x.2.T)) (apart_box (OS.box G6 (by decide)))).fit
              replace OJ := (OJ.only (put3_only u3 g6 (.slice aS x.2.n bS) (.slice aJ x.2.m bJ) (.int .i64 x.2.T)) (apart_box (OJ.box G6 (by decide)))).fit
              replace bu : Kb u0 (((u3.setCell ⟨g6, 0, none⟩ (.slice aS x.2.n bS)).setCell ⟨g6, 1, none⟩ (.slice aJ x.2.m bJ)).setCell ⟨g6, 2, none⟩ (.int .i64 x.2.T)) := below_put3 bu hgu _ _ _
              clear G6 CS CJ
              obtain ⟨u4, hv⟩ : ∃ V, ((u3.setCell ⟨g6, 0, none⟩ (.slice aS x.2.n bS)).setCell ⟨g6, 1, none⟩ (.slice aJ x.2.m bJ)).setCell ⟨g6, 2, none⟩ (.int .i64 x.2.T) = V := ⟨_, rfl⟩
              rw [hv] at G7 OS OJ bu ⊢
              clear hv y0 y1 y2 y3 y4 y5
              clear hHeld
              refine hK'.out _ _ (bu) (fun hHeld => ?_)
              clear hK' KK
              try simp only [List.setIfInBounds_toArray, List.set_cons_zero, List.set_cons_succ]
              refine wpAnyH_take (i := 9) (v := .int .i64 (x.1)) rfl (by kernel_rfl) (by kernel_rfl) (by kernel_rfl) (fun _ _ _ h => h) (Or.inl ⟨by kernel_rfl, ?_⟩) hHeld ?_
              · intro w' hSw; go_simp
              try simp only [Act.put, List.setIfInBounds_toArray, List.set_cons_zero, List.set_cons_succ, List.getElem_toArray, List.getElem_cons_succ, List.getElem_cons_zero]
              refine wpAnyH_done (by kernel_rfl) ?_ _
              clear hHeld
              go_wp2_with fail
              go_meet
              case rel => exact ⟨g6, aS, bS, aJ, bJ, rfl, rfl, G7, OS.wide hlW (Nat.le_refl _), OJ.wide hlW (Nat.le_refl _), hbW.trans (Below.mono bu hlW)⟩
            · go_simp
              obtain ⟨u2, h6, G6, bb, -⟩ := boxed u1 27 #[.slice none 0 0, .slice none 0 0, .int .i64 0]
              rw [h6]
              clear h6
              obtain ⟨g6, hg6⟩ : ∃ q, u1.heap.size = q := ⟨_, rfl⟩
              rw [hg6] at G6 ⊢
              have hgu : u0.heap.size ≤ g6 := by have := bu.size; omega
              clear hg6
              replace CS := CS.below bb
              replace CJ := CJ.below bb
              replace bu : Kb u0 u2 := bu.trans (bb.mono bu.size)
              clear bb
              clear hHeld
              refine hK'.out _ _ (bu) (fun hHeld => ?_)
              clear hK' KK
              try simp only [List.setIfInBounds_toArray, List.set_cons_zero, List.set_cons_succ]
              refine wpAnyH_ready (rs := [3]) (by kernel_rfl) (by simp) ?_
              refine AllReadyH.cons rfl (fun KK hK' => ?_) AllReadyH.nil
              go_simp
              have hlo := bu.size
              refine (DO1 _ _ _ _ _ (ark_ls CS) (ark_ls CJ) (ark_c CS) (ark_c CJ) hzJ).mono ?_
              rintro e u3 ⟨vT, vK, rfl, OS, OJ, bb⟩
              replace CS := CS.below bb
              replace CJ := CJ.below bb
              replace G6 := G6.below bb
              replace bu : Kb u0 u3 := bu.trans (bb.mono bu.size)
              clear bb
              replace OS := OS.wide hlo (Nat.le_refl _)
              replace OJ := OJ.wide hlo (Nat.le_refl _)
              clear hlo
              obtain ⟨aS, bS, rfl, -, -⟩ := OS.ls
              obtain ⟨aJ, bJ, rfl, -, -⟩ := OJ.ls
              try go_wp2_with fail
              clear hHeld
              refine hK'.out _ _ (bu) (fun hHeld => ?_)
              clear hK' KK
              try simp only [List.setIfInBounds_toArray, List.set_cons_zero, List.set_cons_succ]
              refine wpAnyH_take (i := 4) (v := .tuple #[labV (.slice aS x.2.n bS) (.slice aJ x.2.m bJ) x.2.T, .int .i64 x.1]) rfl (by kernel_rfl) (by kernel_rfl) (by kernel_rfl) (fun _ _ _ h => h) (Or.inl ⟨by kernel_rfl, ?_⟩) hHeld ?_
              · intro w' hSw; go_simp
              try simp only [Act.put, List.setIfInBounds_toArray, List.set_cons_zero, List.set_cons_succ, List.getElem_toArray, List.getElem_cons_succ, List.getElem_cons_zero]
              refine wpAnyH_take (i := 5) (v := labV (.slice aS x.2.n bS) (.slice aJ x.2.m bJ) x.2.T) rfl (by kernel_rfl) (by kernel_rfl) (by kernel_rfl) (fun _ _ _ h => h) (Or.inl ⟨by kernel_rfl, ?_⟩) hHeld ?_
              · intro w' hSw; go_simp
              try simp only [Act.put, List.setIfInBounds_toArray, List.set_cons_zero, List.set_cons_succ, List.getElem_toArray, List.getElem_cons_succ, List.getElem_cons_zero]
              refine wpAnyH_take (i := 6) (v := .int .i64 (x.1)) rfl (by kernel_rfl) (by kernel_rfl) (by kernel_rfl) (fun _ _ _ h => h) (Or.inl ⟨by kernel_rfl, ?_⟩) hHeld ?_
              · intro w' hSw; go_simp
              try simp only [Act.put, List.setIfInBounds_toArray, List.set_cons_zero, List.set_cons_succ, List.getElem_toArray, List.getElem_cons_succ, List.getElem_cons_zero]
              refine wpAnyH_ready (rs := [8]) (by kernel_rfl) (by simp) ?_
              refine AllReadyH.cons rfl (fun KK hK' => ?_) AllReadyH.nil
              obtain ⟨y0, y1, y2, y3, y4, y5⟩ := G6.open3
              go_simp
              have G7 := put3_at G6 (.slice aS x.2.n bS) (.slice aJ x.2.m bJ) (.int .i64 x.2.T)
              replace OS := (OS.only (put3_only u3 g6 (.slice aS x.2.n bS) (.slice aJ x.2.m bJ) (.int .i64 x.2.T)) (apart_box (OS.box G6 (by decide)))).fit
              replace OJ := (OJ.only (put3_only u3 g6 (.slice aS x.2.n bS) (.slice aJ x.2.m bJ) (.int .i64 x.2.T)) (apart_box (OJ.box G6 (by decide)))).fit
              replace bu : Kb u0 (((u3.setCell ⟨g6, 0, none⟩ (.slice aS x.2.n bS)).setCell ⟨g6, 1, none⟩ (.slice aJ x.2.m bJ)).setCell ⟨g6, 2, none⟩ (.int .i64 x.2.T)) := below_put3 bu hgu _ _ _
              clear G6 CS CJ
              obtain ⟨u4, hv⟩ : ∃ V, ((u3.setCell ⟨g6, 0, none⟩ (.slice aS x.2.n bS)).setCell ⟨g6, 1, none⟩ (.slice aJ x.2.m bJ)).setCell ⟨g6, 2, none⟩ (.int .i64 x.2.T) = V := ⟨_, rfl⟩
              rw [hv] at G7 OS OJ bu ⊢
              clear hv y0 y1 y2 y3 y4 y5
              clear hHeld
              refine hK'.out _ _ (bu) (fun hHeld => ?_)
              clear hK' KK
              try simp only [List.setIfInBounds_toArray, List.set_cons_zero, List.set_cons_succ]
              refine wpAnyH_take (i := 9) (v := .int .i64 (x.1)) rfl (by kernel_rfl) (by kernel_rfl) (by kernel_rfl) (fun _ _ _ h => h) (Or.inl ⟨by kernel_rfl, ?_⟩) hHeld ?_
              · intro w' hSw; go_simp
              try simp only [Act.put, List.setIfInBounds_toArray, List.set_cons_zero, List.set_cons_succ, List.getElem_toArray, List.getElem_cons_succ, List.getElem_cons_zero]
              refine wpAnyH_done (by kernel_rfl) ?_ _
              clear hHeld
              go_wp2_with fail
              go_meet
              case rel => exact ⟨g6, aS, bS, aJ, bJ, rfl, rfl, G7, OS.wide hlW (Nat.le_refl _), OJ.wide hlW (Nat.le_refl _), hbW.trans (Below.mono bu hlW)⟩
          · go_simp
            obtain ⟨u1, h6, G6, bb, -⟩ := boxed u0 27 #[.slice none 0 0, .slice none 0 0, .int .i64 0]
            rw [h6]
            clear h6
            obtain ⟨g6, hg6⟩ : ∃ q, u0.heap.size = q := ⟨_, rfl⟩
            rw [hg6] at G6 ⊢
            have hgu : u0.heap.size ≤ g6 := by have := bu.size; omega
            clear hg6
            replace bu : Kb u0 u1 := bu.trans (bb.mono bu.size)
            clear bb
            clear hHeld
            refine hK'.out _ _ (bu) (fun hHeld => ?_)
            clear hK' KK
            try simp only [List.setIfInBounds_toArray, List.set_cons_zero, List.set_cons_succ]
            refine wpAnyH_ready (rs := [1]) (by kernel_rfl) (by simp) ?_
            refine AllReadyH.cons rfl (fun KK hK' => ?_) AllReadyH.nil
            go_simp
            refine (copyLab_any ((ark_ls S0).below bu) ((ark_ls J0).below bu) (ark_c S0) (ark_c J0) hn9 hm9).mono ?_
            rintro e u2 ⟨vT, vK, rfl, CS, CJ, hvS, hvJ, bb⟩
            replace G6 := G6.below bb
            replace bu : Kb u0 u2 := bu.trans (bb.mono bu.size)
            clear bb
            obtain ⟨yS, zS, rfl, -, -, -, -⟩ := CS.nn hvS
            obtain ⟨yJ, zJ, rfl, -, hzJ, -, -⟩ := CJ.nn hvJ
            clear hvS hvJ
            try go_wp2_with fail
            clear hHeld
            refine hK'.out _ _ (bu) (fun hHeld => ?_)
            clear hK' KK
            try simp only [List.setIfInBounds_toArray, List.set_cons_zero, List.set_cons_succ]
            refine wpAnyH_ready (rs := [3]) (by kernel_rfl) (by simp) ?_
            refine AllReadyH.cons rfl (fun KK hK' => ?_) AllReadyH.nil
            go_simp
            have hlo := bu.size
            refine (DO1 _ _ _ _ _ (ark_ls CS) (ark_ls CJ) (ark_c CS) (ark_c CJ) hzJ).mono ?_
            rintro e u3 ⟨vT, vK, rfl, OS, OJ, bb⟩
            replace CS := CS.below bb
            replace CJ := CJ.below bb
            replace G6 := G6.below bb
            replace bu : Kb u0 u3 := bu.trans (bb.mono bu.size)
            clear bb
            replace OS := OS.wide hlo (Nat.le_refl _)
            replace OJ := OJ.wide hlo (Nat.le_refl _)
            clear hlo
            obtain ⟨aS, bS, rfl, -, -⟩ := OS.ls
            obtain ⟨aJ, bJ, rfl, -, -⟩ := OJ.ls
            try go_wp2_with fail
            clear hHeld
            refine hK'.out _ _ (bu) (fun hHeld => ?_)
            clear hK' KK
            try simp only [List.setIfInBounds_toArray, List.set_cons_zero, List.set_cons_succ]
            refine wpAnyH_take (i := 4) (v := .tuple #[labV (.slice aS x.2.n bS) (.slice aJ x.2.m bJ) x.2.T, .int .i64 x.1]) rfl (by kernel_rfl) (by kernel_rfl) (by kernel_rfl) (fun _ _ _ h => h) (Or.inl ⟨by kernel_rfl, ?_⟩) hHeld ?_
            · intro w' hSw; go_simp
            try simp only [Act.put, List.setIfInBounds_toArray, List.set_cons_zero, List.set_cons_succ, List.getElem_toArray, List.getElem_cons_succ, List.getElem_cons_zero]
            refine wpAnyH_take (i := 5) (v := labV (.slice aS x.2.n bS) (.slice aJ x.2.m bJ) x.2.T) rfl (by kernel_rfl) (by kernel_rfl) (by kernel_rfl) (fun _ _ _ h => h) (Or.inl ⟨by kernel_rfl, ?_⟩) hHeld ?_
            · intro w' hSw; go_simp
            try simp only [Act.put, List.setIfInBounds_toArray, List.set_cons_zero, List.set_cons_succ, List.getElem_toArray, List.getElem_cons_succ, List.getElem_cons_zero]
            refine wpAnyH_take (i := 6) (v := .int .i64 (x.1)) rfl (by kernel_rfl) (by kernel_rfl) (by kernel_rfl) (fun _ _ _ h => h) (Or.inl ⟨by kernel_rfl, ?_⟩) hHeld ?_
            · intro w' hSw; go_simp
            try simp only [Act.put, List.setIfInBounds_toArray, List.set_cons_zero, List.set_cons_succ, List.getElem_toArray, List.getElem_cons_succ, List.getElem_cons_zero]
            refine wpAnyH_ready (rs := [8]) (by kernel_rfl) (by simp) ?_
            refine AllReadyH.cons rfl (fun KK hK' => ?_) AllReadyH.nil
            obtain ⟨y0, y1, y2, y3, y4, y5⟩ := G6.open3
            go_simp
            have G7 := put3_at G6 (.slice aS x.2.n bS) (.slice aJ x.2.m bJ) (.int .i64 x.2.T)
            replace OS := (OS.only (put3_only u3 g6 (.slice aS x.2.n bS) (.slice aJ x.2.m bJ) (.int .i64 x.2.T)) (apart_box (OS.box G6 (by decide)))).fit
            replace OJ := (OJ.only (put3_only u3 g6 (.slice aS x.2.n bS) (.slice aJ x.2.m bJ) (.int .i64 x.2.T)) (apart_box (OJ.box G6 (by decide)))).fit
            replace bu : Kb u0 (((u3.setCell ⟨g6, 0, none⟩ (.slice aS x.2.n bS)).setCell ⟨g6, 1, none⟩ (.slice aJ x.2.m bJ)).setCell ⟨g6, 2, none⟩ (.int .i64 x.2.T)) := below_put3 bu hgu _ _ _
            clear G6 CS CJ
            obtain ⟨u4, hv⟩ : ∃ V, ((u3.setCell ⟨g6, 0, none⟩ (.slice aS x.2.n bS)).setCell ⟨g6, 1, none⟩ (.slice aJ x.2.m bJ)).setCell ⟨g6, 2, none⟩ (.int .i64 x.2.T) = V := ⟨_, rfl⟩
            rw [hv] at G7 OS OJ bu ⊢
            clear hv y0 y1 y2 y3 y4 y5
            clear hHeld
            refine hK'.out _ _ (bu) (fun hHeld => ?_)
            clear hK' KK
            try simp only [List.setIfInBounds_toArray, List.set_cons_zero, List.set_cons_succ]
            refine wpAnyH_take (i := 9) (v := .int .i64 (x.1)) rfl (by kernel_rfl) (by kernel_rfl) (by kernel_rfl) (fun _ _ _ h => h) (Or.inl ⟨by kernel_rfl, ?_⟩) hHeld ?_
            · intro w' hSw; go_simp
            try simp only [Act.put, List.setIfInBounds_toArray, List.set_cons_zero, List.set_cons_succ, List.getElem_toArray, List.getElem_cons_succ, List.getElem_cons_zero]
            refine wpAnyH_done (by kernel_rfl) ?_ _
            clear hHeld
            go_wp2_with fail
            go_meet
            case rel => exact ⟨g6, aS, bS, aJ, bJ, rfl, rfl, G7, OS.wide hlW (Nat.le_refl _), OJ.wide hlW (Nat.le_refl _), hbW.trans (Below.mono bu hlW)⟩
        case rest =>
          obtain ⟨q10, tS, eS, tJ, eJ, rfl, rfl, A6, S6, J6, bb⟩ := hcut
          rename World => v1
          have hlo : w.heap.size ≤ W7.heap.size := B2.size
          replace B2 := B2.trans (bb.mono B2.size)
          replace D2 := D2.below bb
          have hq10 : w.heap.size ≤ W7.heap.size := hlo
          have S9 := S6.wide hlo (Nat.le_refl _)
          have J9 := J6.wide hlo (Nat.le_refl _)
          clear S6 J6 bb K2 DO1 hlo hq10
          have hl2 : x.2.n ≤ 900000 ∧ x.2.m ≤ 900000 := by
            obtain ⟨k1, -⟩ := once_was HX.out hx0
            have := k1.1.1
            have := k1.2.1.1
            omega
          obtain ⟨hn9', hm9'⟩ := hl2
          have hn1' : x.2.n ≤ 1048576 := by omega
          have hm1' : x.2.m ≤ 1048576 := by omega
          obtain ⟨p2, ys2, j2, yj2, y, hy⟩ := told_is x.2.n x.2.f x.2.m x.2.g x.2.T 6 s1 k2 k3
          have HY : Hid (ToldD x.2.n x.2.f x.2.m x.2.g x.2.T 6 s1 k2 k3 p2 ys2 j2 yj2 y) := hy
          have hy7 : Hid (y.1 = 7) := once_six HX.out hx0 hy
          obtain ⟨p3, ys3, j3, yj3, z, hz⟩ := told_is x.2.n x.2.f x.2.m x.2.g x.2.T 2 s1 k2 1
          have HZ : Hid (ToldD x.2.n x.2.f x.2.m x.2.g x.2.T 2 s1 k2 1 p3 ys3 j3 yj3 z) := hz
          have hz4 : Hid (z.1 = 4 ∨ z.1 = 3) := once_ask HX.out hx0 hz
          have HX0 : Hid (x.1 = 0) := hx0
          clear hy hz HX hx0 hx0'
          have DO1 := fun w' sa dd aj cc (l : Ls 3 w' sa x.2.n x.2.f) (k : Ls 4 w' aj x.2.m x.2.g) (h1 : sa = none → x.2.n = 0 ∧ dd = 0) (h2 : aj = none → x.2.m = 0 ∧ cc = 0) (h3 : x.2.m ≤ cc) => implLabDo_any (d := dd) (c := cc) 6 s1 k2 k3 l k h1 h2 hn1' hm1' h3 HY
          have DO2 := fun w' sa dd aj cc (l : Ls 3 w' sa x.2.n x.2.f) (k : Ls 4 w' aj x.2.m x.2.g) (h1 : sa = none → x.2.n = 0 ∧ dd = 0) (h2 : aj = none → x.2.m = 0 ∧ cc = 0) (h3 : x.2.m ≤ cc) => implLabDo_any (d := dd) (c := cc) 2 s1 k2 1 l k h1 h2 hn1' hm1' h3 HZ
          go_wp2_with fail
          go_cut [12, 13] from 69 to 76 (fun s10 s11 wc => CutL y v1 s10 s11 wc)
          case first =>
            obtain ⟨u0, hu0, bb⟩ : ∃ uu, v1.drew = uu ∧ Below v1.heap.size v1 uu := ⟨_, rfl, (Below.refl _ _).drew⟩
            have hbW := bb
            have hlW := bb.size
            have m3 := A6.below bb
            have S0 := (S9.below bb).fit
            have J0 := (J9.below bb).fit
            have m4 := D2.below bb
            clear bb
            refine wp_region_held_drew (S := Kb u0) (by kernel_rfl) (by rw [hu0]; exact Below.refl _ _) (fun hHeld => ?_)
            rw [hu0] at hHeld ⊢
            clear hu0
            have bu : Kb u0 u0 := Below.refl _ _
            change wpAnyH _ _ _ _ _ 10 #[false, false, false, false, false, false, false, false, false, false] _ _
            refine wpAnyH_take (i := 0) (v := lbV tS x.2.n eS tJ x.2.m eJ x.2.T) rfl (by kernel_rfl) (by kernel_rfl) (by kernel_rfl) (fun _ _ _ h => h) (Or.inl ⟨by kernel_rfl, ?_⟩) hHeld ?_
            · intro w' hSw; obtain ⟨z0, z1, z2, -⟩ := (m3.below hSw).open3; go_simp
            try simp only [Act.put, List.setIfInBounds_toArray, List.set_cons_zero, List.set_cons_succ, List.getElem_toArray, List.getElem_cons_zero]
            refine wpAnyH_take (i := 2) (v := deedV 6 s1 k2 k3) rfl (by kernel_rfl) (by kernel_rfl) (by kernel_rfl) (fun _ _ _ h => h) (Or.inl ⟨by kernel_rfl, ?_⟩) hHeld ?_
            · intro w' hSw; obtain ⟨z0, z1, z2, z3, -⟩ := Deed.box (m4.below hSw); go_simp
            try simp only [Act.put, List.setIfInBounds_toArray, List.set_cons_zero, List.set_cons_succ, List.getElem_toArray, List.getElem_cons_succ, List.getElem_cons_zero]
            refine wpAnyH_ready (rs := [1, 7]) (by kernel_rfl) (by simp) ?_
            refine AllReadyH.cons rfl (fun KK hK' => ?_) (AllReadyH.cons rfl (fun KK hK' => ?_) AllReadyH.nil)
            · go_simp
              refine (copyLab_any ((ark_ls S0).below bu) ((ark_ls J0).below bu) (ark_c S0) (ark_c J0) hn9' hm9').mono ?_
              rintro e u1 ⟨vT, vK, rfl, CS, CJ, hvS, hvJ, bb⟩
              replace bu : Kb u0 u1 := bu.trans (bb.mono bu.size)
              clear bb
              obtain ⟨yS, zS, rfl, -, -, -, -⟩ := CS.nn hvS
              obtain ⟨yJ, zJ, rfl, -, hzJ, -, -⟩ := CJ.nn hvJ
              clear hvS hvJ
              try go_wp2_with fail
              clear hHeld
              refine hK'.out _ _ (bu) (fun hHeld => ?_)
              clear hK' KK
              try simp only [List.setIfInBounds_toArray, List.set_cons_zero, List.set_cons_succ]
              refine wpAnyH_ready (rs := [3, 7]) (by kernel_rfl) (by simp) ?_
              refine AllReadyH.cons rfl (fun KK hK' => ?_) (AllReadyH.cons rfl (fun KK hK' => ?_) AllReadyH.nil)
              · go_simp
                have hlo := bu.size
                refine (DO1 _ _ _ _ _ (ark_ls CS) (ark_ls CJ) (ark_c CS) (ark_c CJ) hzJ).mono ?_
                rintro e u2 ⟨vT, vK, rfl, OS, OJ, bb⟩
                replace CS := CS.below bb
                replace CJ := CJ.below bb
                replace bu : Kb u0 u2 := bu.trans (bb.mono bu.size)
                clear bb
                replace OS := OS.wide hlo (Nat.le_refl _)
                replace OJ := OJ.wide hlo (Nat.le_refl _)
                clear hlo
                obtain ⟨aS, bS, rfl, -, -⟩ := OS.ls
                obtain ⟨aJ, bJ, rfl, -, -⟩ := OJ.ls
                try go_wp2_with fail
                clear hHeld
                refine hK'.out _ _ (bu) (fun hHeld => ?_)
                clear hK' KK
                try simp only [List.setIfInBounds_toArray, List.set_cons_zero, List.set_cons_succ]
                refine wpAnyH_take (i := 4) (v := .tuple #[labV (.slice aS y.2.n bS) (.slice aJ y.2.m bJ) y.2.T, .int .i64 y.1]) rfl (by kernel_rfl) (by kernel_rfl) (by kernel_rfl) (fun _ _ _ h => h) (Or.inl ⟨by kernel_rfl, ?_⟩) hHeld ?_
                · intro w' hSw; go_simp
                try simp only [Act.put, List.setIfInBounds_toArray, List.set_cons_zero, List.set_cons_succ, List.getElem_toArray, List.getElem_cons_succ, List.getElem_cons_zero]
                refine wpAnyH_take (i := 5) (v := labV (.slice aS y.2.n bS) (.slice aJ y.2.m bJ) y.2.T) rfl (by kernel_rfl) (by kernel_rfl) (by kernel_rfl) (fun _ _ _ h => h) (Or.inl ⟨by kernel_rfl, ?_⟩) hHeld ?_
                · intro w' hSw; go_simp
                try simp only [Act.put, List.setIfInBounds_toArray, List.set_cons_zero, List.set_cons_succ, List.getElem_toArray, List.getElem_cons_succ, List.getElem_cons_zero]
                refine wpAnyH_take (i := 6) (v := .int .i64 (y.1)) rfl (by kernel_rfl) (by kernel_rfl) (by kernel_rfl) (fun _ _ _ h => h) (Or.inl ⟨by kernel_rfl, ?_⟩) hHeld ?_
                · intro w' hSw; go_simp
                try simp only [Act.put, List.setIfInBounds_toArray, List.set_cons_zero, List.set_cons_succ, List.getElem_toArray, List.getElem_cons_succ, List.getElem_cons_zero]
                refine wpAnyH_ready (rs := [7]) (by kernel_rfl) (by simp) ?_
                refine AllReadyH.cons rfl (fun KK hK' => ?_) AllReadyH.nil
                go_simp
                obtain ⟨u3, h6, G6, bb, -⟩ := boxed u2 27 #[.slice none 0 0, .slice none 0 0, .int .i64 0]
                rw [h6]
                clear h6
                obtain ⟨g6, hg6⟩ : ∃ q, u2.heap.size = q := ⟨_, rfl⟩
                rw [hg6] at G6 ⊢
                have hgu : u0.heap.size ≤ g6 := by have := bu.size; omega
                clear hg6
                replace CS := CS.below bb
                replace CJ := CJ.below bb
                replace OS := OS.below bb
                replace OJ := OJ.below bb
                replace bu : Kb u0 u3 := bu.trans (bb.mono bu.size)
                clear bb
                clear hHeld
                refine hK'.out _ _ (bu) (fun hHeld => ?_)
                clear hK' KK
                try simp only [List.setIfInBounds_toArray, List.set_cons_zero, List.set_cons_succ]
                refine wpAnyH_ready (rs := [8]) (by kernel_rfl) (by simp) ?_
                refine AllReadyH.cons rfl (fun KK hK' => ?_) AllReadyH.nil
                obtain ⟨y0, y1, y2, y3, y4, y5⟩ := G6.open3
                go_simp
                have G7 := put3_at G6 (.slice aS y.2.n bS) (.slice aJ y.2.m bJ) (.int .i64 y.2.T)
                replace OS := (OS.only (put3_only u3 g6 (.slice aS y.2.n bS) (.slice aJ y.2.m bJ) (.int .i64 y.2.T)) (apart_box (OS.box G6 (by decide)))).fit
                replace OJ := (OJ.only (put3_only u3 g6 (.slice aS y.2.n bS) (.slice aJ y.2.m bJ) (.int .i64 y.2.T)) (apart_box (OJ.box G6 (by decide)))).fit
                replace bu : Kb u0 (((u3.setCell ⟨g6, 0, none⟩ (.slice aS y.2.n bS)).setCell ⟨g6, 1, none⟩ (.slice aJ y.2.m bJ)).setCell ⟨g6, 2, none⟩ (.int .i64 y.2.T)) := below_put3 bu hgu _ _ _
                clear G6 CS CJ
                obtain ⟨u4, hv⟩ : ∃ V, ((u3.setCell ⟨g6, 0, none⟩ (.slice aS y.2.n bS)).setCell ⟨g6, 1, none⟩ (.slice aJ y.2.m bJ)).setCell ⟨g6, 2, none⟩ (.int .i64 y.2.T) = V := ⟨_, rfl⟩
                rw [hv] at G7 OS OJ bu ⊢
                clear hv y0 y1 y2 y3 y4 y5
                clear hHeld
                refine hK'.out _ _ (bu) (fun hHeld => ?_)
                clear hK' KK
                try simp only [List.setIfInBounds_toArray, List.set_cons_zero, List.set_cons_succ]
                refine wpAnyH_take (i := 9) (v := .int .i64 (y.1)) rfl (by kernel_rfl) (by kernel_rfl) (by kernel_rfl) (fun _ _ _ h => h) (Or.inl ⟨by kernel_rfl, ?_⟩) hHeld ?_
                · intro w' hSw; go_simp
                try simp only [Act.put, List.setIfInBounds_toArray, List.set_cons_zero, List.set_cons_succ, List.getElem_toArray, List.getElem_cons_succ, List.getElem_cons_zero]
                refine wpAnyH_done (by kernel_rfl) ?_ _
                clear hHeld
                go_wp2_with fail
                go_meet
                case rel => exact ⟨g6, aS, bS, aJ, bJ, rfl, rfl, G7, OS.wide hlW (Nat.le_refl _), OJ.wide hlW (Nat.le_refl _), hbW.trans (Below.mono bu hlW)⟩
              · go_simp
                obtain ⟨u2, h6, G6, bb, -⟩ := boxed u1 27 #[.slice none 0 0, .slice none 0 0, .int .i64 0]
                rw [h6]
                clear h6
                obtain ⟨g6, hg6⟩ : ∃ q, u1.heap.size = q := ⟨_, rfl⟩
                rw [hg6] at G6 ⊢
                have hgu : u0.heap.size ≤ g6 := by have := bu.size; omega
                clear hg6
                replace CS := CS.below bb
                replace CJ := CJ.below bb
                replace bu : Kb u0 u2 := bu.trans (bb.mono bu.size)
                clear bb
                clear hHeld
                refine hK'.out _ _ (bu) (fun hHeld => ?_)
                clear hK' KK
                try simp only [List.setIfInBounds_toArray, List.set_cons_zero, List.set_cons_succ]
                refine wpAnyH_ready (rs := [3]) (by kernel_rfl) (by simp) ?_
                refine AllReadyH.cons rfl (fun KK hK' => ?_) AllReadyH.nil
                go_simp
                have hlo := bu.size
                refine (DO1 _ _ _ _ _ (ark_ls CS) (ark_ls CJ) (ark_c CS) (ark_c CJ) hzJ).mono ?_
                rintro e u3 ⟨vT, vK, rfl, OS, OJ, bb⟩
                replace CS := CS.below bb
                replace CJ := CJ.below bb
                replace G6 := G6.below bb
                replace bu : Kb u0 u3 := bu.trans (bb.mono bu.size)
                clear bb
                replace OS := OS.wide hlo (Nat.le_refl _)
                replace OJ := OJ.wide hlo (Nat.le_refl _)
                clear hlo
                obtain ⟨aS, bS, rfl, -, -⟩ := OS.ls
                obtain ⟨aJ, bJ, rfl, -, -⟩ := OJ.ls
                try go_wp2_with fail
                clear hHeld
                refine hK'.out _ _ (bu) (fun hHeld => ?_)
                clear hK' KK
                try simp only [List.setIfInBounds_toArray, List.set_cons_zero, List.set_cons_succ]
                refine wpAnyH_take (i := 4) (v := .tuple #[labV (.slice aS y.2.n bS) (.slice aJ y.2.m bJ) y.2.T, .int .i64 y.1]) rfl (by kernel_rfl) (by kernel_rfl) (by kernel_rfl) (fun _ _ _ h => h) (Or.inl ⟨by kernel_rfl, ?_⟩) hHeld ?_
                · intro w' hSw; go_simp
                try simp only [Act.put, List.setIfInBounds_toArray, List.set_cons_zero, List.set_cons_succ, List.getElem_toArray, List.getElem_cons_succ, List.getElem_cons_zero]
                refine wpAnyH_take (i := 5) (v := labV (.slice aS y.2.n bS) (.slice aJ y.2.m bJ) y.2.T) rfl (by kernel_rfl) (by kernel_rfl) (by kernel_rfl) (fun _ _ _ h => h) (Or.inl ⟨by kernel_rfl, ?_⟩) hHeld ?_
                · intro w' hSw; go_simp
                try simp only [Act.put, List.setIfInBounds_toArray, List.set_cons_zero, List.set_cons_succ, List.getElem_toArray, List.getElem_cons_succ, List.getElem_cons_zero]
                refine wpAnyH_take (i := 6) (v := .int .i64 (y.1)) rfl (by kernel_rfl) (by kernel_rfl) (by kernel_rfl) (fun _ _ _ h => h) (Or.inl ⟨by kernel_rfl, ?_⟩) hHeld ?_
                · intro w' hSw; go_simp
                try simp only [Act.put, List.setIfInBounds_toArray, List.set_cons_zero, List.set_cons_succ, List.getElem_toArray, List.getElem_cons_succ, List.getElem_cons_zero]
                refine wpAnyH_ready (rs := [8]) (by kernel_rfl) (by simp) ?_
                refine AllReadyH.cons rfl (fun KK hK' => ?_) AllReadyH.nil
                obtain ⟨y0, y1, y2, y3, y4, y5⟩ := G6.open3
                go_simp
                have G7 := put3_at G6 (.slice aS y.2.n bS) (.slice aJ y.2.m bJ) (.int .i64 y.2.T)
                replace OS := (OS.only (put3_only u3 g6 (.slice aS y.2.n bS) (.slice aJ y.2.m bJ) (.int .i64 y.2.T)) (apart_box (OS.box G6 (by decide)))).fit
                replace OJ := (OJ.only (put3_only u3 g6 (.slice aS y.2.n bS) (.slice aJ y.2.m bJ) (.int .i64 y.2.T)) (apart_box (OJ.box G6 (by decide)))).fit
                replace bu : Kb u0 (((u3.setCell ⟨g6, 0, none⟩ (.slice aS y.2.n bS)).setCell ⟨g6, 1, none⟩ (.slice aJ y.2.m bJ)).setCell ⟨g6, 2, none⟩ (.int .i64 y.2.T)) := below_put3 bu hgu _ _ _
                clear G6 CS CJ
                obtain ⟨u4, hv⟩ : ∃ V, ((u3.setCell ⟨g6, 0, none⟩ (.slice aS y.2.n bS)).setCell ⟨g6, 1, none⟩ (.slice aJ y.2.m bJ)).setCell ⟨g6, 2, none⟩ (.int .i64 y.2.T) = V := ⟨_, rfl⟩
                rw [hv] at G7 OS OJ bu ⊢
                clear hv y0 y1 y2 y3 y4 y5
                clear hHeld
                refine hK'.out _ _ (bu) (fun hHeld => ?_)
                clear hK' KK
                try simp only [List.setIfInBounds_toArray, List.set_cons_zero, List.set_cons_succ]
                refine wpAnyH_take (i := 9) (v := .int .i64 (y.1)) rfl (by kernel_rfl) (by kernel_rfl) (by kernel_rfl) (fun _ _ _ h => h) (Or.inl ⟨by kernel_rfl, ?_⟩) hHeld ?_
                · intro w' hSw; go_simp
                try simp only [Act.put, List.setIfInBounds_toArray, List.set_cons_zero, List.set_cons_succ, List.getElem_toArray, List.getElem_cons_succ, List.getElem_cons_zero]
                refine wpAnyH_done (by kernel_rfl) ?_ _
                clear hHeld
                go_wp2_with fail
                go_meet
                case rel => exact ⟨g6, aS, bS, aJ, bJ, rfl, rfl, G7, OS.wide hlW (Nat.le_refl _), OJ.wide hlW (Nat.le_refl _), hbW.trans (Below.mono bu hlW)⟩
            · go_simp
              obtain ⟨u1, h6, G6, bb, -⟩ := boxed u0 27 #[.slice none 0 0, .slice none 0 0, .int .i64 0]
              rw [h6]
              clear h6
              obtain ⟨g6, hg6⟩ : ∃ q, u0.heap.size = q := ⟨_, rfl⟩
              rw [hg6] at G6 ⊢
              have hgu : u0.heap.size ≤ g6 := by have := bu.size; omega
              clear hg6
              replace bu : Kb u0 u1 := bu.trans (bb.mono bu.size)
              clear bb
              clear hHeld
              refine hK'.out _ _ (bu) (fun hHeld => ?_)
              clear hK' KK
              try simp only [List.setIfInBounds_toArray, List.set_cons_zero, List.set_cons_succ]
              refine wpAnyH_ready (rs := [1]) (by kernel_rfl) (by simp) ?_
              refine AllReadyH.cons rfl (fun KK hK' => ?_) AllReadyH.nil
              go_simp
              refine (copyLab_any ((ark_ls S0).below bu) ((ark_ls J0).below bu) (ark_c S0) (ark_c J0) hn9' hm9').mono ?_
              rintro e u2 ⟨vT, vK, rfl, CS, CJ, hvS, hvJ, bb⟩
              replace G6 := G6.below bb
              replace bu : Kb u0 u2 := bu.trans (bb.mono bu.size)
              clear bb
              obtain ⟨yS, zS, rfl, -, -, -, -⟩ := CS.nn hvS
              obtain ⟨yJ, zJ, rfl, -, hzJ, -, -⟩ := CJ.nn hvJ
              clear hvS hvJ
              try go_wp2_with fail
              clear hHeld
              refine hK'.out _ _ (bu) (fun hHeld => ?_)
              clear hK' KK
              try simp only [List.setIfInBounds_toArray, List.set_cons_zero, List.set_cons_succ]
              refine wpAnyH_ready (rs := [3]) (by kernel_rfl) (by simp) ?_
              refine AllReadyH.cons rfl (fun KK hK' => ?_) AllReadyH.nil
              go_simp
              have hlo := bu.size
              refine (DO1 _ _ _ _ _ (ark_ls CS) (ark_ls CJ) (ark_c CS) (ark_c CJ) hzJ).mono ?_
              rintro e u3 ⟨vT, vK, rfl, OS, OJ, bb⟩
              replace CS := CS.below bb
              replace CJ := CJ.below bb
              replace G6 := G6.below bb
              replace bu : Kb u0 u3 := bu.trans (bb.mono bu.size)
              clear bb
              replace OS := OS.wide hlo (Nat.le_refl _)
              replace OJ := OJ.wide hlo (Nat.le_refl _)
              clear hlo
              obtain ⟨aS, bS, rfl, -, -⟩ := OS.ls
              obtain ⟨aJ, bJ, rfl, -, -⟩ := OJ.ls
              try go_wp2_with fail
              clear hHeld
              refine hK'.out _ _ (bu) (fun hHeld => ?_)
              clear hK' KK
              try simp only [List.setIfInBounds_toArray, List.set_cons_zero, List.set_cons_succ]
              refine wpAnyH_take (i := 4) (v := .tuple #[labV (.slice aS y.2.n bS) (.slice aJ y.2.m bJ) y.2.T, .int .i64 y.1]) rfl (by kernel_rfl) (by kernel_rfl) (by kernel_rfl) (fun _ _ _ h => h) (Or.inl ⟨by kernel_rfl, ?_⟩) hHeld ?_
              · intro w' hSw; go_simp
              try simp only [Act.put, List.setIfInBounds_toArray, List.set_cons_zero, List.set_cons_succ, List.getElem_toArray, List.getElem_cons_succ, List.getElem_cons_zero]
              refine wpAnyH_take (i := 5) (v := labV (.slice aS y.2.n bS) (.slice aJ y.2.m bJ) y.2.T) rfl (by kernel_rfl) (by kernel_rfl) (by kernel_rfl) (fun _ _ _ h => h) (Or.inl ⟨by kernel_rfl, ?_⟩) hHeld ?_
              · intro w' hSw; go_simp
              try simp only [Act.put, List.setIfInBounds_toArray, List.set_cons_zero, List.set_cons_succ, List.getElem_toArray, List.getElem_cons_succ, List.getElem_cons_zero]
              refine wpAnyH_take (i := 6) (v := .int .i64 (y.1)) rfl (by kernel_rfl) (by kernel_rfl) (by kernel_rfl) (fun _ _ _ h => h) (Or.inl ⟨by kernel_rfl, ?_⟩) hHeld ?_
              · intro w' hSw; go_simp
              try simp only [Act.put, List.setIfInBounds_toArray, List.set_cons_zero, List.set_cons_succ, List.getElem_toArray, List.getElem_cons_succ, List.getElem_cons_zero]
              refine wpAnyH_ready (rs := [8]) (by kernel_rfl) (by simp) ?_
              refine AllReadyH.cons rfl (fun KK hK' => ?_) AllReadyH.nil
              obtain ⟨y0, y1, y2, y3, y4, y5⟩ := G6.open3
              go_simp
              have G7 := put3_at G6 (.slice aS y.2.n bS) (.slice aJ y.2.m bJ) (.int .i64 y.2.T)
              replace OS := (OS.only (put3_only u3 g6 (.slice aS y.2.n bS) (.slice aJ y.2.m bJ) (.int .i64 y.2.T)) (apart_box (OS.box G6 (by decide)))).fit
              replace OJ := (OJ.only (put3_only u3 g6 (.slice aS y.2.n bS) (.slice aJ y.2.m bJ) (.int .i64 y.2.T)) (apart_box (OJ.box G6 (by decide)))).fit
              replace bu : Kb u0 (((u3.setCell ⟨g6, 0, none⟩ (.slice aS y.2.n bS)).setCell ⟨g6, 1, none⟩ (.slice aJ y.2.m bJ)).setCell ⟨g6, 2, none⟩ (.int .i64 y.2.T)) := below_put3 bu hgu _ _ _
              clear G6 CS CJ
              obtain ⟨u4, hv⟩ : ∃ V, ((u3.setCell ⟨g6, 0, none⟩ (.slice aS y.2.n bS)).setCell ⟨g6, 1, none⟩ (.slice aJ y.2.m bJ)).setCell ⟨g6, 2, none⟩ (.int .i64 y.2.T) = V := ⟨_, rfl⟩
              rw [hv] at G7 OS OJ bu ⊢
              clear hv y0 y1 y2 y3 y4 y5
              clear hHeld
              refine hK'.out _ _ (bu) (fun hHeld => ?_)
              clear hK' KK
              try simp only [List.setIfInBounds_toArray, List.set_cons_zero, List.set_cons_succ]
              refine wpAnyH_take (i := 9) (v := .int .i64 (y.1)) rfl (by kernel_rfl) (by kernel_rfl) (by kernel_rfl) (fun _ _ _ h => h) (Or.inl ⟨by kernel_rfl, ?_⟩) hHeld ?_
              · intro w' hSw; go_simp
              try simp only [Act.put, List.setIfInBounds_toArray, List.set_cons_zero, List.set_cons_succ, List.getElem_toArray, List.getElem_cons_succ, List.getElem_cons_zero]
              refine wpAnyH_done (by kernel_rfl) ?_ _
              clear hHeld
              go_wp2_with fail
              go_meet
              case rel => exact ⟨g6, aS, bS, aJ, bJ, rfl, rfl, G7, OS.wide hlW (Nat.le_refl _), OJ.wide hlW (Nat.le_refl _), hbW.trans (Below.mono bu hlW)⟩
          case rest =>
            obtain ⟨q12, uS, lS, uJ, lJ, rfl, rfl, -, -, -, bb⟩ := hcut
            rename World => v2
            replace B2 := B2.trans (bb.mono B2.size)
            replace D2 := D2.below bb
            replace A6 := A6.below bb
            replace S9 := (S9.below bb).fit
            replace J9 := (J9.below bb).fit
            clear bb DO1
            go_wp2_with fail
            go_cut [14, 15] from 76 to 87 (fun s10 s11 wc => CutL z v2 s10 s11 wc)
            case first =>
              obtain ⟨u0, hu0, bb⟩ : ∃ uu, v2.drew = uu ∧ Below v2.heap.size v2 uu := ⟨_, rfl, (Below.refl _ _).drew⟩
              have hbW := bb
              have hlW := bb.size
              have m3 := A6.below bb
              have S0 := (S9.below bb).fit
              have J0 := (J9.below bb).fit
              have m4 := D2.below bb
              clear bb
              refine wp_region_held_drew (S := Kb u0) (by kernel_rfl) (by rw [hu0]; exact Below.refl _ _) (fun hHeld => ?_)
              rw [hu0] at hHeld ⊢
              clear hu0
              have bu : Kb u0 u0 := Below.refl _ _
              change wpAnyH _ _ _ _ _ 14 #[false, false, false, false, false, false, false, false, false, false, false, false, false, false] _ _
              refine wpAnyH_take (i := 0) (v := lbV tS x.2.n eS tJ x.2.m eJ x.2.T) rfl (by kernel_rfl) (by kernel_rfl) (by kernel_rfl) (fun _ _ _ h => h) (Or.inl ⟨by kernel_rfl, ?_⟩) hHeld ?_
              · intro w' hSw; obtain ⟨z0, z1, z2, -⟩ := (m3.below hSw).open3; go_simp
              try simp only [Act.put, List.setIfInBounds_toArray, List.set_cons_zero, List.set_cons_succ, List.getElem_toArray, List.getElem_cons_zero]
              refine wpAnyH_take (i := 2) (v := .pointer (some ⟨q4, 1, none⟩)) rfl (by kernel_rfl) (by kernel_rfl) (by kernel_rfl) (fun _ _ _ h => h) (Or.inl ⟨by kernel_rfl, ?_⟩) hHeld ?_
              · intro w' hSw; go_simp
              try simp only [Act.put, List.setIfInBounds_toArray, List.set_cons_zero, List.set_cons_succ, List.getElem_toArray, List.getElem_cons_succ, List.getElem_cons_zero]
              refine wpAnyH_take (i := 3) (v := .int .i64 (s1)) rfl (by kernel_rfl) (by kernel_rfl) (by kernel_rfl) (fun _ _ _ h => h) (Or.inl ⟨by kernel_rfl, ?_⟩) hHeld ?_
              · intro w' hSw; obtain ⟨z0, z1, z2, z3, -⟩ := Deed.box (m4.below hSw); go_simp
              try simp only [Act.put, List.setIfInBounds_toArray, List.set_cons_zero, List.set_cons_succ, List.getElem_toArray, List.getElem_cons_succ, List.getElem_cons_zero]
              refine wpAnyH_take (i := 4) (v := .pointer (some ⟨q4, 2, none⟩)) rfl (by kernel_rfl) (by kernel_rfl) (by kernel_rfl) (fun _ _ _ h => h) (Or.inl ⟨by kernel_rfl, ?_⟩) hHeld ?_
              · intro w' hSw; go_simp
              try simp only [Act.put, List.setIfInBounds_toArray, List.set_cons_zero, List.set_cons_succ, List.getElem_toArray, List.getElem_cons_succ, List.getElem_cons_zero]
              refine wpAnyH_take (i := 5) (v := .int .i64 (k2)) rfl (by kernel_rfl) (by kernel_rfl) (by kernel_rfl) (fun _ _ _ h => h) (Or.inl ⟨by kernel_rfl, ?_⟩) hHeld ?_
              · intro w' hSw; obtain ⟨z0, z1, z2, z3, -⟩ := Deed.box (m4.below hSw); go_simp
              try simp only [Act.put, List.setIfInBounds_toArray, List.set_cons_zero, List.set_cons_succ, List.getElem_toArray, List.getElem_cons_succ, List.getElem_cons_zero]
              refine wpAnyH_take (i := 6) (v := deedV 2 s1 k2 1) rfl (by kernel_rfl) (by kernel_rfl) (by kernel_rfl) (fun _ _ _ h => h) (Or.inl ⟨by kernel_rfl, ?_⟩) hHeld ?_
              · intro w' hSw; go_simp
              try simp only [Act.put, List.setIfInBounds_toArray, List.set_cons_zero, List.set_cons_succ, List.getElem_toArray, List.getElem_cons_succ, List.getElem_cons_zero]
              refine wpAnyH_ready (rs := [1, 11]) (by kernel_rfl) (by simp) ?_
              refine AllReadyH.cons rfl (fun KK hK' => ?_) (AllReadyH.cons rfl (fun KK hK' => ?_) AllReadyH.nil)
              · go_simp
                refine (copyLab_any ((ark_ls S0).below bu) ((ark_ls J0).below bu) (ark_c S0) (ark_c J0) hn9' hm9').mono ?_
                rintro e u1 ⟨vT, vK, rfl, CS, CJ, hvS, hvJ, bb⟩
                replace bu : Kb u0 u1 := bu.trans (bb.mono bu.size)
                clear bb
                obtain ⟨yS, zS, rfl, -, -, -, -⟩ := CS.nn hvS
                obtain ⟨yJ, zJ, rfl, -, hzJ, -, -⟩ := CJ.nn hvJ
                clear hvS hvJ
                try go_wp2_with fail
                clear hHeld
                refine hK'.out _ _ (bu) (fun hHeld => ?_)
                clear hK' KK
                try simp only [List.setIfInBounds_toArray, List.set_cons_zero, List.set_cons_succ]
                refine wpAnyH_ready (rs := [7, 11]) (by kernel_rfl) (by simp) ?_
                refine AllReadyH.cons rfl (fun KK hK' => ?_) (AllReadyH.cons rfl (fun KK hK' => ?_) AllReadyH.nil)
                · go_simp
                  have hlo := bu.size
                  refine (DO2 _ _ _ _ _ (ark_ls CS) (ark_ls CJ) (ark_c CS) (ark_c CJ) hzJ).mono ?_
                  rintro e u2 ⟨vT, vK, rfl, OS, OJ, bb⟩
                  replace CS := CS.below bb
                  replace CJ := CJ.below bb
                  replace bu : Kb u0 u2 := bu.trans (bb.mono bu.size)
                  clear bb
                  replace OS := OS.wide hlo (Nat.le_refl _)
                  replace OJ := OJ.wide hlo (Nat.le_refl _)
                  clear hlo
                  obtain ⟨aS, bS, rfl, -, -⟩ := OS.ls
                  obtain ⟨aJ, bJ, rfl, -, -⟩ := OJ.ls
                  try go_wp2_with fail
                  clear hHeld
                  refine hK'.out _ _ (bu) (fun hHeld => ?_)
                  clear hK' KK
                  try simp only [List.setIfInBounds_toArray, List.set_cons_zero, List.set_cons_succ]
                  refine wpAnyH_take (i := 8) (v := .tuple #[labV (.slice aS z.2.n bS) (.slice aJ z.2.m bJ) z.2.T, .int .i64 z.1]) rfl (by kernel_rfl) (by kernel_rfl) (by kernel_rfl) (fun _ _ _ h => h) (Or.inl ⟨by kernel_rfl, ?_⟩) hHeld ?_
                  · intro w' hSw; go_simp
                  try simp only [Act.put, List.setIfInBounds_toArray, List.set_cons_zero, List.set_cons_succ, List.getElem_toArray, List.getElem_cons_succ, List.getElem_cons_zero]
                  refine wpAnyH_take (i := 9) (v := labV (.slice aS z.2.n bS) (.slice aJ z.2.m bJ) z.2.T) rfl (by kernel_rfl) (by kernel_rfl) (by kernel_rfl) (fun _ _ _ h => h) (Or.inl ⟨by kernel_rfl, ?_⟩) hHeld ?_
                  · intro w' hSw; go_simp
                  try simp only [Act.put, List.setIfInBounds_toArray, List.set_cons_zero, List.set_cons_succ, List.getElem_toArray, List.getElem_cons_succ, List.getElem_cons_zero]
                  refine wpAnyH_take (i := 10) (v := .int .i64 (z.1)) rfl (by kernel_rfl) (by kernel_rfl) (by kernel_rfl) (fun _ _ _ h => h) (Or.inl ⟨by kernel_rfl, ?_⟩) hHeld ?_
                  · intro w' hSw; go_simp
                  try simp only [Act.put, List.setIfInBounds_toArray, List.set_cons_zero, List.set_cons_succ, List.getElem_toArray, List.getElem_cons_succ, List.getElem_cons_zero]
                  refine wpAnyH_ready (rs := [11]) (by kernel_rfl) (by simp) ?_
                  refine AllReadyH.cons rfl (fun KK hK' => ?_) AllReadyH.nil
                  go_simp
                  obtain ⟨u3, h6, G6, bb, -⟩ := boxed u2 27 #[.slice none 0 0, .slice none 0 0, .int .i64 0]
                  rw [h6]
                  clear h6
                  obtain ⟨g6, hg6⟩ : ∃ q, u2.heap.size = q := ⟨_, rfl⟩
                  rw [hg6] at G6 ⊢
                  have hgu : u0.heap.size ≤ g6 := by have := bu.size; omega
                  clear hg6
                  replace CS := CS.below bb
                  replace CJ := CJ.below bb
                  replace OS := OS.below bb
                  replace OJ := OJ.below bb
                  replace bu : Kb u0 u3 := bu.trans (bb.mono bu.size)
                  clear bb
                  clear hHeld
                  refine hK'.out _ _ (bu) (fun hHeld => ?_)
                  clear hK' KK
                  try simp only [List.setIfInBounds_toArray, List.set_cons_zero, List.set_cons_succ]
                  refine wpAnyH_ready (rs := [12]) (by kernel_rfl) (by simp) ?_
                  refine AllReadyH.cons rfl (fun KK hK' => ?_) AllReadyH.nil
                  obtain ⟨y0, y1, y2, y3, y4, y5⟩ := G6.open3
                  go_simp
                  have G7 := put3_at G6 (.slice aS z.2.n bS) (.slice aJ z.2.m bJ) (.int .i64 z.2.T)
                  replace OS := (OS.only (put3_only u3 g6 (.slice aS z.2.n bS) (.slice aJ z.2.m bJ) (.int .i64 z.2.T)) (apart_box (OS.box G6 (by decide)))).fit
                  replace OJ := (OJ.only (put3_only u3 g6 (.slice aS z.2.n bS) (.slice aJ z.2.m bJ) (.int .i64 z.2.T)) (apart_box (OJ.box G6 (by decide)))).fit
                  replace bu : Kb u0 (((u3.setCell ⟨g6, 0, none⟩ (.slice aS z.2.n bS)).setCell ⟨g6, 1, none⟩ (.slice aJ z.2.m bJ)).setCell ⟨g6, 2, none⟩ (.int .i64 z.2.T)) := below_put3 bu hgu _ _ _
                  clear G6 CS CJ
                  obtain ⟨u4, hv⟩ : ∃ V, ((u3.setCell ⟨g6, 0, none⟩ (.slice aS z.2.n bS)).setCell ⟨g6, 1, none⟩ (.slice aJ z.2.m bJ)).setCell ⟨g6, 2, none⟩ (.int .i64 z.2.T) = V := ⟨_, rfl⟩
                  rw [hv] at G7 OS OJ bu ⊢
                  clear hv y0 y1 y2 y3 y4 y5
                  clear hHeld
                  refine hK'.out _ _ (bu) (fun hHeld => ?_)
                  clear hK' KK
                  try simp only [List.setIfInBounds_toArray, List.set_cons_zero, List.set_cons_succ]
                  refine wpAnyH_take (i := 13) (v := .int .i64 (z.1)) rfl (by kernel_rfl) (by kernel_rfl) (by kernel_rfl) (fun _ _ _ h => h) (Or.inl ⟨by kernel_rfl, ?_⟩) hHeld ?_
                  · intro w' hSw; go_simp
                  try simp only [Act.put, List.setIfInBounds_toArray, List.set_cons_zero, List.set_cons_succ, List.getElem_toArray, List.getElem_cons_succ, List.getElem_cons_zero]
                  refine wpAnyH_done (by kernel_rfl) ?_ _
                  clear hHeld
                  go_wp2_with fail
                  go_meet
                  case rel => exact ⟨g6, aS, bS, aJ, bJ, rfl, rfl, G7, OS.wide hlW (Nat.le_refl _), OJ.wide hlW (Nat.le_refl _), hbW.trans (Below.mono bu hlW)⟩
                · go_simp
                  obtain ⟨u2, h6, G6, bb, -⟩ := boxed u1 27 #[.slice none 0 0, .slice none 0 0, .int .i64 0]
                  rw [h6]
                  clear h6
                  obtain ⟨g6, hg6⟩ : ∃ q, u1.heap.size = q := ⟨_, rfl⟩
                  rw [hg6] at G6 ⊢
                  have hgu : u0.heap.size ≤ g6 := by have := bu.size; omega
                  clear hg6
                  replace CS := CS.below bb
                  replace CJ := CJ.below bb
                  replace bu : Kb u0 u2 := bu.trans (bb.mono bu.size)
                  clear bb
                  clear hHeld
                  refine hK'.out _ _ (bu) (fun hHeld => ?_)
                  clear hK' KK
                  try simp only [List.setIfInBounds_toArray, List.set_cons_zero, List.set_cons_succ]
                  refine wpAnyH_ready (rs := [7]) (by kernel_rfl) (by simp) ?_
                  refine AllReadyH.cons rfl (fun KK hK' => ?_) AllReadyH.nil
                  go_simp
                  have hlo := bu.size
                  refine (DO2 _ _ _ _ _ (ark_ls CS) (ark_ls CJ) (ark_c CS) (ark_c CJ) hzJ).mono ?_
                  rintro e u3 ⟨vT, vK, rfl, OS, OJ, bb⟩
                  replace CS := CS.below bb
                  replace CJ := CJ.below bb
                  replace G6 := G6.below bb
                  replace bu : Kb u0 u3 := bu.trans (bb.mono bu.size)
                  clear bb
                  replace OS := OS.wide hlo (Nat.le_refl _)
                  replace OJ := OJ.wide hlo (Nat.le_refl _)
                  clear hlo
                  obtain ⟨aS, bS, rfl, -, -⟩ := OS.ls
                  obtain ⟨aJ, bJ, rfl, -, -⟩ := OJ.ls
                  try go_wp2_with fail
                  clear hHeld
                  refine hK'.out _ _ (bu) (fun hHeld => ?_)
                  clear hK' KK
                  try simp only [List.setIfInBounds_toArray, List.set_cons_zero, List.set_cons_succ]
                  refine wpAnyH_take (i := 8) (v := .tuple #[labV (.slice aS z.2.n bS) (.slice aJ z.2.m bJ) z.2.T, .int .i64 z.1]) rfl (by kernel_rfl) (by kernel_rfl) (by kernel_rfl) (fun _ _ _ h => h) (Or.inl ⟨by kernel_rfl, ?_⟩) hHeld ?_
                  · intro w' hSw; go_simp
                  try simp only [Act.put, List.setIfInBounds_toArray, List.set_cons_zero, List.set_cons_succ, List.getElem_toArray, List.getElem_cons_succ, List.getElem_cons_zero]
                  refine wpAnyH_take (i := 9) (v := labV (.slice aS z.2.n bS) (.slice aJ z.2.m bJ) z.2.T) rfl (by kernel_rfl) (by kernel_rfl) (by kernel_rfl) (fun _ _ _ h => h) (Or.inl ⟨by kernel_rfl, ?_⟩) hHeld ?_
                  · intro w' hSw; go_simp
                  try simp only [Act.put, List.setIfInBounds_toArray, List.set_cons_zero, List.set_cons_succ, List.getElem_toArray, List.getElem_cons_succ, List.getElem_cons_zero]
                  refine wpAnyH_take (i := 10) (v := .int .i64 (z.1)) rfl (by kernel_rfl) (by kernel_rfl) (by kernel_rfl) (fun _ _ _ h => h) (Or.inl ⟨by kernel_rfl, ?_⟩) hHeld ?_
                  · intro w' hSw; go_simp
                  try simp only [Act.put, List.setIfInBounds_toArray, List.set_cons_zero, List.set_cons_succ, List.getElem_toArray, List.getElem_cons_succ, List.getElem_cons_zero]
                  refine wpAnyH_ready (rs := [12]) (by kernel_rfl) (by simp) ?_
                  refine AllReadyH.cons rfl (fun KK hK' => ?_) AllReadyH.nil
                  obtain ⟨y0, y1, y2, y3, y4, y5⟩ := G6.open3
                  go_simp
                  have G7 := put3_at G6 (.slice aS z.2.n bS) (.slice aJ z.2.m bJ) (.int .i64 z.2.T)
                  replace OS := (OS.only (put3_only u3 g6 (.slice aS z.2.n bS) (.slice aJ z.2.m bJ) (.int .i64 z.2.T)) (apart_box (OS.box G6 (by decide)))).fit
                  replace OJ := (OJ.only (put3_only u3 g6 (.slice aS z.2.n bS) (.slice aJ z.2.m bJ) (.int .i64 z.2.T)) (apart_box (OJ.box G6 (by decide)))).fit
                  replace bu : Kb u0 (((u3.setCell ⟨g6, 0, none⟩ (.slice aS z.2.n bS)).setCell ⟨g6, 1, none⟩ (.slice aJ z.2.m bJ)).setCell ⟨g6, 2, none⟩ (.int .i64 z.2.T)) := below_put3 bu hgu _ _ _
                  clear G6 CS CJ
                  obtain ⟨u4, hv⟩ : ∃ V, ((u3.setCell ⟨g6, 0, none⟩ (.slice aS z.2.n bS)).setCell ⟨g6, 1, none⟩ (.slice aJ z.2.m bJ)).setCell ⟨g6, 2, none⟩ (.int .i64 z.2.T) = V := ⟨_, rfl⟩
                  rw [hv] at G7 OS OJ bu ⊢
                  clear hv y0 y1 y2 y3 y4 y5
                  clear hHeld
                  refine hK'.out _ _ (bu) (fun hHeld => ?_)
                  clear hK' KK
                  try simp only [List.setIfInBounds_toArray, List.set_cons_zero, List.set_cons_succ]
                  refine wpAnyH_take (i := 13) (v := .int .i64 (z.1)) rfl (by kernel_rfl) (by kernel_rfl) (by kernel_rfl) (fun _ _ _ h => h) (Or.inl ⟨by kernel_rfl, ?_⟩) hHeld ?_
                  · intro w' hSw; go_simp
                  try simp only [Act.put, List.setIfInBounds_toArray, List.set_cons_zero, List.set_cons_succ, List.getElem_toArray, List.getElem_cons_succ, List.getElem_cons_zero]
                  refine wpAnyH_done (by kernel_rfl) ?_ _
                  clear hHeld
                  go_wp2_with fail
                  go_meet
                  case rel => exact ⟨g6, aS, bS, aJ, bJ, rfl, rfl, G7, OS.wide hlW (Nat.le_refl _), OJ.wide hlW (Nat.le_refl _), hbW.trans (Below.mono bu hlW)⟩
              · go_simp
                obtain ⟨u1, h6, G6, bb, -⟩ := boxed u0 27 #[.slice none 0 0, .slice none 0 0, .int .i64 0]
                rw [h6]
                clear h6
                obtain ⟨g6, hg6⟩ : ∃ q, u0.heap.size = q := ⟨_, rfl⟩
                rw [hg6] at G6 ⊢
                have hgu : u0.heap.size ≤ g6 := by have := bu.size; omega
                clear hg6
                replace bu : Kb u0 u1 := bu.trans (bb.mono bu.size)
                clear bb
                clear hHeld
                refine hK'.out _ _ (bu) (fun hHeld => ?_)
                clear hK' KK
                try simp only [List.setIfInBounds_toArray, List.set_cons_zero, List.set_cons_succ]
                refine wpAnyH_ready (rs := [1]) (by kernel_rfl) (by simp) ?_
                refine AllReadyH.cons rfl (fun KK hK' => ?_) AllReadyH.nil
                go_simp
                refine (copyLab_any ((ark_ls S0).below bu) ((ark_ls J0).below bu) (ark_c S0) (ark_c J0) hn9' hm9').mono ?_
                rintro e u2 ⟨vT, vK, rfl, CS, CJ, hvS, hvJ, bb⟩
                replace G6 := G6.below bb
                replace bu : Kb u0 u2 := bu.trans (bb.mono bu.size)
                clear bb
                obtain ⟨yS, zS, rfl, -, -, -, -⟩ := CS.nn hvS
                obtain ⟨yJ, zJ, rfl, -, hzJ, -, -⟩ := CJ.nn hvJ
                clear hvS hvJ
                try go_wp2_with fail
                clear hHeld
                refine hK'.out _ _ (bu) (fun hHeld => ?_)
                clear hK' KK
                try simp only [List.setIfInBounds_toArray, List.set_cons_zero, List.set_cons_succ]
                refine wpAnyH_ready (rs := [7]) (by kernel_rfl) (by simp) ?_
                refine AllReadyH.cons rfl (fun KK hK' => ?_) AllReadyH.nil
                go_simp
                have hlo := bu.size
                refine (DO2 _ _ _ _ _ (ark_ls CS) (ark_ls CJ) (ark_c CS) (ark_c CJ) hzJ).mono ?_
                rintro e u3 ⟨vT, vK, rfl, OS, OJ, bb⟩
                replace CS := CS.below bb
                replace CJ := CJ.below bb
                replace G6 := G6.below bb
                replace bu : Kb u0 u3 := bu.trans (bb.mono bu.size)
                clear bb
                replace OS := OS.wide hlo (Nat.le_refl _)
                replace OJ := OJ.wide hlo (Nat.le_refl _)
                clear hlo
                obtain ⟨aS, bS, rfl, -, -⟩ := OS.ls
                obtain ⟨aJ, bJ, rfl, -, -⟩ := OJ.ls
                try go_wp2_with fail
                clear hHeld
                refine hK'.out _ _ (bu) (fun hHeld => ?_)
                clear hK' KK
                try simp only [List.setIfInBounds_toArray, List.set_cons_zero, List.set_cons_succ]
                refine wpAnyH_take (i := 8) (v := .tuple #[labV (.slice aS z.2.n bS) (.slice aJ z.2.m bJ) z.2.T, .int .i64 z.1]) rfl (by kernel_rfl) (by kernel_rfl) (by kernel_rfl) (fun _ _ _ h => h) (Or.inl ⟨by kernel_rfl, ?_⟩) hHeld ?_
                · intro w' hSw; go_simp
                try simp only [Act.put, List.setIfInBounds_toArray, List.set_cons_zero, List.set_cons_succ, List.getElem_toArray, List.getElem_cons_succ, List.getElem_cons_zero]
                refine wpAnyH_take (i := 9) (v := labV (.slice aS z.2.n bS) (.slice aJ z.2.m bJ) z.2.T) rfl (by kernel_rfl) (by kernel_rfl) (by kernel_rfl) (fun _ _ _ h => h) (Or.inl ⟨by kernel_rfl, ?_⟩) hHeld ?_
                · intro w' hSw; go_simp
                try simp only [Act.put, List.setIfInBounds_toArray, List.set_cons_zero, List.set_cons_succ, List.getElem_toArray, List.getElem_cons_succ, List.getElem_cons_zero]
                refine wpAnyH_take (i := 10) (v := .int .i64 (z.1)) rfl (by kernel_rfl) (by kernel_rfl) (by kernel_rfl) (fun _ _ _ h => h) (Or.inl ⟨by kernel_rfl, ?_⟩) hHeld ?_
                · intro w' hSw; go_simp
                try simp only [Act.put, List.setIfInBounds_toArray, List.set_cons_zero, List.set_cons_succ, List.getElem_toArray, List.getElem_cons_succ, List.getElem_cons_zero]
                refine wpAnyH_ready (rs := [12]) (by kernel_rfl) (by simp) ?_
                refine AllReadyH.cons rfl (fun KK hK' => ?_) AllReadyH.nil
                obtain ⟨y0, y1, y2, y3, y4, y5⟩ := G6.open3
                go_simp
                have G7 := put3_at G6 (.slice aS z.2.n bS) (.slice aJ z.2.m bJ) (.int .i64 z.2.T)
                replace OS := (OS.only (put3_only u3 g6 (.slice aS z.2.n bS) (.slice aJ z.2.m bJ) (.int .i64 z.2.T)) (apart_box (OS.box G6 (by decide)))).fit
                replace OJ := (OJ.only (put3_only u3 g6 (.slice aS z.2.n bS) (.slice aJ z.2.m bJ) (.int .i64 z.2.T)) (apart_box (OJ.box G6 (by decide)))).fit
                replace bu : Kb u0 (((u3.setCell ⟨g6, 0, none⟩ (.slice aS z.2.n bS)).setCell ⟨g6, 1, none⟩ (.slice aJ z.2.m bJ)).setCell ⟨g6, 2, none⟩ (.int .i64 z.2.T)) := below_put3 bu hgu _ _ _
                clear G6 CS CJ
                obtain ⟨u4, hv⟩ : ∃ V, ((u3.setCell ⟨g6, 0, none⟩ (.slice aS z.2.n bS)).setCell ⟨g6, 1, none⟩ (.slice aJ z.2.m bJ)).setCell ⟨g6, 2, none⟩ (.int .i64 z.2.T) = V := ⟨_, rfl⟩
                rw [hv] at G7 OS OJ bu ⊢
                clear hv y0 y1 y2 y3 y4 y5
                clear hHeld
                refine hK'.out _ _ (bu) (fun hHeld => ?_)
                clear hK' KK
                try simp only [List.setIfInBounds_toArray, List.set_cons_zero, List.set_cons_succ]
                refine wpAnyH_take (i := 13) (v := .int .i64 (z.1)) rfl (by kernel_rfl) (by kernel_rfl) (by kernel_rfl) (fun _ _ _ h => h) (Or.inl ⟨by kernel_rfl, ?_⟩) hHeld ?_
                · intro w' hSw; go_simp
                try simp only [Act.put, List.setIfInBounds_toArray, List.set_cons_zero, List.set_cons_succ, List.getElem_toArray, List.getElem_cons_succ, List.getElem_cons_zero]
                refine wpAnyH_done (by kernel_rfl) ?_ _
                clear hHeld
                go_wp2_with fail
                go_meet
                case rel => exact ⟨g6, aS, bS, aJ, bJ, rfl, rfl, G7, OS.wide hlW (Nat.le_refl _), OJ.wide hlW (Nat.le_refl _), hbW.trans (Below.mono bu hlW)⟩
            case rest =>
              obtain ⟨q14, oS, rS, oJ, rJ, rfl, rfl, -, -, -, bb⟩ := hcut
              replace B2 := B2.trans (bb.mono B2.size)
              have e7 := hy7.out
              have e0 := HX0.out
              rcases hz4.out with e4 | e4
              · rw [e0, e7, e4]
                go_wp2
                go_ret
                exact ⟨rfl, B2⟩
              · rw [e0, e7, e4]
                go_wp2
                go_ret
                exact ⟨rfl, B2⟩
      · have hx0' : (x.1 == 0) = false := by simp [hx0]
        go_wp2_with fail
        refine (implLabDo_any 6 s1 k2 k3 (ark_ls K2.S) (ark_ls K2.J) (ark_c K2.S) (ark_c K2.J) hn1 hm1 hcJ HX).mono ?_
        rintro e w8 ⟨vS, vJ, rfl, S6, J6, bb⟩
        replace B2 := B2.trans (bb.mono B2.size)
        obtain ⟨sS8, cS8, rfl, -, -⟩ := S6.ls
        obtain ⟨sJ8, cJ8, rfl, -, -⟩ := J6.ls
        obtain ⟨W9, hW9, A9, b9, -⟩ := boxed w8 27 #[.slice sS8 x.2.n cS8, .slice sJ8 x.2.m cJ8, .int .i64 x.2.T]
        replace B2 := B2.trans (b9.mono B2.size)
        go_wp2
        go_ret
        exact ⟨rfl, B2⟩
end Go.Proofs.Ytnjnffemidaopaa
