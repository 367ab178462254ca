/-
  The law FnLabKept: walked.
-/
import Derived.Test.YtnjnffemidaopaaL17zl
import Derived.Test.YtnjnffemidaopaaL17zm
import Derived.BigRegion
namespace Go.Proofs.Ytnjnffemidaopaa
open Go.RowKit

theorem lft_bd {n : Nat} {f : Nat → Int} (h : SmOk n f) : ∀ k, k ≤ n → 0 ≤ lft f k ∧ lft f k ≤ 1000 * (k : Int)
  | 0, _ => by simp [lft]
  | k + 1, hk => by
    have h1 := lft_bd h k (by omega)
    have h2 := (h.2.1 k (by omega)).2.2
    rw [lft]
    omega
theorem told_dOk {n m p j : Nat} {f g : Nat → Int} {T K s o a : Int} {ys yj : Bool} {x : Int × LS} (hx : ToldD n f m g T K s o a p ys j yj x) (h0 : x.1 = 0) : dOk K s o a := by
  rcases hx with ⟨-, -, rfl⟩ | ⟨-, rfl⟩
  case inr => cases h0
  by_cases hd : dOk K s o a
  · exact hd
  · rw [outc_bad hd] at h0; cases h0
theorem told_one {n m p j : Nat} {f g : Nat → Int} {T K s o a : Int} {ys yj : Bool} {x : Int × LS} (hx : ToldD n f m g T K s o a p ys j yj x) (h : ¬ LbOk n f m g T) : x.1 = 1 := by
  rcases hx with ⟨h', -⟩ | ⟨-, rfl⟩
  · exact absurd h' h
  · rfl
/-- One of the first k samples has that number. -/
def Fd (h : Nat → Int) (v : Int) (k : Nat) : Prop := ∃ i, i < k ∧ h (i * 3) = v
theorem fd_no {h : Nat → Int} {v : Int} : ¬ Fd h v 0 := fun ⟨i, hi, _⟩ => absurd hi (Nat.not_lt_zero i)
theorem fd_up {h : Nat → Int} {v : Int} {k : Nat} (H : Fd h v k) : Fd h v (k + 1) := by
  obtain ⟨i, hi, e⟩ := H
  exact ⟨i, Nat.lt_succ_of_lt hi, e⟩
theorem fd_it {h : Nat → Int} {v : Int} {k : Nat} (e : h (k * 3) = v) : Fd h v (k + 1) := ⟨k, Nat.lt_succ_self k, e⟩
theorem fd_not {h : Nat → Int} {v : Int} {k : Nat} (H : ¬ Fd h v k) (e : ¬ h (k * 3) = v) : ¬ Fd h v (k + 1) := by
  rintro ⟨i, hi, e'⟩
  by_cases hk : i = k
  · subst hk; exact e e'
  · exact H ⟨i, by omega, e'⟩
set_option maxRecDepth 100000 in
set_option maxHeartbeats 12800000 in
theorem kept_walk (hD : DeedC) {w : World} {a : Option Addr} {len cap : Nat} (hr : Row w w.heap.size a len) :
    Calls Try.prog 3 #[.slice a len cap] w fun e w' => e = .returned (.bool true) ∧ Below w.heap.size w w' := by
  have hl := hr.1
  go_enter Try.func3, Try.ntmps3
  go_wp2_with fail
  refine (big_any a len cap w hl).mono ?_
  rintro e w0 ⟨rfl, rfl⟩
  by_cases hbig : 1048576 < len
  · have e1 : decide (1048576 < len) = true := by simp; omega
    rw [e1]
    go_wp2
    go_ret
    exact ⟨rfl, Below.refl _ _⟩
  have e1 : decide (1048576 < len) = false := by simp; omega
  rw [e1]
  clear e1 hbig
  go_wp2_with fail
  refine (drawDo_any hD hr).mono ?_
  rintro e w1 ⟨vS, vJ, n, f, m, g, T, k0, k1, k2, k3, rfl, hn, hm, S6, J6, B⟩
  obtain ⟨sS, cS, rfl, -, -⟩ := S6.ls
  obtain ⟨sJ, cJ, rfl, hcJ, -⟩ := J6.ls
  obtain ⟨W2, hW2, A3, A4, b2, hsz⟩ := bx2n w1 27 29 #[.slice none 0 0, .slice none 0 0, .int .i64 0] #[.int .i64 0, .int .i64 0, .int .i64 0, .int .i64 0]
  obtain ⟨q3, hq3⟩ : ∃ q, w1.heap.size = q := ⟨_, rfl⟩
  obtain ⟨q4, hq4⟩ : ∃ q, q3 + 1 = q := ⟨_, rfl⟩
  rw [hq3] at A3 A4
  rw [hq4] at A4
  obtain ⟨z0, z1, z2, y0, y1, y2⟩ := A3.open3
  obtain ⟨c0, c1, c2, c3, -⟩ := Deed.box A4
  obtain ⟨f0, f1, f2, f3⟩ := Deed.boxF A4
  clear hsz
  have hB1 := B.size
  have hq3w : w.heap.size ≤ q3 := by omega
  have hq4w : w.heap.size ≤ q4 := by omega
  have h34 : q3 ≠ q4 := by omega
  have bx := put3_at A3 (.slice sS n cS) (.slice sJ m cJ) (.int .i64 T)
  have U := put3_only W2 q3 (.slice sS n cS) (.slice sJ m cJ) (.int .i64 T)
  have S7 := S6.below b2
  have J7 := J6.below b2
  have K : Lk w.heap.size q3 _ (.slice sS n cS) (.slice sJ m cJ) n f m g T := ⟨bx, (S7.only U (apart_box (S7.box A3 (by decide)))).fit, (J7.only U (apart_box (J7.box A3 (by decide)))).fit, hq3w⟩
  have D := A4.only U (ownb (Ne.symm h34))
  have B2 := U.belowB (B.trans (b2.mono B.size)) hq3w (by have := b2.size; omega)
  obtain ⟨W3, hW3⟩ : ∃ V, ((W2.setCell ⟨q3, 0, none⟩ (.slice sS n cS)).setCell ⟨q3, 1, none⟩ (.slice sJ m cJ)).setCell ⟨q3, 2, none⟩ (.int .i64 T) = V := ⟨_, rfl⟩
  rw [hW3] at K D B2
  have U2 := put4_only W3 q4 (.int .i64 k0) (.int .i64 k1) (.int .i64 k2) (.int .i64 k3)
  have K2 := K.onlyB U2 D h34
  have D2 := Deed.putBox D (.int .i64 k0) (.int .i64 k1) (.int .i64 k2) (.int .i64 k3)
  have B3 := U2.belowB B2 hq4w (by have := B2.size; omega)
  obtain ⟨W4, hW4⟩ : ∃ V, ((((W3.setCell ⟨q4, 0, none⟩ (.int .i64 k0)).setCell ⟨q4, 1, none⟩ (.int .i64 k1)).setCell ⟨q4, 2, none⟩ (.int .i64 k2)).setCell ⟨q4, 3, none⟩ (.int .i64 k3)) = V := ⟨_, rfl⟩
  rw [hW4] at K2 D2 B3
  obtain ⟨d0, d1, d2, d3, -⟩ := Deed.box D
  obtain ⟨g0, g1, g2, g3⟩ := Deed.boxF D
  obtain ⟨z3, z4, z5, -⟩ := K2.bx.open3
  have hn1 : n ≤ 1048576 := by omega
  have hm1 : m ≤ 1048576 := by omega
  obtain ⟨p, ys, j, yj, x, hx⟩ := told_is n f m g T k0 k1 k2 k3
  have HX : Hid (ToldD n f m g T k0 k1 k2 k3 p ys j yj x) := hx
  go_wp2_with fail
  clear hW2 A3 A4 z0 z1 z2 y0 y1 y2 c0 c1 c2 c3 f0 f1 f2 f3 bx U S7 J7 S6 J6 b2 B hB1 hq3 hq4 B2 K D U2 d0 d1 d2 d3 g0 g1 g2 g3 hW3 hW4 z3 z4 z5
  by_cases hok : LbOk n f m g T
  case neg =>
    have hx1 := told_one hx hok
    have HB : Hid (false = true ↔ LbOk n f m g T) := ⟨(fun h => by cases h), fun h => absurd h hok⟩
    clear hx
    refine (specLabOk_any (ark_ls K2.S) hn1 (ark_ls K2.J) hm1 false HB).mono ?_
    rintro e w5 ⟨rfl, bb⟩
    replace B3 := B3.trans (bb.mono B3.size)
    replace K2 := K2.below bb
    replace D2 := D2.below bb
    clear bb HB hok
    obtain ⟨z3, z4, z5, -⟩ := K2.bx.open3
    obtain ⟨c4, c5, c6, c7, -⟩ := Deed.box D2
    go_wp2_with fail
    refine (implLabDo_any k0 k1 k2 k3 (ark_ls K2.S) (ark_ls K2.J) (ark_c K2.S) (ark_c K2.J) hn1 hm1 hcJ HX).mono ?_
    rintro e w8 ⟨vS, vJ, rfl, S6, J6, bb⟩
    replace B3 := B3.trans (bb.mono B3.size)
    obtain ⟨sS8, cS8, rfl, -, -⟩ := S6.ls
    obtain ⟨sJ8, cJ8, rfl, -, -⟩ := J6.ls
    obtain ⟨W9, hW9, A9, b9, -⟩ := boxed w8 27 #[.slice sS8 x.2.n cS8, .slice sJ8 x.2.m cJ8, .int .i64 x.2.T]
    replace B3 := B3.trans (b9.mono B3.size)
    have hx1' : (x.1 == 1) = true := by simp [hx1]
    clear hx1
    go_wp2
    go_ret
    exact ⟨rfl, B3⟩
  obtain ⟨HK, HL⟩ := kpt_told hok hx
  have HK : Hid (Kpt n f m g T k0 k3 x) := HK
  have HL : Hid (LbOk x.2.n x.2.f x.2.m x.2.g x.2.T) := HL
  have HO : Hid (LbOk n f m g T) := hok
  have HB : Hid (true = true ↔ LbOk n f m g T) := ⟨fun _ => hok, fun _ => rfl⟩
  clear hx hok
  refine (specLabOk_any (ark_ls K2.S) hn1 (ark_ls K2.J) hm1 true HB).mono ?_
  rintro e W5 ⟨rfl, bb⟩
  replace B3 := B3.trans (bb.mono B3.size)
  replace K2 := K2.below bb
  replace D2 := D2.below bb
  clear bb HB
  have hn9 : n ≤ 900000 := by omega
  have hm9 : m ≤ 900000 := by omega
  have DO1 := fun w' sa dd aj cc (l : Ls 3 w' sa n f) (k : Ls 4 w' aj m g) (h1 : sa = none → n = 0 ∧ dd = 0) (h2 : aj = none → m = 0 ∧ cc = 0) (h3 : m ≤ cc) => implLabDo_any (d := dd) (c := cc) k0 k1 k2 k3 l k h1 h2 hn1 hm1 h3 HX
  go_wp2_with fail
  go_cut [7, 8] from 38 to 45 (fun s10 s11 wc => CutL x W5 s10 s11 wc)
  case first =>
    obtain ⟨u0, hu0, bb⟩ : ∃ uu, W5.drew = uu ∧ Below W5.heap.size W5 uu := ⟨_, rfl, (Below.refl _ _).drew⟩
    have hbW := bb
    have hlW := bb.size
    have m3 := K2.bx.below bb
    have S0 := (K2.S.below bb).fit
    have J0 := (K2.J.below bb).fit
    have m4 := D2.below bb
    clear bb
    refine wp_region_held_drew (S := Kb u0) (by kernel_rfl) (by rw [hu0]; exact Below.refl _ _) (fun hHeld => ?_)
    rw [hu0] at hHeld ⊢
    clear hu0
    have bu : Kb u0 u0 := Below.refl _ _
    change wpAnyH _ _ _ _ _ 10 #[false, false, false, false, false, false, false, false, false, false] _ _
    refine wpAnyH_take (i := 0) (v := lbV sS n cS sJ m cJ T) rfl (by kernel_rfl) (by kernel_rfl) (by kernel_rfl) (fun _ _ _ h => h) (Or.inl ⟨by kernel_rfl, ?_⟩) hHeld ?_
    · intro w' hSw; obtain ⟨z0, z1, z2, -⟩ := (m3.below hSw).open3; go_simp
    try simp only [Act.put, List.setIfInBounds_toArray, List.set_cons_zero, List.set_cons_succ, List.getElem_toArray, List.getElem_cons_zero]
    refine wpAnyH_take (i := 2) (v := deedV k0 k1 k2 k3) rfl (by kernel_rfl) (by kernel_rfl) (by kernel_rfl) (fun _ _ _ h => h) (Or.inl ⟨by kernel_rfl, ?_⟩) hHeld ?_
    · intro w' hSw; obtain ⟨z0, z1, z2, z3, -⟩ := Deed.box (m4.below hSw); go_simp
    try simp only [Act.put, List.setIfInBounds_toArray, List.set_cons_zero, List.set_cons_succ, List.getElem_toArray, List.getElem_cons_succ, List.getElem_cons_zero]
    refine wpAnyH_ready (rs := [1, 7]) (by kernel_rfl) (by simp) ?_
    refine AllReadyH.cons rfl (fun KK hK' => ?_) (AllReadyH.cons rfl (fun KK hK' => ?_) AllReadyH.nil)
    · go_simp
      refine (copyLab_any ((ark_ls S0).below bu) ((ark_ls J0).below bu) (ark_c S0) (ark_c J0) hn9 hm9).mono ?_
      rintro e u1 ⟨vT, vK, rfl, CS, CJ, hvS, hvJ, bb⟩
      replace bu : Kb u0 u1 := bu.trans (bb.mono bu.size)
      clear bb
      obtain ⟨yS, zS, rfl, -, -, -, -⟩ := CS.nn hvS
      obtain ⟨yJ, zJ, rfl, -, hzJ, -, -⟩ := CJ.nn hvJ
      clear hvS hvJ
      try go_wp2_with fail
      clear hHeld
      refine hK'.out _ _ (bu) (fun hHeld => ?_)
      clear hK' KK
      try simp only [List.setIfInBounds_toArray, List.set_cons_zero, List.set_cons_succ]
      refine wpAnyH_ready (rs := [3, 7]) (by kernel_rfl) (by simp) ?_
      refine AllReadyH.cons rfl (fun KK hK' => ?_) (AllReadyH.cons rfl (fun KK hK' => ?_) AllReadyH.nil)
      · go_simp
        have hlo := bu.size
        refine (DO1 _ _ _ _ _ (ark_ls CS) (ark_ls CJ) (ark_c CS) (ark_c CJ) hzJ).mono ?_
        rintro e u2 ⟨vT, vK, rfl, OS, OJ, bb⟩
        replace CS := CS.below bb
        replace CJ := CJ.below bb
        replace bu : Kb u0 u2 := bu.trans (bb.mono bu.size)
        clear bb
        replace OS := OS.wide hlo (Nat.le_refl _)
        replace OJ := OJ.wide hlo (Nat.le_refl _)
        clear hlo
        obtain ⟨aS, bS, rfl, -, -⟩ := OS.ls
        obtain ⟨aJ, bJ, rfl, -, -⟩ := OJ.ls
        try go_wp2_with fail
        clear hHeld
        refine hK'.out _ _ (bu) (fun hHeld => ?_)
        clear hK' KK
        try simp only [List.setIfInBounds_toArray, List.set_cons_zero, List.set_cons_succ]
        refine wpAnyH_take (i := 4) (v := .tuple #[labV (.slice aS x.2.n bS) (.slice aJ x.2.m bJ) x.2.T, .int .i64 x.1]) rfl (by kernel_rfl) (by kernel_rfl) (by kernel_rfl) (fun _ _ _ h => h) (Or.inl ⟨by kernel_rfl, ?_⟩) hHeld ?_
        · intro w' hSw; go_simp
        try simp only [Act.put, List.setIfInBounds_toArray, List.set_cons_zero, List.set_cons_succ, List.getElem_toArray, List.getElem_cons_succ, List.getElem_cons_zero]
        refine wpAnyH_take (i := 5) (v := labV (.slice aS x.2.n bS) (.slice aJ x.2.m bJ) x.2.T) rfl (by kernel_rfl) (by kernel_rfl) (by kernel_rfl) (fun _ _ _ h => h) (Or.inl ⟨by kernel_rfl, ?_⟩) hHeld ?_
        · intro w' hSw; go_simp
        try simp only [Act.put, List.setIfInBounds_toArray, List.set_cons_zero, List.set_cons_succ, List.getElem_toArray, List.getElem_cons_succ, List.getElem_cons_zero]
        refine wpAnyH_take (i := 6) (v := .int .i64 (x.1)) rfl (by kernel_rfl) (by kernel_rfl) (by kernel_rfl) (fun _ _ _ h => h) (Or.inl ⟨by kernel_rfl, ?_⟩) hHeld ?_
        · intro w' hSw; go_simp
        try simp only [Act.put, List.setIfInBounds_toArray, List.set_cons_zero, List.set_cons_succ, List.getElem_toArray, List.getElem_cons_succ, List.getElem_cons_zero]
        refine wpAnyH_ready (rs := [7]) (by kernel_rfl) (by simp) ?_
        refine AllReadyH.cons rfl (fun KK hK' => ?_) AllReadyH.nil
        go_simp
        obtain ⟨u3, h6, G6, bb, -⟩ := boxed u2 27 #[.slice none 0 0, .slice none 0 0, .int .i64 0]
        rw [h6]
        clear h6
        obtain ⟨g6, hg6⟩ : ∃ q, u2.heap.size = q := ⟨_, rfl⟩
        rw [hg6] at G6 ⊢
        have hgu : u0.heap.size ≤ g6 := by have := bu.size; omega
        clear hg6
        replace CS := CS.below bb
        replace CJ := CJ.below bb
        replace OS := OS.below bb
        replace OJ := OJ.below bb
        replace bu : Kb u0 u3 := bu.trans (bb.mono bu.size)
        clear bb
        clear hHeld
        refine hK'.out _ _ (bu) (fun hHeld => ?_)
        clear hK' KK
        try simp only [List.setIfInBounds_toArray, List.set_cons_zero, List.set_cons_succ]
        refine wpAnyH_ready (rs := [8]) (by kernel_rfl) (by simp) ?_
        refine AllReadyH.cons rfl (fun KK hK' => ?_) AllReadyH.nil
        obtain ⟨y0, y1, y2, y3, y4, y5⟩ := G6.open3
        go_simp
        have G7 := put3_at G6 (.slice aS x.2.n bS) (.slice aJ x.2.m bJ) (.int .i64 x.2.T)
        replace OS := (OS.only (put3_only u3 g6 (.slice aS x.2.n bS) (.slice aJ x.2.m bJ) (.int .i64 x.2.T)) (apart_box (OS.box G6 (by decide)))).fit
        replace OJ := (OJ.only (put3_only u3 g6 (.slice aS x.2.n bS) (.slice aJ x.2.m bJ) (.int .i64 x.2.T)) (apart_box (OJ.box G6 (by decide)))).fit
        replace bu : Kb u0 (((u3.setCell ⟨g6, 0, none⟩ (.slice aS x.2.n bS)).setCell ⟨g6, 1, none⟩ (.slice aJ x.2.m bJ)).setCell ⟨g6, 2, none⟩ (.int .i64 x.2.T)) := below_put3 bu hgu _ _ _
        clear G6 CS CJ
        obtain ⟨u4, hv⟩ : ∃ V, ((u3.setCell ⟨g6, 0, none⟩ (.slice aS x.2.n bS)).setCell ⟨g6, 1, none⟩ (.slice aJ x.2.m bJ)).setCell ⟨g6, 2, none⟩ (.int .i64 x.2.T) = V := ⟨_, rfl⟩
        rw [hv] at G7 OS OJ bu ⊢
        clear hv y0 y1 y2 y3 y4 y5
        clear hHeld
        refine hK'.out _ _ (bu) (fun hHeld => ?_)
        clear hK' KK
        try simp only [List.setIfInBounds_toArray, List.set_cons_zero, List.set_cons_succ]
        refine wpAnyH_take (i := 9) (v := .int .i64 (x.1)) rfl (by kernel_rfl) (by kernel_rfl) (by kernel_rfl) (fun _ _ _ h => h) (Or.inl ⟨by kernel_rfl, ?_⟩) hHeld ?_
        · intro w' hSw; go_simp
        try simp only [Act.put, List.setIfInBounds_toArray, List.set_cons_zero, List.set_cons_succ, List.getElem_toArray, List.getElem_cons_succ, List.getElem_cons_zero]
        refine wpAnyH_done (by kernel_rfl) ?_ _
        clear hHeld
        go_wp2_with fail
        go_meet
        case rel => exact ⟨g6, aS, bS, aJ, bJ, rfl, rfl, G7, OS.wide hlW (Nat.le_refl _), OJ.wide hlW (Nat.le_refl _), hbW.trans (Below.mono bu hlW)⟩
      · go_simp
        obtain ⟨u2, h6, G6, bb, -⟩ := boxed u1 27 #[.slice none 0 0, .slice none 0 0, .int .i64 0]
        rw [h6]
        clear h6
        obtain ⟨g6, hg6⟩ : ∃ q, u1.heap.size = q := ⟨_, rfl⟩
        rw [hg6] at G6 ⊢
        have hgu : u0.heap.size ≤ g6 := by have := bu.size; omega
        clear hg6
        replace CS := CS.below bb
        replace CJ := CJ.below bb
        replace bu : Kb u0 u2 := bu.trans (bb.mono bu.size)
        clear bb
        clear hHeld
        refine hK'.out _ _ (bu) (fun hHeld => ?_)
        clear hK' KK
        try simp only [List.setIfInBounds_toArray, List.set_cons_zero, List.set_cons_succ]
        refine wpAnyH_ready (rs := [3]) (by kernel_rfl) (by simp) ?_
        refine AllReadyH.cons rfl (fun KK hK' => ?_) AllReadyH.nil
        go_simp
        have hlo := bu.size
        refine (DO1 _ _ _ _ _ (ark_ls CS) (ark_ls CJ) (ark_c CS) (ark_c CJ) hzJ).mono ?_
        rintro e u3 ⟨vT, vK, rfl, OS, OJ, bb⟩
        replace CS := CS.below bb
        replace CJ := CJ.below bb
        replace G6 := G6.below bb
        replace bu : Kb u0 u3 := bu.trans (bb.mono bu.size)
        clear bb
        replace OS := OS.wide hlo (Nat.le_refl _)
        replace OJ := OJ.wide hlo (Nat.le_refl _)
        clear hlo
        obtain ⟨aS, bS, rfl, -, -⟩ := OS.ls
        obtain ⟨aJ, bJ, rfl, -, -⟩ := OJ.ls
        try go_wp2_with fail
        clear hHeld
        refine hK'.out _ _ (bu) (fun hHeld => ?_)
        clear hK' KK
        try simp only [List.setIfInBounds_toArray, List.set_cons_zero, List.set_cons_succ]
        refine wpAnyH_take (i := 4) (v := .tuple #[labV (.slice aS x.2.n bS) (.slice aJ x.2.m bJ) x.2.T, .int .i64 x.1]) rfl (by kernel_rfl) (by kernel_rfl) (by kernel_rfl) (fun _ _ _ h => h) (Or.inl ⟨by kernel_rfl, ?_⟩) hHeld ?_
        · intro w' hSw; go_simp
        try simp only [Act.put, List.setIfInBounds_toArray, List.set_cons_zero, List.set_cons_succ, List.getElem_toArray, List.getElem_cons_succ, List.getElem_cons_zero]
        refine wpAnyH_take (i := 5) (v := labV (.slice aS x.2.n bS) (.slice aJ x.2.m bJ) x.2.T) rfl (by kernel_rfl) (by kernel_rfl) (by kernel_rfl) (fun _ _ _ h => h) (Or.inl ⟨by kernel_rfl, ?_⟩) hHeld ?_
        · intro w' hSw; go_simp
        try simp only [Act.put, List.setIfInBounds_toArray, List.set_cons_zero, List.set_cons_succ, List.getElem_toArray, List.getElem_cons_succ, List.getElem_cons_zero]
        refine wpAnyH_take (i := 6) (v := .int .i64 (x.1)) rfl (by kernel_rfl) (by kernel_rfl) (by kernel_rfl) (fun _ _ _ h => h) (Or.inl ⟨by kernel_rfl, ?_⟩) hHeld ?_
        · intro w' hSw; go_simp
        try simp only [Act.put, List.setIfInBounds_toArray, List.set_cons_zero, List.set_cons_succ, List.getElem_toArray, List.getElem_cons_succ, List.getElem_cons_zero]
        refine wpAnyH_ready (rs := [8]) (by kernel_rfl) (by simp) ?_
        refine AllReadyH.cons rfl (fun KK hK' => ?_) AllReadyH.nil
        obtain ⟨y0, y1, y2, y3, y4, y5⟩ := G6.open3
        go_simp
        have G7 := put3_at G6 (.slice aS x.2.n bS) (.slice aJ x.2.m bJ) (.int .i64 x.2.T)
        replace OS := (OS.only (put3_only u3 g6 (.slice aS x.2.n bS) (.slice aJ x.2.m bJ) (.int .i64 x.2.T)) (apart_box (OS.box G6 (by decide)))).fit
        replace OJ := (OJ.only (put3_only u3 g6 (.slice aS x.2.n bS) (.slice aJ x.2.m bJ) (.int .i64 x.2.T)) (apart_box (OJ.box G6 (by decide)))).fit
        replace bu : Kb u0 (((u3.setCell ⟨g6, 0, none⟩ (.slice aS x.2.n bS)).setCell ⟨g6, 1, none⟩ (.slice aJ x.2.m bJ)).setCell ⟨g6, 2, none⟩ (.int .i64 x.2.T)) := below_put3 bu hgu _ _ _
        clear G6 CS CJ
        obtain ⟨u4, hv⟩ : ∃ V, ((u3.setCell ⟨g6, 0, none⟩ (.slice aS x.2.n bS)).setCell ⟨g6, 1, none⟩ (.slice aJ x.2.m bJ)).setCell ⟨g6, 2, none⟩ (.int .i64 x.2.T) = V := ⟨_, rfl⟩
        rw [hv] at G7 OS OJ bu ⊢
        clear hv y0 y1 y2 y3 y4 y5
        clear hHeld
        refine hK'.out _ _ (bu) (fun hHeld => ?_)
        clear hK' KK
        try simp only [List.setIfInBounds_toArray, List.set_cons_zero, List.set_cons_succ]
        refine wpAnyH_take (i := 9) (v := .int .i64 (x.1)) rfl (by kernel_rfl) (by kernel_rfl) (by kernel_rfl) (fun _ _ _ h => h) (Or.inl ⟨by kernel_rfl, ?_⟩) hHeld ?_
        · intro w' hSw; go_simp
        try simp only [Act.put, List.setIfInBounds_toArray, List.set_cons_zero, List.set_cons_succ, List.getElem_toArray, List.getElem_cons_succ, List.getElem_cons_zero]
        refine wpAnyH_done (by kernel_rfl) ?_ _
        clear hHeld
        go_wp2_with fail
        go_meet
        case rel => exact ⟨g6, aS, bS, aJ, bJ, rfl, rfl, G7, OS.wide hlW (Nat.le_refl _), OJ.wide hlW (Nat.le_refl _), hbW.trans (Below.mono bu hlW)⟩
    · go_simp
      obtain ⟨u1, h6, G6, bb, -⟩ := boxed u0 27 #[.slice none 0 0, .slice none 0 0, .int .i64 0]
      rw [h6]
      clear h6
      obtain ⟨g6, hg6⟩ : ∃ q, u0.heap.size = q := ⟨_, rfl⟩
      rw [hg6] at G6 ⊢
      have hgu : u0.heap.size ≤ g6 := by have := bu.size; omega
      clear hg6
      replace bu : Kb u0 u1 := bu.trans (bb.mono bu.size)
      clear bb
      clear hHeld
      refine hK'.out _ _ (bu) (fun hHeld => ?_)
      clear hK' KK
      try simp only [List.setIfInBounds_toArray, List.set_cons_zero, List.set_cons_succ]
      refine wpAnyH_ready (rs := [1]) (by kernel_rfl) (by simp) ?_
      refine AllReadyH.cons rfl (fun KK hK' => ?_) AllReadyH.nil
      go_simp
      refine (copyLab_any ((ark_ls S0).below bu) ((ark_ls J0).below bu) (ark_c S0) (ark_c J0) hn9 hm9).mono ?_
      rintro e u2 ⟨vT, vK, rfl, CS, CJ, hvS, hvJ, bb⟩
      replace G6 := G6.below bb
      replace bu : Kb u0 u2 := bu.trans (bb.mono bu.size)
      clear bb
      obtain ⟨yS, zS, rfl, -, -, -, -⟩ := CS.nn hvS
      obtain ⟨yJ, zJ, rfl, -, hzJ, -, -⟩ := CJ.nn hvJ
      clear hvS hvJ
      try go_wp2_with fail
      clear hHeld
      refine hK'.out _ _ (bu) (fun hHeld => ?_)
      clear hK' KK
      try simp only [List.setIfInBounds_toArray, List.set_cons_zero, List.set_cons_succ]
      refine wpAnyH_ready (rs := [3]) (by kernel_rfl) (by simp) ?_
      refine AllReadyH.cons rfl (fun KK hK' => ?_) AllReadyH.nil
      go_simp
      have hlo := bu.size
      refine (DO1 _ _ _ _ _ (ark_ls CS) (ark_ls CJ) (ark_c CS) (ark_c CJ) hzJ).mono ?_
      rintro e u3 ⟨vT, vK, rfl, OS, OJ, bb⟩
      replace CS := CS.below bb
      replace CJ := CJ.below bb
      replace G6 := G6.below bb
      replace bu : Kb u0 u3 := bu.trans (bb.mono bu.size)
      clear bb
      replace OS := OS.wide hlo (Nat.le_refl _)
      replace OJ := OJ.wide hlo (Nat.le_refl _)
      clear hlo
      obtain ⟨aS, bS, rfl, -, -⟩ := OS.ls
      obtain ⟨aJ, bJ, rfl, -, -⟩ := OJ.ls
      try go_wp2_with fail
      clear hHeld
      refine hK'.out _ _ (bu) (fun hHeld => ?_)
      clear hK' KK
      try simp only [List.setIfInBounds_toArray, List.set_cons_zero, List.set_cons_succ]
      refine wpAnyH_take (i := 4) (v := .tuple #[labV (.slice aS x.2.n bS) (.slice aJ x.2.m bJ) x.2.T, .int .i64 x.1]) rfl (by kernel_rfl) (by kernel_rfl) (by kernel_rfl) (fun _ _ _ h => h) (Or.inl ⟨by kernel_rfl, ?_⟩) hHeld ?_
      · intro w' hSw; go_simp
      try simp only [Act.put, List.setIfInBounds_toArray, List.set_cons_zero, List.set_cons_succ, List.getElem_toArray, List.getElem_cons_succ, List.getElem_cons_zero]
      refine wpAnyH_take (i := 5) (v := labV (.slice aS x.2.n bS) (.slice aJ x.2.m bJ) x.2.T) rfl (by kernel_rfl) (by kernel_rfl) (by kernel_rfl) (fun _ _ _ h => h) (Or.inl ⟨by kernel_rfl, ?_⟩) hHeld ?_
      · intro w' hSw; go_simp
      try simp only [Act.put, List.setIfInBounds_toArray, List.set_cons_zero, List.set_cons_succ, List.getElem_toArray, List.getElem_cons_succ, List.getElem_cons_zero]
      refine wpAnyH_take (i := 6) (v := .int .i64 (x.1)) rfl (by kernel_rfl) (by kernel_rfl) (by kernel_rfl) (fun _ _ _ h => h) (Or.inl ⟨by kernel_rfl, ?_⟩) hHeld ?_
      · intro w' hSw; go_simp
      try simp only [Act.put, List.setIfInBounds_toArray, List.set_cons_zero, List.set_cons_succ, List.getElem_toArray, List.getElem_cons_succ, List.getElem_cons_zero]
      refine wpAnyH_ready (rs := [8]) (by kernel_rfl) (by simp) ?_
      refine AllReadyH.cons rfl (fun KK hK' => ?_) AllReadyH.nil
      obtain ⟨y0, y1, y2, y3, y4, y5⟩ := G6.open3
      go_simp
      have G7 := put3_at G6 (.slice aS x.2.n bS) (.slice aJ x.2.m bJ) (.int .i64 x.2.T)
      replace OS := (OS.only (put3_only u3 g6 (.slice aS x.2.n bS) (.slice aJ x.2.m bJ) (.int .i64 x.2.T)) (apart_box (OS.box G6 (by decide)))).fit
      replace OJ := (OJ.only (put3_only u3 g6 (.slice aS x.2.n bS) (.slice aJ x.2.m bJ) (.int .i64 x.2.T)) (apart_box (OJ.box G6 (by decide)))).fit
      replace bu : Kb u0 (((u3.setCell ⟨g6, 0, none⟩ (.slice aS x.2.n bS)).setCell ⟨g6, 1, none⟩ (.slice aJ x.2.m bJ)).setCell ⟨g6, 2, none⟩ (.int .i64 x.2.T)) := below_put3 bu hgu _ _ _
      clear G6 CS CJ
      obtain ⟨u4, hv⟩ : ∃ V, ((u3.setCell ⟨g6, 0, none⟩ (.slice aS x.2.n bS)).setCell ⟨g6, 1, none⟩ (.slice aJ x.2.m bJ)).setCell ⟨g6, 2, none⟩ (.int .i64 x.2.T) = V := ⟨_, rfl⟩
      rw [hv] at G7 OS OJ bu ⊢
      clear hv y0 y1 y2 y3 y4 y5
      clear hHeld
      refine hK'.out _ _ (bu) (fun hHeld => ?_)
      clear hK' KK
      try simp only [List.setIfInBounds_toArray, List.set_cons_zero, List.set_cons_succ]
      refine wpAnyH_take (i := 9) (v := .int .i64 (x.1)) rfl (by kernel_rfl) (by kernel_rfl) (by kernel_rfl) (fun _ _ _ h => h) (Or.inl ⟨by kernel_rfl, ?_⟩) hHeld ?_
      · intro w' hSw; go_simp
      try simp only [Act.put, List.setIfInBounds_toArray, List.set_cons_zero, List.set_cons_succ, List.getElem_toArray, List.getElem_cons_succ, List.getElem_cons_zero]
      refine wpAnyH_done (by kernel_rfl) ?_ _
      clear hHeld
      go_wp2_with fail
      go_meet
      case rel => exact ⟨g6, aS, bS, aJ, bJ, rfl, rfl, G7, OS.wide hlW (Nat.le_refl _), OJ.wide hlW (Nat.le_refl _), hbW.trans (Below.mono bu hlW)⟩
  case rest =>
    obtain ⟨q7, tS, eS, tJ, eJ, rfl, rfl, A6, S6, J6, bb⟩ := hcut
    rename World => v1
    have hlo : w.heap.size ≤ W5.heap.size := B3.size
    replace B3 := B3.trans (bb.mono B3.size)
    replace D2 := D2.below bb
    replace K2 := K2.below bb
    have S9 := S6.wide hlo (Nat.le_refl _)
    have J9 := J6.wide hlo (Nat.le_refl _)
    clear S6 J6 bb DO1 hlo
    obtain ⟨z3, z4, z5, -⟩ := K2.bx.open3
    obtain ⟨c4, c5, c6, c7, -⟩ := Deed.box D2
    go_wp2_with fail
    refine (specLabDo_any k0 k1 k2 k3 (ark_ls K2.S) (ark_ls K2.J) (ark_c K2.S) (ark_c K2.J) hn1 hm1 HX).mono ?_
    rintro e w6 ⟨vS, vJ, rfl, S6, J6, bb⟩
    clear z3 z4 z5 c4 c5 c6 c7
    replace B3 := B3.trans (bb.mono B3.size)
    replace K2 := K2.below bb
    replace D2 := D2.below bb
    replace A6 := A6.below bb
    replace S9 := (S9.below bb).fit
    replace J9 := (J9.below bb).fit
    clear bb
    obtain ⟨sS6, cS6, rfl, -, -⟩ := S6.ls
    obtain ⟨sJ6, cJ6, rfl, -, -⟩ := J6.ls
    obtain ⟨W7, hW7, A7, b7, -⟩ := boxed w6 27 #[.slice sS6 x.2.n cS6, .slice sJ6 x.2.m cJ6, .int .i64 x.2.T]
    replace B3 := B3.trans (b7.mono B3.size)
    replace K2 := K2.below b7
    replace D2 := D2.below b7
    replace A6 := A6.below b7
    replace S9 := (S9.below b7).fit
    replace J9 := (J9.below b7).fit
    clear S6 J6 A7 b7
    obtain ⟨z6, z7, z8, -⟩ := A6.open3
    obtain ⟨z3, z4, z5, -⟩ := K2.bx.open3
    have hl2 : x.2.n ≤ 100 ∧ x.2.m ≤ 300 := ⟨HL.out.1.1, HL.out.2.1.1⟩
    obtain ⟨hxn, hxm⟩ := hl2
    have hn9' : x.2.n ≤ 900000 := by omega
    have hm9' : x.2.m ≤ 900000 := by omega
    have hn1' : x.2.n ≤ 1048576 := by omega
    have hm1' : x.2.m ≤ 1048576 := by omega
    go_wp2_with fail
    refine (copyLab_any (ark_ls S9) (ark_ls J9) (ark_c S9) (ark_c J9) hn9' hm9').mono ?_
    rintro e w8 ⟨vT, vK, rfl, CS, CJ, hvS, hvJ, bb⟩
    replace B3 := B3.trans (bb.mono B3.size)
    replace K2 := K2.below bb
    replace D2 := D2.below bb
    replace A6 := A6.below bb
    replace S9 := (S9.below bb).fit
    replace J9 := (J9.below bb).fit
    clear bb hW7 z3 z4 z5 z6 z7 z8
    obtain ⟨yS, zS, rfl, -, -, -, -⟩ := CS.nn hvS
    obtain ⟨yJ, zJ, rfl, -, hzJ, -, -⟩ := CJ.nn hvJ
    clear hvS hvJ
    go_wp2_with fail
    refine (implLabOk_any (ark_ls CS) hn1' (ark_ls CJ) hm1' hzJ true (show Hid _ from ⟨fun _ => HL.out, fun _ => rfl⟩)).mono ?_
    rintro e w9 ⟨rfl, bb⟩
    replace B3 := B3.trans (bb.mono B3.size)
    replace K2 := K2.below bb
    replace D2 := D2.below bb
    replace A6 := A6.below bb
    replace S9 := (S9.below bb).fit
    replace J9 := (J9.below bb).fit
    clear bb CS CJ hzJ
    obtain ⟨z6, z7, z8, -⟩ := A6.open3
    obtain ⟨z3, z4, z5, -⟩ := K2.bx.open3
    have hmx : ¬ (x.2.m : Int) < (m : Int) := by have := HK.out.1; omega
    go_wp2_with fail
    go_loopw [11, 13] (fun s11 s13 wr => ∃ (i : Nat), i ≤ n ∧ s11 = .int .i64 (lft f i) ∧ s13 = .int .i64 (i : Int) ∧ Below w9.heap.size w9 wr) (fun s11 s13 _ => n - (intOf s13).toNat)
    case atStart => exact ⟨0, Nat.zero_le _, rfl, rfl, Below.refl _ _⟩
    case round =>
      clear z3 z4 z5 z6 z7 z8
      obtain ⟨i, hi, rfl, rfl, bi⟩ := hrel
      obtain ⟨z6, z7, z8, -⟩ := (A6.below bi).open3
      obtain ⟨z3, z4, z5, -⟩ := (K2.below bi).bx.open3
      by_cases hin : i < n
      · have hin' : (i : Int) < (n : Int) := by omega
        go_wp2_with fail
        go_loopw [14, 15] (fun s14 s15 wr => ∃ (k : Nat) (b : Bool), k ≤ x.2.n ∧ s14 = .bool b ∧ s15 = .int .i64 (k : Int) ∧ Hid (b = true ↔ Fd x.2.f (f (i * 3)) k) ∧ Below w9.heap.size w9 wr) (fun s14 s15 _ => x.2.n - (intOf s15).toNat)
        case atStart => exact ⟨0, false, Nat.zero_le _, rfl, rfl, ⟨fun h => (by cases h), fun h => absurd h fd_no⟩, bi⟩
        case round =>
          clear z3 z4 z5 z6 z7 z8
          obtain ⟨k, b, hk, rfl, rfl, hb, bj⟩ := hrel
          obtain ⟨z6, z7, z8, -⟩ := (A6.below bj).open3
          obtain ⟨z3, z4, z5, -⟩ := (K2.below bj).bx.open3
          by_cases hkn : k < x.2.n
          · have hkn' : (k : Int) < (x.2.n : Int) := by omega
            obtain ⟨ga, rfl, Ra⟩ := (ark_ls (K2.below bj).S).some hin
            obtain ⟨a0, -, -⟩ := Sample.open Ra i hin
            obtain ⟨gb, rfl, Rb⟩ := (ark_ls (S9.below bj)).some hkn
            obtain ⟨b0, -, -⟩ := Sample.open Rb k hkn
            clear Ra Rb z4 z5 z7 z8
            by_cases hbt : b = true
            · subst hbt
              have hfd := fd_up (hb.out.1 rfl)
              clear hb
              go_wp2_with fail
              go_region
              go_wp2
              exact ⟨⟨k + 1, true, by omega, rfl, by go_num, ⟨fun _ => hfd, fun _ => rfl⟩, bj.drew⟩, by simp [intOf]; omega⟩
            · obtain rfl : b = false := by simpa using hbt
              have hnf : ¬ Fd x.2.f (f (i * 3)) k := fun h => hbt (hb.out.2 h)
              clear hbt hb
              by_cases he : x.2.f (k * 3) = f (i * 3)
              · have hfd := fd_it he
                have he' : (x.2.f (k * 3) == f (i * 3)) = true := by simp [he]
                clear he hnf
                go_wp2_with fail
                go_region
                go_wp2
                exact ⟨⟨k + 1, true, by omega, rfl, by go_num, ⟨fun _ => hfd, fun _ => rfl⟩, bj.drew⟩, by simp [intOf]; omega⟩
              · have hfd := fd_not hnf he
                have he' : (x.2.f (k * 3) == f (i * 3)) = false := by simp [he]
                clear he hnf
                go_wp2_with fail
                go_region
                go_wp2
                exact ⟨⟨k + 1, false, by omega, rfl, by go_num, ⟨fun h => (by cases h), fun h => absurd h hfd⟩, bj.drew⟩, by simp [intOf]; omega⟩
          · have hkn' : ¬ (k : Int) < (x.2.n : Int) := by omega
            obtain rfl : k = x.2.n := by omega
            obtain rfl : b = true := hb.out.2 (HK.out.2.1 i hin)
            obtain ⟨ga, rfl, Ra⟩ := (ark_ls (K2.below bj).S).some hin
            obtain ⟨a0, a1, a2⟩ := Sample.open Ra i hin
            obtain ⟨l1, l2⟩ := lft_bd HO.out.1 i hi
            obtain ⟨l3, l4⟩ := (HO.out.1.2.1 i hin).2.2
            have HS : Hid (lft f i + f (i * 3 + 2) = lft f (i + 1)) := rfl
            obtain ⟨lf, hlf⟩ : ∃ l, lft f i = l := ⟨_, rfl⟩
            rw [hlf] at l1 l2 HS ⊢
            have l5 : lf ≤ 100000 := by omega
            clear hlf hb l2
            go_wp2
            exact ⟨⟨i + 1, by omega, by rw [← HS.out], by go_num, bj⟩, by simp [intOf]; omega⟩
      · have hin' : ¬ (i : Int) < (n : Int) := by omega
        obtain rfl : i = n := by omega
        have HW : Hid (lft f i = lft f i) := rfl
        obtain ⟨lw, hlw⟩ : ∃ l, lft f i = l := ⟨_, rfl⟩
        have lw1 := lft_bd HO.out.1 i hi
        rw [hlw] at lw1
        have HLW : Hid (lft f i = lw) := hlw
        rw [hlw]
        clear hlw HW
        go_wp2_with fail
        go_loopw [12, 16] (fun s12 s16 wr => ∃ (k : Nat), k ≤ x.2.n ∧ s12 = .int .i64 (lft x.2.f k) ∧ s16 = .int .i64 (k : Int) ∧ Below w9.heap.size w9 wr) (fun _ s16 _ => x.2.n - (intOf s16).toNat)
        case atStart => exact ⟨0, Nat.zero_le _, rfl, rfl, bi⟩
        case round =>
          clear z3 z4 z5 z6 z7 z8
          obtain ⟨k, hk, rfl, rfl, bj⟩ := hrel
          obtain ⟨z6, z7, z8, -⟩ := (A6.below bj).open3
          obtain ⟨z3, z4, z5, -⟩ := (K2.below bj).bx.open3
          by_cases hkn : k < x.2.n
          · have hkn' : (k : Int) < (x.2.n : Int) := by omega
            obtain ⟨gb, rfl, Rb⟩ := (ark_ls (S9.below bj)).some hkn
            obtain ⟨b0, b1, b2⟩ := Sample.open Rb k hkn
            obtain ⟨l1, l2⟩ := lft_bd HL.out.1 k hk
            obtain ⟨l3, l4⟩ := (HL.out.1.2.1 k hkn).2.2
            have HS : Hid (lft x.2.f k + x.2.f (k * 3 + 2) = lft x.2.f (k + 1)) := rfl
            obtain ⟨lf, hlf⟩ : ∃ l, lft x.2.f k = l := ⟨_, rfl⟩
            rw [hlf] at l1 l2 HS ⊢
            have l5 : lf ≤ 100000 := by omega
            clear hlf l2
            go_wp2
            exact ⟨⟨k + 1, by omega, by rw [← HS.out], by go_num, bj⟩, by simp [intOf]; omega⟩
          · have hkn' : ¬ (k : Int) < (x.2.n : Int) := by omega
            obtain rfl : k = x.2.n := by omega
            obtain ⟨ln, hln⟩ : ∃ l, lft x.2.f x.2.n = l := ⟨_, rfl⟩
            have ln1 := lft_bd HL.out.1 x.2.n (Nat.le_refl _)
            rw [hln] at ln1
            have HLN : Hid (lft x.2.f x.2.n = ln) := hln
            rw [hln]
            clear hln
            go_wp2_with fail
            clear z3 z4 z5 z6 z7 z8
            go_loopw [17] (fun s17 wr => ∃ (c : Nat), c ≤ m ∧ s17 = .int .i64 (c : Int) ∧ Below w9.heap.size w9 wr) (fun s17 _ => m - (intOf s17).toNat)
            case atStart => exact ⟨0, Nat.zero_le _, rfl, bj⟩
            case round =>
              obtain ⟨c, hc, rfl, bb⟩ := hrel
              replace B3 := B3.trans (bb.mono B3.size)
              have K3 := K2.below bb
              have D3 := D2.below bb
              have A8 := A6.below bb
              have J3 := (J9.below bb).fit
              have bR := bb
              clear bb
              by_cases hcm : c < m
              · have hcm' : (c : Int) < (m : Int) := by omega
                have hcx : c < x.2.m := by have := HK.out.1; omega
                have hcx' : (c : Int) < (x.2.m : Int) := by omega
                obtain ⟨ga, rfl, Ra⟩ := (ark_ls K3.J).some hcm
                obtain ⟨gb, rfl, Rb⟩ := (ark_ls J3).some hcx
                obtain ⟨e0, e1, e2, e3⟩ := HK.out.2.2.1 c hcm
                obtain ⟨V1, hV1, A1, b1, -⟩ := boxed wr 39 #[.int .i64 (g (c * 4)), .int .i64 (g (c * 4 + 1)), .int .i64 (g (c * 4 + 2)), .int .i64 (g (c * 4 + 3))]
                obtain ⟨V2, hV2, A2, b2, -⟩ := boxed V1 39 #[.int .i64 (g (c * 4)), .int .i64 (g (c * 4 + 1)), .int .i64 (g (c * 4 + 2)), .int .i64 (x.2.g (c * 4 + 3))]
                obtain ⟨qa, hqa⟩ : ∃ q, wr.heap.size = q := ⟨_, rfl⟩
                obtain ⟨qb, hqb⟩ : ∃ q, V1.heap.size = q := ⟨_, rfl⟩
                obtain ⟨a0, a1, a2, a3⟩ := Job.open Ra c hcm
                obtain ⟨b0, b1', b2', b3⟩ := Job.open (((ark_ls (J3.below b1)).some hcx).elim (fun _ h => (by have := h.1; simp only [Option.some.injEq, Addr.mk.injEq, and_true] at this; exact this ▸ h.2)) : Recs 4 V1 gb x.2.m x.2.g) c hcx
                obtain ⟨z3, z4, z5, -⟩ := K3.bx.open3
                obtain ⟨z6, z7, z8, -⟩ := (A8.below b1).open3
                have A1' := A1.below b2
                rw [hqa] at A1'
                rw [hqb] at A2
                obtain ⟨c0, c1, c2, c3, -⟩ := Job.box A1'
                obtain ⟨d0, d1, d2, d3, -⟩ := Job.box A2
                rw [e0] at b0
                rw [e1] at b1'
                rw [e2] at b2'
                have bR2 := (bR.trans (b1.mono bR.size)).trans (b2.mono (by have := bR.size; have := b1.size; omega))
                clear e0 e1 e2
                by_cases h1 : g (c * 4 + 3) = 1
                · have h1' : (g (c * 4 + 3) == 1) = true := by simp [h1]
                  have h1'' : (g (c * 4 + 3) != 1) = false := by simp [h1]
                  clear e3 h1
                  go_wp2
                  exact ⟨⟨c + 1, by omega, by go_num, bR2⟩, by simp [intOf]; omega⟩
                · have h2 := e3 h1
                  have h1'' : (g (c * 4 + 3) != 1) = true := by simp [h1]
                  rw [h2] at b3 d3 hV2
                  clear e3 h1 h2
                  go_wp2
                  exact ⟨⟨c + 1, by omega, by go_num, bR2⟩, by simp [intOf]; omega⟩
              · have hcm' : ¬ (c : Int) < (m : Int) := by omega
                obtain ⟨z3, z4, z5, -⟩ := K3.bx.open3
                obtain ⟨z6, z7, z8, -⟩ := A8.open3
                obtain ⟨c4, c5, c6, c7, -⟩ := Deed.box D3
                have hT := told_le HO.out.2.1 m (Nat.le_refl _)
                rw [← HO.out.2.2] at hT
                have hT2 := told_le HL.out.2.1 x.2.m (Nat.le_refl _)
                rw [← HL.out.2.2] at hT2
                have hfin := HK.out.2.2.2
                rw [HLN.out, HLW.out] at hfin
                by_cases hk0 : k0 = 1
                · have hk0' : (k0 == 1) = true := by simp [hk0]
                  by_cases hx0 : x.1 = 0
                  · have hx0' : (x.1 == 0) = true := by simp [hx0]
                    rw [if_pos ⟨hk0, hx0⟩] at hfin
                    have hd := (told_dOk HX.out hx0).2.2.1 hk0
                    have hfin' : (x.2.T + (ln - k3) == T + lw) = true := by simp [hfin]
                    clear hk0 hx0 hfin
                    go_wp2
                    go_ret
                    exact ⟨rfl, B3⟩
                  · have hx0' : (x.1 == 0) = false := by simp [hx0]
                    rw [if_neg (fun h => hx0 h.2), Int.sub_zero] at hfin
                    have hfin' : (x.2.T + ln == T + lw) = true := by simp [hfin]
                    clear hk0 hx0 hfin
                    go_wp2
                    go_ret
                    exact ⟨rfl, B3⟩
                · have hk0' : (k0 == 1) = false := by simp [hk0]
                  rw [if_neg (fun h => hk0 h.1), Int.sub_zero] at hfin
                  have hfin' : (x.2.T + ln == T + lw) = true := by simp [hfin]
                  clear hk0 hfin
                  go_wp2
                  go_ret
                  exact ⟨rfl, B3⟩
end Go.Proofs.Ytnjnffemidaopaa
