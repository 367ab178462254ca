/-
  The specification's orbit under a group: walked.
-/
import Derived.Test.YtehbpcoiciodhaaGreatO3e
namespace Go.Proofs.YtehbpcoiciodhaaGreat
open Go.RowKit

/-- Where the operators take the point. -/
def orbP (A : Nat → OpD) (x y z : Int) (i : Nat) : T3 := tO (actV (A i).f (A i).h (p3 x y z))
/-- The point in its box. -/
def Cut5 (wr : World) (s0 s1 s2 : Int) (s7 : Value) (wc : World) : Prop := ∃ q, s7 = .pointer (some ⟨q, 0, none⟩) ∧ wr.heap.size ≤ q ∧ At 30 wc q #[.int .i64 s0, .int .i64 s1, .int .i64 s2] ∧ Below wr.heap.size wr wc
/-- What the specification's orbit tells. -/
def OrbP (w : World) (n : Nat) (P : Nat → T3) (e : Ending) (w' : World) : Prop := (∃ v m F, e = .returned v ∧ PtG w' w.heap.size v m F ∧ OrbI P n m F) ∧ Below w.heap.size w w'
theorem e3_cells {t : TypeId} {w : World} {q : Nat} {x : T3} (a : At t w q #[.int .i64 x.1, .int .i64 x.2.1, .int .i64 x.2.2]) : ∀ j u, (e3 x)[j]? = some u → w.cell? ((⟨q, 0, none⟩ : Addr).add j) = some u := fun j u h => cell3_new w q x a j u h
theorem iCells_e3 (F : Nat → T3) (m : Nat) (x : T3) : iCells (fl3 F) (m * 3) ++ e3 x = iCells (fl3 (fun t => if t = m then x else F t)) ((m + 1) * 3) := by
  refine iCells_ext (by simp [iCells_len, e3]; omega) (fun j hj => ?_)
  by_cases h : j < m * 3
  · rw [List.getElem?_append_left (by rw [iCells_len]; exact h), iCells_at _ h]
    exact congrArg some (congrArg (Value.int .i64) (fl3_congr (n := m) (fun t ht => by rw [if_neg (by omega)]) h))
  · rw [List.getElem?_append_right (by rw [iCells_len]; omega), iCells_len]
    show (e3 x)[j - m * 3]? = some (.int .i64 (t3f (if j / 3 = m then x else F (j / 3)) (j % 3)))
    rw [if_pos (show j / 3 = m by omega)]
    rcases (by omega : j = m * 3 ∨ j = m * 3 + 1 ∨ j = m * 3 + 2) with rfl | rfl | rfl
    · rw [show m * 3 - m * 3 = 0 by omega, show m * 3 % 3 = 0 by omega]; rfl
    · rw [show m * 3 + 1 - m * 3 = 1 by omega, show (m * 3 + 1) % 3 = 1 by omega]; rfl
    · rw [show m * 3 + 2 - m * 3 = 2 by omega, show (m * 3 + 2) % 3 = 2 by omega]; rfl
set_option maxRecDepth 100000 in
set_option maxHeartbeats 4000000 in
theorem l5Orbit_any {w : World} {g n c : Nat} {A : Nat → OpD} {x y z : Int} (hL : OpsL w g n A) (hn : n ≤ 192) (hA : ∀ i, i < n → (A i).ok) (hp : inP x y z) :
    Calls Tryz.prog 35 #[.slice (some ⟨g, 0, none⟩) n c, pV x y z] w (OrbP w n (orbP A x y z)) := by
  have hbs : ∀ w, (Instr.buildSlice 26 0 #[]).run Tryz.prog w = .ok (.slice (some ⟨w.heap.size, 0, none⟩) 0 0) (w.alloc (.cells #[] 30)) := fun _ => by kernel_rfl
  obtain ⟨i0, hi0, hz0, hz1, hz2⟩ := info_parts infoPoint
  have hn' : (n : Int) ≤ 192 := by omega
  obtain ⟨W1, hW1, A1, B1, -⟩ := boxed w 30 #[.int .i64 x, .int .i64 y, .int .i64 z]
  obtain ⟨q1, hq1⟩ : ∃ q, w.heap.size = q := ⟨_, rfl⟩
  rw [hq1] at A1
  obtain ⟨W2, hW2, a2, B2, -⟩ := boxed W1 30 #[]
  obtain ⟨p2, hp2⟩ : ∃ q, W1.heap.size = q := ⟨_, rfl⟩
  have o2 : Hid (PtG W2 w.heap.size (.slice (some ⟨p2, 0, none⟩) 0 0) 0 (fun _ => (0, 0, 0))) := hid_of (ptG_of (cur := #[]) (hp2 ▸ a2) rfl (Nat.le_refl _) (Nat.zero_le _) (by rw [← hp2]; exact B1.size) (fun t ht => by omega))
  have A2 := A1.below B2
  have B := B1.trans (B2.mono B1.size)
  have hq2 : Hid (q1 < p2 ∧ w.heap.size ≤ q1) := ⟨by rw [← hp2]; exact A1.lt, by omega⟩
  have HL : Hid (OpsL w g n A) := hL
  have HI0 : Hid (OrbI (orbP A x y z) 0 0 (fun _ => (0, 0, 0))) := OrbI.start _ _
  have HA := hid_of hA
  have HP := hid_of hp
  clear hL hA hp A1 a2 B1 B2
  unfold pV
  go_enter Tryz.func35, Tryz.ntmps35
  go_wp2_with fail
  try rw [hp2]
  clear hW1 hW2 hq1 hp2
  go_loopw [5, 6] (fun v s wr => ∃ (i m : Nat) (F : Nat → T3), i ≤ n ∧ s = .int .i64 (i : Int) ∧ Hid (PtG wr w.heap.size v m F) ∧ Hid (v.ownBlock ≠ some q1) ∧ Hid (OrbI (orbP A x y z) i m F) ∧ At 30 wr q1 #[.int .i64 x, .int .i64 y, .int .i64 z] ∧ Below w.heap.size w wr) (fun _ s _ => n - (intOf s).toNat)
  case atStart => exact ⟨0, 0, _, Nat.zero_le _, rfl, o2, (fun e => by simp only [Value.ownBlock, Option.some.injEq] at e; have := hq2.out.1; omega), HI0, A2, B⟩
  case round =>
    clear o2 HI0 A2 B hq2
    obtain ⟨i, m, F, hi, rfl, own, hne, HI, A2, B⟩ := hrel
    by_cases hlt : i < n
    rotate_left
    · obtain rfl : i = n := by omega
      have hlt' : ¬ (i : Int) < (i : Int) := by omega
      go_wp2
      go_ret
      exact ⟨⟨_, m, F, rfl, own.out, HI.out⟩, B⟩
    have hlt' : (i : Int) < (n : Int) := by omega
    have ok := HA.out i hlt
    have hLr := HL.out.below B
    obtain ⟨a1, c1, b1, d1, f1, f2, s1, s2⟩ := hLr.2 i hlt
    obtain ⟨k1, k2, k3⟩ := ok
    rw [k1] at f1 s1
    rw [k2] at f2 s2
    rcases s1 with s1 | ⟨bm, om, rfl, lm, Im⟩
    · omega
    rcases s2 with s2 | ⟨bt, ot, rfl, lt, It⟩
    · omega
    have CLi : Hid (∀ wq, Kb wr wq → wq.cell? ⟨g, i * 2, none⟩ = some (.slice (some ⟨bm, om, none⟩) 9 c1) ∧ wq.cell? ⟨g, i * 2 + 1, none⟩ = some (.slice (some ⟨bt, ot, none⟩) 3 d1)) := fun wq hq => ⟨(hq.cell (p := ⟨g, i * 2, none⟩) hLr.1).trans f1, (hq.cell (p := ⟨g, i * 2 + 1, none⟩) hLr.1).trans f2⟩
    have CP : Hid (∀ wq, Kb wr wq → Calls Tryz.prog 67 #[.agg #[.slice (some ⟨bm, om, none⟩) 9 c1, .slice (some ⟨bt, ot, none⟩) 3 d1], pV x y z] wq fun e w' => e = .returned (.agg (vA (actV (A i).f (A i).h (p3 x y z)))) ∧ Below wq.heap.size wq w') := fun wq hq => l5Act_any c1 d1 (Im.below lm hq) (It.below lt hq) (Nat.lt_of_lt_of_le lm hq.size) (Nat.lt_of_lt_of_le lt hq.size) k3 HP.out
    have HPi : Hid (orbP A x y z i = tO (actV (A i).f (A i).h (p3 x y z))) := rfl
    unfold vA at CP
    generalize actV (A i).f (A i).h (p3 x y z) = av at CP HPi
    obtain ⟨s0, hs0⟩ : ∃ s, av 0 = s := ⟨_, rfl⟩
    obtain ⟨s1, hs1⟩ : ∃ s, av 1 = s := ⟨_, rfl⟩
    obtain ⟨s2, hs2⟩ : ∃ s, av 2 = s := ⟨_, rfl⟩
    have HQ : Hid (orbP A x y z i = (s0, s1, s2)) := by
      show orbP A x y z i = (s0, s1, s2)
      rw [HPi.out, ← hs0, ← hs1, ← hs2]; rfl
    rw [hs0, hs1, hs2] at CP
    have hmi := HI.out.le
    have HB := hid_of B
    have HA2 := hid_of A2
    clear hs0 hs1 hs2 HPi f1 f2 Im It lm lt hLr k1 k2 k3 B A2
    unfold pV at CP
    go_wp2_with fail
    go_cut [7] from 17 to 23 (fun s7 wc => Cut5 wr s0 s1 s2 s7 wc)
    case first =>
      obtain ⟨u0, hu0, bb⟩ : ∃ uu, wr.drew = uu ∧ Below wr.heap.size wr uu := ⟨_, rfl, (Below.refl _ _).drew⟩
      have bk0 : Kb wr u0 := bb
      clear bb
      refine wp_region_held_drew (S := Kb u0) (by kernel_rfl) (by rw [hu0]; exact Below.refl _ _) (fun hHeld => ?_)
      rw [hu0] at hHeld ⊢
      clear hu0
      have bu : Kb u0 u0 := Below.refl _ _
      change wpAnyH _ _ _ _ _ 8 #[false, false, false, false, false, false, false, false] _ _
      refine wpAnyH_take (i := 0) (v := .slice ((some ⟨g, 0, none⟩)) n c) rfl (by kernel_rfl) (by kernel_rfl) (by kernel_rfl) (fun _ _ _ h => h) (Or.inl ⟨by kernel_rfl, ?_⟩) hHeld ?_
      · intro w' hSw; go_simp
      try simp only [Act.put, List.setIfInBounds_toArray, List.set_cons_zero, List.set_cons_succ, List.getElem_toArray, List.getElem_cons_zero]
      refine wpAnyH_take (i := 1) (v := .int .i64 ((i : Int))) rfl (by kernel_rfl) (by kernel_rfl) (by kernel_rfl) (fun _ _ _ h => h) (Or.inl ⟨by kernel_rfl, ?_⟩) hHeld ?_
      · intro w' hSw; go_simp
      try simp only [Act.put, List.setIfInBounds_toArray, List.set_cons_zero, List.set_cons_succ, List.getElem_toArray, List.getElem_cons_succ, List.getElem_cons_zero]
      refine wpAnyH_take (i := 2) (v := .pointer (some ⟨g, i * 2, none⟩)) rfl (by kernel_rfl) (by kernel_rfl) (by kernel_rfl) (fun _ _ _ h => h) (Or.inl ⟨by kernel_rfl, ?_⟩) hHeld ?_
      · intro w' hSw; go_simp
      try simp only [Act.put, List.setIfInBounds_toArray, List.set_cons_zero, List.set_cons_succ, List.getElem_toArray, List.getElem_cons_succ, List.getElem_cons_zero]
      refine wpAnyH_take (i := 3) (v := .agg #[.slice (some ⟨bm, om, none⟩) 9 c1, .slice (some ⟨bt, ot, none⟩) 3 d1]) rfl (by kernel_rfl) (by kernel_rfl) (by kernel_rfl) (fun _ _ _ h => h) (Or.inl ⟨by kernel_rfl, ?_⟩) hHeld ?_
      · intro w' hSw; obtain ⟨z0, z1⟩ := CLi.out _ (bk0.trans (Below.mono hSw bk0.size)); go_simp
      try simp only [Act.put, List.setIfInBounds_toArray, List.set_cons_zero, List.set_cons_succ, List.getElem_toArray, List.getElem_cons_succ, List.getElem_cons_zero]
      refine wpAnyH_take (i := 4) (v := .agg #[.int .i64 x, .int .i64 y, .int .i64 z]) rfl (by kernel_rfl) (by kernel_rfl) (by kernel_rfl) (fun _ _ _ h => h) (Or.inl ⟨by kernel_rfl, ?_⟩) hHeld ?_
      · intro w' hSw; obtain ⟨z0, z1, z2, -⟩ := (HA2.out.below (bk0.trans (Below.mono hSw bk0.size))).open3; go_simp
      try simp only [Act.put, List.setIfInBounds_toArray, List.set_cons_zero, List.set_cons_succ, List.getElem_toArray, List.getElem_cons_succ, List.getElem_cons_zero]
      refine wpAnyH_ready (rs := [5, 6]) (by kernel_rfl) (by simp) ?_
      refine AllReadyH.cons rfl (fun KK hK' => ?_) (AllReadyH.cons rfl (fun KK hK' => ?_) AllReadyH.nil)
      · go_simp
        refine (CP.out _ (bk0.trans (Below.mono bu bk0.size))).mono ?_
        rintro e u1 ⟨rfl, bb⟩
        replace bu : Kb u0 u1 := bu.trans (bb.mono bu.size)
        clear bb
        try go_wp2_with fail
        clear hHeld
        refine hK'.out _ _ (bu) (fun hHeld => ?_)
        clear hK' KK
        try simp only [List.setIfInBounds_toArray, List.set_cons_zero, List.set_cons_succ]
        refine wpAnyH_ready (rs := [6]) (by kernel_rfl) (by simp) ?_
        refine AllReadyH.cons rfl (fun KK hK' => ?_) AllReadyH.nil
        go_simp
        obtain ⟨u2, h6, G6, bb, -⟩ := boxed u1 30 #[.int .i64 0, .int .i64 0, .int .i64 0]
        rw [h6]
        clear h6
        obtain ⟨g6, hg6⟩ : ∃ q, u1.heap.size = q := ⟨_, rfl⟩
        rw [hg6] at G6 ⊢
        have hgu : u0.heap.size ≤ g6 := by have := bu.size; omega
        clear hg6
        replace bu : Kb u0 u2 := bu.trans (bb.mono bu.size)
        clear bb
        clear hHeld
        refine hK'.out _ _ (bu) (fun hHeld => ?_)
        clear hK' KK
        try simp only [List.setIfInBounds_toArray, List.set_cons_zero, List.set_cons_succ]
        refine wpAnyH_ready (rs := [7]) (by kernel_rfl) (by simp) ?_
        refine AllReadyH.cons rfl (fun KK hK' => ?_) AllReadyH.nil
        obtain ⟨y0, y1, y2, y3, y4, y5⟩ := G6.open3
        go_simp
        have G7 := put3c_at G6 (.int .i64 s0) (.int .i64 s1) (.int .i64 s2)
        replace bu : Kb u0 (((u2.setCell ⟨g6, 0, none⟩ (.int .i64 s0)).setCell ⟨g6, 1, none⟩ (.int .i64 s1)).setCell ⟨g6, 2, none⟩ (.int .i64 s2)) := ((bu.setCell hgu _).setCell hgu _).setCell hgu _
        obtain ⟨u3, hv⟩ : ∃ V, ((u2.setCell ⟨g6, 0, none⟩ (.int .i64 s0)).setCell ⟨g6, 1, none⟩ (.int .i64 s1)).setCell ⟨g6, 2, none⟩ (.int .i64 s2) = V := ⟨_, rfl⟩
        rw [hv] at G7 bu ⊢
        clear hv G6 y0 y1 y2 y3 y4 y5
        clear hHeld
        refine hK'.out _ _ (bu) (fun hHeld => ?_)
        clear hK' KK
        try simp only [List.setIfInBounds_toArray, List.set_cons_zero, List.set_cons_succ]
        refine wpAnyH_done (by kernel_rfl) ?_ _
        clear hHeld
        have bz := bk0.trans (Below.mono bu bk0.size)
        have hg7 : wr.heap.size ≤ g6 := by have := bk0.size; omega
        go_wp2_with fail
        go_meet
        case rel => exact ⟨g6, rfl, hg7, G7, bz⟩
      · go_simp
        obtain ⟨u1, h6, G6, bb, -⟩ := boxed u0 30 #[.int .i64 0, .int .i64 0, .int .i64 0]
        rw [h6]
        clear h6
        obtain ⟨g6, hg6⟩ : ∃ q, u0.heap.size = q := ⟨_, rfl⟩
        rw [hg6] at G6 ⊢
        have hgu : u0.heap.size ≤ g6 := by have := bu.size; omega
        clear hg6
        replace bu : Kb u0 u1 := bu.trans (bb.mono bu.size)
        clear bb
        clear hHeld
        refine hK'.out _ _ (bu) (fun hHeld => ?_)
        clear hK' KK
        try simp only [List.setIfInBounds_toArray, List.set_cons_zero, List.set_cons_succ]
        refine wpAnyH_ready (rs := [5]) (by kernel_rfl) (by simp) ?_
        refine AllReadyH.cons rfl (fun KK hK' => ?_) AllReadyH.nil
        go_simp
        refine (CP.out _ (bk0.trans (Below.mono bu bk0.size))).mono ?_
        rintro e u2 ⟨rfl, bb⟩
        replace G6 := G6.below bb
        replace bu : Kb u0 u2 := bu.trans (bb.mono bu.size)
        clear bb
        try go_wp2_with fail
        clear hHeld
        refine hK'.out _ _ (bu) (fun hHeld => ?_)
        clear hK' KK
        try simp only [List.setIfInBounds_toArray, List.set_cons_zero, List.set_cons_succ]
        refine wpAnyH_ready (rs := [7]) (by kernel_rfl) (by simp) ?_
        refine AllReadyH.cons rfl (fun KK hK' => ?_) AllReadyH.nil
        obtain ⟨y0, y1, y2, y3, y4, y5⟩ := G6.open3
        go_simp
        have G7 := put3c_at G6 (.int .i64 s0) (.int .i64 s1) (.int .i64 s2)
        replace bu : Kb u0 (((u2.setCell ⟨g6, 0, none⟩ (.int .i64 s0)).setCell ⟨g6, 1, none⟩ (.int .i64 s1)).setCell ⟨g6, 2, none⟩ (.int .i64 s2)) := ((bu.setCell hgu _).setCell hgu _).setCell hgu _
        obtain ⟨u3, hv⟩ : ∃ V, ((u2.setCell ⟨g6, 0, none⟩ (.int .i64 s0)).setCell ⟨g6, 1, none⟩ (.int .i64 s1)).setCell ⟨g6, 2, none⟩ (.int .i64 s2) = V := ⟨_, rfl⟩
        rw [hv] at G7 bu ⊢
        clear hv G6 y0 y1 y2 y3 y4 y5
        clear hHeld
        refine hK'.out _ _ (bu) (fun hHeld => ?_)
        clear hK' KK
        try simp only [List.setIfInBounds_toArray, List.set_cons_zero, List.set_cons_succ]
        refine wpAnyH_done (by kernel_rfl) ?_ _
        clear hHeld
        have bz := bk0.trans (Below.mono bu bk0.size)
        have hg7 : wr.heap.size ≤ g6 := by have := bk0.size; omega
        go_wp2_with fail
        go_meet
        case rel => exact ⟨g6, rfl, hg7, G7, bz⟩
    case rest =>
      obtain ⟨q7, rfl, hq7, Q7, b7⟩ := hcut
      rename World => w6
      have own7 := hid_of (own.out.below b7)
      have HA7 := hid_of (HA2.out.below b7)
      have HB7 := hid_of (HB.out.trans (b7.mono HB.out.size))

      obtain ⟨go, co, cu0, ev, hlo, ao, -, hmo, hcm, -⟩ := own.out.open
      have hgq : go < q7 := by have := ao.lt; omega
      have hq1q : q1 < q7 := by have := HA2.out.lt; omega
      subst ev
      have hne1 : go ≠ q1 := fun e => hne.out (by rw [e]; rfl)
      have HQ7 := hid_of Q7
      clear own CP CLi HA2 HB b7 hq7 ao Q7 hne
      have hm' : (m : Int) ≤ 192 := by omega
      have hlo' : w.heap.size ≤ go := hlo
      have HLO0 : Hid (∀ t, t < 0 → c3 (F t) (s0, s1, s2) < 0) := fun t ht => absurd ht (Nat.not_lt_zero _)
      go_wp2_with fail
      go_loopw [8] (fun s8 wl => ∃ j : Nat, j ≤ m ∧ s8 = .int .i64 (j : Int) ∧ Hid (∀ t, t < j → c3 (F t) (s0, s1, s2) < 0) ∧ Hid (Below w6.heap.size w6 wl)) (fun s8 _ => m - (intOf s8).toNat)
      case atStart => exact ⟨0, Nat.zero_le _, rfl, HLO0, Below.refl _ _⟩
      case round =>
        clear HLO0
        obtain ⟨j, hj, rfl, HLO, HBL⟩ := hrel
        obtain ⟨a0, a1, a2, hFj⟩ : ∃ a0 a1 a2, F j = (a0, a1, a2) := ⟨_, _, _, rfl⟩
        have HFJ := hid_of hFj
        have CLa : Hid (∀ wq, Kb wr wq → j < m → wq.cell? ⟨go, j * 3, none⟩ = some (.int .i64 a0) ∧ wq.cell? ⟨go, j * 3 + 1, none⟩ = some (.int .i64 a1) ∧ wq.cell? ⟨go, j * 3 + 2, none⟩ = some (.int .i64 a2)) := fun wq hq hjm => by
          obtain ⟨g', c', cur, e', -, a, -, -, -, hH⟩ := (own7.out.below HBL.out).open
          cases e'
          have h3 := h3_cells (a.below hq) (hH j hjm)
          rw [HFJ.out] at h3
          exact h3
        have CLq : Hid (∀ wq, Kb wr wq → At 30 wq q7 #[.int .i64 s0, .int .i64 s1, .int .i64 s2]) := fun wq hq => (HQ7.out.below HBL.out).below hq
        obtain ⟨D, hD⟩ : ∃ D : Bool, D = true ↔ c3 (a0, a1, a2) (s0, s1, s2) < 0 := ⟨decide (c3 (a0, a1, a2) (s0, s1, s2) < 0), decide_eq_true_iff⟩
        have HD := hid_of hD
        obtain ⟨D2, hD2⟩ : ∃ D2 : Bool, D2 = true ↔ (j < m ∧ D = true) := ⟨decide (j < m ∧ D = true), decide_eq_true_iff⟩
        have HD2 := hid_of hD2
        clear hFj hD hD2
        go_wp2_with fail
        go_cut [34] from 23 to 34 (fun s34 wc => s34 = .bool D2 ∧ Hid (Below wr.heap.size wr wc))
        case first =>
          by_cases hjm : j < m
          · have hjm' : (j : Int) < (m : Int) := by omega
            obtain rfl : D2 = D := Bool.eq_iff_iff.2 (HD2.out.trans ⟨fun h => h.2, fun h => ⟨hjm, h⟩⟩)
            have CLb := hid_of (fun wq hq => CLa.out wq hq hjm)
            clear HD2 CLa
            obtain ⟨u0, hu0, bb⟩ : ∃ uu, wr.drew = uu ∧ Below wr.heap.size wr uu := ⟨_, rfl, (Below.refl _ _).drew⟩
            have bk0 : Kb wr u0 := bb
            clear bb
            refine wp_region_held_drew (S := Kb u0) (by kernel_rfl) (by rw [hu0]; exact Below.refl _ _) (fun hHeld => ?_)
            rw [hu0] at hHeld ⊢
            clear hu0
            have bu : Kb u0 u0 := Below.refl _ _
            change wpAnyH _ _ _ _ _ 12 #[false, false, false, false, false, false, false, false, false, false, false, false] _ _
            refine wpAnyH_take (i := 0) (v := .int .i64 ((j : Int))) rfl (by kernel_rfl) (by kernel_rfl) (by kernel_rfl) (fun _ _ _ h => h) (Or.inl ⟨by kernel_rfl, ?_⟩) hHeld ?_
            · intro w' hSw; go_simp
            try simp only [Act.put, List.setIfInBounds_toArray, List.set_cons_zero, List.set_cons_succ, List.getElem_toArray, List.getElem_cons_zero]
            refine wpAnyH_take (i := 1) (v := .slice ((some ⟨go, 0, none⟩)) m co) rfl (by kernel_rfl) (by kernel_rfl) (by kernel_rfl) (fun _ _ _ h => h) (Or.inl ⟨by kernel_rfl, ?_⟩) hHeld ?_
            · intro w' hSw; go_simp
            try simp only [Act.put, List.setIfInBounds_toArray, List.set_cons_zero, List.set_cons_succ, List.getElem_toArray, List.getElem_cons_succ, List.getElem_cons_zero]
            refine wpAnyH_take (i := 2) (v := .int .i64 ((m : Int))) rfl (by kernel_rfl) (by kernel_rfl) (by kernel_rfl) (fun _ _ _ h => h) (Or.inl ⟨by kernel_rfl, ?_⟩) hHeld ?_
            · intro w' hSw; go_simp
            try simp only [Act.put, List.setIfInBounds_toArray, List.set_cons_zero, List.set_cons_succ, List.getElem_toArray, List.getElem_cons_succ, List.getElem_cons_zero]
            refine wpAnyH_take (i := 3) (v := .bool true) rfl (by kernel_rfl) (by kernel_rfl) (by kernel_rfl) (fun _ _ _ h => h) (Or.inl ⟨by kernel_rfl, ?_⟩) hHeld ?_
            · intro w' hSw; go_simp
            try simp only [Act.put, List.setIfInBounds_toArray, List.set_cons_zero, List.set_cons_succ, List.getElem_toArray, List.getElem_cons_succ, List.getElem_cons_zero]
            refine wpAnyH_take (i := 4) (v := .bool true) rfl (by kernel_rfl) (by kernel_rfl) (by kernel_rfl) (fun _ _ _ h => h) (Or.inl ⟨by kernel_rfl, ?_⟩) hHeld ?_
            · intro w' hSw; go_simp
            try simp only [Act.put, List.setIfInBounds_toArray, List.set_cons_zero, List.set_cons_succ, List.getElem_toArray, List.getElem_cons_succ, List.getElem_cons_zero]
            refine wpAnyH_take (i := 5) (v := .slice ((some ⟨go, 0, none⟩)) m co) rfl (by kernel_rfl) (by kernel_rfl) (by kernel_rfl) (fun _ _ _ h => h) (Or.inl ⟨by kernel_rfl, ?_⟩) hHeld ?_
            · intro w' hSw; go_simp
            try simp only [Act.put, List.setIfInBounds_toArray, List.set_cons_zero, List.set_cons_succ, List.getElem_toArray, List.getElem_cons_succ, List.getElem_cons_zero]
            refine wpAnyH_take (i := 6) (v := .int .i64 ((j : Int))) rfl (by kernel_rfl) (by kernel_rfl) (by kernel_rfl) (fun _ _ _ h => h) (Or.inl ⟨by kernel_rfl, ?_⟩) hHeld ?_
            · intro w' hSw; go_simp
            try simp only [Act.put, List.setIfInBounds_toArray, List.set_cons_zero, List.set_cons_succ, List.getElem_toArray, List.getElem_cons_succ, List.getElem_cons_zero]
            refine wpAnyH_take (i := 7) (v := .pointer (some ⟨go, j * 3, none⟩)) rfl (by kernel_rfl) (by kernel_rfl) (by kernel_rfl) (fun _ _ _ h => h) (Or.inl ⟨by kernel_rfl, ?_⟩) hHeld ?_
            · intro w' hSw; go_simp
            try simp only [Act.put, List.setIfInBounds_toArray, List.set_cons_zero, List.set_cons_succ, List.getElem_toArray, List.getElem_cons_succ, List.getElem_cons_zero]
            refine wpAnyH_take (i := 8) (v := .agg #[.int .i64 a0, .int .i64 a1, .int .i64 a2]) rfl (by kernel_rfl) (by kernel_rfl) (by kernel_rfl) (fun _ _ _ h => h) (Or.inl ⟨by kernel_rfl, ?_⟩) hHeld ?_
            · intro w' hSw; obtain ⟨z0, z1, z2⟩ := CLb.out _ (bk0.trans (Below.mono hSw bk0.size)); go_simp
            try simp only [Act.put, List.setIfInBounds_toArray, List.set_cons_zero, List.set_cons_succ, List.getElem_toArray, List.getElem_cons_succ, List.getElem_cons_zero]
            refine wpAnyH_take (i := 9) (v := .agg #[.int .i64 s0, .int .i64 s1, .int .i64 s2]) rfl (by kernel_rfl) (by kernel_rfl) (by kernel_rfl) (fun _ _ _ h => h) (Or.inl ⟨by kernel_rfl, ?_⟩) hHeld ?_
            · intro w' hSw; obtain ⟨z0, z1, z2, -⟩ := (CLq.out _ (bk0.trans (Below.mono hSw bk0.size))).open3; go_simp
            try simp only [Act.put, List.setIfInBounds_toArray, List.set_cons_zero, List.set_cons_succ, List.getElem_toArray, List.getElem_cons_succ, List.getElem_cons_zero]
            refine wpAnyH_ready (rs := [10]) (by kernel_rfl) (by simp) ?_
            refine AllReadyH.cons rfl (fun KK hK' => ?_) AllReadyH.nil
            go_simp
            refine (less_any (a0, a1, a2) (s0, s1, s2) _ D2 HD).mono ?_
            rintro e u1 ⟨rfl, bb⟩
            replace bu : Kb u0 u1 := bu.trans (bb.mono bu.size)
            clear bb
            try go_wp2_with fail
            clear hHeld
            refine hK'.out _ _ (bu) (fun hHeld => ?_)
            clear hK' KK
            try simp only [List.setIfInBounds_toArray, List.set_cons_zero, List.set_cons_succ]
            refine wpAnyH_take (i := 11) (v := .bool D2) rfl (by kernel_rfl) (by kernel_rfl) (by kernel_rfl) (fun _ _ _ h => h) (Or.inl ⟨by kernel_rfl, ?_⟩) hHeld ?_
            · intro w' hSw; go_simp
            try simp only [Act.put, List.setIfInBounds_toArray, List.set_cons_zero, List.set_cons_succ, List.getElem_toArray, List.getElem_cons_succ, List.getElem_cons_zero]
            refine wpAnyH_done (by kernel_rfl) ?_ _
            clear hHeld
            have bz := hid_of (bk0.trans (Below.mono bu bk0.size))
            go_wp2_with fail
            go_meet
            case rel => exact ⟨rfl, bz⟩
          · have hjm' : ¬ (j : Int) < (m : Int) := by omega
            obtain rfl : D2 = false := by
              have := HD2.out
              cases D2
              · rfl
              · exact absurd (this.1 rfl).1 hjm
            clear HD2 CLa
            obtain ⟨u0, hu0, bb⟩ : ∃ uu, wr.drew = uu ∧ Below wr.heap.size wr uu := ⟨_, rfl, (Below.refl _ _).drew⟩
            have bk0 : Kb wr u0 := bb
            clear bb
            refine wp_region_held_drew (S := Kb u0) (by kernel_rfl) (by rw [hu0]; exact Below.refl _ _) (fun hHeld => ?_)
            rw [hu0] at hHeld ⊢
            clear hu0
            have bu : Kb u0 u0 := Below.refl _ _
            change wpAnyH _ _ _ _ _ 12 #[false, false, false, false, false, false, false, false, false, false, false, false] _ _
            refine wpAnyH_take (i := 0) (v := .int .i64 ((j : Int))) rfl (by kernel_rfl) (by kernel_rfl) (by kernel_rfl) (fun _ _ _ h => h) (Or.inl ⟨by kernel_rfl, ?_⟩) hHeld ?_
            · intro w' hSw; go_simp
            try simp only [Act.put, List.setIfInBounds_toArray, List.set_cons_zero, List.set_cons_succ, List.getElem_toArray, List.getElem_cons_zero]
            refine wpAnyH_take (i := 1) (v := .slice ((some ⟨go, 0, none⟩)) m co) rfl (by kernel_rfl) (by kernel_rfl) (by kernel_rfl) (fun _ _ _ h => h) (Or.inl ⟨by kernel_rfl, ?_⟩) hHeld ?_
            · intro w' hSw; go_simp
            try simp only [Act.put, List.setIfInBounds_toArray, List.set_cons_zero, List.set_cons_succ, List.getElem_toArray, List.getElem_cons_succ, List.getElem_cons_zero]
            refine wpAnyH_take (i := 2) (v := .int .i64 ((m : Int))) rfl (by kernel_rfl) (by kernel_rfl) (by kernel_rfl) (fun _ _ _ h => h) (Or.inl ⟨by kernel_rfl, ?_⟩) hHeld ?_
            · intro w' hSw; go_simp
            try simp only [Act.put, List.setIfInBounds_toArray, List.set_cons_zero, List.set_cons_succ, List.getElem_toArray, List.getElem_cons_succ, List.getElem_cons_zero]
            refine wpAnyH_take (i := 3) (v := .bool false) rfl (by kernel_rfl) (by kernel_rfl) (by kernel_rfl) (fun _ _ _ h => h) (Or.inl ⟨by kernel_rfl, ?_⟩) hHeld ?_
            · intro w' hSw; go_simp
            try simp only [Act.put, List.setIfInBounds_toArray, List.set_cons_zero, List.set_cons_succ, List.getElem_toArray, List.getElem_cons_succ, List.getElem_cons_zero]
            refine wpAnyH_take (i := 4) (v := .bool false) rfl (by kernel_rfl) (by kernel_rfl) (by kernel_rfl) (fun _ _ _ h => h) (Or.inl ⟨by kernel_rfl, ?_⟩) hHeld ?_
            · intro w' hSw; go_simp
            try simp only [Act.put, List.setIfInBounds_toArray, List.set_cons_zero, List.set_cons_succ, List.getElem_toArray, List.getElem_cons_succ, List.getElem_cons_zero]
            refine wpAnyH_take (i := 5) (v := undef) rfl (by kernel_rfl) (by kernel_rfl) (by kernel_rfl) (fun _ _ _ h => h) (Or.inr ⟨by kernel_rfl, rfl⟩) hHeld ?_
            try simp only [Act.put, List.setIfInBounds_toArray, List.set_cons_zero, List.set_cons_succ, List.getElem_toArray, List.getElem_cons_succ, List.getElem_cons_zero]
            refine wpAnyH_take (i := 6) (v := undef) rfl (by kernel_rfl) (by kernel_rfl) (by kernel_rfl) (fun _ _ _ h => h) (Or.inr ⟨by kernel_rfl, rfl⟩) hHeld ?_
            try simp only [Act.put, List.setIfInBounds_toArray, List.set_cons_zero, List.set_cons_succ, List.getElem_toArray, List.getElem_cons_succ, List.getElem_cons_zero]
            refine wpAnyH_take (i := 7) (v := undef) rfl (by kernel_rfl) (by kernel_rfl) (by kernel_rfl) (fun _ _ _ h => h) (Or.inr ⟨by kernel_rfl, rfl⟩) hHeld ?_
            try simp only [Act.put, List.setIfInBounds_toArray, List.set_cons_zero, List.set_cons_succ, List.getElem_toArray, List.getElem_cons_succ, List.getElem_cons_zero]
            refine wpAnyH_take (i := 8) (v := undef) rfl (by kernel_rfl) (by kernel_rfl) (by kernel_rfl) (fun _ _ _ h => h) (Or.inr ⟨by kernel_rfl, rfl⟩) hHeld ?_
            try simp only [Act.put, List.setIfInBounds_toArray, List.set_cons_zero, List.set_cons_succ, List.getElem_toArray, List.getElem_cons_succ, List.getElem_cons_zero]
            refine wpAnyH_take (i := 9) (v := undef) rfl (by kernel_rfl) (by kernel_rfl) (by kernel_rfl) (fun _ _ _ h => h) (Or.inr ⟨by kernel_rfl, rfl⟩) hHeld ?_
            try simp only [Act.put, List.setIfInBounds_toArray, List.set_cons_zero, List.set_cons_succ, List.getElem_toArray, List.getElem_cons_succ, List.getElem_cons_zero]
            refine wpAnyH_take (i := 10) (v := undef) rfl (by kernel_rfl) (by kernel_rfl) (by kernel_rfl) (fun _ _ _ h => h) (Or.inr ⟨by kernel_rfl, rfl⟩) hHeld ?_
            try simp only [Act.put, List.setIfInBounds_toArray, List.set_cons_zero, List.set_cons_succ, List.getElem_toArray, List.getElem_cons_succ, List.getElem_cons_zero]
            refine wpAnyH_take (i := 11) (v := .bool false) rfl (by kernel_rfl) (by kernel_rfl) (by kernel_rfl) (fun _ _ _ h => h) (Or.inl ⟨by kernel_rfl, ?_⟩) hHeld ?_
            · intro w' hSw; go_simp
            try simp only [Act.put, List.setIfInBounds_toArray, List.set_cons_zero, List.set_cons_succ, List.getElem_toArray, List.getElem_cons_succ, List.getElem_cons_zero]
            refine wpAnyH_done (by kernel_rfl) ?_ _
            clear hHeld
            have bz := hid_of (bk0.trans (Below.mono bu bk0.size))
            go_wp2_with fail
            go_meet
            case rel => exact ⟨rfl, bz⟩
        case rest =>
          obtain ⟨rfl, HW7⟩ := hcut
          rename World => w7
          cases D2
          rotate_left
          · have hjm : j < m := (HD2.out.1 rfl).1
            have HLO2 : Hid (∀ t, t < j + 1 → c3 (F t) (s0, s1, s2) < 0) := fun t ht => by
              by_cases e : t = j
              · rw [e, HFJ.out]; exact HD.out.1 (HD2.out.1 rfl).2
              · exact HLO.out t (by omega)
            have HBL2 := hid_of (HBL.out.trans (HW7.out.mono HBL.out.size))
            clear HLO HBL HW7 CLa CLq HFJ HD HD2
            go_wp2
            exact ⟨⟨j + 1, by omega, by go_num, HLO2, HBL2⟩, by simp [intOf]; omega⟩
          have HNL : Hid (j < m → ¬ c3 (F j) (s0, s1, s2) < 0) := fun hjm h => by
            rw [HFJ.out] at h
            exact absurd (HD2.out.2 ⟨hjm, HD.out.2 h⟩) (by decide)
          have HBL2 := hid_of (HBL.out.trans (HW7.out.mono HBL.out.size))
          obtain ⟨E, hE⟩ : ∃ E : Bool, E = true ↔ (j < m ∧ F j = (s0, s1, s2)) := ⟨decide (j < m ∧ F j = (s0, s1, s2)), decide_eq_true_iff⟩
          have HE := hid_of hE
          have CLc : Hid (∀ wq, Kb w7 wq → j < m → wq.cell? ⟨go, j * 3, none⟩ = some (.int .i64 a0) ∧ wq.cell? ⟨go, j * 3 + 1, none⟩ = some (.int .i64 a1) ∧ wq.cell? ⟨go, j * 3 + 2, none⟩ = some (.int .i64 a2)) := fun wq hq hjm => CLa.out wq (HW7.out.trans (hq.mono HW7.out.size)) hjm
          have CLr : Hid (∀ wq, Kb w7 wq → At 30 wq q7 #[.int .i64 s0, .int .i64 s1, .int .i64 s2]) := fun wq hq => CLq.out wq (HW7.out.trans (hq.mono HW7.out.size))
          clear hE HBL HW7 CLa CLq HD HD2
          go_wp2_with fail
          go_cut [48] from 37 to 48 (fun s48 wc => s48 = .bool E ∧ Hid (Below w7.heap.size w7 wc))
          case first =>
            by_cases hjm : j < m
            · have hjm' : (j : Int) < (m : Int) := by omega
              have CLb := hid_of (fun wq hq => CLc.out wq hq hjm)
              have HE2 : Hid (E = true ↔ (a0 = s0 ∧ a1 = s1 ∧ a2 = s2)) := by
                show E = true ↔ _
                rw [HE.out, HFJ.out]
                simp only [Prod.mk.injEq]
                exact ⟨fun h => h.2, fun h => ⟨hjm, h⟩⟩
              clear HE CLc HFJ HLO HNL HQ
              by_cases c0 : a0 = s0
              · by_cases c1 : a1 = s1
                · by_cases c2 : a2 = s2
                  · obtain rfl : E = true := HE2.out.2 ⟨c0, c1, c2⟩
                    subst c0 c1 c2
                    clear HE2
                    obtain ⟨u0, hu0, bb⟩ : ∃ uu, w7.drew = uu ∧ Below w7.heap.size w7 uu := ⟨_, rfl, (Below.refl _ _).drew⟩
                    have bk0 : Kb w7 u0 := bb
                    clear bb
                    refine wp_region_held_drew (S := Kb u0) (by kernel_rfl) (by rw [hu0]; exact Below.refl _ _) (fun hHeld => ?_)
                    rw [hu0] at hHeld ⊢
                    clear hu0
                    have bu : Kb u0 u0 := Below.refl _ _
                    change wpAnyH _ _ _ _ _ 12 #[false, false, false, false, false, false, false, false, false, false, false, false] _ _
                    refine wpAnyH_take (i := 0) (v := .int .i64 ((j : Int))) rfl (by kernel_rfl) (by kernel_rfl) (by kernel_rfl) (fun _ _ _ h => h) (Or.inl ⟨by kernel_rfl, ?_⟩) hHeld ?_
                    · intro w' hSw; go_simp
                    try simp only [Act.put, List.setIfInBounds_toArray, List.set_cons_zero, List.set_cons_succ, List.getElem_toArray, List.getElem_cons_zero]
                    refine wpAnyH_take (i := 1) (v := .slice ((some ⟨go, 0, none⟩)) m co) rfl (by kernel_rfl) (by kernel_rfl) (by kernel_rfl) (fun _ _ _ h => h) (Or.inl ⟨by kernel_rfl, ?_⟩) hHeld ?_
                    · intro w' hSw; go_simp
                    try simp only [Act.put, List.setIfInBounds_toArray, List.set_cons_zero, List.set_cons_succ, List.getElem_toArray, List.getElem_cons_succ, List.getElem_cons_zero]
                    refine wpAnyH_take (i := 2) (v := .int .i64 ((m : Int))) rfl (by kernel_rfl) (by kernel_rfl) (by kernel_rfl) (fun _ _ _ h => h) (Or.inl ⟨by kernel_rfl, ?_⟩) hHeld ?_
                    · intro w' hSw; go_simp
                    try simp only [Act.put, List.setIfInBounds_toArray, List.set_cons_zero, List.set_cons_succ, List.getElem_toArray, List.getElem_cons_succ, List.getElem_cons_zero]
                    refine wpAnyH_take (i := 3) (v := .bool true) rfl (by kernel_rfl) (by kernel_rfl) (by kernel_rfl) (fun _ _ _ h => h) (Or.inl ⟨by kernel_rfl, ?_⟩) hHeld ?_
                    · intro w' hSw; go_simp
                    try simp only [Act.put, List.setIfInBounds_toArray, List.set_cons_zero, List.set_cons_succ, List.getElem_toArray, List.getElem_cons_succ, List.getElem_cons_zero]
                    refine wpAnyH_take (i := 4) (v := .bool true) rfl (by kernel_rfl) (by kernel_rfl) (by kernel_rfl) (fun _ _ _ h => h) (Or.inl ⟨by kernel_rfl, ?_⟩) hHeld ?_
                    · intro w' hSw; go_simp
                    try simp only [Act.put, List.setIfInBounds_toArray, List.set_cons_zero, List.set_cons_succ, List.getElem_toArray, List.getElem_cons_succ, List.getElem_cons_zero]
                    refine wpAnyH_take (i := 5) (v := .slice ((some ⟨go, 0, none⟩)) m co) rfl (by kernel_rfl) (by kernel_rfl) (by kernel_rfl) (fun _ _ _ h => h) (Or.inl ⟨by kernel_rfl, ?_⟩) hHeld ?_
                    · intro w' hSw; go_simp
                    try simp only [Act.put, List.setIfInBounds_toArray, List.set_cons_zero, List.set_cons_succ, List.getElem_toArray, List.getElem_cons_succ, List.getElem_cons_zero]
                    refine wpAnyH_take (i := 6) (v := .int .i64 ((j : Int))) rfl (by kernel_rfl) (by kernel_rfl) (by kernel_rfl) (fun _ _ _ h => h) (Or.inl ⟨by kernel_rfl, ?_⟩) hHeld ?_
                    · intro w' hSw; go_simp
                    try simp only [Act.put, List.setIfInBounds_toArray, List.set_cons_zero, List.set_cons_succ, List.getElem_toArray, List.getElem_cons_succ, List.getElem_cons_zero]
                    refine wpAnyH_take (i := 7) (v := .pointer (some ⟨go, j * 3, none⟩)) rfl (by kernel_rfl) (by kernel_rfl) (by kernel_rfl) (fun _ _ _ h => h) (Or.inl ⟨by kernel_rfl, ?_⟩) hHeld ?_
                    · intro w' hSw; go_simp
                    try simp only [Act.put, List.setIfInBounds_toArray, List.set_cons_zero, List.set_cons_succ, List.getElem_toArray, List.getElem_cons_succ, List.getElem_cons_zero]
                    refine wpAnyH_take (i := 8) (v := .agg #[.int .i64 a0, .int .i64 a1, .int .i64 a2]) rfl (by kernel_rfl) (by kernel_rfl) (by kernel_rfl) (fun _ _ _ h => h) (Or.inl ⟨by kernel_rfl, ?_⟩) hHeld ?_
                    · intro w' hSw; obtain ⟨z0, z1, z2⟩ := CLb.out _ (bk0.trans (Below.mono hSw bk0.size)); go_simp
                    try simp only [Act.put, List.setIfInBounds_toArray, List.set_cons_zero, List.set_cons_succ, List.getElem_toArray, List.getElem_cons_succ, List.getElem_cons_zero]
                    refine wpAnyH_take (i := 9) (v := .agg #[.int .i64 a0, .int .i64 a1, .int .i64 a2]) rfl (by kernel_rfl) (by kernel_rfl) (by kernel_rfl) (fun _ _ _ h => h) (Or.inl ⟨by kernel_rfl, ?_⟩) hHeld ?_
                    · intro w' hSw; obtain ⟨z0, z1, z2, -⟩ := (CLr.out _ (bk0.trans (Below.mono hSw bk0.size))).open3; go_simp
                    try simp only [Act.put, List.setIfInBounds_toArray, List.set_cons_zero, List.set_cons_succ, List.getElem_toArray, List.getElem_cons_succ, List.getElem_cons_zero]
                    refine wpAnyH_take (i := 10) (v := .bool true) rfl (by kernel_rfl) (by kernel_rfl) (by kernel_rfl) (fun _ _ _ h => h) (Or.inl ⟨by kernel_rfl, ?_⟩) hHeld ?_
                    · intro w' hSw; go_simp
                    try simp only [Act.put, List.setIfInBounds_toArray, List.set_cons_zero, List.set_cons_succ, List.getElem_toArray, List.getElem_cons_succ, List.getElem_cons_zero]
                    refine wpAnyH_take (i := 11) (v := .bool true) rfl (by kernel_rfl) (by kernel_rfl) (by kernel_rfl) (fun _ _ _ h => h) (Or.inl ⟨by kernel_rfl, ?_⟩) hHeld ?_
                    · intro w' hSw; go_simp
                    try simp only [Act.put, List.setIfInBounds_toArray, List.set_cons_zero, List.set_cons_succ, List.getElem_toArray, List.getElem_cons_succ, List.getElem_cons_zero]
                    refine wpAnyH_done (by kernel_rfl) ?_ _
                    clear hHeld
                    have bz := hid_of (bk0.trans (Below.mono bu bk0.size))
                    go_wp2_with fail
                    go_meet
                    case rel => exact ⟨rfl, bz⟩
                  · obtain rfl : E = false := by
                      cases E
                      · rfl
                      · exact absurd (HE2.out.1 rfl).2.2 c2
                    have c2' : (a2 == s2) = false := by simp [c2]
                    subst c0 c1
                    clear HE2 c2
                    obtain ⟨u0, hu0, bb⟩ : ∃ uu, w7.drew = uu ∧ Below w7.heap.size w7 uu := ⟨_, rfl, (Below.refl _ _).drew⟩
                    have bk0 : Kb w7 u0 := bb
                    clear bb
                    refine wp_region_held_drew (S := Kb u0) (by kernel_rfl) (by rw [hu0]; exact Below.refl _ _) (fun hHeld => ?_)
                    rw [hu0] at hHeld ⊢
                    clear hu0
                    have bu : Kb u0 u0 := Below.refl _ _
                    change wpAnyH _ _ _ _ _ 12 #[false, false, false, false, false, false, false, false, false, false, false, false] _ _
                    refine wpAnyH_take (i := 0) (v := .int .i64 ((j : Int))) rfl (by kernel_rfl) (by kernel_rfl) (by kernel_rfl) (fun _ _ _ h => h) (Or.inl ⟨by kernel_rfl, ?_⟩) hHeld ?_
                    · intro w' hSw; go_simp
                    try simp only [Act.put, List.setIfInBounds_toArray, List.set_cons_zero, List.set_cons_succ, List.getElem_toArray, List.getElem_cons_zero]
                    refine wpAnyH_take (i := 1) (v := .slice ((some ⟨go, 0, none⟩)) m co) rfl (by kernel_rfl) (by kernel_rfl) (by kernel_rfl) (fun _ _ _ h => h) (Or.inl ⟨by kernel_rfl, ?_⟩) hHeld ?_
                    · intro w' hSw; go_simp
                    try simp only [Act.put, List.setIfInBounds_toArray, List.set_cons_zero, List.set_cons_succ, List.getElem_toArray, List.getElem_cons_succ, List.getElem_cons_zero]
                    refine wpAnyH_take (i := 2) (v := .int .i64 ((m : Int))) rfl (by kernel_rfl) (by kernel_rfl) (by kernel_rfl) (fun _ _ _ h => h) (Or.inl ⟨by kernel_rfl, ?_⟩) hHeld ?_
                    · intro w' hSw; go_simp
                    try simp only [Act.put, List.setIfInBounds_toArray, List.set_cons_zero, List.set_cons_succ, List.getElem_toArray, List.getElem_cons_succ, List.getElem_cons_zero]
                    refine wpAnyH_take (i := 3) (v := .bool true) rfl (by kernel_rfl) (by kernel_rfl) (by kernel_rfl) (fun _ _ _ h => h) (Or.inl ⟨by kernel_rfl, ?_⟩) hHeld ?_
                    · intro w' hSw; go_simp
                    try simp only [Act.put, List.setIfInBounds_toArray, List.set_cons_zero, List.set_cons_succ, List.getElem_toArray, List.getElem_cons_succ, List.getElem_cons_zero]
                    refine wpAnyH_take (i := 4) (v := .bool true) rfl (by kernel_rfl) (by kernel_rfl) (by kernel_rfl) (fun _ _ _ h => h) (Or.inl ⟨by kernel_rfl, ?_⟩) hHeld ?_
                    · intro w' hSw; go_simp
                    try simp only [Act.put, List.setIfInBounds_toArray, List.set_cons_zero, List.set_cons_succ, List.getElem_toArray, List.getElem_cons_succ, List.getElem_cons_zero]
                    refine wpAnyH_take (i := 5) (v := .slice ((some ⟨go, 0, none⟩)) m co) rfl (by kernel_rfl) (by kernel_rfl) (by kernel_rfl) (fun _ _ _ h => h) (Or.inl ⟨by kernel_rfl, ?_⟩) hHeld ?_
                    · intro w' hSw; go_simp
                    try simp only [Act.put, List.setIfInBounds_toArray, List.set_cons_zero, List.set_cons_succ, List.getElem_toArray, List.getElem_cons_succ, List.getElem_cons_zero]
                    refine wpAnyH_take (i := 6) (v := .int .i64 ((j : Int))) rfl (by kernel_rfl) (by kernel_rfl) (by kernel_rfl) (fun _ _ _ h => h) (Or.inl ⟨by kernel_rfl, ?_⟩) hHeld ?_
                    · intro w' hSw; go_simp
                    try simp only [Act.put, List.setIfInBounds_toArray, List.set_cons_zero, List.set_cons_succ, List.getElem_toArray, List.getElem_cons_succ, List.getElem_cons_zero]
                    refine wpAnyH_take (i := 7) (v := .pointer (some ⟨go, j * 3, none⟩)) rfl (by kernel_rfl) (by kernel_rfl) (by kernel_rfl) (fun _ _ _ h => h) (Or.inl ⟨by kernel_rfl, ?_⟩) hHeld ?_
                    · intro w' hSw; go_simp
                    try simp only [Act.put, List.setIfInBounds_toArray, List.set_cons_zero, List.set_cons_succ, List.getElem_toArray, List.getElem_cons_succ, List.getElem_cons_zero]
                    refine wpAnyH_take (i := 8) (v := .agg #[.int .i64 a0, .int .i64 a1, .int .i64 a2]) rfl (by kernel_rfl) (by kernel_rfl) (by kernel_rfl) (fun _ _ _ h => h) (Or.inl ⟨by kernel_rfl, ?_⟩) hHeld ?_
                    · intro w' hSw; obtain ⟨z0, z1, z2⟩ := CLb.out _ (bk0.trans (Below.mono hSw bk0.size)); go_simp
                    try simp only [Act.put, List.setIfInBounds_toArray, List.set_cons_zero, List.set_cons_succ, List.getElem_toArray, List.getElem_cons_succ, List.getElem_cons_zero]
                    refine wpAnyH_take (i := 9) (v := .agg #[.int .i64 a0, .int .i64 a1, .int .i64 s2]) rfl (by kernel_rfl) (by kernel_rfl) (by kernel_rfl) (fun _ _ _ h => h) (Or.inl ⟨by kernel_rfl, ?_⟩) hHeld ?_
                    · intro w' hSw; obtain ⟨z0, z1, z2, -⟩ := (CLr.out _ (bk0.trans (Below.mono hSw bk0.size))).open3; go_simp
                    try simp only [Act.put, List.setIfInBounds_toArray, List.set_cons_zero, List.set_cons_succ, List.getElem_toArray, List.getElem_cons_succ, List.getElem_cons_zero]
                    refine wpAnyH_take (i := 10) (v := .bool false) rfl (by kernel_rfl) (by kernel_rfl) (by kernel_rfl) (fun _ _ _ h => h) (Or.inl ⟨by kernel_rfl, ?_⟩) hHeld ?_
                    · intro w' hSw; go_simp
                    try simp only [Act.put, List.setIfInBounds_toArray, List.set_cons_zero, List.set_cons_succ, List.getElem_toArray, List.getElem_cons_succ, List.getElem_cons_zero]
                    refine wpAnyH_take (i := 11) (v := .bool false) rfl (by kernel_rfl) (by kernel_rfl) (by kernel_rfl) (fun _ _ _ h => h) (Or.inl ⟨by kernel_rfl, ?_⟩) hHeld ?_
                    · intro w' hSw; go_simp
                    try simp only [Act.put, List.setIfInBounds_toArray, List.set_cons_zero, List.set_cons_succ, List.getElem_toArray, List.getElem_cons_succ, List.getElem_cons_zero]
                    refine wpAnyH_done (by kernel_rfl) ?_ _
                    clear hHeld
                    have bz := hid_of (bk0.trans (Below.mono bu bk0.size))
                    go_wp2_with fail
                    go_meet
                    case rel => exact ⟨rfl, bz⟩
                · obtain rfl : E = false := by
                    cases E
                    · rfl
                    · exact absurd (HE2.out.1 rfl).2.1 c1
                  have c1' : (a1 == s1) = false := by simp [c1]
                  subst c0
                  clear HE2 c1
                  obtain ⟨u0, hu0, bb⟩ : ∃ uu, w7.drew = uu ∧ Below w7.heap.size w7 uu := ⟨_, rfl, (Below.refl _ _).drew⟩
                  have bk0 : Kb w7 u0 := bb
                  clear bb
                  refine wp_region_held_drew (S := Kb u0) (by kernel_rfl) (by rw [hu0]; exact Below.refl _ _) (fun hHeld => ?_)
                  rw [hu0] at hHeld ⊢
                  clear hu0
                  have bu : Kb u0 u0 := Below.refl _ _
                  change wpAnyH _ _ _ _ _ 12 #[false, false, false, false, false, false, false, false, false, false, false, false] _ _
                  refine wpAnyH_take (i := 0) (v := .int .i64 ((j : Int))) rfl (by kernel_rfl) (by kernel_rfl) (by kernel_rfl) (fun _ _ _ h => h) (Or.inl ⟨by kernel_rfl, ?_⟩) hHeld ?_
                  · intro w' hSw; go_simp
                  try simp only [Act.put, List.setIfInBounds_toArray, List.set_cons_zero, List.set_cons_succ, List.getElem_toArray, List.getElem_cons_zero]
                  refine wpAnyH_take (i := 1) (v := .slice ((some ⟨go, 0, none⟩)) m co) rfl (by kernel_rfl) (by kernel_rfl) (by kernel_rfl) (fun _ _ _ h => h) (Or.inl ⟨by kernel_rfl, ?_⟩) hHeld ?_
                  · intro w' hSw; go_simp
                  try simp only [Act.put, List.setIfInBounds_toArray, List.set_cons_zero, List.set_cons_succ, List.getElem_toArray, List.getElem_cons_succ, List.getElem_cons_zero]
                  refine wpAnyH_take (i := 2) (v := .int .i64 ((m : Int))) rfl (by kernel_rfl) (by kernel_rfl) (by kernel_rfl) (fun _ _ _ h => h) (Or.inl ⟨by kernel_rfl, ?_⟩) hHeld ?_
                  · intro w' hSw; go_simp
                  try simp only [Act.put, List.setIfInBounds_toArray, List.set_cons_zero, List.set_cons_succ, List.getElem_toArray, List.getElem_cons_succ, List.getElem_cons_zero]
                  refine wpAnyH_take (i := 3) (v := .bool true) rfl (by kernel_rfl) (by kernel_rfl) (by kernel_rfl) (fun _ _ _ h => h) (Or.inl ⟨by kernel_rfl, ?_⟩) hHeld ?_
                  · intro w' hSw; go_simp
                  try simp only [Act.put, List.setIfInBounds_toArray, List.set_cons_zero, List.set_cons_succ, List.getElem_toArray, List.getElem_cons_succ, List.getElem_cons_zero]
                  refine wpAnyH_take (i := 4) (v := .bool true) rfl (by kernel_rfl) (by kernel_rfl) (by kernel_rfl) (fun _ _ _ h => h) (Or.inl ⟨by kernel_rfl, ?_⟩) hHeld ?_
                  · intro w' hSw; go_simp
                  try simp only [Act.put, List.setIfInBounds_toArray, List.set_cons_zero, List.set_cons_succ, List.getElem_toArray, List.getElem_cons_succ, List.getElem_cons_zero]
                  refine wpAnyH_take (i := 5) (v := .slice ((some ⟨go, 0, none⟩)) m co) rfl (by kernel_rfl) (by kernel_rfl) (by kernel_rfl) (fun _ _ _ h => h) (Or.inl ⟨by kernel_rfl, ?_⟩) hHeld ?_
                  · intro w' hSw; go_simp
                  try simp only [Act.put, List.setIfInBounds_toArray, List.set_cons_zero, List.set_cons_succ, List.getElem_toArray, List.getElem_cons_succ, List.getElem_cons_zero]
                  refine wpAnyH_take (i := 6) (v := .int .i64 ((j : Int))) rfl (by kernel_rfl) (by kernel_rfl) (by kernel_rfl) (fun _ _ _ h => h) (Or.inl ⟨by kernel_rfl, ?_⟩) hHeld ?_
                  · intro w' hSw; go_simp
                  try simp only [Act.put, List.setIfInBounds_toArray, List.set_cons_zero, List.set_cons_succ, List.getElem_toArray, List.getElem_cons_succ, List.getElem_cons_zero]
                  refine wpAnyH_take (i := 7) (v := .pointer (some ⟨go, j * 3, none⟩)) rfl (by kernel_rfl) (by kernel_rfl) (by kernel_rfl) (fun _ _ _ h => h) (Or.inl ⟨by kernel_rfl, ?_⟩) hHeld ?_
                  · intro w' hSw; go_simp
                  try simp only [Act.put, List.setIfInBounds_toArray, List.set_cons_zero, List.set_cons_succ, List.getElem_toArray, List.getElem_cons_succ, List.getElem_cons_zero]
                  refine wpAnyH_take (i := 8) (v := .agg #[.int .i64 a0, .int .i64 a1, .int .i64 a2]) rfl (by kernel_rfl) (by kernel_rfl) (by kernel_rfl) (fun _ _ _ h => h) (Or.inl ⟨by kernel_rfl, ?_⟩) hHeld ?_
                  · intro w' hSw; obtain ⟨z0, z1, z2⟩ := CLb.out _ (bk0.trans (Below.mono hSw bk0.size)); go_simp
                  try simp only [Act.put, List.setIfInBounds_toArray, List.set_cons_zero, List.set_cons_succ, List.getElem_toArray, List.getElem_cons_succ, List.getElem_cons_zero]
                  refine wpAnyH_take (i := 9) (v := .agg #[.int .i64 a0, .int .i64 s1, .int .i64 s2]) rfl (by kernel_rfl) (by kernel_rfl) (by kernel_rfl) (fun _ _ _ h => h) (Or.inl ⟨by kernel_rfl, ?_⟩) hHeld ?_
                  · intro w' hSw; obtain ⟨z0, z1, z2, -⟩ := (CLr.out _ (bk0.trans (Below.mono hSw bk0.size))).open3; go_simp
                  try simp only [Act.put, List.setIfInBounds_toArray, List.set_cons_zero, List.set_cons_succ, List.getElem_toArray, List.getElem_cons_succ, List.getElem_cons_zero]
                  refine wpAnyH_take (i := 10) (v := .bool false) rfl (by kernel_rfl) (by kernel_rfl) (by kernel_rfl) (fun _ _ _ h => h) (Or.inl ⟨by kernel_rfl, ?_⟩) hHeld ?_
                  · intro w' hSw; go_simp
                  try simp only [Act.put, List.setIfInBounds_toArray, List.set_cons_zero, List.set_cons_succ, List.getElem_toArray, List.getElem_cons_succ, List.getElem_cons_zero]
                  refine wpAnyH_take (i := 11) (v := .bool false) rfl (by kernel_rfl) (by kernel_rfl) (by kernel_rfl) (fun _ _ _ h => h) (Or.inl ⟨by kernel_rfl, ?_⟩) hHeld ?_
                  · intro w' hSw; go_simp
                  try simp only [Act.put, List.setIfInBounds_toArray, List.set_cons_zero, List.set_cons_succ, List.getElem_toArray, List.getElem_cons_succ, List.getElem_cons_zero]
                  refine wpAnyH_done (by kernel_rfl) ?_ _
                  clear hHeld
                  have bz := hid_of (bk0.trans (Below.mono bu bk0.size))
                  go_wp2_with fail
                  go_meet
                  case rel => exact ⟨rfl, bz⟩
              · obtain rfl : E = false := by
                  cases E
                  · rfl
                  · exact absurd (HE2.out.1 rfl).1 c0
                have c0' : (a0 == s0) = false := by simp [c0]
                clear HE2 c0
                obtain ⟨u0, hu0, bb⟩ : ∃ uu, w7.drew = uu ∧ Below w7.heap.size w7 uu := ⟨_, rfl, (Below.refl _ _).drew⟩
                have bk0 : Kb w7 u0 := bb
                clear bb
                refine wp_region_held_drew (S := Kb u0) (by kernel_rfl) (by rw [hu0]; exact Below.refl _ _) (fun hHeld => ?_)
                rw [hu0] at hHeld ⊢
                clear hu0
                have bu : Kb u0 u0 := Below.refl _ _
                change wpAnyH _ _ _ _ _ 12 #[false, false, false, false, false, false, false, false, false, false, false, false] _ _
                refine wpAnyH_take (i := 0) (v := .int .i64 ((j : Int))) rfl (by kernel_rfl) (by kernel_rfl) (by kernel_rfl) (fun _ _ _ h => h) (Or.inl ⟨by kernel_rfl, ?_⟩) hHeld ?_
                · intro w' hSw; go_simp
                try simp only [Act.put, List.setIfInBounds_toArray, List.set_cons_zero, List.set_cons_succ, List.getElem_toArray, List.getElem_cons_zero]
                refine wpAnyH_take (i := 1) (v := .slice ((some ⟨go, 0, none⟩)) m co) rfl (by kernel_rfl) (by kernel_rfl) (by kernel_rfl) (fun _ _ _ h => h) (Or.inl ⟨by kernel_rfl, ?_⟩) hHeld ?_
                · intro w' hSw; go_simp
                try simp only [Act.put, List.setIfInBounds_toArray, List.set_cons_zero, List.set_cons_succ, List.getElem_toArray, List.getElem_cons_succ, List.getElem_cons_zero]
                refine wpAnyH_take (i := 2) (v := .int .i64 ((m : Int))) rfl (by kernel_rfl) (by kernel_rfl) (by kernel_rfl) (fun _ _ _ h => h) (Or.inl ⟨by kernel_rfl, ?_⟩) hHeld ?_
                · intro w' hSw; go_simp
                try simp only [Act.put, List.setIfInBounds_toArray, List.set_cons_zero, List.set_cons_succ, List.getElem_toArray, List.getElem_cons_succ, List.getElem_cons_zero]
                refine wpAnyH_take (i := 3) (v := .bool true) rfl (by kernel_rfl) (by kernel_rfl) (by kernel_rfl) (fun _ _ _ h => h) (Or.inl ⟨by kernel_rfl, ?_⟩) hHeld ?_
                · intro w' hSw; go_simp
                try simp only [Act.put, List.setIfInBounds_toArray, List.set_cons_zero, List.set_cons_succ, List.getElem_toArray, List.getElem_cons_succ, List.getElem_cons_zero]
                refine wpAnyH_take (i := 4) (v := .bool true) rfl (by kernel_rfl) (by kernel_rfl) (by kernel_rfl) (fun _ _ _ h => h) (Or.inl ⟨by kernel_rfl, ?_⟩) hHeld ?_
                · intro w' hSw; go_simp
                try simp only [Act.put, List.setIfInBounds_toArray, List.set_cons_zero, List.set_cons_succ, List.getElem_toArray, List.getElem_cons_succ, List.getElem_cons_zero]
                refine wpAnyH_take (i := 5) (v := .slice ((some ⟨go, 0, none⟩)) m co) rfl (by kernel_rfl) (by kernel_rfl) (by kernel_rfl) (fun _ _ _ h => h) (Or.inl ⟨by kernel_rfl, ?_⟩) hHeld ?_
                · intro w' hSw; go_simp
                try simp only [Act.put, List.setIfInBounds_toArray, List.set_cons_zero, List.set_cons_succ, List.getElem_toArray, List.getElem_cons_succ, List.getElem_cons_zero]
                refine wpAnyH_take (i := 6) (v := .int .i64 ((j : Int))) rfl (by kernel_rfl) (by kernel_rfl) (by kernel_rfl) (fun _ _ _ h => h) (Or.inl ⟨by kernel_rfl, ?_⟩) hHeld ?_
                · intro w' hSw; go_simp
                try simp only [Act.put, List.setIfInBounds_toArray, List.set_cons_zero, List.set_cons_succ, List.getElem_toArray, List.getElem_cons_succ, List.getElem_cons_zero]
                refine wpAnyH_take (i := 7) (v := .pointer (some ⟨go, j * 3, none⟩)) rfl (by kernel_rfl) (by kernel_rfl) (by kernel_rfl) (fun _ _ _ h => h) (Or.inl ⟨by kernel_rfl, ?_⟩) hHeld ?_
                · intro w' hSw; go_simp
                try simp only [Act.put, List.setIfInBounds_toArray, List.set_cons_zero, List.set_cons_succ, List.getElem_toArray, List.getElem_cons_succ, List.getElem_cons_zero]
                refine wpAnyH_take (i := 8) (v := .agg #[.int .i64 a0, .int .i64 a1, .int .i64 a2]) rfl (by kernel_rfl) (by kernel_rfl) (by kernel_rfl) (fun _ _ _ h => h) (Or.inl ⟨by kernel_rfl, ?_⟩) hHeld ?_
                · intro w' hSw; obtain ⟨z0, z1, z2⟩ := CLb.out _ (bk0.trans (Below.mono hSw bk0.size)); go_simp
                try simp only [Act.put, List.setIfInBounds_toArray, List.set_cons_zero, List.set_cons_succ, List.getElem_toArray, List.getElem_cons_succ, List.getElem_cons_zero]
                refine wpAnyH_take (i := 9) (v := .agg #[.int .i64 s0, .int .i64 s1, .int .i64 s2]) rfl (by kernel_rfl) (by kernel_rfl) (by kernel_rfl) (fun _ _ _ h => h) (Or.inl ⟨by kernel_rfl, ?_⟩) hHeld ?_
                · intro w' hSw; obtain ⟨z0, z1, z2, -⟩ := (CLr.out _ (bk0.trans (Below.mono hSw bk0.size))).open3; go_simp
                try simp only [Act.put, List.setIfInBounds_toArray, List.set_cons_zero, List.set_cons_succ, List.getElem_toArray, List.getElem_cons_succ, List.getElem_cons_zero]
                refine wpAnyH_take (i := 10) (v := .bool false) rfl (by kernel_rfl) (by kernel_rfl) (by kernel_rfl) (fun _ _ _ h => h) (Or.inl ⟨by kernel_rfl, ?_⟩) hHeld ?_
                · intro w' hSw; go_simp
                try simp only [Act.put, List.setIfInBounds_toArray, List.set_cons_zero, List.set_cons_succ, List.getElem_toArray, List.getElem_cons_succ, List.getElem_cons_zero]
                refine wpAnyH_take (i := 11) (v := .bool false) rfl (by kernel_rfl) (by kernel_rfl) (by kernel_rfl) (fun _ _ _ h => h) (Or.inl ⟨by kernel_rfl, ?_⟩) hHeld ?_
                · intro w' hSw; go_simp
                try simp only [Act.put, List.setIfInBounds_toArray, List.set_cons_zero, List.set_cons_succ, List.getElem_toArray, List.getElem_cons_succ, List.getElem_cons_zero]
                refine wpAnyH_done (by kernel_rfl) ?_ _
                clear hHeld
                have bz := hid_of (bk0.trans (Below.mono bu bk0.size))
                go_wp2_with fail
                go_meet
                case rel => exact ⟨rfl, bz⟩
            · have hjm' : ¬ (j : Int) < (m : Int) := by omega
              obtain rfl : E = false := by
                have := HE.out
                cases E
                · rfl
                · exact absurd (this.1 rfl).1 hjm
              clear HE CLc HFJ HLO HNL HQ
              obtain ⟨u0, hu0, bb⟩ : ∃ uu, w7.drew = uu ∧ Below w7.heap.size w7 uu := ⟨_, rfl, (Below.refl _ _).drew⟩
              have bk0 : Kb w7 u0 := bb
              clear bb
              refine wp_region_held_drew (S := Kb u0) (by kernel_rfl) (by rw [hu0]; exact Below.refl _ _) (fun hHeld => ?_)
              rw [hu0] at hHeld ⊢
              clear hu0
              have bu : Kb u0 u0 := Below.refl _ _
              change wpAnyH _ _ _ _ _ 12 #[false, false, false, false, false, false, false, false, false, false, false, false] _ _
              refine wpAnyH_take (i := 0) (v := .int .i64 ((j : Int))) rfl (by kernel_rfl) (by kernel_rfl) (by kernel_rfl) (fun _ _ _ h => h) (Or.inl ⟨by kernel_rfl, ?_⟩) hHeld ?_
              · intro w' hSw; go_simp
              try simp only [Act.put, List.setIfInBounds_toArray, List.set_cons_zero, List.set_cons_succ, List.getElem_toArray, List.getElem_cons_zero]
              refine wpAnyH_take (i := 1) (v := .slice ((some ⟨go, 0, none⟩)) m co) rfl (by kernel_rfl) (by kernel_rfl) (by kernel_rfl) (fun _ _ _ h => h) (Or.inl ⟨by kernel_rfl, ?_⟩) hHeld ?_
              · intro w' hSw; go_simp
              try simp only [Act.put, List.setIfInBounds_toArray, List.set_cons_zero, List.set_cons_succ, List.getElem_toArray, List.getElem_cons_succ, List.getElem_cons_zero]
              refine wpAnyH_take (i := 2) (v := .int .i64 ((m : Int))) rfl (by kernel_rfl) (by kernel_rfl) (by kernel_rfl) (fun _ _ _ h => h) (Or.inl ⟨by kernel_rfl, ?_⟩) hHeld ?_
              · intro w' hSw; go_simp
              try simp only [Act.put, List.setIfInBounds_toArray, List.set_cons_zero, List.set_cons_succ, List.getElem_toArray, List.getElem_cons_succ, List.getElem_cons_zero]
              refine wpAnyH_take (i := 3) (v := .bool false) rfl (by kernel_rfl) (by kernel_rfl) (by kernel_rfl) (fun _ _ _ h => h) (Or.inl ⟨by kernel_rfl, ?_⟩) hHeld ?_
              · intro w' hSw; go_simp
              try simp only [Act.put, List.setIfInBounds_toArray, List.set_cons_zero, List.set_cons_succ, List.getElem_toArray, List.getElem_cons_succ, List.getElem_cons_zero]
              refine wpAnyH_take (i := 4) (v := .bool false) rfl (by kernel_rfl) (by kernel_rfl) (by kernel_rfl) (fun _ _ _ h => h) (Or.inl ⟨by kernel_rfl, ?_⟩) hHeld ?_
              · intro w' hSw; go_simp
              try simp only [Act.put, List.setIfInBounds_toArray, List.set_cons_zero, List.set_cons_succ, List.getElem_toArray, List.getElem_cons_succ, List.getElem_cons_zero]
              refine wpAnyH_take (i := 5) (v := undef) rfl (by kernel_rfl) (by kernel_rfl) (by kernel_rfl) (fun _ _ _ h => h) (Or.inr ⟨by kernel_rfl, rfl⟩) hHeld ?_
              try simp only [Act.put, List.setIfInBounds_toArray, List.set_cons_zero, List.set_cons_succ, List.getElem_toArray, List.getElem_cons_succ, List.getElem_cons_zero]
              refine wpAnyH_take (i := 6) (v := undef) rfl (by kernel_rfl) (by kernel_rfl) (by kernel_rfl) (fun _ _ _ h => h) (Or.inr ⟨by kernel_rfl, rfl⟩) hHeld ?_
              try simp only [Act.put, List.setIfInBounds_toArray, List.set_cons_zero, List.set_cons_succ, List.getElem_toArray, List.getElem_cons_succ, List.getElem_cons_zero]
              refine wpAnyH_take (i := 7) (v := undef) rfl (by kernel_rfl) (by kernel_rfl) (by kernel_rfl) (fun _ _ _ h => h) (Or.inr ⟨by kernel_rfl, rfl⟩) hHeld ?_
              try simp only [Act.put, List.setIfInBounds_toArray, List.set_cons_zero, List.set_cons_succ, List.getElem_toArray, List.getElem_cons_succ, List.getElem_cons_zero]
              refine wpAnyH_take (i := 8) (v := undef) rfl (by kernel_rfl) (by kernel_rfl) (by kernel_rfl) (fun _ _ _ h => h) (Or.inr ⟨by kernel_rfl, rfl⟩) hHeld ?_
              try simp only [Act.put, List.setIfInBounds_toArray, List.set_cons_zero, List.set_cons_succ, List.getElem_toArray, List.getElem_cons_succ, List.getElem_cons_zero]
              refine wpAnyH_take (i := 9) (v := undef) rfl (by kernel_rfl) (by kernel_rfl) (by kernel_rfl) (fun _ _ _ h => h) (Or.inr ⟨by kernel_rfl, rfl⟩) hHeld ?_
              try simp only [Act.put, List.setIfInBounds_toArray, List.set_cons_zero, List.set_cons_succ, List.getElem_toArray, List.getElem_cons_succ, List.getElem_cons_zero]
              refine wpAnyH_take (i := 10) (v := undef) rfl (by kernel_rfl) (by kernel_rfl) (by kernel_rfl) (fun _ _ _ h => h) (Or.inr ⟨by kernel_rfl, rfl⟩) hHeld ?_
              try simp only [Act.put, List.setIfInBounds_toArray, List.set_cons_zero, List.set_cons_succ, List.getElem_toArray, List.getElem_cons_succ, List.getElem_cons_zero]
              refine wpAnyH_take (i := 11) (v := .bool false) rfl (by kernel_rfl) (by kernel_rfl) (by kernel_rfl) (fun _ _ _ h => h) (Or.inl ⟨by kernel_rfl, ?_⟩) hHeld ?_
              · intro w' hSw; go_simp
              try simp only [Act.put, List.setIfInBounds_toArray, List.set_cons_zero, List.set_cons_succ, List.getElem_toArray, List.getElem_cons_succ, List.getElem_cons_zero]
              refine wpAnyH_done (by kernel_rfl) ?_ _
              clear hHeld
              have bz := hid_of (bk0.trans (Below.mono bu bk0.size))
              go_wp2_with fail
              go_meet
              case rel => exact ⟨rfl, bz⟩
          case rest =>
            obtain ⟨rfl, HW8⟩ := hcut
            rename World => w8
            have HBL3 := hid_of (HBL2.out.trans (HW8.out.mono HBL2.out.size))
            clear HBL2 HW8 CLc CLr
            have own8 := hid_of (own7.out.below HBL3.out)
            have HA8 := hid_of (HA7.out.below HBL3.out)
            have HB8 := hid_of (HB7.out.trans (HBL3.out.mono HB7.out.size))
            have HQ8 := hid_of (HQ7.out.below HBL3.out)
            clear own7 HA7 HB7 HQ7 HBL3
            cases E
            rotate_left
            · have HI2 := hid_of (HI.out.skip (HE.out.1 rfl).1 ((HE.out.1 rfl).2.trans HQ.out.symm))
              have HN2 : Hid ((Value.slice (some ⟨go, 0, none⟩) m co).ownBlock ≠ some q1) := fun e => by
                simp only [Value.ownBlock, Option.some.injEq] at e
                exact hne1 e
              clear HI HE HNL HLO HFJ HQ HQ8
              have HA9 := HA8.out
              have HB9 := HB8.out
              clear HA8 HB8
              go_wp2
              exact ⟨⟨i + 1, m, F, by omega, by go_num, own8, HN2, HI2, HA9, HB9⟩, by simp [intOf]; omega⟩
            have HHI : Hid (j < m → c3 (s0, s1, s2) (F j) < 0) := fun hjm => by
              have h1 := HNL.out hjm
              rcases c3_tri (F j) (s0, s1, s2) with h | h | h
              · omega
              · exact absurd (HE.out.2 ⟨hjm, h⟩) (by decide)
              · exact h
            clear HNL HE HFJ
            obtain ⟨y0, y1, y2, -⟩ := HQ8.out.open3
            obtain ⟨W9, hW9, a9, b9, -⟩ := boxed w8 30 #[.int .i64 s0, .int .i64 s1, .int .i64 s2]
            obtain ⟨p9, hp9⟩ : ∃ p, w8.heap.size = p := ⟨_, rfl⟩
            have hqp : q7 < p9 := by rw [← hp9]; exact HQ8.out.lt
            rw [hp9] at a9
            have row9 := hid_of (own8.out.below b9).row
            have HQ9 := hid_of (HQ8.out.below b9)
            have HA9 := hid_of (HA8.out.below b9)
            have HB9 := hid_of (HB8.out.trans (b9.mono HB8.out.size))
            have hW9s : p9 < W9.heap.size := a9.lt
            have hB9s := HB9.out.size
            have hm1 : m + 1 ≤ maxLen := by unfold maxLen; omega
            have hm2 : (m + 1) * 24 ≤ 140737488355328 := by omega
            have NW := e3_cells (x := (s0, s1, s2)) a9
            clear own8 HA8 HB8 HQ8 b9
            go_wp2_with (at_builtin; refine Hid.out (?_ : Hid _))
            refine (?_ : wpList _ _ _ _ _ _)
            refine wpList_append_own_at _ rfl _ _ _ rfl w.heap.size 30 i0 _ 3 24 Tryz.underlying26 hi0 hz0 hz1 hz2 rfl (by omega) (.slice (some ⟨go, 0, none⟩) m co) m (iCells (fl3 F) (m * 3)) rfl row9.out ⟨p9, 0, none⟩ 1 1 (e3 (s0, s1, s2)) rfl rfl NW (e3_one _) hm1 hm2 hB9s ?_
            intro v10 w10 hown10 hgrow10 hne10 hblk10
            rw [iCells_e3] at hown10
            have own10 : PtG w10 w.heap.size v10 (m + 1) (fun t => if t = m then (s0, s1, s2) else F t) := ⟨hown10, fun e => by have := (hne10.1 e).2; omega⟩
            obtain ⟨g10, c10, cu10, ev10, hlo10, a10, hs10, hmc10, hcm10, hH10⟩ := own10.open
            subst ev10
            have hg10 : g10 = go ∨ q7 < g10 := by
              rcases hblk10 with e | e
              · simp only [Value.ownBlock, Option.some.injEq] at e; exact .inl e
              · simp only [Value.ownBlock, Option.some.injEq] at e; exact .inr (by omega)
            have hgq10 : g10 ≠ q7 := by omega
            have hgq1 : g10 ≠ q1 := by omega
            have HQ10 : Hid (At 30 w10 q7 #[.int .i64 s0, .int .i64 s1, .int .i64 s2]) := (hgrow10.block q7 HQ9.out.lt (fun e => by simp only [Value.ownBlock, Option.some.injEq] at e; omega)).trans HQ9.out
            have HA10 : Hid (At 30 w10 q1 #[.int .i64 x, .int .i64 y, .int .i64 z]) := (hgrow10.block q1 HA9.out.lt (fun e => by simp only [Value.ownBlock, Option.some.injEq] at e; omega)).trans HA9.out
            have HB10 : Hid (Below w.heap.size w w10) := HB9.out.grown hgrow10 HB9.out.size (fun q e => by simp only [Value.ownBlock, Option.some.injEq] at e; omega)
            have HS10 : Hid (Shift3 w10 g10 c10 m m F) := ⟨cu10, a10, hs10, fun t ht => by
              have := hH10 t (by omega)
              rwa [if_neg (by omega)] at this, fun t h1 h2 => by omega⟩
            have hmc10' : m < c10 := by omega
            clear hown10 hgrow10 hne10 hblk10 own10 a10 hs10 hH10 hg10 row9 HQ9 HA9 HB9 NW a9 hW9 hp9 hqp hW9s hB9s hm1 hm2 y0 y1 y2
            go_wp2
            go_loopw [9] (fun s9 wl => ∃ k : Nat, j ≤ k ∧ k ≤ m ∧ s9 = .int .i64 (k : Int) ∧ Hid (Shift3 wl g10 c10 m k F) ∧ Hid (Kept g10 w10 wl)) (fun s9 _ => (intOf s9).toNat)
            case atStart => exact ⟨m, hj, Nat.le_refl _, by go_num, HS10, Kept.refl _ _⟩
            case round =>
              clear HS10
              obtain ⟨k, hjk, hkm, rfl, HS, HK⟩ := hrel
              by_cases hk : j < k
              · have hk' : (j : Int) < (k : Int) := by omega
                obtain ⟨k1, hk1⟩ : ∃ k1, k = k1 + 1 := ⟨k - 1, by omega⟩
                have hw1 : IntKind.i64.wrap ((k : Int) - 1) = (k1 : Int) := (IntWalk.i64_in _ (by omega)).trans (by omega)
                have hkk : (k : Int) - 1 = (k1 : Int) := by omega
                have h1 : (k1 : Int) < (m : Int) + 1 := by omega
                have h2 : (k : Int) < (m : Int) + 1 := by omega
                obtain ⟨f0, f1, f2, hF⟩ : ∃ f0 f1 f2, F k1 = (f0, f1, f2) := ⟨_, _, _, rfl⟩
                have HS2 := HS.out.step hk1 (by omega) hmc10'
                rw [hF] at HS2
                have CE : wr.cell? ⟨g10, k1 * 3, none⟩ = some (.int .i64 f0) ∧ wr.cell? ⟨g10, k1 * 3 + 1, none⟩ = some (.int .i64 f1) ∧ wr.cell? ⟨g10, k1 * 3 + 2, none⟩ = some (.int .i64 f2) := by
                  obtain ⟨cu, a, -, h3, -⟩ := HS.out
                  have := h3_cells a (h3 k1 (by omega))
                  rwa [hF] at this
                obtain ⟨x0, x1, x2⟩ := CE
                obtain ⟨y0, t0⟩ := HS.out.cells (j := k * 3) (by omega)
                obtain ⟨y1, t1⟩ := HS.out.cells (j := k * 3 + 1) (by omega)
                obtain ⟨y2, t2⟩ := HS.out.cells (j := k * 3 + 2) (by omega)
                have HK2 := HK.out.trans (put3L_kept wr g10 k (f0, f1, f2))
                unfold put3L at HS2 HK2
                have HS3 := hid_of HS2
                have HK3 := hid_of HK2
                have HKK := hid_of hk1
                clear HS HK HS2 HK2 hF hk1
                go_wp2
                exact ⟨⟨k1, by have := HKK.out; omega, by have := HKK.out; omega, by go_num, HS3, HK3⟩, by have := HKK.out; simp [intOf]; omega⟩
              · obtain rfl : k = j := by omega
                have hk' : ¬ (k : Int) < (k : Int) := by omega
                have hk2 : (k : Int) < (m : Int) + 1 := by omega
                have PP := HS.out.last (x := (s0, s1, s2)) hkm hmc10' hcm10 hlo10
                obtain ⟨y0, t0⟩ := HS.out.cells (j := k * 3) (by omega)
                obtain ⟨y1, t1⟩ := HS.out.cells (j := k * 3 + 1) (by omega)
                obtain ⟨y2, t2⟩ := HS.out.cells (j := k * 3 + 2) (by omega)
                have HQr : At 30 wr q7 #[.int .i64 s0, .int .i64 s1, .int .i64 s2] := (HK.out.block q7 HQ10.out.lt (by omega)).trans HQ10.out
                obtain ⟨z0, z1, z2, -⟩ := HQr.open3
                have HK2 := HK.out.trans (put3L_kept wr g10 k (s0, s1, s2))
                have HA2 : At 30 (put3L wr g10 k (s0, s1, s2)) q1 #[.int .i64 x, .int .i64 y, .int .i64 z] := (HK2.block q1 HA10.out.lt (by omega)).trans HA10.out
                have HB2 : Below w.heap.size w (put3L wr g10 k (s0, s1, s2)) := HB10.out.trans (HK2.below hlo10 HB10.out.size)
                have HI2 := HI.out.add (c := k) hkm (by rw [HQ.out]; exact HLO.out) (by rw [HQ.out]; exact HHI.out)
                rw [HQ.out] at HI2
                have HI3 := hid_of HI2
                unfold put3L at PP HA2 HB2
                have PP3 := hid_of PP
                have HA3 := hid_of HA2
                have HB3 := hid_of HB2
                have HN3 : Hid ((Value.slice (some ⟨g10, 0, none⟩) (m + 1) c10).ownBlock ≠ some q1) := fun e => by
                  simp only [Value.ownBlock, Option.some.injEq] at e
                  exact hgq1 e
                clear HS HK HK2 HQr HI HI2 HLO HHI HQ PP HA2 HB2 HQ10 HA10 HB10
                go_wp2
                exact ⟨⟨i + 1, m + 1, _, by omega, by go_num, PP3, HN3, HI3, HA3.out, HB3.out⟩, by simp [intOf]; omega⟩
end Go.Proofs.YtehbpcoiciodhaaGreat
