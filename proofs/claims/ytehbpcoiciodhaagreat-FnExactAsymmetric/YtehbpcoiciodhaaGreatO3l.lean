/-
  The law of Asymmetric: walked.
-/
import Derived.Test.YtehbpcoiciodhaaGreatO3k
namespace Go.Proofs.YtehbpcoiciodhaaGreat
open Go.RowKit

/-- Both answers are one. -/
theorem asy_one (n : Nat) (A : Nat → OpD) (x y z : Int) : ∃ (q0 q1 q2 : Int) (b : Bool), ∀ w e w', AsyR w n A x y z e w' → e = .returned (.tuple #[pV q0 q1 q2, .bool b]) ∧ Below w.heap.size w w' := by
  by_cases h : (isG n A ∧ inP x y z) ∧ ∃ m F, OrbI (orbP A x y z) n m F
  · obtain ⟨hG, m, F, hI⟩ := h
    refine ⟨(F 0).1, (F 0).2.1, (F 0).2.2, true, ?_⟩
    rintro w e w' ⟨⟨q0, q1, q2, b, rfl, hv⟩, hb⟩
    rcases hv with ⟨-, rfl, m', F', hI', hm', hq⟩ | ⟨hn, -⟩
    · obtain ⟨rfl, hF⟩ := hI.same hI'
      rw [← hF 0 hm'] at hq
      rw [← hq]
      exact ⟨rfl, hb⟩
    · exact absurd hG hn
  · refine ⟨0, 0, 0, false, ?_⟩
    rintro w e w' ⟨⟨q0, q1, q2, b, rfl, hv⟩, hb⟩
    rcases hv with ⟨hG, -, m', F', hI', -⟩ | ⟨-, rfl, rfl, rfl, rfl⟩
    · exact absurd ⟨hG, _, _, hI'⟩ h
    · exact ⟨rfl, hb⟩
/-- The answer's point in its box. -/
def CutS (wr : World) (B : Bool) (q0 q1 q2 : Int) (s6 s7 : Value) (wc : World) : Prop := ∃ q, s6 = .pointer (some ⟨q, 0, none⟩) ∧ s7 = .bool B ∧ wr.heap.size ≤ q ∧ At 30 wc q #[.int .i64 q0, .int .i64 q1, .int .i64 q2] ∧ Below wr.heap.size wr wc
set_option maxRecDepth 100000 in
set_option maxHeartbeats 3000000 in
theorem exactAsy_walk {w : World} {a : Option Addr} {n cap : Nat} {A : Nat → OpD} (x y z : Int) (hS : OpsS w a n A) (hn : n ≤ maxLen) :
    Calls Tryz.prog 4 #[.slice a n cap, pV x y z] w fun e w' => e = .returned (.bool true) ∧ Below w.heap.size w w' := by
  obtain ⟨q0, q1', q2, R, hM0⟩ := asy_one n A x y z
  have HM : Hid (∀ w e w', AsyR w n A x y z e w' → e = .returned (.tuple #[pV q0 q1' q2, .bool R]) ∧ Below w.heap.size w w') := hM0
  clear hM0
  unfold pV at HM
  obtain ⟨W1, hW1, A1, B, -⟩ := boxed w 24 #[.int .i64 x, .int .i64 y, .int .i64 z]
  obtain ⟨q1, hq1⟩ : ∃ q, w.heap.size = q := ⟨_, rfl⟩
  rw [hq1] at A1
  have HS : Hid (OpsS w a n A) := hS
  clear hS
  unfold pV
  go_enter Tryz.func4, Tryz.ntmps4
  go_wp2_with fail
  refine (szOpS_tot (HS.out.below B) hn).mono ?_
  rintro e w1 ⟨rr, rfl, hr, b1⟩
  replace A1 := A1.below b1
  replace B := B.trans (b1.mono B.size)
  clear b1 hW1 hq1
  rcases hr with rfl | ⟨h0, hsh, htot⟩
  · go_wp2
    go_ret
    exact ⟨rfl, B⟩
  have h1 : ¬ rr < 0 := by omega
  have HSH : Hid (Short n A) := hsh
  have HTT : Hid (totN A n ≤ 1048576) := htot
  clear hsh htot
  go_wp2_with fail
  have HB1 := hid_of B
  have HA1 := hid_of A1
  clear A1 B
  go_cut [6, 7] from 16 to 24 (fun s6 s7 wc => CutS w1 R q0 q1' q2 s6 s7 wc)
  case first =>
    obtain ⟨u0, hu0, bb⟩ : ∃ uu, w1.drew = uu ∧ Below w1.heap.size w1 uu := ⟨_, rfl, (Below.refl _ _).drew⟩
    have bk0 : Kb w1 u0 := bb
    clear bb
    refine wp_region_held_drew (S := Kb u0) (by kernel_rfl) (by rw [hu0]; exact Below.refl _ _) (fun hHeld => ?_)
    rw [hu0] at hHeld ⊢
    clear hu0
    have bu : Kb u0 u0 := Below.refl _ _
    change wpAnyH _ _ _ _ _ 11 #[false, false, false, false, false, false, false, false, false, false, false] _ _
    refine wpAnyH_take (i := 0) (v := .slice a n cap) rfl (by kernel_rfl) (by kernel_rfl) (by kernel_rfl) (fun _ _ _ h => h) (Or.inl ⟨by kernel_rfl, ?_⟩) hHeld ?_
    · intro w' hSw; go_simp
    try simp only [Act.put, List.setIfInBounds_toArray, List.set_cons_zero, List.set_cons_succ, List.getElem_toArray, List.getElem_cons_zero]
    refine wpAnyH_take (i := 2) (v := .agg #[.int .i64 x, .int .i64 y, .int .i64 z]) rfl (by kernel_rfl) (by kernel_rfl) (by kernel_rfl) (fun _ _ _ h => h) (Or.inl ⟨by kernel_rfl, ?_⟩) hHeld ?_
    · intro w' hSw; obtain ⟨z0, z1, z2, -⟩ := (HA1.out.below (bk0.trans (Below.mono hSw bk0.size))).open3; go_simp
    try simp only [Act.put, List.setIfInBounds_toArray, List.set_cons_zero, List.set_cons_succ, List.getElem_toArray, List.getElem_cons_succ, List.getElem_cons_zero]
    refine wpAnyH_ready (rs := [1, 8]) (by kernel_rfl) (by simp) ?_
    refine AllReadyH.cons rfl (fun KK hK' => ?_) (AllReadyH.cons rfl (fun KK hK' => ?_) AllReadyH.nil)
    · go_simp
      refine (toOpS_any (HS.out.below (HB1.out.trans ((bk0.trans (Below.mono bu bk0.size)).mono HB1.out.size))) HSH.out).mono ?_
      rintro e u1 ⟨g2, rfl, L2, bb⟩
      have HL2 := hid_of L2
      clear L2
      replace bu : Kb u0 u1 := bu.trans (bb.mono bu.size)
      clear bb
      try go_wp2_with fail
      clear hHeld
      refine hK'.out _ _ (bu) (fun hHeld => ?_)
      clear hK' KK
      try simp only [List.setIfInBounds_toArray, List.set_cons_zero, List.set_cons_succ]
      refine wpAnyH_ready (rs := [3, 8]) (by kernel_rfl) (by simp) ?_
      refine AllReadyH.cons rfl (fun KK hK' => ?_) (AllReadyH.cons rfl (fun KK hK' => ?_) AllReadyH.nil)
      · go_simp
        refine (toPoint_any x y z _).mono ?_
        rintro e u2 ⟨rfl, bb⟩
        replace HL2 := hid_of (HL2.out.below bb)
        replace bu : Kb u0 u2 := bu.trans (bb.mono bu.size)
        clear bb
        try go_wp2_with fail
        clear hHeld
        refine hK'.out _ _ (bu) (fun hHeld => ?_)
        clear hK' KK
        try simp only [List.setIfInBounds_toArray, List.set_cons_zero, List.set_cons_succ]
        refine wpAnyH_ready (rs := [4, 8]) (by kernel_rfl) (by simp) ?_
        refine AllReadyH.cons rfl (fun KK hK' => ?_) (AllReadyH.cons rfl (fun KK hK' => ?_) AllReadyH.nil)
        · go_simp
          refine (specAsy_any x y z HL2.out HSH.out.1).mono ?_
          rintro e u3 hv
          obtain ⟨rfl, bb⟩ := HM.out _ _ _ hv
          clear hv
          replace bu : Kb u0 u3 := bu.trans (bb.mono bu.size)
          clear bb
          try go_wp2_with fail
          clear hHeld
          refine hK'.out _ _ (bu) (fun hHeld => ?_)
          clear hK' KK
          try simp only [List.setIfInBounds_toArray, List.set_cons_zero, List.set_cons_succ]
          refine wpAnyH_take (i := 5) (v := .tuple #[.agg #[.int .i64 q0, .int .i64 q1', .int .i64 q2], .bool R]) rfl (by kernel_rfl) (by kernel_rfl) (by kernel_rfl) (fun _ _ _ h => h) (Or.inl ⟨by kernel_rfl, ?_⟩) hHeld ?_
          · intro w' hSw; go_simp
          try simp only [Act.put, List.setIfInBounds_toArray, List.set_cons_zero, List.set_cons_succ, List.getElem_toArray, List.getElem_cons_succ, List.getElem_cons_zero]
          refine wpAnyH_take (i := 6) (v := .agg #[.int .i64 q0, .int .i64 q1', .int .i64 q2]) rfl (by kernel_rfl) (by kernel_rfl) (by kernel_rfl) (fun _ _ _ h => h) (Or.inl ⟨by kernel_rfl, ?_⟩) hHeld ?_
          · intro w' hSw; go_simp
          try simp only [Act.put, List.setIfInBounds_toArray, List.set_cons_zero, List.set_cons_succ, List.getElem_toArray, List.getElem_cons_succ, List.getElem_cons_zero]
          refine wpAnyH_take (i := 7) (v := .bool R) rfl (by kernel_rfl) (by kernel_rfl) (by kernel_rfl) (fun _ _ _ h => h) (Or.inl ⟨by kernel_rfl, ?_⟩) hHeld ?_
          · intro w' hSw; go_simp
          try simp only [Act.put, List.setIfInBounds_toArray, List.set_cons_zero, List.set_cons_succ, List.getElem_toArray, List.getElem_cons_succ, List.getElem_cons_zero]
          refine wpAnyH_ready (rs := [8]) (by kernel_rfl) (by simp) ?_
          refine AllReadyH.cons rfl (fun KK hK' => ?_) AllReadyH.nil
          go_simp
          obtain ⟨u4, h6, G6, bb, -⟩ := boxed u3 30 #[.int .i64 0, .int .i64 0, .int .i64 0]
          rw [h6]
          clear h6
          obtain ⟨g6, hg6⟩ : ∃ q, u3.heap.size = q := ⟨_, rfl⟩
          rw [hg6] at G6 ⊢
          have hgu : u0.heap.size ≤ g6 := by have := bu.size; omega
          clear hg6
          replace bu : Kb u0 u4 := bu.trans (bb.mono bu.size)
          clear bb
          clear hHeld
          refine hK'.out _ _ (bu) (fun hHeld => ?_)
          clear hK' KK
          try simp only [List.setIfInBounds_toArray, List.set_cons_zero, List.set_cons_succ]
          refine wpAnyH_ready (rs := [9]) (by kernel_rfl) (by simp) ?_
          refine AllReadyH.cons rfl (fun KK hK' => ?_) AllReadyH.nil
          obtain ⟨y0, y1, y2, y3, y4, y5⟩ := G6.open3
          go_simp
          have G7 := put3c_at G6 (.int .i64 q0) (.int .i64 q1') (.int .i64 q2)
          replace bu : Kb u0 (((u4.setCell ⟨g6, 0, none⟩ (.int .i64 q0)).setCell ⟨g6, 1, none⟩ (.int .i64 q1')).setCell ⟨g6, 2, none⟩ (.int .i64 q2)) := ((bu.setCell hgu _).setCell hgu _).setCell hgu _
          obtain ⟨u5, hv⟩ : ∃ V, ((u4.setCell ⟨g6, 0, none⟩ (.int .i64 q0)).setCell ⟨g6, 1, none⟩ (.int .i64 q1')).setCell ⟨g6, 2, none⟩ (.int .i64 q2) = V := ⟨_, rfl⟩
          rw [hv] at G7 bu ⊢
          clear hv G6 y0 y1 y2 y3 y4 y5
          clear hHeld
          refine hK'.out _ _ (bu) (fun hHeld => ?_)
          clear hK' KK
          try simp only [List.setIfInBounds_toArray, List.set_cons_zero, List.set_cons_succ]
          refine wpAnyH_ready (rs := [10]) (by kernel_rfl) (by simp) ?_
          refine AllReadyH.cons rfl (fun KK hK' => ?_) AllReadyH.nil
          go_simp
          clear hHeld
          refine hK'.out _ _ (bu) (fun hHeld => ?_)
          clear hK' KK
          try simp only [List.setIfInBounds_toArray, List.set_cons_zero, List.set_cons_succ]
          refine wpAnyH_done (by kernel_rfl) ?_ _
          clear hHeld
          have bz := bk0.trans (Below.mono bu bk0.size)
          have hg7 : w1.heap.size ≤ g6 := by have := bk0.size; omega
          go_wp2_with fail
          go_meet
          case rel => exact ⟨g6, rfl, rfl, hg7, G7, bz⟩
        · go_simp
          obtain ⟨u3, h6, G6, bb, -⟩ := boxed u2 30 #[.int .i64 0, .int .i64 0, .int .i64 0]
          rw [h6]
          clear h6
          obtain ⟨g6, hg6⟩ : ∃ q, u2.heap.size = q := ⟨_, rfl⟩
          rw [hg6] at G6 ⊢
          have hgu : u0.heap.size ≤ g6 := by have := bu.size; omega
          clear hg6
          replace HL2 := hid_of (HL2.out.below bb)
          replace bu : Kb u0 u3 := bu.trans (bb.mono bu.size)
          clear bb
          clear hHeld
          refine hK'.out _ _ (bu) (fun hHeld => ?_)
          clear hK' KK
          try simp only [List.setIfInBounds_toArray, List.set_cons_zero, List.set_cons_succ]
          refine wpAnyH_ready (rs := [4]) (by kernel_rfl) (by simp) ?_
          refine AllReadyH.cons rfl (fun KK hK' => ?_) AllReadyH.nil
          go_simp
          refine (specAsy_any x y z HL2.out HSH.out.1).mono ?_
          rintro e u4 hv
          obtain ⟨rfl, bb⟩ := HM.out _ _ _ hv
          clear hv
          replace G6 := G6.below bb
          replace bu : Kb u0 u4 := bu.trans (bb.mono bu.size)
          clear bb
          try go_wp2_with fail
          clear hHeld
          refine hK'.out _ _ (bu) (fun hHeld => ?_)
          clear hK' KK
          try simp only [List.setIfInBounds_toArray, List.set_cons_zero, List.set_cons_succ]
          refine wpAnyH_take (i := 5) (v := .tuple #[.agg #[.int .i64 q0, .int .i64 q1', .int .i64 q2], .bool R]) rfl (by kernel_rfl) (by kernel_rfl) (by kernel_rfl) (fun _ _ _ h => h) (Or.inl ⟨by kernel_rfl, ?_⟩) hHeld ?_
          · intro w' hSw; go_simp
          try simp only [Act.put, List.setIfInBounds_toArray, List.set_cons_zero, List.set_cons_succ, List.getElem_toArray, List.getElem_cons_succ, List.getElem_cons_zero]
          refine wpAnyH_take (i := 6) (v := .agg #[.int .i64 q0, .int .i64 q1', .int .i64 q2]) rfl (by kernel_rfl) (by kernel_rfl) (by kernel_rfl) (fun _ _ _ h => h) (Or.inl ⟨by kernel_rfl, ?_⟩) hHeld ?_
          · intro w' hSw; go_simp
          try simp only [Act.put, List.setIfInBounds_toArray, List.set_cons_zero, List.set_cons_succ, List.getElem_toArray, List.getElem_cons_succ, List.getElem_cons_zero]
          refine wpAnyH_take (i := 7) (v := .bool R) rfl (by kernel_rfl) (by kernel_rfl) (by kernel_rfl) (fun _ _ _ h => h) (Or.inl ⟨by kernel_rfl, ?_⟩) hHeld ?_
          · intro w' hSw; go_simp
          try simp only [Act.put, List.setIfInBounds_toArray, List.set_cons_zero, List.set_cons_succ, List.getElem_toArray, List.getElem_cons_succ, List.getElem_cons_zero]
          refine wpAnyH_ready (rs := [9]) (by kernel_rfl) (by simp) ?_
          refine AllReadyH.cons rfl (fun KK hK' => ?_) AllReadyH.nil
          obtain ⟨y0, y1, y2, y3, y4, y5⟩ := G6.open3
          go_simp
          have G7 := put3c_at G6 (.int .i64 q0) (.int .i64 q1') (.int .i64 q2)
          replace bu : Kb u0 (((u4.setCell ⟨g6, 0, none⟩ (.int .i64 q0)).setCell ⟨g6, 1, none⟩ (.int .i64 q1')).setCell ⟨g6, 2, none⟩ (.int .i64 q2)) := ((bu.setCell hgu _).setCell hgu _).setCell hgu _
          obtain ⟨u5, hv⟩ : ∃ V, ((u4.setCell ⟨g6, 0, none⟩ (.int .i64 q0)).setCell ⟨g6, 1, none⟩ (.int .i64 q1')).setCell ⟨g6, 2, none⟩ (.int .i64 q2) = V := ⟨_, rfl⟩
          rw [hv] at G7 bu ⊢
          clear hv G6 y0 y1 y2 y3 y4 y5
          clear hHeld
          refine hK'.out _ _ (bu) (fun hHeld => ?_)
          clear hK' KK
          try simp only [List.setIfInBounds_toArray, List.set_cons_zero, List.set_cons_succ]
          refine wpAnyH_ready (rs := [10]) (by kernel_rfl) (by simp) ?_
          refine AllReadyH.cons rfl (fun KK hK' => ?_) AllReadyH.nil
          go_simp
          clear hHeld
          refine hK'.out _ _ (bu) (fun hHeld => ?_)
          clear hK' KK
          try simp only [List.setIfInBounds_toArray, List.set_cons_zero, List.set_cons_succ]
          refine wpAnyH_done (by kernel_rfl) ?_ _
          clear hHeld
          have bz := bk0.trans (Below.mono bu bk0.size)
          have hg7 : w1.heap.size ≤ g6 := by have := bk0.size; omega
          go_wp2_with fail
          go_meet
          case rel => exact ⟨g6, rfl, rfl, hg7, G7, bz⟩
      · go_simp
        obtain ⟨u2, h6, G6, bb, -⟩ := boxed u1 30 #[.int .i64 0, .int .i64 0, .int .i64 0]
        rw [h6]
        clear h6
        obtain ⟨g6, hg6⟩ : ∃ q, u1.heap.size = q := ⟨_, rfl⟩
        rw [hg6] at G6 ⊢
        have hgu : u0.heap.size ≤ g6 := by have := bu.size; omega
        clear hg6
        replace HL2 := hid_of (HL2.out.below bb)
        replace bu : Kb u0 u2 := bu.trans (bb.mono bu.size)
        clear bb
        clear hHeld
        refine hK'.out _ _ (bu) (fun hHeld => ?_)
        clear hK' KK
        try simp only [List.setIfInBounds_toArray, List.set_cons_zero, List.set_cons_succ]
        refine wpAnyH_ready (rs := [3]) (by kernel_rfl) (by simp) ?_
        refine AllReadyH.cons rfl (fun KK hK' => ?_) AllReadyH.nil
        go_simp
        refine (toPoint_any x y z _).mono ?_
        rintro e u3 ⟨rfl, bb⟩
        replace HL2 := hid_of (HL2.out.below bb)
        replace G6 := G6.below bb
        replace bu : Kb u0 u3 := bu.trans (bb.mono bu.size)
        clear bb
        try go_wp2_with fail
        clear hHeld
        refine hK'.out _ _ (bu) (fun hHeld => ?_)
        clear hK' KK
        try simp only [List.setIfInBounds_toArray, List.set_cons_zero, List.set_cons_succ]
        refine wpAnyH_ready (rs := [4]) (by kernel_rfl) (by simp) ?_
        refine AllReadyH.cons rfl (fun KK hK' => ?_) AllReadyH.nil
        go_simp
        refine (specAsy_any x y z HL2.out HSH.out.1).mono ?_
        rintro e u4 hv
        obtain ⟨rfl, bb⟩ := HM.out _ _ _ hv
        clear hv
        replace G6 := G6.below bb
        replace bu : Kb u0 u4 := bu.trans (bb.mono bu.size)
        clear bb
        try go_wp2_with fail
        clear hHeld
        refine hK'.out _ _ (bu) (fun hHeld => ?_)
        clear hK' KK
        try simp only [List.setIfInBounds_toArray, List.set_cons_zero, List.set_cons_succ]
        refine wpAnyH_take (i := 5) (v := .tuple #[.agg #[.int .i64 q0, .int .i64 q1', .int .i64 q2], .bool R]) rfl (by kernel_rfl) (by kernel_rfl) (by kernel_rfl) (fun _ _ _ h => h) (Or.inl ⟨by kernel_rfl, ?_⟩) hHeld ?_
        · intro w' hSw; go_simp
        try simp only [Act.put, List.setIfInBounds_toArray, List.set_cons_zero, List.set_cons_succ, List.getElem_toArray, List.getElem_cons_succ, List.getElem_cons_zero]
        refine wpAnyH_take (i := 6) (v := .agg #[.int .i64 q0, .int .i64 q1', .int .i64 q2]) rfl (by kernel_rfl) (by kernel_rfl) (by kernel_rfl) (fun _ _ _ h => h) (Or.inl ⟨by kernel_rfl, ?_⟩) hHeld ?_
        · intro w' hSw; go_simp
        try simp only [Act.put, List.setIfInBounds_toArray, List.set_cons_zero, List.set_cons_succ, List.getElem_toArray, List.getElem_cons_succ, List.getElem_cons_zero]
        refine wpAnyH_take (i := 7) (v := .bool R) rfl (by kernel_rfl) (by kernel_rfl) (by kernel_rfl) (fun _ _ _ h => h) (Or.inl ⟨by kernel_rfl, ?_⟩) hHeld ?_
        · intro w' hSw; go_simp
        try simp only [Act.put, List.setIfInBounds_toArray, List.set_cons_zero, List.set_cons_succ, List.getElem_toArray, List.getElem_cons_succ, List.getElem_cons_zero]
        refine wpAnyH_ready (rs := [9]) (by kernel_rfl) (by simp) ?_
        refine AllReadyH.cons rfl (fun KK hK' => ?_) AllReadyH.nil
        obtain ⟨y0, y1, y2, y3, y4, y5⟩ := G6.open3
        go_simp
        have G7 := put3c_at G6 (.int .i64 q0) (.int .i64 q1') (.int .i64 q2)
        replace bu : Kb u0 (((u4.setCell ⟨g6, 0, none⟩ (.int .i64 q0)).setCell ⟨g6, 1, none⟩ (.int .i64 q1')).setCell ⟨g6, 2, none⟩ (.int .i64 q2)) := ((bu.setCell hgu _).setCell hgu _).setCell hgu _
        obtain ⟨u5, hv⟩ : ∃ V, ((u4.setCell ⟨g6, 0, none⟩ (.int .i64 q0)).setCell ⟨g6, 1, none⟩ (.int .i64 q1')).setCell ⟨g6, 2, none⟩ (.int .i64 q2) = V := ⟨_, rfl⟩
        rw [hv] at G7 bu ⊢
        clear hv G6 y0 y1 y2 y3 y4 y5
        clear hHeld
        refine hK'.out _ _ (bu) (fun hHeld => ?_)
        clear hK' KK
        try simp only [List.setIfInBounds_toArray, List.set_cons_zero, List.set_cons_succ]
        refine wpAnyH_ready (rs := [10]) (by kernel_rfl) (by simp) ?_
        refine AllReadyH.cons rfl (fun KK hK' => ?_) AllReadyH.nil
        go_simp
        clear hHeld
        refine hK'.out _ _ (bu) (fun hHeld => ?_)
        clear hK' KK
        try simp only [List.setIfInBounds_toArray, List.set_cons_zero, List.set_cons_succ]
        refine wpAnyH_done (by kernel_rfl) ?_ _
        clear hHeld
        have bz := bk0.trans (Below.mono bu bk0.size)
        have hg7 : w1.heap.size ≤ g6 := by have := bk0.size; omega
        go_wp2_with fail
        go_meet
        case rel => exact ⟨g6, rfl, rfl, hg7, G7, bz⟩
    · go_simp
      obtain ⟨u1, h6, G6, bb, -⟩ := boxed u0 30 #[.int .i64 0, .int .i64 0, .int .i64 0]
      rw [h6]
      clear h6
      obtain ⟨g6, hg6⟩ : ∃ q, u0.heap.size = q := ⟨_, rfl⟩
      rw [hg6] at G6 ⊢
      have hgu : u0.heap.size ≤ g6 := by have := bu.size; omega
      clear hg6
      replace bu : Kb u0 u1 := bu.trans (bb.mono bu.size)
      clear bb
      clear hHeld
      refine hK'.out _ _ (bu) (fun hHeld => ?_)
      clear hK' KK
      try simp only [List.setIfInBounds_toArray, List.set_cons_zero, List.set_cons_succ]
      refine wpAnyH_ready (rs := [1]) (by kernel_rfl) (by simp) ?_
      refine AllReadyH.cons rfl (fun KK hK' => ?_) AllReadyH.nil
      go_simp
      refine (toOpS_any (HS.out.below (HB1.out.trans ((bk0.trans (Below.mono bu bk0.size)).mono HB1.out.size))) HSH.out).mono ?_
      rintro e u2 ⟨g2, rfl, L2, bb⟩
      have HL2 := hid_of L2
      clear L2
      replace G6 := G6.below bb
      replace bu : Kb u0 u2 := bu.trans (bb.mono bu.size)
      clear bb
      try go_wp2_with fail
      clear hHeld
      refine hK'.out _ _ (bu) (fun hHeld => ?_)
      clear hK' KK
      try simp only [List.setIfInBounds_toArray, List.set_cons_zero, List.set_cons_succ]
      refine wpAnyH_ready (rs := [3]) (by kernel_rfl) (by simp) ?_
      refine AllReadyH.cons rfl (fun KK hK' => ?_) AllReadyH.nil
      go_simp
      refine (toPoint_any x y z _).mono ?_
      rintro e u3 ⟨rfl, bb⟩
      replace HL2 := hid_of (HL2.out.below bb)
      replace G6 := G6.below bb
      replace bu : Kb u0 u3 := bu.trans (bb.mono bu.size)
      clear bb
      try go_wp2_with fail
      clear hHeld
      refine hK'.out _ _ (bu) (fun hHeld => ?_)
      clear hK' KK
      try simp only [List.setIfInBounds_toArray, List.set_cons_zero, List.set_cons_succ]
      refine wpAnyH_ready (rs := [4]) (by kernel_rfl) (by simp) ?_
      refine AllReadyH.cons rfl (fun KK hK' => ?_) AllReadyH.nil
      go_simp
      refine (specAsy_any x y z HL2.out HSH.out.1).mono ?_
      rintro e u4 hv
      obtain ⟨rfl, bb⟩ := HM.out _ _ _ hv
      clear hv
      replace G6 := G6.below bb
      replace bu : Kb u0 u4 := bu.trans (bb.mono bu.size)
      clear bb
      try go_wp2_with fail
      clear hHeld
      refine hK'.out _ _ (bu) (fun hHeld => ?_)
      clear hK' KK
      try simp only [List.setIfInBounds_toArray, List.set_cons_zero, List.set_cons_succ]
      refine wpAnyH_take (i := 5) (v := .tuple #[.agg #[.int .i64 q0, .int .i64 q1', .int .i64 q2], .bool R]) rfl (by kernel_rfl) (by kernel_rfl) (by kernel_rfl) (fun _ _ _ h => h) (Or.inl ⟨by kernel_rfl, ?_⟩) hHeld ?_
      · intro w' hSw; go_simp
      try simp only [Act.put, List.setIfInBounds_toArray, List.set_cons_zero, List.set_cons_succ, List.getElem_toArray, List.getElem_cons_succ, List.getElem_cons_zero]
      refine wpAnyH_take (i := 6) (v := .agg #[.int .i64 q0, .int .i64 q1', .int .i64 q2]) rfl (by kernel_rfl) (by kernel_rfl) (by kernel_rfl) (fun _ _ _ h => h) (Or.inl ⟨by kernel_rfl, ?_⟩) hHeld ?_
      · intro w' hSw; go_simp
      try simp only [Act.put, List.setIfInBounds_toArray, List.set_cons_zero, List.set_cons_succ, List.getElem_toArray, List.getElem_cons_succ, List.getElem_cons_zero]
      refine wpAnyH_take (i := 7) (v := .bool R) rfl (by kernel_rfl) (by kernel_rfl) (by kernel_rfl) (fun _ _ _ h => h) (Or.inl ⟨by kernel_rfl, ?_⟩) hHeld ?_
      · intro w' hSw; go_simp
      try simp only [Act.put, List.setIfInBounds_toArray, List.set_cons_zero, List.set_cons_succ, List.getElem_toArray, List.getElem_cons_succ, List.getElem_cons_zero]
      refine wpAnyH_ready (rs := [9]) (by kernel_rfl) (by simp) ?_
      refine AllReadyH.cons rfl (fun KK hK' => ?_) AllReadyH.nil
      obtain ⟨y0, y1, y2, y3, y4, y5⟩ := G6.open3
      go_simp
      have G7 := put3c_at G6 (.int .i64 q0) (.int .i64 q1') (.int .i64 q2)
      replace bu : Kb u0 (((u4.setCell ⟨g6, 0, none⟩ (.int .i64 q0)).setCell ⟨g6, 1, none⟩ (.int .i64 q1')).setCell ⟨g6, 2, none⟩ (.int .i64 q2)) := ((bu.setCell hgu _).setCell hgu _).setCell hgu _
      obtain ⟨u5, hv⟩ : ∃ V, ((u4.setCell ⟨g6, 0, none⟩ (.int .i64 q0)).setCell ⟨g6, 1, none⟩ (.int .i64 q1')).setCell ⟨g6, 2, none⟩ (.int .i64 q2) = V := ⟨_, rfl⟩
      rw [hv] at G7 bu ⊢
      clear hv G6 y0 y1 y2 y3 y4 y5
      clear hHeld
      refine hK'.out _ _ (bu) (fun hHeld => ?_)
      clear hK' KK
      try simp only [List.setIfInBounds_toArray, List.set_cons_zero, List.set_cons_succ]
      refine wpAnyH_ready (rs := [10]) (by kernel_rfl) (by simp) ?_
      refine AllReadyH.cons rfl (fun KK hK' => ?_) AllReadyH.nil
      go_simp
      clear hHeld
      refine hK'.out _ _ (bu) (fun hHeld => ?_)
      clear hK' KK
      try simp only [List.setIfInBounds_toArray, List.set_cons_zero, List.set_cons_succ]
      refine wpAnyH_done (by kernel_rfl) ?_ _
      clear hHeld
      have bz := bk0.trans (Below.mono bu bk0.size)
      have hg7 : w1.heap.size ≤ g6 := by have := bk0.size; omega
      go_wp2_with fail
      go_meet
      case rel => exact ⟨g6, rfl, rfl, hg7, G7, bz⟩
  case rest =>
    obtain ⟨g6, rfl, rfl, hg6, Q6, b5⟩ := hcut
    rename World => w5
    have HA5 := hid_of (HA1.out.below b5)
    have HB5 := hid_of (HB1.out.trans (b5.mono HB1.out.size))
    have HQ5 := hid_of Q6
    clear HA1 HB1 Q6 b5 hg6
    go_wp2_with fail
    refine (toOpS_any (HS.out.below HB5.out) HSH.out).mono ?_
    rintro e w6 ⟨g8, rfl, L8, b6⟩
    have HL8 := hid_of L8
    have HA6 := hid_of (HA5.out.below b6)
    have HB6 := hid_of (HB5.out.trans (b6.mono HB5.out.size))
    have HQ6 := hid_of (HQ5.out.below b6)
    clear L8 b6 HA5 HB5 HQ5
    obtain ⟨d0, d1, d2, -⟩ := HA6.out.open3
    go_wp2_with fail
    refine (toPoint_any x y z _).mono ?_
    rintro e w7 ⟨rfl, b7⟩
    have HL7 := hid_of (HL8.out.below b7)
    have HB7 := hid_of (HB6.out.trans (b7.mono HB6.out.size))
    have HQ7 := hid_of (HQ6.out.below b7)
    clear HL8 HB6 HQ6 HA6 b7 d0 d1 d2
    go_wp2_with fail
    refine (implAsy_any x y z HL7.out HSH.out.1).mono ?_
    rintro e w8 hv
    obtain ⟨rfl, b8⟩ := HM.out _ _ _ hv
    have HL8 := hid_of (HL7.out.below b8)
    have HB8 := hid_of (HB7.out.trans (b8.mono HB7.out.size))
    have HQ8 := hid_of (HQ7.out.below b8)
    clear HL7 HB7 HQ7 b8 hv
    obtain ⟨W9, hW9, Q9, b9, -⟩ := boxed w8 30 #[.int .i64 q0, .int .i64 q1', .int .i64 q2]
    obtain ⟨g9, hg9⟩ : ∃ q, w8.heap.size = q := ⟨_, rfl⟩
    rw [hg9] at Q9
    have HL9 := hid_of (HL8.out.below b9)
    have HB9 := hid_of (HB8.out.trans (b9.mono HB8.out.size))
    obtain ⟨y0, y1, y2, -⟩ := (HQ8.out.below b9).open3
    obtain ⟨x0, x1, x2, -⟩ := Q9.open3
    have hg69 : g6 < W9.heap.size := (HQ8.out.below b9).lt
    clear HL8 HB8 HQ8 Q9 b9
    have EQ := eqPoint_any q0 q1' q2
    go_wp2_with fail
    refine (EQ _).mono ?_
    rintro e w10 ⟨rfl, b10⟩
    have HL10 := hid_of (HL9.out.below b10)
    have HB10 := hid_of (HB9.out.trans (b10.mono HB9.out.size))
    have hRR : (R != R) = false := by cases R <;> rfl
    clear HL9 HB9 b10 EQ y0 y1 y2 x0 x1 x2 hW9 hg9 hg69
    go_wp2_with fail
    refine (toOpS_any (HS.out.below HB10.out) HSH.out).mono ?_
    rintro e w11 ⟨g11, rfl, L11, b11⟩
    have HB11 := hid_of (HB10.out.trans (b11.mono HB10.out.size))
    have HL11 := hid_of (HL10.out.below b11)
    clear b11 HB10 HL10
    go_wp2_with fail
    refine (eqOpS_true HL11.out L11 HSH.out).mono ?_
    rintro e w12 ⟨rfl, b12⟩
    have HB12 := hid_of (HB11.out.trans (b12.mono HB11.out.size))
    clear b12 HB11 HL11 L11
    go_wp2
    go_ret
    exact ⟨rfl, HB12.out⟩
end Go.Proofs.YtehbpcoiciodhaaGreat
