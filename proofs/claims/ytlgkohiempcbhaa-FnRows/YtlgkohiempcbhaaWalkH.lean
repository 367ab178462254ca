/-
  Whether a vector lies in the lattice, the program, walked.
-/
import Derived.Test.YtlgkohiempcbhaaWalkG
namespace Go.Proofs.Ytlgkohiempcbhaa
open Go.RowKit

/-- Behind the region: a new block holds the adjugate. -/
def One (V : World) (d : Nat → Int) (D : Int) (s t : Value) (wc : World) : Prop :=
  ∃ g, s = .pointer (some ⟨g, 0, none⟩) ∧ t = .int .i64 D ∧ V.heap.size ≤ g ∧ At 54 wc g (matA d) ∧ Below V.heap.size V wc
set_option maxRecDepth 100000 in
set_option maxHeartbeats 4000000 in
theorem spans_any {m : Nat → Int} (hm : ∀ i, i < 9 → -1000 ≤ m i ∧ m i ≤ 1000) (hD0 : det3 m ≠ 0) {x y z : Int} (hx : inIx x) (hy : inIx y) (hz : inIx z) (w : World) :
    Calls Try.prog 43 #[.agg (matA m), .agg #[.int .i64 x, .int .i64 y, .int .i64 z]] w fun e w' => e = .returned (.bool (spanned m x y z)) ∧ Below w.heap.size w w' := by
  have hadj : ∀ w, Calls Try.prog 49 #[.agg (matA m)] w fun e w' => e = .returned (.agg (matA (adj m))) ∧ Below w.heap.size w w' := adj_any hm
  have hdet : ∀ w, Calls Try.prog 40 #[.agg (matA m)] w fun e w' => e = .returned (.int .i64 (det3 m)) ∧ Below w.heap.size w w' := det_any hm
  have HB : Hid (∀ k, (-2000000000000000 ≤ x * adj m k ∧ x * adj m k ≤ 2000000000000000) ∧ (-2000000000000000 ≤ y * adj m (3 + k) ∧ y * adj m (3 + k) ≤ 2000000000000000) ∧ (-2000000000000000 ≤ z * adj m (6 + k) ∧ z * adj m (6 + k) ≤ 2000000000000000)) := cram_bound hm hx hy hz
  have HSP0 : spanned m x y z = (decide ((cram m x y z 0).tmod (det3 m) = 0) && (decide ((cram m x y z 1).tmod (det3 m) = 0) && decide ((cram m x y z 2).tmod (det3 m) = 0))) := rfl
  obtain ⟨D, hD⟩ : ∃ D, det3 m = D := ⟨_, rfl⟩
  rw [hD] at hD0 hdet HSP0
  clear hD hx hy hz hm
  have HSP : Hid (spanned m x y z = (decide ((cram m x y z 0).tmod D = 0) && (decide ((cram m x y z 1).tmod D = 0) && decide ((cram m x y z 2).tmod D = 0)))) := HSP0
  clear HSP0
  obtain ⟨d, hd⟩ : ∃ d, adj m = d := ⟨_, rfl⟩
  have hcr : ∀ k, cram m x y z k = x * d k + y * d (3 + k) + z * d (6 + k) := fun k => by rw [cram, hd]
  have HCR : Hid (∀ k, cram m x y z k = x * d k + y * d (3 + k) + z * d (6 + k)) := hcr
  rw [hd] at hadj HB
  clear hd hcr
  obtain ⟨W1, hW1, a1, bW1, z1⟩ := boxed w 54 (matA m)
  obtain ⟨W2, hW2, a2, bW2, z2⟩ := boxed W1 60 #[.int .i64 x, .int .i64 y, .int .i64 z]
  rw [z1] at a2 bW2 z2
  replace a1 := a1.belowN bW2 (by omega)
  have bW : Below w.heap.size w W2 := bW1.trans (bW2.mono (by omega))
  clear bW1 bW2
  unfold matA at hW1 hadj hdet ⊢
  go_enter Try.func43, Try.ntmps43
  go_wp2_with fail
  clear hW1 hW2 z1 z2
  obtain ⟨wr, hwr⟩ : ∃ wr, W2 = wr := ⟨_, rfl⟩
  rw [hwr] at a1 a2 bW ⊢
  clear hwr
  have mk : Hid (∀ w', Below wr.heap.size wr w' → S9m wr w.heap.size m w') := s9m_mk a1
  go_cut [5, 6] from 8 (fun s5 s6 wc => One wr d D s5 s6 wc)
  case first =>
    clear a1 a2 bW
    have hB : Below wr.heap.size wr wr.drew := (Below.refl _ _).drew
    refine wp_region_held_drew (S := S9m wr w.heap.size m) (by kernel_rfl) (mk.out _ hB) (fun hHeld => ?_)
    obtain ⟨w0, hw0⟩ : ∃ w0, wr.drew = w0 := ⟨_, rfl⟩
    rw [hw0] at hB hHeld ⊢
    clear hw0
    refine wpAnyH_take (i := 0) (v := .agg (matL m).toArray) rfl (by kernel_rfl) (by kernel_rfl) (by kernel_rfl) (fun _ _ _ h => h) (yieldsIf_load_mid (by rfl) _ _ rfl _ _ rfl (matL m) _ (fun w' h => h.1) Try.underlying54 rfl (size39 m)) hHeld ?_
    try simp only [Act.put]
    refine wpAnyH_take (i := 2) (v := .agg (matL m).toArray) rfl (by kernel_rfl) (by kernel_rfl) (by kernel_rfl) (fun _ _ _ h => h) (yieldsIf_load_mid (by rfl) _ _ rfl _ _ rfl (matL m) _ (fun w' h => h.1) Try.underlying54 rfl (size39 m)) hHeld ?_
    try simp only [Act.put]
    refine wpAnyH_ready (rs := [1, 4]) (by kernel_rfl) (by simp) ?_
    refine AllReadyH.cons rfl (fun K hK => ?_) ?_
    · go_simp
      refine (hadj _).mono ?_
      rintro e w1 ⟨rfl, b1⟩
      try go_wp2_with fail
      replace hB := bl_step hB b1
      clear hHeld
      refine hK.out _ _ (mk.out _ hB) (fun hHeld => ?_)
      clear hK K
      try simp only [Act.put, List.setIfInBounds_toArray, List.set_cons_zero, List.set_cons_succ]
      refine wpAnyH_ready (rs := [3, 4]) (by kernel_rfl) (by simp) ?_
      refine AllReadyH.cons rfl (fun K hK => ?_) ?_
      · go_simp
        refine (hdet _).mono ?_
        rintro e w3 ⟨rfl, b3⟩
        try go_wp2_with fail
        replace hB := bl_step hB b3
        clear hHeld
        refine hK.out _ _ (mk.out _ hB) (fun hHeld => ?_)
        clear hK K
        try simp only [Act.put, List.setIfInBounds_toArray, List.set_cons_zero, List.set_cons_succ]
        refine wpAnyH_ready (rs := [4]) (by kernel_rfl) (by simp) ?_
        refine AllReadyH.cons rfl (fun K hK => ?_) ?_
        · go_simp
          obtain ⟨w4, h4, B4, b4, -⟩ := boxed w3 54 (matA fun _ => 0)
          unfold matA at h4
          rw [h4]
          obtain ⟨g, hg⟩ : ∃ g, w3.heap.size = g := ⟨_, rfl⟩
          rw [hg] at B4
          have s4 : wr.heap.size ≤ g := hg ▸ hB.size
          try rw [hg]
          replace hB := bl_step hB b4
          clear hHeld
          refine hK.out _ _ (mk.out _ hB) (fun hHeld => ?_)
          clear hK K
          try simp only [Act.put, List.setIfInBounds_toArray, List.set_cons_zero, List.set_cons_succ]
          refine wpAnyH_ready (rs := [5]) (by kernel_rfl) (by simp) ?_
          refine AllReadyH.cons rfl (fun K hK => ?_) AllReadyH.nil
          obtain ⟨⟨x0, x1, x2, x3, x4, x5, x6, x7, x8⟩, y0, y1, y2, y3, y4, y5, y6, y7, y8⟩ := B4.open9
          go_simp
          clear x0 x1 x2 x3 x4 x5 x6 x7 x8 y0 y1 y2 y3 y4 y5 y6 y7 y8 hHeld
          obtain ⟨X1, hX1⟩ : ∃ X1, put9 w4 g d = X1 := ⟨_, rfl⟩
          have C4 : At 54 X1 g (matA d) := hX1 ▸ put9_at B4 d
          have hB1 : Below wr.heap.size wr X1 := hX1 ▸ put9_below hB s4 d
          unfold put9 at hX1
          rw [hX1]
          refine hK.out _ _ (mk.out _ hB1) (fun hHeld => ?_)
          clear hK K B4 hB hX1
          try simp only [Act.put, List.setIfInBounds_toArray, List.set_cons_zero, List.set_cons_succ]
          refine wpAnyH_ready (rs := [6]) (by kernel_rfl) (by simp) ?_
          refine AllReadyH.cons rfl (fun K hK => ?_) AllReadyH.nil
          go_simp
          refine hK.out _ _ (mk.out _ hB1) (fun hHeld => ?_)
          clear hK K hHeld
          try simp only [Act.put, List.setIfInBounds_toArray, List.set_cons_zero, List.set_cons_succ]
          refine wpAnyH_done (by kernel_rfl) ?_ _
          go_wp2_with fail
          go_meet
          case rel => exact ⟨g, rfl, rfl, s4, C4, hB1⟩
        exact AllReadyH.nil
      refine AllReadyH.cons rfl (fun K hK => ?_) ?_
      · go_simp
        obtain ⟨w4, h4, B4, b4, -⟩ := boxed w1 54 (matA fun _ => 0)
        unfold matA at h4
        rw [h4]
        obtain ⟨g, hg⟩ : ∃ g, w1.heap.size = g := ⟨_, rfl⟩
        rw [hg] at B4
        have s4 : wr.heap.size ≤ g := hg ▸ hB.size
        try rw [hg]
        replace hB := bl_step hB b4
        clear hHeld
        refine hK.out _ _ (mk.out _ hB) (fun hHeld => ?_)
        clear hK K
        try simp only [Act.put, List.setIfInBounds_toArray, List.set_cons_zero, List.set_cons_succ]
        refine wpAnyH_ready (rs := [3]) (by kernel_rfl) (by simp) ?_
        refine AllReadyH.cons rfl (fun K hK => ?_) ?_
        · go_simp
          refine (hdet _).mono ?_
          rintro e w3 ⟨rfl, b3⟩
          try go_wp2_with fail
          replace hB := bl_step hB b3
          replace B4 := B4.below b3
          clear hHeld
          refine hK.out _ _ (mk.out _ hB) (fun hHeld => ?_)
          clear hK K
          try simp only [Act.put, List.setIfInBounds_toArray, List.set_cons_zero, List.set_cons_succ]
          refine wpAnyH_ready (rs := [5]) (by kernel_rfl) (by simp) ?_
          refine AllReadyH.cons rfl (fun K hK => ?_) AllReadyH.nil
          obtain ⟨⟨x0, x1, x2, x3, x4, x5, x6, x7, x8⟩, y0, y1, y2, y3, y4, y5, y6, y7, y8⟩ := B4.open9
          go_simp
          clear x0 x1 x2 x3 x4 x5 x6 x7 x8 y0 y1 y2 y3 y4 y5 y6 y7 y8 hHeld
          obtain ⟨X1, hX1⟩ : ∃ X1, put9 w3 g d = X1 := ⟨_, rfl⟩
          have C4 : At 54 X1 g (matA d) := hX1 ▸ put9_at B4 d
          have hB1 : Below wr.heap.size wr X1 := hX1 ▸ put9_below hB s4 d
          unfold put9 at hX1
          rw [hX1]
          refine hK.out _ _ (mk.out _ hB1) (fun hHeld => ?_)
          clear hK K B4 hB hX1
          try simp only [Act.put, List.setIfInBounds_toArray, List.set_cons_zero, List.set_cons_succ]
          refine wpAnyH_ready (rs := [6]) (by kernel_rfl) (by simp) ?_
          refine AllReadyH.cons rfl (fun K hK => ?_) AllReadyH.nil
          go_simp
          refine hK.out _ _ (mk.out _ hB1) (fun hHeld => ?_)
          clear hK K hHeld
          try simp only [Act.put, List.setIfInBounds_toArray, List.set_cons_zero, List.set_cons_succ]
          refine wpAnyH_done (by kernel_rfl) ?_ _
          go_wp2_with fail
          go_meet
          case rel => exact ⟨g, rfl, rfl, s4, C4, hB1⟩
        exact AllReadyH.nil
      exact AllReadyH.nil
    refine AllReadyH.cons rfl (fun K hK => ?_) ?_
    · go_simp
      obtain ⟨w4, h4, B4, b4, -⟩ := boxed w0 54 (matA fun _ => 0)
      unfold matA at h4
      rw [h4]
      obtain ⟨g, hg⟩ : ∃ g, w0.heap.size = g := ⟨_, rfl⟩
      rw [hg] at B4
      have s4 : wr.heap.size ≤ g := hg ▸ hB.size
      try rw [hg]
      replace hB := bl_step hB b4
      clear hHeld
      refine hK.out _ _ (mk.out _ hB) (fun hHeld => ?_)
      clear hK K
      try simp only [Act.put, List.setIfInBounds_toArray, List.set_cons_zero, List.set_cons_succ]
      refine wpAnyH_ready (rs := [1]) (by kernel_rfl) (by simp) ?_
      refine AllReadyH.cons rfl (fun K hK => ?_) ?_
      · go_simp
        refine (hadj _).mono ?_
        rintro e w1 ⟨rfl, b1⟩
        try go_wp2_with fail
        replace hB := bl_step hB b1
        replace B4 := B4.below b1
        clear hHeld
        refine hK.out _ _ (mk.out _ hB) (fun hHeld => ?_)
        clear hK K
        try simp only [Act.put, List.setIfInBounds_toArray, List.set_cons_zero, List.set_cons_succ]
        refine wpAnyH_ready (rs := [3]) (by kernel_rfl) (by simp) ?_
        refine AllReadyH.cons rfl (fun K hK => ?_) ?_
        · go_simp
          refine (hdet _).mono ?_
          rintro e w3 ⟨rfl, b3⟩
          try go_wp2_with fail
          replace hB := bl_step hB b3
          replace B4 := B4.below b3
          clear hHeld
          refine hK.out _ _ (mk.out _ hB) (fun hHeld => ?_)
          clear hK K
          try simp only [Act.put, List.setIfInBounds_toArray, List.set_cons_zero, List.set_cons_succ]
          refine wpAnyH_ready (rs := [5]) (by kernel_rfl) (by simp) ?_
          refine AllReadyH.cons rfl (fun K hK => ?_) AllReadyH.nil
          obtain ⟨⟨x0, x1, x2, x3, x4, x5, x6, x7, x8⟩, y0, y1, y2, y3, y4, y5, y6, y7, y8⟩ := B4.open9
          go_simp
          clear x0 x1 x2 x3 x4 x5 x6 x7 x8 y0 y1 y2 y3 y4 y5 y6 y7 y8 hHeld
          obtain ⟨X1, hX1⟩ : ∃ X1, put9 w3 g d = X1 := ⟨_, rfl⟩
          have C4 : At 54 X1 g (matA d) := hX1 ▸ put9_at B4 d
          have hB1 : Below wr.heap.size wr X1 := hX1 ▸ put9_below hB s4 d
          unfold put9 at hX1
          rw [hX1]
          refine hK.out _ _ (mk.out _ hB1) (fun hHeld => ?_)
          clear hK K B4 hB hX1
          try simp only [Act.put, List.setIfInBounds_toArray, List.set_cons_zero, List.set_cons_succ]
          refine wpAnyH_ready (rs := [6]) (by kernel_rfl) (by simp) ?_
          refine AllReadyH.cons rfl (fun K hK => ?_) AllReadyH.nil
          go_simp
          refine hK.out _ _ (mk.out _ hB1) (fun hHeld => ?_)
          clear hK K hHeld
          try simp only [Act.put, List.setIfInBounds_toArray, List.set_cons_zero, List.set_cons_succ]
          refine wpAnyH_done (by kernel_rfl) ?_ _
          go_wp2_with fail
          go_meet
          case rel => exact ⟨g, rfl, rfl, s4, C4, hB1⟩
        exact AllReadyH.nil
      exact AllReadyH.nil
    exact AllReadyH.nil
  case rest =>
    obtain ⟨g, rfl, rfl, hg, ag, bV⟩ := hcut
    replace a2 := a2.below bV
    replace bW := bW.trans (bV.mono bW.size)
    clear a1 bV hg mk hadj hdet
    have hO : (∀ k, k < 9 → wc.cell? ⟨g, k, none⟩ = some (.int .i64 (d k))) ∧ (wc.cell? ⟨w.heap.size + 1, 0, none⟩ = some (.int .i64 x) ∧ wc.cell? ⟨w.heap.size + 1, 1, none⟩ = some (.int .i64 y) ∧ wc.cell? ⟨w.heap.size + 1, 2, none⟩ = some (.int .i64 z)) := ⟨fun k hk => ag.cell k (matA_get _ _ hk), a2.open3.1, a2.open3.2.1, a2.open3.2.2.1⟩
    have HO : Hid ((∀ k, k < 9 → wc.cell? ⟨g, k, none⟩ = some (.int .i64 (d k))) ∧ (wc.cell? ⟨w.heap.size + 1, 0, none⟩ = some (.int .i64 x) ∧ wc.cell? ⟨w.heap.size + 1, 1, none⟩ = some (.int .i64 y) ∧ wc.cell? ⟨w.heap.size + 1, 2, none⟩ = some (.int .i64 z))) := hO
    clear hO ag a2
    go_wp2
    go_loopw [12] (fun s wr => ∃ k n : Nat, k ≤ 3 ∧ s = .int .i64 k ∧ (∀ i, i < k → (cram m x y z i).tmod D = 0) ∧ wr = wc.drewN n) (fun s _ => 3 - (intOf s).toNat)
    case atStart => exact ⟨0, 0, Nat.zero_le _, rfl, fun i hi => by omega, rfl⟩
    case round =>
      obtain ⟨k, n, hk, rfl, hall, rfl⟩ := hrel
      by_cases hlt : k < 3
      · have hlt' : (k : Int) < 3 := by omega
        obtain ⟨hd9, v0, v1, v2⟩ := HO.out
        have g0 := hd9 k (by omega)
        have g1 := hd9 (3 + k) (by omega)
        have g2 := hd9 (6 + k) (by omega)
        clear hd9
        obtain ⟨m1, m2, m3⟩ := HB.out k
        have hck := HCR.out k
        have HA : Hid (∀ i, i < k → (cram m x y z i).tmod D = 0) := hall
        clear hall
        by_cases hz : (x * d k + y * d (3 + k) + z * d (6 + k)).tmod D = 0
        · have HZ : Hid ((cram m x y z k).tmod D = 0) := by rw [hck]; exact hz
          clear hck
          go_wp2
          go_quiet (fail)
          go_wp2
          refine ⟨⟨k + 1, n + nq, by omega, by go_num, fun i hi => ?_, rfl⟩, by simp [intOf]; omega⟩
          by_cases e : i = k
          · rw [e]; exact HZ.out
          · exact HA.out i (by omega)
        · have HZ : Hid (¬ (cram m x y z k).tmod D = 0) := by rw [hck]; exact hz
          clear hck
          go_wp2
          go_quiet (fail)
          go_wp2
          go_ret
          refine ⟨?_, below_drewN (below_drewN bW _) _⟩
          have hne := HZ.out
          rw [HSP.out]
          rcases (by omega : k = 0 ∨ k = 1 ∨ k = 2) with rfl | rfl | rfl <;> simp [hne]
      · have hlt' : ¬ (k : Int) < 3 := by omega
        obtain rfl : k = 3 := by omega
        go_wp2
        go_ret
        refine ⟨?_, below_drewN bW _⟩
        rw [HSP.out]
        simp [hall 0 (by decide), hall 1 (by decide), hall 2 (by decide)]
end Go.Proofs.Ytlgkohiempcbhaa
