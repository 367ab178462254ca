/-
  The farthest observation, by the program: walked.
-/
import Derived.Test.YtnlbnjdfkbhkhaaOc
namespace Go.Proofs.Ytnlbnjdfkbhkhaa
open Go.RowKit

set_option maxRecDepth 100000 in
set_option maxHeartbeats 3200000 in
theorem farthest_any {w : World} {g n c gl m c2 : Nat} {f : Nat → Int} {L : List Nat} (h : Recs 4 w g n f) (hn : n ≤ 60) (hI : inI f n) (hm : L.length = m) (hmn : m ≤ 60) (hLn : ∀ i, i < m → L.getD i 0 < n) (hgl : gl < w.heap.size) (hL : ∀ i, i < m → w.cell? ⟨gl, i, none⟩ = some (.int .i64 ((L.getD i 0 : Nat) : Int))) :
    Calls Try.prog 31 #[.slice (some ⟨g, 0, none⟩) n c, .slice (some ⟨gl, 0, none⟩) m c2] w fun e w' => ∃ (p : Nat) (D : Int), e = .returned (.tuple #[.int .i64 (p : Int), .int .i64 D]) ∧ FarK (df f m (sm f L)) L m p D ∧ Below w.heap.size w w' := by
  have hn' : (n : Int) ≤ 60 := by omega
  have hm' : (m : Int) ≤ 60 := by omega
  have hmem : ∀ x ∈ L, x < n := by
    intro x hx
    obtain ⟨q, hq, rfl⟩ := List.getElem_of_mem hx
    have := hLn q (by omega)
    simpa [hq] using this
  obtain ⟨V, hV, a0, b0, -⟩ := boxed w 42 #[.int .i64 0, .int .i64 0, .int .i64 0, .int .i64 0, .int .i64 0, .int .i64 0, .int .i64 0, .int .i64 0]
  obtain ⟨d0, d1, d2, d3, d4, d5, d6, d7, lt1⟩ := Merged.box a0
  obtain ⟨f0, f1, f2, f3, f4, f5, f6, f7⟩ := Merged.boxF a0
  have HM : Hid (L.length = m) := hm
  have HMe : Hid (∀ x ∈ L, x < n) := hmem
  clear hm hmem
  go_enter Try.func31, Try.ntmps31
  go_wp2
  go_loopw [17] (fun s wr => ∃ k : Nat, k ≤ m ∧ s = .int .i64 (k : Int) ∧ ∃ x0 x1 x2 x6 x7 : Int, At 42 wr w.heap.size #[.int .i64 x0, .int .i64 x1, .int .i64 x2, .int .i64 (k : Int), .int .i64 (sm f (L.take k)), .int .i64 0, .int .i64 x6, .int .i64 x7] ∧ Below w.heap.size w wr) (fun s _ => m - (intOf s).toNat)
  case atStart => exact ⟨0, Nat.zero_le _, rfl, 0, 0, 0, 0, 0, Merged.putBox a0 _ _ _ _ _ _ _ _, Merged.putBelow b0 (Nat.le_refl _) _ _ _ _ _ _ _ _⟩
  case round =>
    clear a0 b0 d0 d1 d2 d3 d4 d5 d6 d7 lt1 f0 f1 f2 f3 f4 f5 f6 f7 hV
    obtain ⟨k, hk, rfl, x0, x1, x2, x6, x7, a1, B⟩ := hrel
    by_cases hlt : k < m
    · have hlt' : (k : Int) < (m : Int) := by omega
      obtain ⟨x, hx0⟩ : ∃ x, L.getD k 0 = x := ⟨_, rfl⟩
      have hx : x < n := by rw [← hx0]; exact hLn k hlt
      have hxn : (x : Int) < (n : Int) := by omega
      have c0 := (B.cell (p := ⟨gl, k, none⟩) hgl).trans (hL k hlt)
      rw [hx0] at c0
      have hix := hI x hx
      have hsm := sm_in hI (L.take k) (fun y hy => HMe.out y (List.mem_of_mem_take hy))
      have hkl : (L.take k).length = k := by have := HM.out; simp; omega
      rw [hkl] at hsm
      have h00 : (k : Int) = 0 → sm f (L.take k) = 0 := fun e => by
        obtain rfl : k = 0 := by omega
        simp [sm]
      have HT : Hid (sm f (L.take (k + 1)) = sm f (L.take k) + f (x * 4 + 3)) := by
        show _ = _
        rw [take_snoc L (by rw [HM.out]; exact hlt), sm_snoc, hx0]
      clear hx0 hkl
      go_wp2_with fail
      obtain ⟨u0, hu0, bb⟩ : ∃ uu, wr.drew = uu ∧ Below wr.heap.size wr uu := ⟨_, rfl, (Below.refl _ _).drew⟩
      replace a1 := a1.below bb
      have bu : Kb w u0 := B.trans (bb.mono B.size)
      clear bb
      refine wp_region_held_drew (S := Kb w) (by kernel_rfl) (by rw [hu0]; exact bu) (fun hHeld => ?_)
      rw [hu0] at hHeld ⊢
      clear hu0
      change wpAnyH _ _ _ _ _ 7 #[false, false, false, false, false, false, false] _ _
      refine wpAnyH_take (i := 1) (v := .slice ((some ⟨g, 0, none⟩)) n c) rfl (by kernel_rfl) (by kernel_rfl) (by kernel_rfl) (fun _ _ _ h => h) (Or.inl ⟨by kernel_rfl, ?_⟩) hHeld ?_
      · intro w' hSw; go_simp
      try simp only [Act.put, List.setIfInBounds_toArray, List.set_cons_zero, List.set_cons_succ, List.getElem_toArray, List.getElem_cons_succ, List.getElem_cons_zero]
      refine wpAnyH_take (i := 2) (v := .int .i64 ((x : Int))) rfl (by kernel_rfl) (by kernel_rfl) (by kernel_rfl) (fun _ _ _ h => h) (Or.inl ⟨by kernel_rfl, ?_⟩) hHeld ?_
      · intro w' hSw; go_simp
      try simp only [Act.put, List.setIfInBounds_toArray, List.set_cons_zero, List.set_cons_succ, List.getElem_toArray, List.getElem_cons_succ, List.getElem_cons_zero]
      refine wpAnyH_take (i := 3) (v := .pointer (some ⟨g, x * 4, none⟩)) rfl (by kernel_rfl) (by kernel_rfl) (by kernel_rfl) (fun _ _ _ h => h) (Or.inl ⟨by kernel_rfl, ?_⟩) hHeld ?_
      · intro w' hSw; go_simp
      try simp only [Act.put, List.setIfInBounds_toArray, List.set_cons_zero, List.set_cons_succ, List.getElem_toArray, List.getElem_cons_succ, List.getElem_cons_zero]
      refine wpAnyH_take (i := 4) (v := .agg #[.int .i64 (f (x * 4)), .int .i64 (f (x * 4 + 1)), .int .i64 (f (x * 4 + 2)), .int .i64 (f (x * 4 + 3))]) rfl (by kernel_rfl) (by kernel_rfl) (by kernel_rfl) (fun _ _ _ h => h) (Or.inl ⟨by kernel_rfl, ?_⟩) hHeld ?_
      · intro w' hSw; obtain ⟨z0, z1, z2, z3⟩ := Obs.open (h.below hSw) x hx; go_simp
      try simp only [Act.put, List.setIfInBounds_toArray, List.set_cons_zero, List.set_cons_succ, List.getElem_toArray, List.getElem_cons_succ, List.getElem_cons_zero]
      refine wpAnyH_ready (rs := [0]) (by kernel_rfl) (by simp) ?_
      refine AllReadyH.cons rfl (fun KK hK' => ?_) AllReadyH.nil
      obtain ⟨d0, d1, d2, d3, d4, d5, d6, d7, ltb⟩ := Merged.box a1
      go_simp
      clear d0 d1 d2 d3 d4 d5 d6 d7 ltb
      clear hHeld
      refine hK'.out _ _ (bu) (fun hHeld => ?_)
      clear hK' KK
      try simp only [List.setIfInBounds_toArray, List.set_cons_zero]
      refine wpAnyH_ready (rs := [5]) (by kernel_rfl) (by simp) ?_
      refine AllReadyH.cons rfl (fun KK hK' => ?_) AllReadyH.nil
      go_simp
      refine (counted_any _ _ _ _ _ _ _ _ _ _ _ _ _ (by omega) (fun e => ⟨h00 e, rfl⟩) (by omega) hix).mono ?_
      rintro e u2 ⟨⟨y0, y1, y2, y6, y7, rfl⟩, bb⟩
      replace a1 := a1.below bb
      replace bu : Kb w u2 := bu.trans (bb.mono bu.size)
      clear bb
      try go_wp2_with fail
      clear hHeld
      refine hK'.out _ _ (bu) (fun hHeld => ?_)
      clear hK' KK
      try simp only [List.setIfInBounds_toArray, List.set_cons_zero, List.set_cons_succ]
      refine wpAnyH_ready (rs := [6]) (by kernel_rfl) (by simp) ?_
      refine AllReadyH.cons rfl (fun KK hK' => ?_) AllReadyH.nil
      obtain ⟨d0, d1, d2, d3, d4, d5, d6, d7, ltb⟩ := Merged.box a1
      obtain ⟨k0, k1, k2, k3, k4, k5, k6, k7⟩ := Merged.boxF a1
      go_simp
      obtain ⟨u3, hU, a2, b2⟩ : ∃ U, ((((((((u2).setCell ⟨w.heap.size, 0, none⟩ (.int .i64 (y0))).setCell ⟨w.heap.size, 1, none⟩ (.int .i64 (y1))).setCell ⟨w.heap.size, 2, none⟩ (.int .i64 (y2))).setCell ⟨w.heap.size, 3, none⟩ (.int .i64 ((k : Int) + 1))).setCell ⟨w.heap.size, 4, none⟩ (.int .i64 (sm f (L.take k) + f (x * 4 + 3)))).setCell ⟨w.heap.size, 5, none⟩ (.int .i64 (0))).setCell ⟨w.heap.size, 6, none⟩ (.int .i64 (y6))).setCell ⟨w.heap.size, 7, none⟩ (.int .i64 (y7)) = U ∧ At 42 U w.heap.size #[.int .i64 (y0), .int .i64 (y1), .int .i64 (y2), .int .i64 ((k : Int) + 1), .int .i64 (sm f (L.take k) + f (x * 4 + 3)), .int .i64 (0), .int .i64 (y6), .int .i64 (y7)] ∧ Kb w U := ⟨_, rfl, Merged.putBox a1 _ _ _ _ _ _ _ _, Merged.putBelow bu (Nat.le_refl _) _ _ _ _ _ _ _ _⟩
      rw [hU]
      clear hU a1 bu d0 d1 d2 d3 d4 d5 d6 d7 ltb k0 k1 k2 k3 k4 k5 k6 k7
      have bu : Kb w u3 := b2
      clear hHeld
      refine hK'.out _ _ (bu) (fun hHeld => ?_)
      clear hK' KK
      try simp only [List.setIfInBounds_toArray, List.set_cons_zero, List.set_cons_succ]
      refine wpAnyH_done (by kernel_rfl) ?_ _
      clear hHeld
      go_wp2
      refine ⟨⟨k + 1, by omega, by go_num, y0, y1, y2, y6, y7, ?_, bu⟩, by simp [intOf]; omega⟩
      rw [HT.out, show ((k + 1 : Nat) : Int) = (k : Int) + 1 by omega]
      exact a2
    · have hlt' : ¬ (k : Int) < (m : Int) := by omega
      obtain rfl : k = m := by omega
      have hT : L.take k = L := by rw [← HM.out]; simp
      rw [hT] at a1
      have hsm := sm_in hI L HMe.out
      rw [HM.out] at hsm
      clear hT
      go_wp2
      go_loopw [9, 10, 30] (fun s t u wr => ∃ (j p : Nat) (D : Int), j ≤ k ∧ s = .int .i64 (p : Int) ∧ t = .int .i64 D ∧ u = .int .i64 (j : Int) ∧ FarK (df f k (sm f L)) L j p D ∧ At 42 wr w.heap.size #[.int .i64 x0, .int .i64 x1, .int .i64 x2, .int .i64 (k : Int), .int .i64 (sm f L), .int .i64 0, .int .i64 x6, .int .i64 x7] ∧ Below w.heap.size w wr) (fun _ _ u _ => k - (intOf u).toNat)
      case atStart => exact ⟨0, 0, 0, Nat.zero_le _, rfl, rfl, rfl, .inl ⟨rfl, rfl, rfl⟩, a1, B⟩
      case round =>
        clear a1 B
        obtain ⟨j, p, D0, hj, rfl, rfl, rfl, hF, a1, B⟩ := hrel
        have HF : Hid (FarK (df f k (sm f L)) L j p D0) := hF
        clear hF
        by_cases hlt : j < k
        · have hlt' : (j : Int) < (k : Int) := by omega
          obtain ⟨x, hx0⟩ : ∃ x, L.getD j 0 = x := ⟨_, rfl⟩
          have hx : x < n := by rw [← hx0]; exact hLn j hlt
          have hxn : (x : Int) < (n : Int) := by omega
          have c0 := (B.cell (p := ⟨gl, j, none⟩) hgl).trans (hL j hlt)
          rw [hx0] at c0
          have hix := hI x hx
          obtain ⟨D, hD⟩ : ∃ D, df f k (sm f L) x = D := ⟨_, rfl⟩
          have HD : Hid (mag ((k : Int) * f (x * 4 + 3) - sm f L) = D) := hD
          have HX : Hid (L.getD j 0 = x) := hx0
          have HDx : Hid (df f k (sm f L) x = D) := hD
          clear hx0 hD
          have hh := h.below B
          go_wp2_with fail
          obtain ⟨u0, hu0, bb⟩ : ∃ uu, wr.drew = uu ∧ Below wr.heap.size wr uu := ⟨_, rfl, (Below.refl _ _).drew⟩
          replace a1 := a1.below bb
          replace hh := hh.below bb
          replace B := B.trans (bb.mono B.size)
          clear bb
          refine wp_region_held_drew (S := Kb u0) (by kernel_rfl) (by rw [hu0]; exact Below.refl _ _) (fun hHeld => ?_)
          rw [hu0] at hHeld ⊢
          clear hu0
          have bu : Kb u0 u0 := Below.refl _ _
          change wpAnyH _ _ _ _ _ 7 #[false, false, false, false, false, false, false] _ _
          refine wpAnyH_take (i := 0) (v := .agg #[.int .i64 (x0), .int .i64 (x1), .int .i64 (x2), .int .i64 ((k : Int)), .int .i64 (sm f L), .int .i64 (0), .int .i64 (x6), .int .i64 (x7)]) rfl (by kernel_rfl) (by kernel_rfl) (by kernel_rfl) (fun _ _ _ h => h) (Or.inl ⟨by kernel_rfl, ?_⟩) hHeld ?_
          · intro w' hSw; obtain ⟨z0, z1, z2, z3, z4, z5, z6, z7, -⟩ := Merged.box (a1.below hSw); go_simp
          try simp only [Act.put, List.setIfInBounds_toArray, List.set_cons_zero, List.set_cons_succ, List.getElem_toArray, List.getElem_cons_zero]
          refine wpAnyH_take (i := 1) (v := .slice ((some ⟨g, 0, none⟩)) n c) rfl (by kernel_rfl) (by kernel_rfl) (by kernel_rfl) (fun _ _ _ h => h) (Or.inl ⟨by kernel_rfl, ?_⟩) hHeld ?_
          · intro w' hSw; go_simp
          try simp only [Act.put, List.setIfInBounds_toArray, List.set_cons_zero, List.set_cons_succ, List.getElem_toArray, List.getElem_cons_succ, List.getElem_cons_zero]
          refine wpAnyH_take (i := 2) (v := .int .i64 ((x : Int))) rfl (by kernel_rfl) (by kernel_rfl) (by kernel_rfl) (fun _ _ _ h => h) (Or.inl ⟨by kernel_rfl, ?_⟩) hHeld ?_
          · intro w' hSw; go_simp
          try simp only [Act.put, List.setIfInBounds_toArray, List.set_cons_zero, List.set_cons_succ, List.getElem_toArray, List.getElem_cons_succ, List.getElem_cons_zero]
          refine wpAnyH_take (i := 3) (v := .pointer (some ⟨g, x * 4, none⟩)) rfl (by kernel_rfl) (by kernel_rfl) (by kernel_rfl) (fun _ _ _ h => h) (Or.inl ⟨by kernel_rfl, ?_⟩) hHeld ?_
          · intro w' hSw; go_simp
          try simp only [Act.put, List.setIfInBounds_toArray, List.set_cons_zero, List.set_cons_succ, List.getElem_toArray, List.getElem_cons_succ, List.getElem_cons_zero]
          refine wpAnyH_take (i := 4) (v := .agg #[.int .i64 (f (x * 4)), .int .i64 (f (x * 4 + 1)), .int .i64 (f (x * 4 + 2)), .int .i64 (f (x * 4 + 3))]) rfl (by kernel_rfl) (by kernel_rfl) (by kernel_rfl) (fun _ _ _ h => h) (Or.inl ⟨by kernel_rfl, ?_⟩) hHeld ?_
          · intro w' hSw; obtain ⟨z0, z1, z2, z3⟩ := Obs.open (hh.below hSw) x hx; go_simp
          try simp only [Act.put, List.setIfInBounds_toArray, List.set_cons_zero, List.set_cons_succ, List.getElem_toArray, List.getElem_cons_succ, List.getElem_cons_zero]
          refine wpAnyH_ready (rs := [5]) (by kernel_rfl) (by simp) ?_
          refine AllReadyH.cons rfl (fun KK hK' => ?_) AllReadyH.nil
          go_simp
          refine (off_any _ _ _ _ _ _ _ _ _ _ _ _ _ (by omega) (by omega) hix).mono ?_
          rintro e u1 ⟨rfl, bb⟩
          replace a1 := a1.below bb
          replace B := B.trans (bb.mono B.size)
          replace bu : Kb u0 u1 := bu.trans (bb.mono bu.size)
          clear bb
          rw [HD.out]
          try go_wp2_with fail
          clear hHeld
          refine hK'.out _ _ (bu) (fun hHeld => ?_)
          clear hK' KK
          try simp only [List.setIfInBounds_toArray, List.set_cons_zero, List.set_cons_succ]
          refine wpAnyH_take (i := 6) (v := .int .i64 (D)) rfl (by kernel_rfl) (by kernel_rfl) (by kernel_rfl) (fun _ _ _ h => h) (Or.inl ⟨by kernel_rfl, ?_⟩) hHeld ?_
          · intro w' hSw; go_simp
          try simp only [Act.put, List.setIfInBounds_toArray, List.set_cons_zero, List.set_cons_succ, List.getElem_toArray, List.getElem_cons_succ, List.getElem_cons_zero]
          refine wpAnyH_done (by kernel_rfl) ?_ _
          clear hHeld
          by_cases hc : D0 ≤ D
          · have HF2 : Hid (FarK (df f k (sm f L)) L (j + 1) j D) := by
              show FarK _ _ _ _ _
              have h1 := HF.out.take (by rw [HX.out, HDx.out]; exact hc)
              rw [HX.out, HDx.out] at h1
              exact h1
            clear HF
            go_wp2
            exact ⟨⟨j + 1, j, D, by omega, rfl, rfl, by go_num, HF2.out, a1, B⟩, by simp [intOf]; omega⟩
          · have HF2 : Hid (FarK (df f k (sm f L)) L (j + 1) p D0) := HF.out.stay (df_nn f _ _) (by rw [HX.out, HDx.out]; exact hc)
            clear HF
            go_wp2
            exact ⟨⟨j + 1, p, D0, by omega, rfl, rfl, by go_num, HF2.out, a1, B⟩, by simp [intOf]; omega⟩
        · have hlt' : ¬ (j : Int) < (k : Int) := by omega
          obtain rfl : j = k := by omega
          go_wp2
          exact bodyPost_ret (v := .tuple #[.int .i64 (p : Int), .int .i64 D0]) (by simp [results, Try.results31, go_sem]) rfl ⟨p, D0, rfl, HF.out, B⟩
end Go.Proofs.Ytnlbnjdfkbhkhaa
