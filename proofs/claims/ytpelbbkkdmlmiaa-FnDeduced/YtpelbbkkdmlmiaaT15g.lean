/-
  Triplets of signs, by the program and by the specification: walked, and the law over them.
-/
import Derived.Test.YtpelbbkkdmlmiaaT15f
namespace Go.Proofs.Ytpelbbkkdmlmiaa
open Go.RowKit

theorem implTriplet_no {w : World} {g n cap : Nat} {f : Nat → Int} (h : Recs 4 w g n f) (hn : n ≤ 1048576) (hcap : n ≤ cap) (no : ¬ SgOk n f) :
    Calls Try.prog 11 #[.slice (some ⟨g, 0, none⟩) n cap] w fun e w' => e = .returned (.tuple #[.int .i64 0, .int .i64 0]) ∧ Below w.heap.size w w' := by
  have S := implSigns_any h hn hcap false (show (false = true ↔ _) from ⟨fun h => by simp at h, fun h => absurd h no⟩)
  go_enter Try.func11, Try.ntmps11
  go_wp2_with (go_at_call 29; refine S.mono ?_; rintro e w2 ⟨rfl, bb⟩)
  exact bodyPost_ret (v := .tuple #[.int .i64 0, .int .i64 0]) (by simp [results, Try.results11, go_sem]) rfl ⟨rfl, bb⟩
theorem specTriplet_no {w : World} {g n cap : Nat} {f : Nat → Int} (h : Recs 4 w g n f) (hn : n ≤ 1048576) (no : ¬ SgOk n f) :
    Calls Try.prog 9 #[.slice (some ⟨g, 0, none⟩) n cap] w fun e w' => e = .returned (.tuple #[.int .i64 0, .int .i64 0]) ∧ Below w.heap.size w w' := by
  have S := specSigns_any (cap := cap) h hn false (show (false = true ↔ _) from ⟨fun h => by simp at h, fun h => absurd h no⟩)
  go_enter Try.func9, Try.ntmps9
  go_wp2_with (go_at_call 26; refine S.mono ?_; rintro e w2 ⟨rfl, bb⟩)
  exact bodyPost_ret (v := .tuple #[.int .i64 0, .int .i64 0]) (by simp [results, Try.results9, go_sem]) rfl ⟨rfl, bb⟩
set_option maxRecDepth 100000 in
set_option maxHeartbeats 1600000 in
theorem implTriplet_yes {w : World} {g n cap : Nat} {f : Nat → Int} (h : Recs 4 w g n f) (hcap : n ≤ cap) (ok : SgOk n f) :
    Calls Try.prog 11 #[.slice (some ⟨g, 0, none⟩) n cap] w fun e w' => e = .returned (.tuple #[.int .i64 (tP f n n : Int), .int .i64 (tM f n n : Int)]) ∧ Below w.heap.size w w' := by
  have hn60 := ok.1
  have hn' : (n : Int) ≤ 60 := by omega
  have S := implSigns_any h (by omega) hcap true (show (true = true ↔ _) from ⟨fun _ => ok, fun _ => rfl⟩)
  go_enter Try.func11, Try.ntmps11
  go_wp2_with (go_at_call 29; refine S.mono ?_; rintro e w2 ⟨rfl, bb⟩; have h2 := h.below bb)
  clear S
  go_loopw [4, 5, 15] (fun s t u wr => ∃ i : Nat, i ≤ n ∧ s = .int .i64 (tP f n i : Int) ∧ t = .int .i64 (tM f n i : Int) ∧ u = .int .i64 (i : Int) ∧ Recs 4 wr g n f ∧ Below w.heap.size w wr) (fun _ _ u _ => n - (intOf u).toNat)
  case atStart => exact ⟨0, Nat.zero_le _, rfl, rfl, rfl, h2, bb⟩
  case round =>
    clear h2 bb
    obtain ⟨i, hi, rfl, rfl, rfl, h1, B1⟩ := hrel
    have b1 := tP_le f n hn60 i
    have b2 := tM_le f n hn60 i
    by_cases hin : i < n
    · have hin' : (i : Int) < (n : Int) := by omega
      have E1 : tP f n (i + 1) = tP f n i + if f (i * 4 + 3) < 0 then mi f n (f (i * 4)) (f (i * 4 + 1)) (f (i * 4 + 2)) else pl f n (f (i * 4)) (f (i * 4 + 1)) (f (i * 4 + 2)) := rfl
      have E2 : tM f n (i + 1) = tM f n i + if f (i * 4 + 3) < 0 then pl f n (f (i * 4)) (f (i * 4 + 1)) (f (i * 4 + 2)) else mi f n (f (i * 4)) (f (i * 4 + 1)) (f (i * 4 + 2)) := rfl
      have p1 := pl_le f n (f (i * 4)) (f (i * 4 + 1)) (f (i * 4 + 2)) hn60
      have p2 := mi_le f n (f (i * 4)) (f (i * 4 + 1)) (f (i * 4 + 2)) hn60
      obtain ⟨d0, d1, d2, d3⟩ := Signed3.open h1 i hin
      obtain ⟨V1, hV1, m1, bb1, -⟩ := boxed wr 49 #[.int .i64 (f (i * 4)), .int .i64 (f (i * 4 + 1)), .int .i64 (f (i * 4 + 2)), .int .i64 (f (i * 4 + 3))]
      obtain ⟨r1, hr1⟩ : ∃ r, wr.heap.size = r := ⟨_, rfl⟩
      rw [hr1] at m1
      replace h1 := h1.below bb1
      replace B1 := B1.trans (bb1.mono B1.size)
      obtain ⟨k0, k1, k2, k3, -⟩ := Signed3.box m1
      clear bb1
      have K := fun w => hkl_any (f (i * 4)) (f (i * 4 + 1)) (f (i * 4 + 2)) (f (i * 4 + 3)) w
      have Q := fun w (h : Recs 4 w g n f) => implPairs_any (cap := cap) (f (i * 4)) (f (i * 4 + 1)) (f (i * 4 + 2)) h ok hcap
      obtain ⟨X, hX⟩ : ∃ X, tP f n i = X := ⟨_, rfl⟩
      obtain ⟨Y, hY⟩ : ∃ Y, tM f n i = Y := ⟨_, rfl⟩
      obtain ⟨x, hx⟩ : ∃ x, pl f n (f (i * 4)) (f (i * 4 + 1)) (f (i * 4 + 2)) = x := ⟨_, rfl⟩
      obtain ⟨y, hy⟩ : ∃ y, mi f n (f (i * 4)) (f (i * 4 + 1)) (f (i * 4 + 2)) = y := ⟨_, rfl⟩
      rw [hX] at E1 b1 ⊢
      rw [hY] at E2 b2 ⊢
      rw [hx, hy] at E1 E2 Q
      rw [hx] at p1
      rw [hy] at p2
      clear hX hY hx hy
      by_cases hs : f (i * 4 + 3) < 0
      · rw [if_pos hs] at E1 E2
        have H1 : Hid (tP f n (i + 1) = X + y) := E1
        have H2 : Hid (tM f n (i + 1) = Y + x) := E2
        clear E1 E2
        go_wp2_with (first | (go_at_call 31; refine (K _).mono ?_; rintro e w3 ⟨rfl, bb⟩; have h3 := h1.below bb; have m3 := m1.below bb; have B3 := B1.trans (bb.mono B1.size); clear h1 m1 bb B1) | (go_at_call 30; refine (Q _ h3).mono ?_; rintro e w4 ⟨rfl, bb4⟩; have h4 := h3.below bb4; have m4 := m3.below bb4; have k5 : w4.cell? ⟨r1, 3, none⟩ = some (.int .i64 (f (i * 4 + 3))) := m4.cell 3 rfl; have B4 := B3.trans (bb4.mono B3.size); clear h3 m3 bb4 B3))
        exact ⟨⟨i + 1, by omega, by rw [H1.out]; go_num, by rw [H2.out]; go_num, by go_num, h4, B4⟩, by simp [intOf]; omega⟩
      · rw [if_neg hs] at E1 E2
        have H1 : Hid (tP f n (i + 1) = X + x) := E1
        have H2 : Hid (tM f n (i + 1) = Y + y) := E2
        clear E1 E2
        go_wp2_with (first | (go_at_call 31; refine (K _).mono ?_; rintro e w3 ⟨rfl, bb⟩; have h3 := h1.below bb; have m3 := m1.below bb; have B3 := B1.trans (bb.mono B1.size); clear h1 m1 bb B1) | (go_at_call 30; refine (Q _ h3).mono ?_; rintro e w4 ⟨rfl, bb4⟩; have h4 := h3.below bb4; have m4 := m3.below bb4; have k5 : w4.cell? ⟨r1, 3, none⟩ = some (.int .i64 (f (i * 4 + 3))) := m4.cell 3 rfl; have B4 := B3.trans (bb4.mono B3.size); clear h3 m3 bb4 B3))
        exact ⟨⟨i + 1, by omega, by rw [H1.out]; go_num, by rw [H2.out]; go_num, by go_num, h4, B4⟩, by simp [intOf]; omega⟩
    · have hin' : ¬ (i : Int) < (n : Int) := by omega
      obtain rfl : i = n := by omega
      go_wp2
      exact bodyPost_ret (v := .tuple #[.int .i64 (tP f i i : Int), .int .i64 (tM f i i : Int)]) (by simp [results, Try.results11, go_sem]) rfl ⟨rfl, B1⟩
set_option maxRecDepth 100000 in
set_option maxHeartbeats 1600000 in
theorem specTriplet_yes {w : World} {g n cap : Nat} {f : Nat → Int} (h : Recs 4 w g n f) (ok : SgOk n f) :
    Calls Try.prog 9 #[.slice (some ⟨g, 0, none⟩) n cap] w fun e w' => e = .returned (.tuple #[.int .i64 (tP f n n : Int), .int .i64 (tM f n n : Int)]) ∧ Below w.heap.size w w' := by
  have hn60 := ok.1
  have hn' : (n : Int) ≤ 60 := by omega
  have S := specSigns_any (cap := cap) h (by omega) true (show (true = true ↔ _) from ⟨fun _ => ok, fun _ => rfl⟩)
  go_enter Try.func9, Try.ntmps9
  go_wp2_with (go_at_call 26; refine S.mono ?_; rintro e w2 ⟨rfl, bb⟩; have h2 := h.below bb)
  clear S
  go_loopw [4, 5, 6] (fun s t u wr => ∃ i : Nat, i ≤ n ∧ s = .int .i64 (tP f n i : Int) ∧ t = .int .i64 (tM f n i : Int) ∧ u = .int .i64 (i : Int) ∧ Recs 4 wr g n f ∧ Below w.heap.size w wr) (fun _ _ u _ => n - (intOf u).toNat)
  case atStart => exact ⟨0, Nat.zero_le _, rfl, rfl, rfl, h2, bb⟩
  case round =>
    clear h2 bb
    obtain ⟨i, hi, rfl, rfl, rfl, h1, B1⟩ := hrel
    have b1 := tP_le f n hn60 i
    have b2 := tM_le f n hn60 i
    by_cases hin : i < n
    · have hin' : (i : Int) < (n : Int) := by omega
      have E1 : tP f n (i + 1) = tP f n i + if f (i * 4 + 3) < 0 then mi f n (f (i * 4)) (f (i * 4 + 1)) (f (i * 4 + 2)) else pl f n (f (i * 4)) (f (i * 4 + 1)) (f (i * 4 + 2)) := rfl
      have E2 : tM f n (i + 1) = tM f n i + if f (i * 4 + 3) < 0 then pl f n (f (i * 4)) (f (i * 4 + 1)) (f (i * 4 + 2)) else mi f n (f (i * 4)) (f (i * 4 + 1)) (f (i * 4 + 2)) := rfl
      have p1 := pl_le f n (f (i * 4)) (f (i * 4 + 1)) (f (i * 4 + 2)) hn60
      have p2 := mi_le f n (f (i * 4)) (f (i * 4 + 1)) (f (i * 4 + 2)) hn60
      have Q := fun w (h : Recs 4 w g n f) => specPairs_any (cap := cap) (f (i * 4)) (f (i * 4 + 1)) (f (i * 4 + 2)) h ok
      obtain ⟨X, hX⟩ : ∃ X, tP f n i = X := ⟨_, rfl⟩
      obtain ⟨Y, hY⟩ : ∃ Y, tM f n i = Y := ⟨_, rfl⟩
      obtain ⟨x, hx⟩ : ∃ x, pl f n (f (i * 4)) (f (i * 4 + 1)) (f (i * 4 + 2)) = x := ⟨_, rfl⟩
      obtain ⟨y, hy⟩ : ∃ y, mi f n (f (i * 4)) (f (i * 4 + 1)) (f (i * 4 + 2)) = y := ⟨_, rfl⟩
      rw [hX] at E1 b1 ⊢
      rw [hY] at E2 b2 ⊢
      rw [hx, hy] at E1 E2 Q
      rw [hx] at p1
      rw [hy] at p2
      clear hX hY hx hy
      go_wp2_with fail
      obtain ⟨u0, hu0, bb⟩ : ∃ uu, wr.drew = uu ∧ Below wr.heap.size wr uu := ⟨_, rfl, (Below.refl _ _).drew⟩
      replace h1 := h1.below bb
      replace B1 := B1.trans (bb.mono B1.size)
      clear bb
      refine wp_region_held_drew (S := Kb u0) (by kernel_rfl) (by rw [hu0]; exact Below.refl _ _) (fun hHeld => ?_)
      rw [hu0] at hHeld ⊢
      clear hu0
      have bu : Kb u0 u0 := Below.refl _ _
      change wpAnyH _ _ _ _ _ 23 #[false, false, false, false, false, false, false, false, false, false, false, false, false, false, false, false, false, false, false, false, false, false, false] _ _
      refine wpAnyH_take (i := 0) (v := .slice ((some ⟨g, 0, none⟩)) n cap) rfl (by kernel_rfl) (by kernel_rfl) (by kernel_rfl) (fun _ _ _ h => h) (Or.inl ⟨by kernel_rfl, ?_⟩) hHeld ?_
      · intro w' hSw; go_simp
      try simp only [Act.put, List.setIfInBounds_toArray, List.set_cons_zero, List.set_cons_succ, List.getElem_toArray, List.getElem_cons_zero]
      refine wpAnyH_take (i := 1) (v := .slice ((some ⟨g, 0, none⟩)) n cap) rfl (by kernel_rfl) (by kernel_rfl) (by kernel_rfl) (fun _ _ _ h => h) (Or.inl ⟨by kernel_rfl, ?_⟩) hHeld ?_
      · intro w' hSw; go_simp
      try simp only [Act.put, List.setIfInBounds_toArray, List.set_cons_zero, List.set_cons_succ, List.getElem_toArray, List.getElem_cons_succ, List.getElem_cons_zero]
      refine wpAnyH_take (i := 2) (v := .int .i64 ((i : Int))) rfl (by kernel_rfl) (by kernel_rfl) (by kernel_rfl) (fun _ _ _ h => h) (Or.inl ⟨by kernel_rfl, ?_⟩) hHeld ?_
      · intro w' hSw; go_simp
      try simp only [Act.put, List.setIfInBounds_toArray, List.set_cons_zero, List.set_cons_succ, List.getElem_toArray, List.getElem_cons_succ, List.getElem_cons_zero]
      refine wpAnyH_take (i := 3) (v := .pointer (some ⟨g, i * 4, none⟩)) rfl (by kernel_rfl) (by kernel_rfl) (by kernel_rfl) (fun _ _ _ h => h) (Or.inl ⟨by kernel_rfl, ?_⟩) hHeld ?_
      · intro w' hSw; go_simp
      try simp only [Act.put, List.setIfInBounds_toArray, List.set_cons_zero, List.set_cons_succ, List.getElem_toArray, List.getElem_cons_succ, List.getElem_cons_zero]
      refine wpAnyH_take (i := 4) (v := .pointer (some ⟨g, i * 4, none⟩)) rfl (by kernel_rfl) (by kernel_rfl) (by kernel_rfl) (fun _ _ _ h => h) (Or.inl ⟨by kernel_rfl, ?_⟩) hHeld ?_
      · intro w' hSw; go_simp
      try simp only [Act.put, List.setIfInBounds_toArray, List.set_cons_zero, List.set_cons_succ, List.getElem_toArray, List.getElem_cons_succ, List.getElem_cons_zero]
      refine wpAnyH_take (i := 5) (v := .int .i64 (f (i * 4))) rfl (by kernel_rfl) (by kernel_rfl) (by kernel_rfl) (fun _ _ _ h => h) (Or.inl ⟨by kernel_rfl, ?_⟩) hHeld ?_
      · intro w' hSw; obtain ⟨z0, z1, z2, z3⟩ := Signed3.open (h1.below hSw) i hin; go_simp
      try simp only [Act.put, List.setIfInBounds_toArray, List.set_cons_zero, List.set_cons_succ, List.getElem_toArray, List.getElem_cons_succ, List.getElem_cons_zero]
      refine wpAnyH_take (i := 6) (v := .slice ((some ⟨g, 0, none⟩)) n cap) rfl (by kernel_rfl) (by kernel_rfl) (by kernel_rfl) (fun _ _ _ h => h) (Or.inl ⟨by kernel_rfl, ?_⟩) hHeld ?_
      · intro w' hSw; go_simp
      try simp only [Act.put, List.setIfInBounds_toArray, List.set_cons_zero, List.set_cons_succ, List.getElem_toArray, List.getElem_cons_succ, List.getElem_cons_zero]
      refine wpAnyH_take (i := 7) (v := .int .i64 ((i : Int))) rfl (by kernel_rfl) (by kernel_rfl) (by kernel_rfl) (fun _ _ _ h => h) (Or.inl ⟨by kernel_rfl, ?_⟩) hHeld ?_
      · intro w' hSw; go_simp
      try simp only [Act.put, List.setIfInBounds_toArray, List.set_cons_zero, List.set_cons_succ, List.getElem_toArray, List.getElem_cons_succ, List.getElem_cons_zero]
      refine wpAnyH_take (i := 8) (v := .pointer (some ⟨g, i * 4, none⟩)) rfl (by kernel_rfl) (by kernel_rfl) (by kernel_rfl) (fun _ _ _ h => h) (Or.inl ⟨by kernel_rfl, ?_⟩) hHeld ?_
      · intro w' hSw; go_simp
      try simp only [Act.put, List.setIfInBounds_toArray, List.set_cons_zero, List.set_cons_succ, List.getElem_toArray, List.getElem_cons_succ, List.getElem_cons_zero]
      refine wpAnyH_take (i := 9) (v := .pointer (some ⟨g, i * 4 + 1, none⟩)) rfl (by kernel_rfl) (by kernel_rfl) (by kernel_rfl) (fun _ _ _ h => h) (Or.inl ⟨by kernel_rfl, ?_⟩) hHeld ?_
      · intro w' hSw; go_simp
      try simp only [Act.put, List.setIfInBounds_toArray, List.set_cons_zero, List.set_cons_succ, List.getElem_toArray, List.getElem_cons_succ, List.getElem_cons_zero]
      refine wpAnyH_take (i := 10) (v := .int .i64 (f (i * 4 + 1))) rfl (by kernel_rfl) (by kernel_rfl) (by kernel_rfl) (fun _ _ _ h => h) (Or.inl ⟨by kernel_rfl, ?_⟩) hHeld ?_
      · intro w' hSw; obtain ⟨z0, z1, z2, z3⟩ := Signed3.open (h1.below hSw) i hin; go_simp
      try simp only [Act.put, List.setIfInBounds_toArray, List.set_cons_zero, List.set_cons_succ, List.getElem_toArray, List.getElem_cons_succ, List.getElem_cons_zero]
      refine wpAnyH_take (i := 11) (v := .slice ((some ⟨g, 0, none⟩)) n cap) rfl (by kernel_rfl) (by kernel_rfl) (by kernel_rfl) (fun _ _ _ h => h) (Or.inl ⟨by kernel_rfl, ?_⟩) hHeld ?_
      · intro w' hSw; go_simp
      try simp only [Act.put, List.setIfInBounds_toArray, List.set_cons_zero, List.set_cons_succ, List.getElem_toArray, List.getElem_cons_succ, List.getElem_cons_zero]
      refine wpAnyH_take (i := 12) (v := .int .i64 ((i : Int))) rfl (by kernel_rfl) (by kernel_rfl) (by kernel_rfl) (fun _ _ _ h => h) (Or.inl ⟨by kernel_rfl, ?_⟩) hHeld ?_
      · intro w' hSw; go_simp
      try simp only [Act.put, List.setIfInBounds_toArray, List.set_cons_zero, List.set_cons_succ, List.getElem_toArray, List.getElem_cons_succ, List.getElem_cons_zero]
      refine wpAnyH_take (i := 13) (v := .pointer (some ⟨g, i * 4, none⟩)) rfl (by kernel_rfl) (by kernel_rfl) (by kernel_rfl) (fun _ _ _ h => h) (Or.inl ⟨by kernel_rfl, ?_⟩) hHeld ?_
      · intro w' hSw; go_simp
      try simp only [Act.put, List.setIfInBounds_toArray, List.set_cons_zero, List.set_cons_succ, List.getElem_toArray, List.getElem_cons_succ, List.getElem_cons_zero]
      refine wpAnyH_take (i := 14) (v := .pointer (some ⟨g, i * 4 + 2, none⟩)) rfl (by kernel_rfl) (by kernel_rfl) (by kernel_rfl) (fun _ _ _ h => h) (Or.inl ⟨by kernel_rfl, ?_⟩) hHeld ?_
      · intro w' hSw; go_simp
      try simp only [Act.put, List.setIfInBounds_toArray, List.set_cons_zero, List.set_cons_succ, List.getElem_toArray, List.getElem_cons_succ, List.getElem_cons_zero]
      refine wpAnyH_take (i := 15) (v := .int .i64 (f (i * 4 + 2))) rfl (by kernel_rfl) (by kernel_rfl) (by kernel_rfl) (fun _ _ _ h => h) (Or.inl ⟨by kernel_rfl, ?_⟩) hHeld ?_
      · intro w' hSw; obtain ⟨z0, z1, z2, z3⟩ := Signed3.open (h1.below hSw) i hin; go_simp
      try simp only [Act.put, List.setIfInBounds_toArray, List.set_cons_zero, List.set_cons_succ, List.getElem_toArray, List.getElem_cons_succ, List.getElem_cons_zero]
      refine wpAnyH_take (i := 16) (v := .agg #[.int .i64 (f (i * 4)), .int .i64 (f (i * 4 + 1)), .int .i64 (f (i * 4 + 2))]) rfl (by kernel_rfl) (by kernel_rfl) (by kernel_rfl) (fun _ _ _ h => h) (Or.inl ⟨by kernel_rfl, ?_⟩) hHeld ?_
      · intro w' hSw; go_simp
      try simp only [Act.put, List.setIfInBounds_toArray, List.set_cons_zero, List.set_cons_succ, List.getElem_toArray, List.getElem_cons_succ, List.getElem_cons_zero]
      refine wpAnyH_ready (rs := [17]) (by kernel_rfl) (by simp) ?_
      refine AllReadyH.cons rfl (fun KK hK' => ?_) AllReadyH.nil
      go_simp
      refine (Q _ h1).mono ?_
      rintro e u1 ⟨rfl, bb⟩
      replace B1 := B1.trans (bb.mono B1.size)
      replace h1 := h1.below bb
      replace bu : Kb u0 u1 := bu.trans (bb.mono bu.size)
      clear bb
      try go_wp2_with fail
      clear hHeld
      refine hK'.out _ _ (bu) (fun hHeld => ?_)
      clear hK' KK
      try simp only [List.setIfInBounds_toArray, List.set_cons_zero, List.set_cons_succ]
      refine wpAnyH_take (i := 18) (v := .tuple #[.int .i64 (x : Int), .int .i64 (y : Int)]) rfl (by kernel_rfl) (by kernel_rfl) (by kernel_rfl) (fun _ _ _ h => h) (Or.inl ⟨by kernel_rfl, ?_⟩) hHeld ?_
      · intro w' hSw; go_simp
      try simp only [Act.put, List.setIfInBounds_toArray, List.set_cons_zero, List.set_cons_succ, List.getElem_toArray, List.getElem_cons_succ, List.getElem_cons_zero]
      refine wpAnyH_take (i := 19) (v := .int .i64 ((x : Int))) rfl (by kernel_rfl) (by kernel_rfl) (by kernel_rfl) (fun _ _ _ h => h) (Or.inl ⟨by kernel_rfl, ?_⟩) hHeld ?_
      · intro w' hSw; go_simp
      try simp only [Act.put, List.setIfInBounds_toArray, List.set_cons_zero, List.set_cons_succ, List.getElem_toArray, List.getElem_cons_succ, List.getElem_cons_zero]
      refine wpAnyH_take (i := 20) (v := .int .i64 ((y : Int))) rfl (by kernel_rfl) (by kernel_rfl) (by kernel_rfl) (fun _ _ _ h => h) (Or.inl ⟨by kernel_rfl, ?_⟩) hHeld ?_
      · intro w' hSw; go_simp
      try simp only [Act.put, List.setIfInBounds_toArray, List.set_cons_zero, List.set_cons_succ, List.getElem_toArray, List.getElem_cons_succ, List.getElem_cons_zero]
      refine wpAnyH_take (i := 21) (v := .int .i64 ((x : Int))) rfl (by kernel_rfl) (by kernel_rfl) (by kernel_rfl) (fun _ _ _ h => h) (Or.inl ⟨by kernel_rfl, ?_⟩) hHeld ?_
      · intro w' hSw; go_simp
      try simp only [Act.put, List.setIfInBounds_toArray, List.set_cons_zero, List.set_cons_succ, List.getElem_toArray, List.getElem_cons_succ, List.getElem_cons_zero]
      refine wpAnyH_take (i := 22) (v := .int .i64 ((y : Int))) rfl (by kernel_rfl) (by kernel_rfl) (by kernel_rfl) (fun _ _ _ h => h) (Or.inl ⟨by kernel_rfl, ?_⟩) hHeld ?_
      · intro w' hSw; go_simp
      try simp only [Act.put, List.setIfInBounds_toArray, List.set_cons_zero, List.set_cons_succ, List.getElem_toArray, List.getElem_cons_succ, List.getElem_cons_zero]
      refine wpAnyH_done (by kernel_rfl) ?_ _
      clear hHeld
      obtain ⟨z0, z1, z2, z3⟩ := Signed3.open h1 i hin
      by_cases hs : f (i * 4 + 3) < 0
      · rw [if_pos hs] at E1 E2
        have H1 : Hid (tP f n (i + 1) = X + y) := E1
        have H2 : Hid (tM f n (i + 1) = Y + x) := E2
        clear E1 E2
        go_wp2
        exact ⟨⟨i + 1, by omega, by rw [H1.out]; go_num, by rw [H2.out]; go_num, by go_num, h1, B1⟩, by simp [intOf]; omega⟩
      · rw [if_neg hs] at E1 E2
        have H1 : Hid (tP f n (i + 1) = X + x) := E1
        have H2 : Hid (tM f n (i + 1) = Y + y) := E2
        clear E1 E2
        go_wp2
        exact ⟨⟨i + 1, by omega, by rw [H1.out]; go_num, by rw [H2.out]; go_num, by go_num, h1, B1⟩, by simp [intOf]; omega⟩
    · have hin' : ¬ (i : Int) < (n : Int) := by omega
      obtain rfl : i = n := by omega
      go_wp2
      exact bodyPost_ret (v := .tuple #[.int .i64 (tP f i i : Int), .int .i64 (tM f i i : Int)]) (by simp [results, Try.results9, go_sem]) rfl ⟨rfl, B1⟩
/-- What both sides tell of one list: some pair of numbers. -/
theorem triplet_one (n : Nat) (f : Nat → Int) (hn : n ≤ 1048576) : ∃ P M : Int, (∀ (w : World) (g cap : Nat), Recs 4 w g n f → n ≤ cap → Calls Try.prog 11 #[.slice (some ⟨g, 0, none⟩) n cap] w fun e w' => e = .returned (.tuple #[.int .i64 P, .int .i64 M]) ∧ Below w.heap.size w w') ∧ (∀ (w : World) (g cap : Nat), Recs 4 w g n f → Calls Try.prog 9 #[.slice (some ⟨g, 0, none⟩) n cap] w fun e w' => e = .returned (.tuple #[.int .i64 P, .int .i64 M]) ∧ Below w.heap.size w w') := by
  by_cases ok : SgOk n f
  · exact ⟨_, _, fun w g cap h hc => implTriplet_yes h hc ok, fun w g cap h => specTriplet_yes h ok⟩
  · exact ⟨_, _, fun w g cap h hc => implTriplet_no h hn hc ok, fun w g cap h => specTriplet_no h hn ok⟩
set_option maxHeartbeats 1600000 in
theorem exactTriplet_walk {w : World} {a : Option Addr} {n cap : Nat} {f : Nat → Int} (hS : Src w a (n * 4) f) (hn : n ≤ maxLen) :
    Calls Try.prog 3 #[.slice a n cap] w fun e w' => e = .returned (.bool true) ∧ Below w.heap.size w w' := by
  go_enter Try.func3, Try.ntmps3
  go_wp2_with fail
  refine (szSigned3_any 1048576 (by omega) _ hn).mono ?_
  rintro e w1 ⟨⟨r, rfl, hr⟩, rfl⟩
  rcases hr with rfl | ⟨r0, r1, hn20⟩
  · go_wp2
    go_ret
    exact ⟨rfl, Below.refl _ _⟩
  have hr0 : ¬ r < 0 := by omega
  obtain ⟨P, M, cI, cS⟩ := triplet_one n f hn20
  go_wp2_with fail
  refine (toSigned3S_any hS hn20).mono ?_
  rintro e w2 ⟨g2, rfl, hg2, L2, b2⟩
  have R2 := L2.recs
  go_wp2_with fail
  refine (cS _ _ _ R2).mono ?_
  rintro e w3 ⟨rfl, b3⟩
  have B3 := b2.trans (b3.mono b2.size)
  have S3 := hS.below B3
  clear R2 L2 b2 b3
  go_wp2_with fail
  refine (toSigned3S_any S3 hn20).mono ?_
  rintro e w4 ⟨g4, rfl, hg4, L4, b4⟩
  have B4 := B3.trans (b4.mono B3.size)
  have R4 := L4.recs
  clear B3 S3 b4 L4
  go_wp2_with fail
  refine (cI _ _ _ R4 (Nat.le_refl _)).mono ?_
  rintro e w5 ⟨rfl, b5⟩
  have B5 := B4.trans (b5.mono B4.size)
  have R5 := R4.below b5
  have S5 := hS.below B5
  clear b5 R4 B4
  go_wp2_with fail
  refine (toSigned3S_any S5 hn20).mono ?_
  rintro e w6 ⟨g6, rfl, hg6, L6, b6⟩
  have B6 := B5.trans (b6.mono B5.size)
  have R6 := R5.below b6
  have T6 := L6.recs
  clear b6 R5 B5 S5 L6
  go_wp2_with fail
  refine (eqSigned3S_true R6 T6 hn20).mono ?_
  rintro e w7 ⟨rfl, b7⟩
  have B7 := B6.trans (b7.mono B6.size)
  go_wp2
  go_ret
  exact ⟨rfl, B7⟩
end Go.Proofs.Ytpelbbkkdmlmiaa
