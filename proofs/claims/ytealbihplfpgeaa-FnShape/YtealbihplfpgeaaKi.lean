/-
  slices.MinFunc at corners: walked.
-/
import Derived.Test.YtealbihplfpgeaaKh
namespace Go.Proofs.Ytealbihplfpgeaa
open Go.RowKit Go.Shelf Go.Sort

theorem below_put3c {N q : Nat} {w w2 : World} (h : Below N w w2) (hq : N ≤ q) (v0 v1 v2 : Value) : Below N w (((w2.setCell ⟨q, 0, none⟩ v0).setCell ⟨q, 1, none⟩ v1).setCell ⟨q, 2, none⟩ v2) := ((h.setCell hq v0).setCell hq v1).setCell hq v2
theorem At.set3OtherC {t : TypeId} {w : World} {q p : Nat} {vs : Array Value} (h : At t w q vs) (hq : q ≠ p) (v0 v1 v2 : Value) : At t (((w.setCell ⟨p, 0, none⟩ v0).setCell ⟨p, 1, none⟩ v1).setCell ⟨p, 2, none⟩ v2) q vs := ((h.setOther hq v0).setOther hq v1).setOther hq v2
/-- Corner j against corner r: by x, then by y. -/
def cC (fo : Nat → Int) (j r : Nat) : Int := if cmp3 (fo (j * 3) * fo (r * 3 + 2)) (fo (r * 3) * fo (j * 3 + 2)) = 0 then cmp3 (fo (j * 3 + 1) * fo (r * 3 + 2)) (fo (r * 3 + 1) * fo (j * 3 + 2)) else cmp3 (fo (j * 3) * fo (r * 3 + 2)) (fo (r * 3) * fo (j * 3 + 2))
theorem cC_lt {fo : Nat → Int} {j r : Nat} : cC fo j r < 0 ↔ fo (j * 3) * fo (r * 3 + 2) < fo (r * 3) * fo (j * 3 + 2) ∨ (fo (j * 3) * fo (r * 3 + 2) = fo (r * 3) * fo (j * 3 + 2) ∧ fo (j * 3 + 1) * fo (r * 3 + 2) < fo (r * 3 + 1) * fo (j * 3 + 2)) := by
  unfold cC cmp3
  split <;> split <;> (try split) <;> (try split) <;> (try split) <;> omega
theorem fr_le {a b c x y z : Int} (hx : 0 < x) (hy : 0 < y) (hz : 0 < z) (h1 : a * y ≤ b * x) (h2 : b * z ≤ c * y) : a * z ≤ c * x := by
  have m1 := Int.mul_le_mul_of_nonneg_right h1 (Int.le_of_lt hz)
  have m2 := Int.mul_le_mul_of_nonneg_right h2 (Int.le_of_lt hx)
  have e1 : a * y * z = a * z * y := by grind
  have e2 : b * x * z = b * z * x := by grind
  have e3 : c * y * x = c * x * y := by grind
  refine Int.not_lt.1 fun h => ?_
  have := Int.mul_lt_mul_of_pos_right h hy
  omega
theorem fr_lt1 {a b c x y z : Int} (hx : 0 < x) (hy : 0 < y) (hz : 0 < z) (h1 : a * y < b * x) (h2 : b * z ≤ c * y) : a * z < c * x := by
  have m1 := Int.mul_lt_mul_of_pos_right h1 hz
  have m2 := Int.mul_le_mul_of_nonneg_right h2 (Int.le_of_lt hx)
  have e1 : a * y * z = a * z * y := by grind
  have e2 : b * x * z = b * z * x := by grind
  have e3 : c * y * x = c * x * y := by grind
  refine Int.not_le.1 fun h => ?_
  have := Int.mul_le_mul_of_nonneg_right h (Int.le_of_lt hy)
  omega
theorem fr_lt2 {a b c x y z : Int} (hx : 0 < x) (hy : 0 < y) (hz : 0 < z) (h1 : a * y ≤ b * x) (h2 : b * z < c * y) : a * z < c * x := by
  have m1 := Int.mul_le_mul_of_nonneg_right h1 (Int.le_of_lt hz)
  have m2 := Int.mul_lt_mul_of_pos_right h2 hx
  have e1 : a * y * z = a * z * y := by grind
  have e2 : b * x * z = b * z * x := by grind
  have e3 : c * y * x = c * x * y := by grind
  refine Int.not_le.1 fun h => ?_
  have := Int.mul_le_mul_of_nonneg_right h (Int.le_of_lt hy)
  omega
theorem fr_eq {a b c x y z : Int} (hy : 0 < y) (h1 : a * y = b * x) (h2 : b * z = c * y) : a * z = c * x := by
  have e : (a * z - c * x) * y = 0 := by grind
  rcases Int.mul_eq_zero.1 e with h | h <;> omega
theorem cC_tr {fo : Nat → Int} {j k r : Nat} (dj : 0 < fo (j * 3 + 2)) (dk : 0 < fo (k * 3 + 2)) (dr : 0 < fo (r * 3 + 2)) (h1 : cC fo j k < 0) (h2 : cC fo k r < 0) : cC fo j r < 0 := by
  rw [cC_lt] at *
  rcases h1 with h1 | ⟨e1, l1⟩
  · rcases h2 with h2 | ⟨e2, l2⟩
    · exact .inl (fr_lt1 dj dk dr h1 (Int.le_of_lt h2))
    · exact .inl (fr_lt1 dj dk dr h1 (Int.le_of_eq e2))
  · rcases h2 with h2 | ⟨e2, l2⟩
    · exact .inl (fr_lt2 dj dk dr (Int.le_of_eq e1) h2)
    · exact .inr ⟨fr_eq dk e1 e2, fr_lt1 dj dk dr l1 (Int.le_of_lt l2)⟩
theorem cC_self (fo : Nat → Int) (j : Nat) : ¬ cC fo j j < 0 := by rw [cC_lt]; omega
/-- Corner r is the least of the first m. -/
def Least (fo : Nat → Int) (m r : Nat) : Prop := r < m ∧ ∀ j, j < m → ¬ cC fo j r < 0
theorem Least.first (fo : Nat → Int) : Least fo 1 0 := ⟨by omega, fun j hj => by
  have e : j = 0 := by omega
  rw [e]
  exact cC_self fo 0⟩
theorem Least.stay {fo : Nat → Int} {m r : Nat} (h : Least fo m r) (hl : ¬ cC fo m r < 0) : Least fo (m + 1) r :=
  ⟨by have := h.1; omega, fun j hj => by
    by_cases e : j = m
    · rw [e]; exact hl
    · exact h.2 j (by omega)⟩
theorem Least.upd {fo : Nat → Int} {m r : Nat} (h : Least fo m r) (hd : ∀ j, j ≤ m → 0 < fo (j * 3 + 2)) (hl : cC fo m r < 0) : Least fo (m + 1) m :=
  ⟨by omega, fun j hj => by
    by_cases e : j = m
    · rw [e]; exact cC_self fo m
    · intro hc
      exact h.2 j (by omega) (cC_tr (hd j (by omega)) (hd m (by omega)) (hd r (by have := h.1; omega)) hc hl)⟩
set_option maxRecDepth 100000 in
set_option maxHeartbeats 1600000 in
theorem minF_any {w : World} {g m c : Nat} {fo : Nat → Int} (h : Trips w g m fo) (h0 : 0 < m) (hm : m ≤ 1600) (bnd : ∀ j, j < m → (-100000 ≤ fo (j * 3) ∧ fo (j * 3) ≤ 100000) ∧ (-100000 ≤ fo (j * 3 + 1) ∧ fo (j * 3 + 1) ≤ 100000) ∧ (0 < fo (j * 3 + 2) ∧ fo (j * 3 + 2) ≤ 5000)) :
    Calls Try.prog 39 #[.slice (some ⟨g, 0, none⟩) m c, .func (.func 40) #[] #[]] w fun e w' => (∃ r, e = .returned (fV (fo (r * 3)) (fo (r * 3 + 1)) (fo (r * 3 + 2))) ∧ Least fo m r) ∧ Below w.heap.size w w' := by
  have ml : ¬ (m : Int) < 1 := by omega
  have mi : (m : Int) ≤ 1600 := by omega
  have hlt := h.1
  obtain ⟨W1, hW1, A1, B1, s1⟩ := boxed w 33 #[.int .i64 0, .int .i64 0, .int .i64 0]
  obtain ⟨W2, hW2, A2, B2, -⟩ := boxed W1 33 #[.int .i64 0, .int .i64 0, .int .i64 0]
  rw [s1] at A2
  have L1 := h.below B1
  have c0 := L1.2 0 (by omega)
  have c1 := L1.2 1 (by omega)
  have c2 := L1.2 2 (by omega)
  have l1 := L1.1
  obtain ⟨x0, x1, x2, x3, x4, x5⟩ := A2.open3
  have A1' := A1.below B2
  have BW : Below w.heap.size w W2 := B1.trans (B2.mono B1.size)
  have fr0 : fo 0 = fo (0 * 3) := rfl
  obtain ⟨v0, e0⟩ : ∃ z, fo 0 = z := ⟨_, rfl⟩
  obtain ⟨v1, e1⟩ : ∃ z, fo 1 = z := ⟨_, rfl⟩
  obtain ⟨v2, e2⟩ : ∃ z, fo 2 = z := ⟨_, rfl⟩
  rw [e0] at c0
  rw [e1] at c1
  rw [e2] at c2
  clear fr0
  go_enter Try.func39, Try.ntmps39
  go_wp2
  obtain ⟨V, hV⟩ : ∃ V, ((W2.setCell ⟨w.heap.size + 1, 0, none⟩ (.int .i64 v0)).setCell ⟨w.heap.size + 1, 1, none⟩ (.int .i64 v1)).setCell ⟨w.heap.size + 1, 2, none⟩ (.int .i64 v2) = V := ⟨_, rfl⟩
  have V0 : At 33 V (w.heap.size + 1) #[.int .i64 (fo (0 * 3)), .int .i64 (fo (0 * 3 + 1)), .int .i64 (fo (0 * 3 + 2))] := by
    rw [show fo (0 * 3) = v0 from e0, show fo (0 * 3 + 1) = v1 from e1, show fo (0 * 3 + 2) = v2 from e2, ← hV]
    exact put3c A2 _ _ _
  have V1 : At 33 V w.heap.size #[.int .i64 0, .int .i64 0, .int .i64 0] := by rw [← hV]; exact A1'.set3OtherC (by omega) _ _ _
  have V2 : Below w.heap.size w V := by rw [← hV]; exact below_put3c BW (by omega) _ _ _
  rw [hV]
  clear hV hW1 hW2 A1 A2 A1' B1 B2 L1 c0 c1 c2 x0 x1 x2 x3 x4 x5 BW e0 e1 e2 l1 s1
  clear W1 W2
  go_loopw [6] (fun s wr => ∃ (k r : Nat), 1 ≤ k ∧ k ≤ m ∧ s = .int .i64 (k : Int) ∧ Least fo k r ∧ At 33 wr (w.heap.size + 1) #[.int .i64 (fo (r * 3)), .int .i64 (fo (r * 3 + 1)), .int .i64 (fo (r * 3 + 2))] ∧ At 33 wr w.heap.size #[.int .i64 0, .int .i64 0, .int .i64 0] ∧ Below w.heap.size w wr) (fun s _ => m - (intOf s).toNat)
  case atStart => exact ⟨1, 0, Nat.le_refl _, by omega, rfl, Least.first fo, V0, V1, V2⟩
  case round =>
    clear V0 V1 V2
    obtain ⟨k, r, k1, k2, rfl, hL, A5, A4, B⟩ := hrel
    have rm : r < m := by have := hL.1; omega
    by_cases hk : k < m
    · have hklt : (k : Int) < (m : Int) := by omega
      have bk := bnd k hk
      have br := bnd r rm
      have C := fun w => compC_any (fo (k * 3)) (fo (k * 3 + 1)) (fo (k * 3 + 2)) (fo (r * 3)) (fo (r * 3 + 1)) (fo (r * 3 + 2)) w (by omega) (by omega) (by omega) (by omega) (by omega) (by omega)
      have U1 := fun z => hL.upd (fun j hj => (bnd j (by omega)).2.2.1) z
      have U2 := fun z => hL.stay z
      have L := h.below B
      obtain ⟨z, hz⟩ : ∃ z, cC fo k r = z := ⟨_, rfl⟩
      have hz' : (if cmp3 (fo (k * 3) * fo (r * 3 + 2)) (fo (r * 3) * fo (k * 3 + 2)) = 0 then cmp3 (fo (k * 3 + 1) * fo (r * 3 + 2)) (fo (r * 3 + 1) * fo (k * 3 + 2)) else cmp3 (fo (k * 3) * fo (r * 3 + 2)) (fo (r * 3) * fo (k * 3 + 2))) = z := hz
      rw [hz'] at C
      rw [hz] at U1 U2
      clear hz hz' hL bk br bnd
      have Lk : Trips wr g m fo := L
      go_wp2_with fail
      obtain ⟨u0, hu0, bb⟩ : ∃ uu, wr.drew = uu ∧ Below wr.heap.size wr uu := ⟨_, rfl, (Below.refl _ _).drew⟩
      replace A5 := A5.below bb
      replace A4 := A4.below bb
      replace L := L.below bb
      replace B := B.trans (bb.mono B.size)
      clear bb
      refine wp_region_held_drew (S := Kb u0) (by kernel_rfl) (by rw [hu0]; exact Below.refl _ _) (fun hHeld => ?_)
      rw [hu0] at hHeld ⊢
      clear hu0
      have bu : Kb u0 u0 := Below.refl _ _
      change wpAnyH _ _ _ _ _ 8 #[false, false, false, false, false, false, false, false] _ _
      refine wpAnyH_take (i := 0) (v := .func (.func 40) #[] #[]) rfl (by kernel_rfl) (by kernel_rfl) (by kernel_rfl) (fun _ _ _ h => h) (Or.inl ⟨by kernel_rfl, ?_⟩) hHeld ?_
      · intro w' hSw; go_simp
      try simp only [Act.put, List.setIfInBounds_toArray, List.set_cons_zero, List.set_cons_succ, List.getElem_toArray, List.getElem_cons_zero]
      refine wpAnyH_take (i := 1) (v := .slice (some ⟨g, 0, none⟩) m c) rfl (by kernel_rfl) (by kernel_rfl) (by kernel_rfl) (fun _ _ _ h => h) (Or.inl ⟨by kernel_rfl, ?_⟩) hHeld ?_
      · intro w' hSw; go_simp
      try simp only [Act.put, List.setIfInBounds_toArray, List.set_cons_zero, List.set_cons_succ, List.getElem_toArray, List.getElem_cons_succ, List.getElem_cons_zero]
      refine wpAnyH_take (i := 2) (v := .int .i64 (k : Int)) rfl (by kernel_rfl) (by kernel_rfl) (by kernel_rfl) (fun _ _ _ h => h) (Or.inl ⟨by kernel_rfl, ?_⟩) hHeld ?_
      · intro w' hSw; go_simp
      try simp only [Act.put, List.setIfInBounds_toArray, List.set_cons_zero, List.set_cons_succ, List.getElem_toArray, List.getElem_cons_succ, List.getElem_cons_zero]
      refine wpAnyH_take (i := 3) (v := .pointer (some ⟨g, k * 3, none⟩)) rfl (by kernel_rfl) (by kernel_rfl) (by kernel_rfl) (fun _ _ _ h => h) (Or.inl ⟨by kernel_rfl, ?_⟩) hHeld ?_
      · intro w' hSw; go_simp
      try simp only [Act.put, List.setIfInBounds_toArray, List.set_cons_zero, List.set_cons_succ, List.getElem_toArray, List.getElem_cons_succ, List.getElem_cons_zero]
      refine wpAnyH_take (i := 4) (v := fV (fo (k * 3)) (fo (k * 3 + 1)) (fo (k * 3 + 2))) rfl (by kernel_rfl) (by kernel_rfl) (by kernel_rfl) (fun _ _ _ h => h) (Or.inl ⟨by kernel_rfl, ?_⟩) hHeld ?_
      · intro w' hSw; have hw := L.below hSw; have z0 := hw.2 (k * 3) (by omega); have z1 := hw.2 (k * 3 + 1) (by omega); have z2 := hw.2 (k * 3 + 2) (by omega); go_simp
      try simp only [Act.put, List.setIfInBounds_toArray, List.set_cons_zero, List.set_cons_succ, List.getElem_toArray, List.getElem_cons_succ, List.getElem_cons_zero]
      refine wpAnyH_take (i := 5) (v := fV (fo (r * 3)) (fo (r * 3 + 1)) (fo (r * 3 + 2))) rfl (by kernel_rfl) (by kernel_rfl) (by kernel_rfl) (fun _ _ _ h => h) (Or.inl ⟨by kernel_rfl, ?_⟩) hHeld ?_
      · intro w' hSw; obtain ⟨z0, z1, z2, -⟩ := (A5.below hSw).open3; go_simp
      try simp only [Act.put, List.setIfInBounds_toArray, List.set_cons_zero, List.set_cons_succ, List.getElem_toArray, List.getElem_cons_succ, List.getElem_cons_zero]
      refine wpAnyH_ready (rs := [6]) (by kernel_rfl) (by simp) ?_
      refine AllReadyH.cons rfl (fun KK hK' => ?_) AllReadyH.nil
      go_simp
      refine (C _).mono ?_
      rintro e u1 ⟨rfl, gg⟩
      have bb := gg.below
      clear gg
      replace bu : Kb u0 u1 := bu.trans (bb.mono bu.size)
      clear bb
      try go_wp2_with fail
      clear hHeld
      refine hK'.out _ _ bu (fun hHeld => ?_)
      clear hK' KK
      try simp only [List.setIfInBounds_toArray, List.set_cons_zero, List.set_cons_succ]
      refine wpAnyH_take (i := 7) (v := .bool (decide (z < 0))) rfl (by kernel_rfl) (by kernel_rfl) (by kernel_rfl) (fun _ _ _ h => h) (Or.inl ⟨by kernel_rfl, ?_⟩) hHeld ?_
      · intro w' hSw; go_simp
      try simp only [Act.put, List.setIfInBounds_toArray, List.set_cons_zero, List.set_cons_succ, List.getElem_toArray, List.getElem_cons_succ, List.getElem_cons_zero]
      refine wpAnyH_done (by kernel_rfl) ?_ _
      clear hHeld
      replace A5 := A5.below bu
      replace A4 := A4.below bu
      replace L := L.below bu
      replace B := B.trans (Below.mono bu B.size)
      have c0 := L.2 (k * 3) (by omega)
      have c1 := L.2 (k * 3 + 1) (by omega)
      have c2 := L.2 (k * 3 + 2) (by omega)
      have l1 := L.1
      obtain ⟨x0, x1, x2, x3, x4, x5⟩ := A5.open3
      by_cases hl : z < 0
      · have H := U1 hl
        clear U1 U2 C
        go_wp2
        exact ⟨⟨k + 1, k, by omega, by omega, by go_num, H, put3c A5 _ _ _, A4.set3OtherC (by omega) _ _ _, below_put3c B (by omega) _ _ _⟩, by simp [intOf]; omega⟩
      · have H := U2 (by omega)
        clear U1 U2 C
        go_wp2
        exact ⟨⟨k + 1, r, by omega, by omega, by go_num, H, A5, A4, B⟩, by simp [intOf]; omega⟩
    · have hklt : ¬ (k : Int) < (m : Int) := by omega
      obtain rfl : m = k := by omega
      obtain ⟨x0, x1, x2, -⟩ := A5.open3
      obtain ⟨y0, y1, y2, y3, y4, y5⟩ := A4.open3
      go_wp2
      obtain ⟨p0, p1, p2, -⟩ := (put3c A4 (.int .i64 (fo (r * 3))) (.int .i64 (fo (r * 3 + 1))) (.int .i64 (fo (r * 3 + 2)))).open3
      exact bodyPost_ret (v := fV (fo (r * 3)) (fo (r * 3 + 1)) (fo (r * 3 + 2))) (by simp [results, Try.results39, go_sem, p0, p1, p2]) rfl ⟨⟨r, rfl, hL⟩, below_put3c B (Nat.le_refl _) _ _ _⟩
end Go.Proofs.Ytealbihplfpgeaa
