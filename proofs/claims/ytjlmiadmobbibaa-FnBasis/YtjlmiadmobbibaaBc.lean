/-
  How many spots a basis reaches: by the program and by the specification; the law on Indexed, walked.
-/
import Derived.Test.YtjlmiadmobbibaaBb
namespace Go.Proofs.Ytjlmiadmobbibaa
open Go.RowKit

set_option maxHeartbeats 4000000 in
theorem specSpots_any {w : World} {g n c : Nat} {f : Nat → Int} (h : Trips w g n f) (hn : n ≤ 1048576) :
    Calls Try.prog 26 #[.slice (some ⟨g, 0, none⟩) n c] w fun e w' => e = .returned (.bool (pd (SpOk n f))) ∧ Below w.heap.size w w' := by
  obtain ⟨D, hD⟩ : ∃ D, pd (SpOk n f) = D := ⟨_, rfl⟩
  rw [hD]
  have H0 : ¬ SpOk n f → D = false := fun h => hD ▸ pd_no h
  have H1 : SpOk n f → D = true := fun h => hD ▸ pd_yes h
  clear hD
  have hn' : (n : Int) ≤ 1048576 := by omega
  by_cases h16 : (16 : Int) < (n : Int)
  · obtain rfl : D = false := H0 fun h => by have := h.1; omega
    go_enter Try.func26, Try.ntmps26
    go_wp2
    go_ret
    exact ⟨rfl, Below.refl _ _⟩
  go_enter Try.func26, Try.ntmps26
  go_wp2
  go_loopw [3] (fun s wr => ∃ k : Nat, k ≤ n ∧ s = .int .i64 k ∧ (∀ i, i < k → (0 ≤ f (i * 3) ∧ f (i * 3) ≤ 1000) ∧ (0 ≤ f (i * 3 + 1) ∧ f (i * 3 + 1) ≤ 1000)) ∧ Below w.heap.size w wr) (fun s _ => n - (intOf s).toNat)
  case atStart => exact ⟨0, Nat.zero_le _, rfl, fun i hi => absurd hi (Nat.not_lt_zero _), Below.refl _ _⟩
  case round =>
    obtain ⟨k, hk, rfl, hA, bW⟩ := hrel
    by_cases hlt : k < n
    · have hlt' : (k : Int) < (n : Int) := by omega
      obtain ⟨c0, c1, c2⟩ := (h.below bW).open k hlt
      obtain ⟨X, hX⟩ : ∃ X, f (k * 3) = X := ⟨_, rfl⟩
      obtain ⟨Y, hY⟩ : ∃ Y, f (k * 3 + 1) = Y := ⟨_, rfl⟩
      rw [hX] at c0
      rw [hY] at c1
      have hXY : (0 ≤ X ∧ X ≤ 1000) → (0 ≤ Y ∧ Y ≤ 1000) → ∀ i, i < k + 1 → (0 ≤ f (i * 3) ∧ f (i * 3) ≤ 1000) ∧ (0 ≤ f (i * 3 + 1) ∧ f (i * 3 + 1) ≤ 1000) := fun h1 h2 i hi => by
        by_cases e : i = k
        · subst e; rw [hX, hY]; exact ⟨h1, h2⟩
        · exact hA i (by omega)
      have hNo : ¬ ((0 ≤ X ∧ X ≤ 1000) ∧ (0 ≤ Y ∧ Y ≤ 1000)) → D = false := fun hh => H0 fun h => hh (by have := h.2 k hlt; rw [hX, hY] at this; exact this)
      clear H0 H1 hA hX hY c2
      go_wp2_with fail
      by_cases p1 : 0 ≤ X ∧ X ≤ 1000
      case neg =>
        obtain rfl : D = false := hNo fun h => p1 h.1
        refine (in_no p1 _).mono ?_
        rintro e w2 ⟨rfl, rfl⟩
        clear hNo hXY p1
        go_wp2
        go_ret
        exact ⟨rfl, bW⟩
      refine (in_yes p1 _).mono ?_
      rintro e w2 ⟨rfl, rfl⟩
      go_wp2_with fail
      by_cases p2 : 0 ≤ Y ∧ Y ≤ 1000
      case neg =>
        obtain rfl : D = false := hNo fun h => p2 h.2
        refine (in_no p2 _).mono ?_
        rintro e w2 ⟨rfl, rfl⟩
        clear hNo hXY p1 p2
        go_wp2
        go_ret
        exact ⟨rfl, bW⟩
      refine (in_yes p2 _).mono ?_
      rintro e w2 ⟨rfl, rfl⟩
      have HB : Hid _ := hXY p1 p2
      clear hNo hXY p1 p2
      go_wp2
      exact ⟨⟨k + 1, by omega, by go_num, HB.out, bW⟩, by simp [intOf]; omega⟩
    · have hlt' : ¬ (k : Int) < (n : Int) := by omega
      obtain rfl : k = n := by omega
      obtain rfl : D = true := H1 ⟨by omega, hA⟩
      clear H0 H1 hA
      go_wp2
      go_ret
      exact ⟨rfl, bW⟩
abbrev lV (x y : Int) : Value := .agg #[.int .i64 x, .int .i64 y]
set_option maxHeartbeats 4000000 in
theorem leapTo_any {x y z x' y' z' : Int} (hx : 0 ≤ x ∧ x ≤ 1000) (hy : 0 ≤ y ∧ y ≤ 1000) (hx' : 0 ≤ x' ∧ x' ≤ 1000) (hy' : 0 ≤ y' ∧ y' ≤ 1000) (w : World) :
    Calls Try.prog 56 #[fV x y z, fV x' y' z'] w fun e w' => e = .returned (lV (x - x') (y - y')) ∧ Below w.heap.size w w' := by
  obtain ⟨V1, hV1, a1, b1, -⟩ := boxed w 32 #[.int .i64 x, .int .i64 y, .int .i64 z]
  obtain ⟨V2, hV2, a2, b2, -⟩ := boxed V1 32 #[.int .i64 x', .int .i64 y', .int .i64 z']
  obtain ⟨V3, hV3, a3, b3, -⟩ := boxed V2 66 #[.int .i64 0, .int .i64 0]
  replace a1 := (a1.below b2).below b3
  replace a2 := a2.below b3
  have bW := (b1.trans (b2.mono b1.size)).trans (b3.mono (Nat.le_trans b1.size b2.size))
  have s1 := b1.size
  have s2 := b2.size
  obtain ⟨c0, c1, c2, -⟩ := a1.open3
  obtain ⟨d0, d1, d2, -⟩ := a2.open3
  obtain ⟨e0, e1, q0, q1⟩ := a3.open2
  have A9 : At 66 ((V3.setCell ⟨V2.heap.size, 0, none⟩ (.int .i64 (x - x'))).setCell ⟨V2.heap.size, 1, none⟩ (.int .i64 (y - y'))) V2.heap.size #[.int .i64 (x - x'), .int .i64 (y - y')] := by
    simpa using (a3.set 0 (.int .i64 (x - x'))).set 1 (.int .i64 (y - y'))
  have B9 := (bW.setCell (p := ⟨V2.heap.size, 0, none⟩) (show w.heap.size ≤ V2.heap.size by omega) (.int .i64 (x - x'))).setCell (p := ⟨V2.heap.size, 1, none⟩) (show w.heap.size ≤ V2.heap.size by omega) (.int .i64 (y - y'))
  obtain ⟨V4, hV4⟩ : ∃ V, (V3.setCell ⟨V2.heap.size, 0, none⟩ (.int .i64 (x - x'))).setCell ⟨V2.heap.size, 1, none⟩ (.int .i64 (y - y')) = V := ⟨_, rfl⟩
  rw [hV4] at A9 B9
  clear a1 a2 a3 b1 b2 b3
  go_enter Try.func56, Try.ntmps56
  go_wp2
  obtain ⟨r0, r1, -⟩ := A9.open2
  exact bodyPost_ret (v := lV (x - x') (y - y')) (by simp [results, Try.results56, go_sem, r0, r1]) rfl ⟨rfl, B9⟩
/-- The leap is a whole sum of the basis. -/
def Rc (a b c d x y : Int) : Prop := (x * d - y * c).tmod (a * d - b * c) = 0 ∧ (a * y - b * x).tmod (a * d - b * c) = 0
set_option maxHeartbeats 4000000 in
theorem reaches_any {a b c d x y : Int} (hb : BsOk a b c d) (hx : Wi x) (hy : Wi y) (w : World) :
    Calls Try.prog 59 #[bV a b c d, lV x y] w fun e w' => e = .returned (.bool (pd (Rc a b c d x y))) ∧ Below w.heap.size w w' := by
  obtain ⟨ha, hb, hc, hd, hp⟩ := hb
  obtain ⟨D, hD⟩ : ∃ D, pd (Rc a b c d x y) = D := ⟨_, rfl⟩
  rw [hD]
  have H0 : ¬ Rc a b c d x y → D = false := fun h => hD ▸ pd_no h
  have H1 : Rc a b c d x y → D = true := fun h => hD ▸ pd_yes h
  clear hD
  obtain ⟨V1, hV1, a1, b1, -⟩ := boxed w 27 #[.int .i64 a, .int .i64 b, .int .i64 c, .int .i64 d]
  obtain ⟨V2, hV2, a2, b2, -⟩ := boxed V1 66 #[.int .i64 x, .int .i64 y]
  replace a1 := a1.below b2
  have bW := b1.trans (b2.mono b1.size)
  clear b1 b2
  obtain ⟨oc0, oc1, oc2, oc3, -⟩ := a1.open4
  go_enter Try.func59, Try.ntmps59
  go_wp2_with fail
  refine (area_any ha hb hc hd _).mono ?_
  rintro e w3 ⟨rfl, bb⟩
  replace a1 := a1.below bb
  replace a2 := a2.below bb
  replace bW := bW.trans (bb.mono bW.size)
  clear bb oc0 oc1 oc2 oc3
  obtain ⟨c0, c1, c2, c3, -⟩ := a1.open4
  obtain ⟨d0, d1, -⟩ := a2.open2
  have p1 := mul_m hx hd
  have p2 := mul_m hy hc
  have p3 := mul_m ha hy
  have p4 := mul_m hb hx
  unfold Rc at H0 H1
  obtain ⟨A, hA⟩ : ∃ A, a * d - b * c = A := ⟨_, rfl⟩
  rw [hA] at H0 H1 hp
  rw [hA]
  obtain ⟨P, hP⟩ : ∃ P, x * d - y * c = P := ⟨_, rfl⟩
  obtain ⟨Q, hQ⟩ : ∃ Q, a * y - b * x = Q := ⟨_, rfl⟩
  have hA0 : ¬ A = 0 := by omega
  have wP : IntKind.i64.wrap P = P := by rw [IntKind.wrap_i64]; omega
  have wQ : IntKind.i64.wrap Q = Q := by rw [IntKind.wrap_i64]; omega
  rw [hP, hQ] at H0 H1
  clear hA a1 a2 hV1 hV2
  by_cases q1 : P.tmod A = 0
  · by_cases q2 : Q.tmod A = 0
    · obtain rfl : D = true := H1 ⟨q1, q2⟩
      clear H0 H1
      go_wp2
      go_ret
      exact ⟨by simp, bW⟩
    · obtain rfl : D = false := H0 fun h => q2 h.2
      clear H0 H1
      go_wp2
      go_ret
      exact ⟨by simp [q2], bW⟩
  · obtain rfl : D = false := H0 fun h => q1 h.1
    clear H0 H1
    go_wp2
    go_ret
    exact ⟨by simp, bW⟩
/-- How many of the first k spots are reached. -/
noncomputable def ixc (f : Nat → Int) (a b c d : Int) : Nat → Nat
  | 0 => 0
  | k + 1 => ixc f a b c d k + (@ite _ (Rc a b c d (f (k * 3) - f 0) (f (k * 3 + 1) - f 1)) (Classical.propDecidable _) 1 0)
theorem ixc_yes {f : Nat → Int} {a b c d : Int} {k m : Nat} (e : ixc f a b c d k = m) (h : Rc a b c d (f (k * 3) - f 0) (f (k * 3 + 1) - f 1)) : ixc f a b c d (k + 1) = m + 1 := by rw [ixc, if_pos h, e]
theorem ixc_no {f : Nat → Int} {a b c d : Int} {k m : Nat} (e : ixc f a b c d k = m) (h : ¬ Rc a b c d (f (k * 3) - f 0) (f (k * 3 + 1) - f 1)) : ixc f a b c d (k + 1) = m := by rw [ixc, if_neg h, e, Nat.add_zero]
theorem ixc_le (f : Nat → Int) (a b c d : Int) (k : Nat) : ixc f a b c d k ≤ k := by
  induction k with
  | zero => exact Nat.le_refl _
  | succ k ih =>
    by_cases h : Rc a b c d (f (k * 3) - f 0) (f (k * 3 + 1) - f 1)
    · rw [ixc_yes rfl h]; omega
    · rw [ixc_no rfl h]; omega
theorem SpOk.wi {n : Nat} {f : Nat → Int} (h : SpOk n f) {i j : Nat} (hi : i < n) (hj : j < n) : Wi (f (i * 3) - f (j * 3)) ∧ Wi (f (i * 3 + 1) - f (j * 3 + 1)) := by
  have h1 := h.2 i hi
  have h2 := h.2 j hj
  refine ⟨⟨?_, ?_⟩, ?_, ?_⟩ <;> omega
set_option maxRecDepth 100000 in
set_option maxHeartbeats 4000000 in
theorem countOf_any {w : World} {g n cp : Nat} {f : Nat → Int} {a b c d : Int} (h : Trips w g n f) (hs : SpOk n f) (hb : BsOk a b c d) :
    Calls Try.prog 35 #[bV a b c d, .slice (some ⟨g, 0, none⟩) n cp] w fun e w' => e = .returned (.int .i64 (ixc f a b c d n : Int)) ∧ Below w.heap.size w w' := by
  have hn := hs.1
  have hn' : (n : Int) ≤ 16 := by omega
  obtain ⟨V, hV, b0, bW, -⟩ := boxed w 27 #[.int .i64 a, .int .i64 b, .int .i64 c, .int .i64 d]
  obtain ⟨R, hR⟩ : ∃ R : Nat, ixc f a b c d n = R := ⟨_, rfl⟩
  rw [hR]
  go_enter Try.func35, Try.ntmps35
  go_wp2
  go_loopw [5, 10] (fun s t wr => ∃ k m : Nat, k ≤ n ∧ m ≤ k ∧ ixc f a b c d k = m ∧ s = .int .i64 (m : Int) ∧ t = .int .i64 (k : Int) ∧ At 27 wr w.heap.size #[.int .i64 a, .int .i64 b, .int .i64 c, .int .i64 d] ∧ Below w.heap.size w wr) (fun _ t _ => n - (intOf t).toNat)
  case atStart => exact ⟨0, 0, Nat.zero_le _, Nat.le_refl _, rfl, rfl, rfl, b0, bW⟩
  case round =>
    clear b0 bW hV
    obtain ⟨k, m, hk, hmk, hm, rfl, rfl, b0, bW⟩ := hrel
    by_cases hlt : k < n
    · have hlt' : (k : Int) < (n : Int) := by omega
      have hT := h.below bW
      obtain ⟨c0, c1, c2⟩ := hT.open k hlt
      obtain ⟨wx, wy⟩ := hs.wi hlt (show 0 < n by omega)
      simp only [Nat.zero_mul, Nat.zero_add] at wx wy
      obtain ⟨p1, p2⟩ := hs.2 k hlt
      obtain ⟨p3, p4⟩ := hs.2 0 (by omega)
      simp only [Nat.zero_mul, Nat.zero_add] at p3 p4
      have HY := fun hh => ixc_yes hm hh
      have HN := fun hh => ixc_no hm hh
      obtain ⟨X, hX⟩ : ∃ X, f (k * 3) = X := ⟨_, rfl⟩
      obtain ⟨Y, hY⟩ : ∃ Y, f (k * 3 + 1) = Y := ⟨_, rfl⟩
      obtain ⟨Z, hZ⟩ : ∃ Z, f (k * 3 + 2) = Z := ⟨_, rfl⟩
      rw [hX] at c0 wx p1
      rw [hY] at c1 wy p2
      rw [hZ] at c2
      rw [hX, hY] at HY HN
      obtain ⟨W1, hW1, a1, bb, -⟩ := boxed wr 32 #[.int .i64 X, .int .i64 Y, .int .i64 Z]
      have hT1 := hT.below bb
      have b1 := b0.below bb
      have bW1 := bW.trans (bb.mono bW.size)
      have hg : g < w.heap.size := h.1
      have HM : Hid (ixc f a b c d k = m) := hm
      clear bb b0 bW hT hX hY hZ hm
      have h0n : (0 : Int) < (n : Int) := by omega
      go_upto_region 5 with (fail)
      clear c0 c1 c2
      obtain ⟨u0, hu0, bb⟩ : ∃ uu, W1.drew = uu ∧ Below W1.heap.size W1 uu := ⟨_, rfl, (Below.refl _ _).drew⟩
      replace a1 := a1.below bb
      replace b1 := b1.below bb
      replace hT1 := hT1.below bb
      replace bW1 := bW1.trans (bb.mono bW1.size)
      clear bb
      refine wp_region_held_drew (S := Kb u0) (by kernel_rfl) (by rw [hu0]; exact Below.refl _ _) (fun hHeld => ?_)
      rw [hu0] at hHeld ⊢
      clear hu0
      have bu : Kb u0 u0 := Below.refl _ _
      change wpAnyH _ _ _ _ _ 7 #[false, false, false, false, false, false, false] _ _
      refine wpAnyH_take (i := 0) (v := .agg #[.int .i64 (a), .int .i64 (b), .int .i64 (c), .int .i64 (d)]) rfl (by kernel_rfl) (by kernel_rfl) (by kernel_rfl) (fun _ _ _ h => h) (Or.inl ⟨by kernel_rfl, ?_⟩) hHeld ?_
      · intro w' hSw; obtain ⟨z0, z1, z2, z3, -⟩ := (b1.below hSw).open4; go_simp
      try simp only [Act.put, List.setIfInBounds_toArray, List.set_cons_zero, List.set_cons_succ, List.getElem_toArray, List.getElem_cons_zero]
      refine wpAnyH_take (i := 1) (v := .agg #[.int .i64 (X), .int .i64 (Y), .int .i64 (Z)]) rfl (by kernel_rfl) (by kernel_rfl) (by kernel_rfl) (fun _ _ _ h => h) (Or.inl ⟨by kernel_rfl, ?_⟩) hHeld ?_
      · intro w' hSw; obtain ⟨z0, z1, z2, -⟩ := (a1.below hSw).open3; go_simp
      try simp only [Act.put, List.setIfInBounds_toArray, List.set_cons_zero, List.set_cons_succ, List.getElem_toArray, List.getElem_cons_succ, List.getElem_cons_zero]
      refine wpAnyH_take (i := 2) (v := .slice ((some ⟨g, 0, none⟩)) n cp) rfl (by kernel_rfl) (by kernel_rfl) (by kernel_rfl) (fun _ _ _ h => h) (Or.inl ⟨by kernel_rfl, ?_⟩) hHeld ?_
      · intro w' hSw; go_simp
      try simp only [Act.put, List.setIfInBounds_toArray, List.set_cons_zero, List.set_cons_succ, List.getElem_toArray, List.getElem_cons_succ, List.getElem_cons_zero]
      refine wpAnyH_take (i := 3) (v := .pointer (some ⟨g, 0, none⟩)) rfl (by kernel_rfl) (by kernel_rfl) (by kernel_rfl) (fun _ _ _ h => h) (Or.inl ⟨by kernel_rfl, ?_⟩) hHeld ?_
      · intro w' hSw; go_simp; intro hh; omega
      try simp only [Act.put, List.setIfInBounds_toArray, List.set_cons_zero, List.set_cons_succ, List.getElem_toArray, List.getElem_cons_succ, List.getElem_cons_zero]
      refine wpAnyH_take (i := 4) (v := .agg #[.int .i64 (f 0), .int .i64 (f 1), .int .i64 (f 2)]) rfl (by kernel_rfl) (by kernel_rfl) (by kernel_rfl) (fun _ _ _ h => h) (Or.inl ⟨by kernel_rfl, ?_⟩) hHeld ?_
      · intro w' hSw; obtain ⟨z0, z1, z2⟩ := (hT1.below hSw).open 0 (by omega); go_simp
      try simp only [Act.put, List.setIfInBounds_toArray, List.set_cons_zero, List.set_cons_succ, List.getElem_toArray, List.getElem_cons_succ, List.getElem_cons_zero]
      refine wpAnyH_ready (rs := [5]) (by kernel_rfl) (by simp) ?_
      refine AllReadyH.cons rfl (fun KK hK' => ?_) AllReadyH.nil
      go_simp
      refine (leapTo_any p1 p2 p3 p4 _).mono ?_
      rintro e u1 ⟨rfl, bb⟩
      replace bu : Kb u0 u1 := bu.trans (bb.mono bu.size)
      clear bb
      try go_wp2_with fail
      clear hHeld
      refine hK'.out _ _ (bu) (fun hHeld => ?_)
      clear hK' KK
      try simp only [List.setIfInBounds_toArray, List.set_cons_zero, List.set_cons_succ]
      refine wpAnyH_ready (rs := [6]) (by kernel_rfl) (by simp) ?_
      refine AllReadyH.cons rfl (fun KK hK' => ?_) AllReadyH.nil
      go_simp
      refine (reaches_any hb wx wy _).mono ?_
      rintro e u2 ⟨rfl, bb⟩
      replace bu : Kb u0 u2 := bu.trans (bb.mono bu.size)
      clear bb
      try go_wp2_with fail
      clear hHeld
      refine hK'.out _ _ (bu) (fun hHeld => ?_)
      clear hK' KK
      try simp only [List.setIfInBounds_toArray, List.set_cons_zero, List.set_cons_succ]
      refine wpAnyH_done (by kernel_rfl) ?_ _
      clear hHeld
      by_cases hr : Rc a b c d (X - f 0) (Y - f 1)
      · rw [pd_yes hr]
        have HZ : Hid _ := HY hr
        clear HY HN HM
        go_wp2
        exact ⟨⟨k + 1, m + 1, by omega, by omega, HZ.out, by go_num, by go_num, b1.below bu, bW1.trans (bu.mono bW1.size)⟩, by simp [intOf]; omega⟩
      · rw [pd_no hr]
        have HZ : Hid _ := HN hr
        clear HY HN HM
        go_wp2
        exact ⟨⟨k + 1, m, by omega, by omega, HZ.out, rfl, by go_num, b1.below bu, bW1.trans (bu.mono bW1.size)⟩, by simp [intOf]; omega⟩
    · have hlt' : ¬ (k : Int) < (n : Int) := by omega
      obtain rfl : k = n := by omega
      obtain rfl : m = R := hm.symm.trans hR
      clear hm hR
      go_wp2
      go_ret
      exact ⟨rfl, bW⟩
/-- What Indexed tells. -/
noncomputable def ixT (n : Nat) (f : Nat → Int) (a b c d : Int) : Nat := @ite _ (SpOk n f ∧ BsOk a b c d) (Classical.propDecidable _) (ixc f a b c d n) 0
theorem ixT_yes {n : Nat} {f : Nat → Int} {a b c d : Int} (h : SpOk n f) (h' : BsOk a b c d) : ixT n f a b c d = ixc f a b c d n := if_pos ⟨h, h'⟩
theorem ixT_no {n : Nat} {f : Nat → Int} {a b c d : Int} (h : ¬ (SpOk n f ∧ BsOk a b c d)) : ixT n f a b c d = 0 := if_neg h
theorem ixT_le {n : Nat} {f : Nat → Int} {a b c d : Int} : ixT n f a b c d ≤ 16 := by
  by_cases h : SpOk n f ∧ BsOk a b c d
  · rw [ixT_yes h.1 h.2]
    have := ixc_le f a b c d n
    have := h.1.1
    omega
  · rw [ixT_no h]; omega
set_option maxHeartbeats 4000000 in
theorem implIndexed_any {w : World} {g n cp : Nat} {f : Nat → Int} {a b c d : Int} (h : Trips w g n f) (hn : n ≤ 1048576) :
    Calls Try.prog 11 #[.slice (some ⟨g, 0, none⟩) n cp, bV a b c d] w fun e w' => e = .returned (.int .i64 (ixT n f a b c d : Int)) ∧ Below w.heap.size w w' := by
  obtain ⟨V, hV, b0, bW, -⟩ := boxed w 27 #[.int .i64 a, .int .i64 b, .int .i64 c, .int .i64 d]
  obtain ⟨R, hR⟩ : ∃ R : Nat, ixT n f a b c d = R := ⟨_, rfl⟩
  rw [hR]
  go_enter Try.func11, Try.ntmps11
  go_wp2_with fail
  refine (areSpots_any (h.below bW) hn).mono ?_
  rintro e w2 ⟨rfl, bb⟩
  replace b0 := b0.below bb
  replace bW := bW.trans (bb.mono bW.size)
  clear bb hV
  by_cases hs : SpOk n f
  case neg =>
    rw [pd_no hs]
    obtain rfl : 0 = R := (ixT_no fun h => hs h.1).symm.trans hR
    clear hR
    go_wp2
    go_ret
    exact ⟨rfl, bW⟩
  rw [pd_yes hs]
  obtain ⟨c0, c1, c2, c3, -⟩ := b0.open4
  go_wp2_with fail
  refine (right_any a b c d _).mono ?_
  rintro e w3 ⟨rfl, bb⟩
  replace b0 := b0.below bb
  replace bW := bW.trans (bb.mono bW.size)
  clear bb c0 c1 c2 c3
  by_cases hb : BsOk a b c d
  case neg =>
    rw [pd_no hb]
    obtain rfl : 0 = R := (ixT_no fun h => hb h.2).symm.trans hR
    clear hR
    go_wp2
    go_ret
    exact ⟨rfl, bW⟩
  rw [pd_yes hb]
  obtain ⟨c0, c1, c2, c3, -⟩ := b0.open4
  go_wp2_with fail
  refine (countOf_any (h.below bW) hs hb).mono ?_
  rintro e w4 ⟨rfl, bb⟩
  replace bW := bW.trans (bb.mono bW.size)
  clear bb c0 c1 c2 c3
  rw [← ixT_yes hs hb, hR]
  go_wp2
  go_ret
  exact ⟨rfl, bW⟩
set_option maxRecDepth 100000 in
set_option maxHeartbeats 4000000 in
theorem specIndexed_any {w : World} {g n cp : Nat} {f : Nat → Int} {a b c d : Int} (h : Trips w g n f) (hn : n ≤ 1048576) :
    Calls Try.prog 14 #[.slice (some ⟨g, 0, none⟩) n cp, bV a b c d] w fun e w' => e = .returned (.int .i64 (ixT n f a b c d : Int)) ∧ Below w.heap.size w w' := by
  obtain ⟨V, hV, b0, bW, -⟩ := boxed w 27 #[.int .i64 a, .int .i64 b, .int .i64 c, .int .i64 d]
  obtain ⟨R, hR⟩ : ∃ R : Nat, ixT n f a b c d = R := ⟨_, rfl⟩
  rw [hR]
  go_enter Try.func14, Try.ntmps14
  go_wp2_with fail
  refine (specSpots_any (h.below bW) hn).mono ?_
  rintro e w2 ⟨rfl, bb⟩
  replace b0 := b0.below bb
  replace bW := bW.trans (bb.mono bW.size)
  clear bb hV
  by_cases hs : SpOk n f
  case neg =>
    rw [pd_no hs]
    obtain rfl : 0 = R := (ixT_no fun h => hs h.1).symm.trans hR
    clear hR
    go_wp2
    go_ret
    exact ⟨rfl, bW⟩
  rw [pd_yes hs]
  by_cases h0 : n = 0
  · subst h0
    obtain rfl : 0 = R := by
      rw [← hR]
      by_cases hb : BsOk a b c d
      · rw [ixT_yes hs hb]; rfl
      · rw [ixT_no fun h => hb h.2]
    clear hR
    go_wp2
    go_ret
    exact ⟨rfl, bW⟩
  have h0' : ¬ (n : Int) = 0 := by omega
  obtain ⟨c0, c1, c2, c3, -⟩ := b0.open4
  go_wp2_with fail
  refine (basis_any a b c d _).mono ?_
  rintro e w3 ⟨rfl, bb⟩
  replace b0 := b0.below bb
  replace bW := bW.trans (bb.mono bW.size)
  clear bb c0 c1 c2 c3
  by_cases hb : BsOk a b c d
  case neg =>
    rw [pd_no hb]
    obtain rfl : 0 = R := (ixT_no fun h => hb h.2).symm.trans hR
    clear hR
    go_wp2
    go_ret
    exact ⟨rfl, bW⟩
  rw [pd_yes hb]
  rw [ixT_yes hs hb] at hR
  obtain ⟨c0, c1, c2, c3, -⟩ := b0.open4
  obtain ⟨ha, hbb, hc, hd, hp⟩ := hb
  go_wp2_with fail
  refine (det_any ha hbb hc hd _).mono ?_
  rintro e w4 ⟨rfl, bb⟩
  replace b0 := b0.below bb
  replace bW := bW.trans (bb.mono bW.size)
  clear bb c0 c1 c2 c3
  have hn16 := hs.1
  have hn' : (n : Int) ≤ 16 := by omega
  obtain ⟨A, hA⟩ : ∃ A, a * d - b * c = A := ⟨_, rfl⟩
  rw [hA]
  rw [hA] at hp
  have hA0 : ¬ A = 0 := by omega
  go_wp2
  go_loopw [5, 7] (fun s t wr => ∃ k m : Nat, k ≤ n ∧ m ≤ k ∧ ixc f a b c d k = m ∧ s = .int .i64 (m : Int) ∧ t = .int .i64 (k : Int) ∧ At 27 wr w.heap.size #[.int .i64 a, .int .i64 b, .int .i64 c, .int .i64 d] ∧ Below w.heap.size w wr) (fun _ t _ => n - (intOf t).toNat)
  case atStart => exact ⟨0, 0, Nat.zero_le _, Nat.le_refl _, rfl, rfl, rfl, b0, bW⟩
  case round =>
    clear b0 bW
    obtain ⟨k, m, hk, hmk, hm, rfl, rfl, b0, bW⟩ := hrel
    by_cases hlt : k < n
    · have hlt' : (k : Int) < (n : Int) := by omega
      have h0n : (0 : Int) < (n : Int) := by omega
      have hk0 : (0 : Int) ≤ (k : Int) := by omega
      have hT := h.below bW
      obtain ⟨c0, c1, c2⟩ := hT.open k hlt
      obtain ⟨d0, d1, d2⟩ := hT.open 0 (by omega)
      obtain ⟨wx, wy⟩ := hs.wi hlt (show 0 < n by omega)
      simp only [Nat.zero_mul, Nat.zero_add] at wx wy d0 d1 d2
      obtain ⟨p1, p2⟩ := hs.2 k hlt
      obtain ⟨p3, p4⟩ := hs.2 0 (by omega)
      simp only [Nat.zero_mul, Nat.zero_add] at p3 p4
      have HY := fun hh => ixc_yes hm hh
      have HN := fun hh => ixc_no hm hh
      unfold Rc at HY HN
      rw [hA] at HY HN
      obtain ⟨X, hX⟩ : ∃ X, f (k * 3) = X := ⟨_, rfl⟩
      obtain ⟨Y, hY⟩ : ∃ Y, f (k * 3 + 1) = Y := ⟨_, rfl⟩
      obtain ⟨X0, hX0⟩ : ∃ X, f 0 = X := ⟨_, rfl⟩
      obtain ⟨Y0, hY0⟩ : ∃ Y, f 1 = Y := ⟨_, rfl⟩
      rw [hX] at c0 wx p1
      rw [hY] at c1 wy p2
      rw [hX0] at d0 wx p3
      rw [hY0] at d1 wy p4
      rw [hX, hY, hX0, hY0] at HY HN
      have e1 : IntKind.i64.wrap (X - X0) = X - X0 := by rw [IntKind.wrap_i64]; omega
      have e2 : IntKind.i64.wrap (Y - Y0) = Y - Y0 := by rw [IntKind.wrap_i64]; omega
      obtain ⟨x, hx⟩ : ∃ x, X - X0 = x := ⟨_, rfl⟩
      obtain ⟨y, hy⟩ : ∃ y, Y - Y0 = y := ⟨_, rfl⟩
      rw [hx] at e1 wx HY HN
      rw [hy] at e2 wy HY HN
      have HM : Hid (ixc f a b c d k = m) := hm
      have HBW : Hid (Below w.heap.size w wr) := bW
      clear hT hX hY hX0 hY0 hm c2 d2 hA
      go_upto_region 8 with (fail)
      go_region
      go_upto_region 9 with (fail)
      go_region
      have q1 := mul_m wx hd
      have q2 := mul_m wy hc
      have q3 := mul_m ha wy
      have q4 := mul_m hbb wx
      have HW2 : ∃ W2, wr.drew.drew = W2 ∧ At 27 W2 w.heap.size #[.int .i64 a, .int .i64 b, .int .i64 c, .int .i64 d] ∧ Below w.heap.size w W2 := ⟨_, rfl, b0.below ((Below.refl _ _).drew.drew), HBW.out.drew.drew⟩
      obtain ⟨W2, hW2, b2, bW2⟩ := HW2
      rw [hW2]
      clear c0 c1 d0 d1 e1 e2 hW2 HBW b0 bW p1 p2 p3 p4
      obtain ⟨P, hP⟩ : ∃ P, x * d - y * c = P := ⟨_, rfl⟩
      obtain ⟨Q, hQ⟩ : ∃ Q, a * y - b * x = Q := ⟨_, rfl⟩
      rw [hP, hQ] at HY HN
      obtain ⟨c0, c1, c2, c3, -⟩ := b2.open4
      have wP : IntKind.i64.wrap P = P := by rw [IntKind.wrap_i64]; omega
      have wQ : IntKind.i64.wrap Q = Q := by rw [IntKind.wrap_i64]; omega
      by_cases r1 : P.tmod A = 0
      · by_cases r2 : Q.tmod A = 0
        · have HZ : Hid _ := HY ⟨r1, r2⟩
          clear HY HN HM
          go_wp2
          exact ⟨⟨k + 1, m + 1, by omega, by omega, HZ.out, by go_num, by go_num, b2, bW2⟩, by simp [intOf]; omega⟩
        · have HZ : Hid _ := HN fun h => r2 h.2
          clear HY HN HM
          go_wp2
          exact ⟨⟨k + 1, m, by omega, by omega, HZ.out, rfl, by go_num, b2, bW2⟩, by simp [intOf]; omega⟩
      · have HZ : Hid _ := HN fun h => r1 h.1
        clear HY HN HM
        go_wp2
        exact ⟨⟨k + 1, m, by omega, by omega, HZ.out, rfl, by go_num, b2, bW2⟩, by simp [intOf]; omega⟩
    · have hlt' : ¬ (k : Int) < (n : Int) := by omega
      obtain rfl : k = n := by omega
      obtain rfl : m = R := hm.symm.trans hR
      clear hm hR
      go_wp2
      go_ret
      exact ⟨rfl, bW⟩
end Go.Proofs.Ytjlmiadmobbibaa
