/-
  Operators compared by the program, walked.
-/
import Derived.Test.YtmjeplhigjlopaaGc
import Derived.Sort.Grow
namespace Go.Proofs.Ytmjeplhigjlopaa
open Go.RowKit

theorem isNaN_any (x : Int) (w : World) : Calls Try.prog 123 #[.int .i64 x] w fun e w' => e = .returned (.bool false) ∧ w = w' := by
  have h : (x != x) = false := by simp
  go_enter Try.func123, Try.ntmps123
  go_wp2
  go_ret
  exact ⟨rfl, rfl⟩
theorem cmp_any (x y : Int) (w : World) : Calls Try.prog 116 #[.int .i64 x, .int .i64 y] w fun e w' => e = .returned (.int .i64 (cmp3 x y)) ∧ w = w' := by
  unfold cmp3
  by_cases h1 : x < y
  · rw [if_pos h1]
    go_enter Try.func116, Try.ntmps116
    go_wp2_with (go_at_call 123; refine (isNaN_any _ _).mono ?_; rintro e w2 ⟨rfl, rfl⟩)
    go_ret
    exact ⟨rfl, rfl⟩
  · rw [if_neg h1]
    by_cases h2 : y < x
    · rw [if_pos h2]
      go_enter Try.func116, Try.ntmps116
      go_wp2_with (go_at_call 123; refine (isNaN_any _ _).mono ?_; rintro e w2 ⟨rfl, rfl⟩)
      go_ret
      exact ⟨rfl, rfl⟩
    · rw [if_neg h2]
      go_enter Try.func116, Try.ntmps116
      go_wp2_with (go_at_call 123; refine (isNaN_any _ _).mono ?_; rintro e w2 ⟨rfl, rfl⟩)
      go_ret
      exact ⟨rfl, rfl⟩
theorem compare_any {w : World} {a b : Option Addr} {n m c d : Nat} {f h : Nat → Int} (hs : Src w a n f) (ht : Src w b m h) (hn : n ≤ 4194304) (hm : m ≤ 4194304) :
    Calls Try.prog 101 #[.slice a n c, .slice b m d] w fun e w' => e = .returned (.int .i64 (cmpF f h n m n 0)) ∧ w = w' := by
  have hn' : (n : Int) ≤ 4194304 := by omega
  have hm' : (m : Int) ≤ 4194304 := by omega
  obtain ⟨R, hR⟩ : ∃ R, cmpF f h n m n 0 = R := ⟨_, rfl⟩
  rw [hR]
  have hR0 : cmpF f h n m (n - 0) 0 = R := hR
  clear hR
  go_enter Try.func101, Try.ntmps101
  go_wp2
  go_loopw [11] (fun s wr => ∃ i : Nat, i ≤ n ∧ s = .int .i64 i ∧ Hid (cmpF f h n m (n - i) i = R) ∧ w = wr) (fun s _ => n - (intOf s).toNat)
  case atStart => exact ⟨0, Nat.zero_le _, rfl, hR0, rfl⟩
  case round =>
    clear hR0
    obtain ⟨i, hi, rfl, hR, rfl⟩ := hrel
    by_cases hlt : i < n
    · have hlt' : (i : Int) < (n : Int) := by omega
      have hst := cmpF_step (f := f) (h := h) (m := m) hlt
      rw [hR.out] at hst
      rcases hs with h0 | ⟨g1, o1, rfl, l1, r1⟩
      · omega
      have c1 := r1 i hlt
      by_cases hmi : m ≤ i
      · have hmi' : (m : Int) ≤ (i : Int) := by omega
        rw [if_pos hmi] at hst
        subst hst
        go_wp2
        go_ret
        exact ⟨rfl, rfl⟩
      · have hmi' : (i : Int) < (m : Int) := by omega
        rw [if_neg hmi] at hst
        rcases ht with h0 | ⟨g2, o2, rfl, l2, r2⟩
        · omega
        have c2 := r2 i (by omega)
        obtain ⟨A, hA⟩ : ∃ A, f i = A := ⟨_, rfl⟩
        obtain ⟨C, hC⟩ : ∃ C, h i = C := ⟨_, rfl⟩
        rw [hA] at c1 hst
        rw [hC] at c2 hst
        clear hA hC
        by_cases hx : A < C
        · rw [if_pos hx] at hst
          subst hst
          have e3 : cmp3 A C = -1 := if_pos hx
          go_wp2_with (go_at_call 116; refine (cmp_any _ _ _).mono ?_; rintro e w2 ⟨rfl, rfl⟩; rw [e3])
          go_ret
          exact ⟨rfl, rfl⟩
        · rw [if_neg hx] at hst
          by_cases hy : C < A
          · rw [if_pos hy] at hst
            subst hst
            have e3 : cmp3 A C = 1 := (if_neg hx).trans (if_pos hy)
            go_wp2_with (go_at_call 116; refine (cmp_any _ _ _).mono ?_; rintro e w2 ⟨rfl, rfl⟩; rw [e3])
            go_ret
            exact ⟨rfl, rfl⟩
          · rw [if_neg hy] at hst
            have e3 : cmp3 A C = 0 := (if_neg hx).trans (if_neg hy)
            have HS : Hid (cmpF f h n m (n - (i + 1)) (i + 1) = R) := hst.symm
            clear hst hR
            go_wp2_with (go_at_call 116; refine (cmp_any _ _ _).mono ?_; rintro e w2 ⟨rfl, rfl⟩; rw [e3])
            refine ⟨⟨i + 1, by omega, by go_num, HS, by trivial⟩, by simp [intOf]; omega⟩
    · have hlt' : ¬ (i : Int) < (n : Int) := by omega
      obtain rfl : i = n := by omega
      have hst := cmpF_end (f := f) (h := h) (n := i) (m := m)
      rw [hR.out] at hst
      by_cases hx : i < m
      · have hx' : (i : Int) < (m : Int) := by omega
        rw [if_pos hx] at hst
        subst hst
        go_wp2
        go_ret
        exact ⟨rfl, rfl⟩
      · have hx' : ¬ (i : Int) < (m : Int) := by omega
        rw [if_neg hx] at hst
        subst hst
        go_wp2
        go_ret
        exact ⟨rfl, rfl⟩
/-- The world behind it: draws, and new blocks. -/
def Grew (w w' : World) : Prop := ∃ q os, w' = Go.Sort.grow (w.drewN q) os
theorem Grew.refl (w : World) : Grew w w := ⟨0, #[], by simp [Go.Sort.grow, World.drewN]⟩
theorem Grew.drew {w w' : World} (h : Grew w w') : Grew w w'.drew := by
  obtain ⟨q, os, rfl⟩ := h
  exact ⟨q + 1, os, rfl⟩
theorem Grew.alloc {w w' : World} (h : Grew w w') (o : Obj) : Grew w (w'.alloc o) := by
  obtain ⟨q, os, rfl⟩ := h
  exact ⟨q, os ++ #[o], by rw [Go.Sort.alloc_eq_grow, Go.Sort.grow_grow]⟩
theorem Grew.below {w w' : World} (h : Grew w w') : Below w.heap.size w w' := by
  obtain ⟨q, os, rfl⟩ := h
  refine ⟨rfl, rfl, rfl, by simp [Go.Sort.grow, World.drewN], fun k hk => ?_⟩
  simp only [Go.Sort.grow, World.drewN]
  rw [Array.getElem?_append_left hk]
/-- The first of two numbers that is not 0. -/
def or2 (x y : Int) : Int := if x = 0 then y else x
theorem or2_any {w : World} {q : Nat} {x y : Int} {t : TypeId} (h : At t w q #[.int .i64 x, .int .i64 y]) : Calls Try.prog 100 #[.slice (some ⟨q, 0, none⟩) 2 2] w fun e w' => e = .returned (.int .i64 (or2 x y)) ∧ w = w' := by
  have c0 := h.cell 0 rfl
  have c1 := h.cell 1 rfl
  unfold or2
  by_cases hx : x = 0
  · subst hx
    rw [if_pos rfl]
    by_cases hy : y = 0
    · subst hy
      go_enter Try.func100, Try.ntmps100
      go_wp2
      go_loopw [8] (fun s wr => ∃ k : Nat, k ≤ 2 ∧ s = .int .i64 k ∧ w = wr) (fun s _ => 2 - (intOf s).toNat)
      case atStart => exact ⟨0, Nat.zero_le _, rfl, rfl⟩
      case round =>
        obtain ⟨k, hk, rfl, rfl⟩ := hrel
        rcases (by omega : k = 0 ∨ k = 1 ∨ k = 2) with rfl | rfl | rfl
        · go_wp2
          exact ⟨⟨1, by omega, rfl, by trivial⟩, by simp [intOf]⟩
        · go_wp2
          exact ⟨⟨2, by omega, rfl, by trivial⟩, by simp [intOf]⟩
        · go_wp2
          go_ret
          exact ⟨rfl, rfl⟩
    · have hy' : (y == 0) = false := by simpa using hy
      have hy2 : (y != 0) = true := by simpa using hy
      go_enter Try.func100, Try.ntmps100
      go_wp2
      go_loopw [8] (fun s wr => ∃ k : Nat, k ≤ 1 ∧ s = .int .i64 k ∧ w = wr) (fun s _ => 2 - (intOf s).toNat)
      case atStart => exact ⟨0, Nat.zero_le _, rfl, rfl⟩
      case round =>
        obtain ⟨k, hk, rfl, rfl⟩ := hrel
        rcases (by omega : k = 0 ∨ k = 1) with rfl | rfl
        · go_wp2
          exact ⟨⟨1, by omega, rfl, by trivial⟩, by simp [intOf]⟩
        · go_wp2
          go_ret
          exact ⟨rfl, rfl⟩
  · rw [if_neg hx]
    have hx' : (x == 0) = false := by simpa using hx
    have hx2 : (x != 0) = true := by simpa using hx
    go_enter Try.func100, Try.ntmps100
    go_wp2
    go_loopw [8] (fun s wr => s = .int .i64 0 ∧ w = wr) (fun s _ => 2 - (intOf s).toNat)
    case atStart => exact ⟨rfl, rfl⟩
    case round =>
      obtain ⟨rfl, rfl⟩ := hrel
      go_wp2
      go_ret
      exact ⟨rfl, rfl⟩
theorem cat_lo (f h : Nat → Int) {i : Nat} (hi : i < 9) : cat 9 f h i = f i := by unfold cat; rw [if_pos hi]
theorem cat_hi (f h : Nat → Int) (i : Nat) : cat 9 f h (9 + i) = h i := by unfold cat; rw [if_neg (by omega)]; congr 1; omega
/-- Twelve numbers: first nine, then three. -/
theorem lexC_cat (f h f' h' : Nat → Int) : or2 (lexC 9 f f') (lexC 3 h h') = lexC 12 (cat 9 f h) (cat 9 f' h') := by
  unfold or2
  rcases lexC_cases 9 f f' with ⟨a, b⟩ | ⟨p, hp, c, d⟩
  · rw [if_pos a]
    rcases lexC_cases 3 h h' with ⟨a2, b2⟩ | ⟨p, hp, c, d⟩
    · rw [a2]
      refine (lexC_zero.2 fun j hj => ?_).symm
      by_cases e : j < 9
      · rw [cat_lo _ _ e, cat_lo _ _ e]; exact b j e
      · obtain ⟨i, rfl⟩ : ∃ i, j = 9 + i := ⟨j - 9, by omega⟩
        rw [cat_hi, cat_hi]; exact b2 i (by omega)
    · have hq : ∀ j, j < 9 + p → cat 9 f h j = cat 9 f' h' j := fun j hj => by
        by_cases e : j < 9
        · rw [cat_lo _ _ e, cat_lo _ _ e]; exact b j e
        · obtain ⟨i, rfl⟩ : ∃ i, j = 9 + i := ⟨j - 9, by omega⟩
          rw [cat_hi, cat_hi]; exact c i (by omega)
      rcases d with ⟨d, e⟩ | ⟨d, e⟩
      · rw [e]
        have h1 : lexC 12 (cat 9 f h) (cat 9 f' h') < 0 := lexC_neg.2 ⟨9 + p, by omega, hq, by rw [cat_hi, cat_hi]; exact d⟩
        have := lexC_range 12 (cat 9 f h) (cat 9 f' h')
        omega
      · rw [e]
        have h1 : 0 < lexC 12 (cat 9 f h) (cat 9 f' h') := lexC_pos.2 (lexC_neg.2 ⟨9 + p, by omega, fun j hj => (hq j hj).symm, by rw [cat_hi, cat_hi]; exact d⟩)
        have := lexC_range 12 (cat 9 f h) (cat 9 f' h')
        omega
  · have hq : ∀ j, j < p → cat 9 f h j = cat 9 f' h' j := fun j hj => by
      rw [cat_lo _ _ (by omega), cat_lo _ _ (by omega)]; exact c j hj
    have := lexC_range 12 (cat 9 f h) (cat 9 f' h')
    rcases d with ⟨d, e⟩ | ⟨d, e⟩
    · rw [e, if_neg (by omega)]
      have h1 : lexC 12 (cat 9 f h) (cat 9 f' h') < 0 := lexC_neg.2 ⟨p, by omega, hq, by rw [cat_lo _ _ hp, cat_lo _ _ hp]; exact d⟩
      omega
    · rw [e, if_neg (by omega)]
      have h1 : 0 < lexC 12 (cat 9 f h) (cat 9 f' h') := lexC_pos.2 (lexC_neg.2 ⟨p, by omega, fun j hj => (hq j hj).symm, by rw [cat_lo _ _ hp, cat_lo _ _ hp]; exact d⟩)
      omega
theorem opA_src {w : World} {q : Nat} {f h : Nat → Int} {t : TypeId} (a : At t w q (opA f h)) : Src w (some ⟨q, 0, none⟩) 9 f ∧ Src w (some ⟨q, 9, none⟩) 3 h := by
  refine ⟨.inr ⟨q, 0, rfl, a.lt, fun i hi => ?_⟩, .inr ⟨q, 9, rfl, a.lt, fun i hi => ?_⟩⟩
  · have := a.cell i (opA_get f h i (by omega))
    rw [if_pos hi] at this
    simpa using this
  · have := a.cell (9 + i) (opA_get f h (9 + i) (by omega))
    rw [if_neg (by omega), show 9 + i - 9 = i by omega] at this
    exact this
set_option maxRecDepth 100000 in
set_option maxHeartbeats 800000 in
theorem compareOp_any (f h f' h' : Nat → Int) (w : World) : Calls Try.prog 77 #[.agg (opA f h), .agg (opA f' h')] w fun e w' => e = .returned (.int .i64 (lexC 12 (cat 9 f h) (cat 9 f' h'))) ∧ Grew w w' := by
  obtain ⟨W1, hW1, a1, B1, -⟩ := boxed w 77 (opA f h)
  obtain ⟨W2, hW2, a2, B2, -⟩ := boxed W1 77 (opA f' h')
  replace a1 := a1.below B2
  have G : Grew w W2 := by rw [← hW2, ← hW1]; exact ((Grew.refl w).alloc _).alloc _
  clear B1 B2
  unfold opA at hW1 hW2 ⊢
  go_enter Try.func77, Try.ntmps77
  go_wp2_with fail
  clear hW1 hW2
  obtain ⟨q1, hq1⟩ : ∃ q, w.heap.size = q := ⟨_, rfl⟩
  obtain ⟨q2, hq2⟩ : ∃ q, W1.heap.size = q := ⟨_, rfl⟩
  rw [hq1] at a1 ⊢
  rw [hq2] at a2 ⊢
  obtain ⟨u0, hu0, bb, G0⟩ : ∃ u0, W2.drew = u0 ∧ Below W2.heap.size W2 u0 ∧ Grew w u0 := ⟨_, rfl, (Below.refl _ _).drew, G.drew⟩
  replace a1 := a1.below bb
  replace a2 := a2.below bb
  clear bb G
  refine wp_region_held_drew (S := fun _ => True) (by kernel_rfl) trivial (fun hHeld => ?_)
  rw [hu0]
  clear hu0
  change wpAnyH _ _ _ _ _ 13 #[false, false, false, false, false, false, false, false, false, false, false, false, false] _ _
  refine wpAnyH_take (i := 0) (v := .pointer (some ⟨q1, 0, none⟩)) rfl (by kernel_rfl) (by kernel_rfl) (by kernel_rfl) (fun _ _ _ h => h) (Or.inl ⟨by kernel_rfl, ?_⟩) hHeld ?_
  · intro w' hSw; go_simp
  try simp only [Act.put, List.setIfInBounds_toArray, List.set_cons_zero]
  refine wpAnyH_take (i := 1) (v := .slice (some ⟨q1, 0, none⟩) 9 9) rfl (by kernel_rfl) (by kernel_rfl) (by kernel_rfl) (fun _ _ _ h => h) (Or.inl ⟨by kernel_rfl, ?_⟩) hHeld ?_
  · intro w' hSw; go_simp
  try simp only [Act.put, List.setIfInBounds_toArray, List.set_cons_zero, List.set_cons_succ]
  refine wpAnyH_take (i := 2) (v := .pointer (some ⟨q2, 0, none⟩)) rfl (by kernel_rfl) (by kernel_rfl) (by kernel_rfl) (fun _ _ _ h => h) (Or.inl ⟨by kernel_rfl, ?_⟩) hHeld ?_
  · intro w' hSw; go_simp
  try simp only [Act.put, List.setIfInBounds_toArray, List.set_cons_zero, List.set_cons_succ]
  refine wpAnyH_take (i := 3) (v := .slice (some ⟨q2, 0, none⟩) 9 9) rfl (by kernel_rfl) (by kernel_rfl) (by kernel_rfl) (fun _ _ _ h => h) (Or.inl ⟨by kernel_rfl, ?_⟩) hHeld ?_
  · intro w' hSw; go_simp
  try simp only [Act.put, List.setIfInBounds_toArray, List.set_cons_zero, List.set_cons_succ]
  refine wpAnyH_take (i := 5) (v := .pointer (some ⟨q1, 9, none⟩)) rfl (by kernel_rfl) (by kernel_rfl) (by kernel_rfl) (fun _ _ _ h => h) (Or.inl ⟨by kernel_rfl, ?_⟩) hHeld ?_
  · intro w' hSw; go_simp
  try simp only [Act.put, List.setIfInBounds_toArray, List.set_cons_zero, List.set_cons_succ]
  refine wpAnyH_take (i := 6) (v := .slice (some ⟨q1, 9, none⟩) 3 3) rfl (by kernel_rfl) (by kernel_rfl) (by kernel_rfl) (fun _ _ _ h => h) (Or.inl ⟨by kernel_rfl, ?_⟩) hHeld ?_
  · intro w' hSw; go_simp
  try simp only [Act.put, List.setIfInBounds_toArray, List.set_cons_zero, List.set_cons_succ]
  refine wpAnyH_take (i := 7) (v := .pointer (some ⟨q2, 9, none⟩)) rfl (by kernel_rfl) (by kernel_rfl) (by kernel_rfl) (fun _ _ _ h => h) (Or.inl ⟨by kernel_rfl, ?_⟩) hHeld ?_
  · intro w' hSw; go_simp
  try simp only [Act.put, List.setIfInBounds_toArray, List.set_cons_zero, List.set_cons_succ]
  refine wpAnyH_take (i := 8) (v := .slice (some ⟨q2, 9, none⟩) 3 3) rfl (by kernel_rfl) (by kernel_rfl) (by kernel_rfl) (fun _ _ _ h => h) (Or.inl ⟨by kernel_rfl, ?_⟩) hHeld ?_
  · intro w' hSw; go_simp
  try simp only [Act.put, List.setIfInBounds_toArray, List.set_cons_zero, List.set_cons_succ]
  refine wpAnyH_ready (rs := [4]) (by kernel_rfl) (by simp) ?_
  refine AllReadyH.cons rfl (fun KK hK' => ?_) AllReadyH.nil
  go_simp
  refine (compare_any (opA_src a1).1 (opA_src a2).1 (by omega) (by omega)).mono ?_
  rintro e u1 ⟨rfl, rfl⟩
  try go_wp2_with fail
  clear hHeld
  refine hK'.out _ _ (trivial) (fun hHeld => ?_)
  clear hK' KK
  try simp only [List.setIfInBounds_toArray, List.set_cons_zero, List.set_cons_succ]
  refine wpAnyH_ready (rs := [9]) (by kernel_rfl) (by simp) ?_
  refine AllReadyH.cons rfl (fun KK hK' => ?_) AllReadyH.nil
  go_simp
  refine (compare_any (opA_src a1).2 (opA_src a2).2 (by omega) (by omega)).mono ?_
  rintro e u2 ⟨rfl, rfl⟩
  try go_wp2_with fail
  clear hHeld
  refine hK'.out _ _ (trivial) (fun hHeld => ?_)
  clear hK' KK
  try simp only [List.setIfInBounds_toArray, List.set_cons_zero, List.set_cons_succ]
  obtain ⟨X, hX⟩ : ∃ X, cmpF f f' 9 9 9 0 = X := ⟨_, rfl⟩
  obtain ⟨Y, hY⟩ : ∃ Y, cmpF h h' 3 3 3 0 = Y := ⟨_, rfl⟩
  rw [hX, hY]
  refine wpAnyH_ready (rs := [10]) (by kernel_rfl) (by simp) ?_
  refine AllReadyH.cons rfl (fun KK hK' => ?_) AllReadyH.nil
  obtain ⟨u3, hb, tb, bb, -⟩ := boxed u0 3 #[.int .i64 X, .int .i64 Y]
  have G3 : Grew w u3 := by rw [← hb]; exact G0.alloc _
  go_simp
  try rw [hb]
  clear hb bb
  clear hHeld
  refine hK'.out _ _ (trivial) (fun hHeld => ?_)
  clear hK' KK
  try simp only [List.setIfInBounds_toArray, List.set_cons_zero, List.set_cons_succ]
  refine wpAnyH_ready (rs := [11]) (by kernel_rfl) (by simp) ?_
  refine AllReadyH.cons rfl (fun KK hK' => ?_) AllReadyH.nil
  go_simp
  refine (or2_any tb).mono ?_
  rintro e u4 ⟨rfl, rfl⟩
  try go_wp2_with fail
  clear hHeld
  refine hK'.out _ _ (trivial) (fun hHeld => ?_)
  clear hK' KK
  try simp only [List.setIfInBounds_toArray, List.set_cons_zero, List.set_cons_succ]
  refine wpAnyH_ready (rs := [12]) (by kernel_rfl) (by simp) ?_
  refine AllReadyH.cons rfl (fun KK hK' => ?_) AllReadyH.nil
  go_simp
  clear hHeld
  refine hK'.out _ _ (trivial) (fun hHeld => ?_)
  clear hK' KK
  try simp only [List.setIfInBounds_toArray, List.set_cons_zero, List.set_cons_succ]
  clear hHeld
  refine wpAnyH_done (by kernel_rfl) ?_ _
  have hfin : or2 X Y = lexC 12 (cat 9 f h) (cat 9 f' h') := by rw [← hX, ← hY]; exact lexC_cat f h f' h'
  rw [hfin]
  go_wp2
  go_ret
  exact ⟨rfl, G3⟩
end Go.Proofs.Ytmjeplhigjlopaa
