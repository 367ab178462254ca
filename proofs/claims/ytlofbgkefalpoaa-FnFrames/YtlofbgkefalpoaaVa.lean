/-
  Frames: which are right, by the program and by the specification, walked.
-/
import Derived.Test.YtlofbgkefalpoaaIa
namespace Go.Proofs.Ytlofbgkefalpoaa
open Go.RowKit

theorem in_any (x lo hi : Int) (w : World) : Calls Try.prog 43 #[.int .i64 x, .int .i64 lo, .int .i64 hi] w fun e w' => e = .returned (.bool (decide (lo ≤ x ∧ x ≤ hi))) ∧ w = w' := by
  by_cases h1 : lo ≤ x <;> by_cases h2 : x ≤ hi
  all_goals
    go_enter Try.func43, Try.ntmps43
    go_wp2
    go_ret
    exact ⟨by simp [h1, h2], rfl⟩
theorem isCount_any (x : Int) (w : World) : Calls Try.prog 46 #[.int .i64 x] w fun e w' => e = .returned (.bool (decide (0 ≤ x ∧ x ≤ 65535))) ∧ w = w' := by
  by_cases h1 : 0 ≤ x <;> by_cases h2 : x ≤ 65535
  all_goals
    go_enter Try.func46, Try.ntmps46
    go_wp2
    go_ret
    exact ⟨by simp [h1, h2], rfl⟩
/-- All that lay there lies there still. -/
def Kb (V w : World) : Prop := Below V.heap.size V w
theorem Kb.trans {a b c : World} (h : Kb a b) (k : Below a.heap.size b c) : Kb a c := Below.trans h k
theorem Kb.size {a b : World} (h : Kb a b) : a.heap.size ≤ b.heap.size := Below.size h
theorem mul_in {a b x y : Int} (h1 : 0 ≤ a ∧ a ≤ x) (h2 : 0 ≤ b ∧ b ≤ y) : 0 ≤ a * b ∧ a * b ≤ x * y :=
  ⟨Int.mul_nonneg h1.1 h2.1, Int.mul_le_mul h1.2 h2.2 h2.1 (by omega)⟩
abbrev gV (W H : Int) : Value := .agg #[.int .i64 W, .int .i64 H]
abbrev fV (W H : Int) (v : Value) : Value := .agg #[.int .i64 W, .int .i64 H, v]
/-- A side of a frame. -/
def sideB (W H : Int) : Bool := decide (1 ≤ W ∧ W ≤ 64) && decide (1 ≤ H ∧ H ≤ 64)
theorem right_any (W H : Int) (w : World) : Calls Try.prog 44 #[gV W H] w fun e w' => e = .returned (.bool (sideB W H)) ∧ Below w.heap.size w w' := by
  obtain ⟨V, hV, b0, bV, -⟩ := boxed w 60 #[.int .i64 W, .int .i64 H]
  obtain ⟨c0, c1, -⟩ := b0.open2
  go_enter Try.func44, Try.ntmps44
  go_wp2
  all_goals
    go_ret
    refine ⟨congrArg (fun b => Ending.returned (Value.bool b)) ?_, bV⟩
    rw [Bool.eq_iff_iff]
    simp [sideB]
    omega
theorem size_any (W H : Int) (w : World) (hW : 1 ≤ W ∧ W ≤ 64) (hH : 1 ≤ H ∧ H ≤ 64) : Calls Try.prog 45 #[gV W H] w fun e w' => e = .returned (.int .i64 (W * H)) ∧ Below w.heap.size w w' := by
  have p1 := mul_in (a := W) (b := H) (x := 64) (y := 64) (by omega) (by omega)
  obtain ⟨V, hV, b0, bV, -⟩ := boxed w 60 #[.int .i64 W, .int .i64 H]
  obtain ⟨c0, c1, -⟩ := b0.open2
  go_enter Try.func45, Try.ntmps45
  go_wp2
  go_ret
  exact ⟨rfl, bV⟩
theorem put3_at {t : TypeId} {w : World} {q : Nat} {u0 u1 u2 : Value} (h : At t w q #[u0, u1, u2]) (v0 v1 v2 : Value) : At t (((w.setCell ⟨q, 0, none⟩ v0).setCell ⟨q, 1, none⟩ v1).setCell ⟨q, 2, none⟩ v2) q #[v0, v1, v2] := by
  have := ((h.set 0 v0).set 1 v1).set 2 v2
  simpa using this
theorem below_put3 {N q : Nat} {w w2 : World} (h : Below N w w2) (hq : N ≤ q) (v0 v1 v2 : Value) : Below N w (((w2.setCell ⟨q, 0, none⟩ v0).setCell ⟨q, 1, none⟩ v1).setCell ⟨q, 2, none⟩ v2) :=
  ((h.setCell hq v0).setCell hq v1).setCell hq v2
theorem detectorOf_any (W H : Int) (a : Option Addr) (n c : Nat) (w : World) : Calls Try.prog 38 #[fV W H (.slice a n c)] w fun e w' => e = .returned (fV W H (.slice a n c)) ∧ Below w.heap.size w w' := by
  obtain ⟨V, hV, b0, bV, -⟩ := boxed w 28 #[.int .i64 W, .int .i64 H, .slice a n c]
  obtain ⟨V2, hV2, b2, bV2, -⟩ := boxed V 62 #[.int .i64 0, .int .i64 0, .slice none 0 0]
  have s0 := b0.lt
  replace b0 := b0.below bV2
  replace bV := bV.trans (bV2.mono bV.size)
  obtain ⟨c0, c1, c2, -⟩ := b0.open3
  obtain ⟨d0, d1, d2, f0, f1, f2⟩ := b2.open3
  go_enter Try.func38, Try.ntmps38
  go_wp2
  have a7 := put3_at b2 (.int .i64 W) (.int .i64 H) (.slice a n c)
  obtain ⟨p0, p1, p2, -⟩ := a7.open3
  refine bodyPost_ret (v := fV W H (.slice a n c)) (by simp [results, Try.results38, go_sem, p0, p1, p2]) rfl ?_
  exact ⟨rfl, below_put3 bV (by omega) _ _ _⟩
/-- Which frames are right. -/
def frOk (W H : Int) (len : Nat) (f : Nat → Int) : Prop := (1 ≤ W ∧ W ≤ 64) ∧ (1 ≤ H ∧ H ≤ 64) ∧ (len : Int) = W * H ∧ ∀ i, i < len → 0 ≤ f i ∧ f i ≤ 65535
noncomputable def frB (W H : Int) (len : Nat) (f : Nat → Int) : Bool := @decide (frOk W H len f) (Classical.propDecidable _)
theorem frB_yes {W H : Int} {len : Nat} {f : Nat → Int} (h : frOk W H len f) : frB W H len f = true := by simp [frB, h]
theorem frB_no {W H : Int} {len : Nat} {f : Nat → Int} (h : ¬ frOk W H len f) : frB W H len f = false := by simp [frB, h]
theorem frB_of {W H : Int} {len : Nat} {f : Nat → Int} (h : frB W H len f = true) : frOk W H len f := by simpa [frB] using h
theorem frB_not {W H : Int} {len : Nat} {f : Nat → Int} (h : frB W H len f = false) : ¬ frOk W H len f := by simpa [frB] using h
theorem sideB_yes {W H : Int} (h1 : 1 ≤ W ∧ W ≤ 64) (h2 : 1 ≤ H ∧ H ≤ 64) : sideB W H = true := by simp [sideB, h1, h2]
theorem sideB_no {W H : Int} (h : ¬ ((1 ≤ W ∧ W ≤ 64) ∧ (1 ≤ H ∧ H ≤ 64))) : sideB W H = false := by
  rw [Bool.eq_false_iff]
  intro h'
  simp [sideB] at h'
  omega
set_option maxHeartbeats 4000000 in
theorem implFrameOk_any {w : World} {a : Option Addr} {len cap : Nat} {f : Nat → Int} (W H : Int) (hs : Src w a len f) (hlen : len ≤ 1048576) :
    Calls Try.prog 17 #[fV W H (.slice a len cap)] w fun e w' => e = .returned (.bool (frB W H len f)) ∧ Below w.heap.size w w' := by
  obtain ⟨V, hV, b0, bV, -⟩ := boxed w 28 #[.int .i64 W, .int .i64 H, .slice a len cap]
  obtain ⟨c0, c1, c2, -⟩ := b0.open3
  replace hs := hs.below bV
  have hll : (len : Int) ≤ 1048576 := by omega
  obtain ⟨D, hD⟩ : ∃ D, frB W H len f = D := ⟨_, rfl⟩
  rw [hD]
  go_enter Try.func17, Try.ntmps17
  go_wp2_with fail
  refine (detectorOf_any W H a len cap V).mono ?_
  rintro e w1 ⟨rfl, b1⟩
  replace hs := hs.below b1
  replace bV := bV.trans (b1.mono bV.size)
  clear b1 c0 c1 c2 b0 hV
  go_wp2_with fail
  obtain ⟨V2, hV2, d0, bV2, -⟩ := boxed w1 62 #[.int .i64 W, .int .i64 H, .slice a len cap]
  rw [hV2]
  replace hs := hs.below bV2
  replace bV := bV.trans (bV2.mono bV.size)
  clear bV2 hV2
  by_cases hsides : (1 ≤ W ∧ W ≤ 64) ∧ (1 ≤ H ∧ H ≤ 64)
  · obtain ⟨hW, hH⟩ := hsides
    have hsd := sideB_yes hW hH
    have p1 := mul_in (a := W) (b := H) (x := 64) (y := 64) (by omega) (by omega)
    by_cases hl : (len : Int) = W * H
    · have hne : ((len : Int) != W * H) = false := by simp [hl]
      have H0 : ∀ k, k < len → ¬ (0 ≤ f k ∧ f k ≤ 65535) → D = false := fun k hk h => hD ▸ frB_no fun h' => h (h'.2.2.2 k hk)
      have H1 : (∀ i, i < len → 0 ≤ f i ∧ f i ≤ 65535) → D = true := fun h => hD ▸ frB_yes ⟨hW, hH, hl, h⟩
      clear hD
      obtain ⟨u0, hu0, bb⟩ : ∃ uu, V2.drew = uu ∧ Below V2.heap.size V2 uu := ⟨_, rfl, (Below.refl _ _).drew⟩
      replace d0 := d0.below bb
      replace hs := hs.below bb
      replace bV := bV.trans (bb.mono bV.size)
      clear bb
      refine wp_region_held_drew (S := Kb u0) (by kernel_rfl) (by rw [hu0]; exact Below.refl _ _) (fun hHeld => ?_)
      rw [hu0] at hHeld ⊢
      clear hu0
      have bu : Kb u0 u0 := Below.refl _ _
      change wpAnyH _ _ _ _ _ 13 #[false, false, false, false, false, false, false, false, false, false, false, false, false] _ _
      refine wpAnyH_take (i := 0) (v := .pointer (some ⟨w1.heap.size, 0, none⟩)) rfl (by kernel_rfl) (by kernel_rfl) (by kernel_rfl) (fun _ _ _ h => h) (Or.inl ⟨by kernel_rfl, ?_⟩) hHeld ?_
      · intro w' hSw; go_simp
      try simp only [Act.put, List.setIfInBounds_toArray, List.set_cons_zero, List.set_cons_succ, List.getElem_toArray, List.getElem_cons_zero]
      refine wpAnyH_take (i := 1) (v := .agg #[.int .i64 (W), .int .i64 (H)]) rfl (by kernel_rfl) (by kernel_rfl) (by kernel_rfl) (fun _ _ _ h => h) (Or.inl ⟨by kernel_rfl, ?_⟩) hHeld ?_
      · intro w' hSw; obtain ⟨z0, z1, z2, -⟩ := (d0.below hSw).open3; go_simp
      try simp only [Act.put, List.setIfInBounds_toArray, List.set_cons_zero, List.set_cons_succ, List.getElem_toArray, List.getElem_cons_succ, List.getElem_cons_zero]
      refine wpAnyH_ready (rs := [2]) (by kernel_rfl) (by simp) ?_
      refine AllReadyH.cons rfl (fun KK hK' => ?_) AllReadyH.nil
      go_simp
      refine (right_any W H _).mono ?_
      rintro e u1 ⟨rfl, bb⟩
      rw [hsd]
      replace bu : Kb u0 u1 := bu.trans (bb.mono bu.size)
      clear bb
      try go_wp2_with fail
      clear hHeld
      refine hK'.out _ _ bu (fun hHeld => ?_)
      clear hK' KK
      try simp only [List.setIfInBounds_toArray, List.set_cons_zero, List.set_cons_succ]
      refine wpAnyH_take (i := 3) (v := .bool false) rfl (by kernel_rfl) (by kernel_rfl) (by kernel_rfl) (fun _ _ _ h => h) (Or.inl ⟨by kernel_rfl, ?_⟩) hHeld ?_
      · intro w' hSw; go_simp
      try simp only [Act.put, List.setIfInBounds_toArray, List.set_cons_zero, List.set_cons_succ, List.getElem_toArray, List.getElem_cons_succ, List.getElem_cons_zero]
      refine wpAnyH_take (i := 4) (v := .bool false) rfl (by kernel_rfl) (by kernel_rfl) (by kernel_rfl) (fun _ _ _ h => h) (Or.inl ⟨by kernel_rfl, ?_⟩) hHeld ?_
      · intro w' hSw; go_simp
      try simp only [Act.put, List.setIfInBounds_toArray, List.set_cons_zero, List.set_cons_succ, List.getElem_toArray, List.getElem_cons_succ, List.getElem_cons_zero]
      refine wpAnyH_take (i := 5) (v := .pointer (some ⟨w1.heap.size, 2, none⟩)) rfl (by kernel_rfl) (by kernel_rfl) (by kernel_rfl) (fun _ _ _ h => h) (Or.inl ⟨by kernel_rfl, ?_⟩) hHeld ?_
      · intro w' hSw; go_simp
      try simp only [Act.put, List.setIfInBounds_toArray, List.set_cons_zero, List.set_cons_succ, List.getElem_toArray, List.getElem_cons_succ, List.getElem_cons_zero]
      refine wpAnyH_take (i := 6) (v := .slice a len cap) rfl (by kernel_rfl) (by kernel_rfl) (by kernel_rfl) (fun _ _ _ h => h) (Or.inl ⟨by kernel_rfl, ?_⟩) hHeld ?_
      · intro w' hSw; obtain ⟨z0, z1, z2, -⟩ := (d0.below hSw).open3; go_simp
      try simp only [Act.put, List.setIfInBounds_toArray, List.set_cons_zero, List.set_cons_succ, List.getElem_toArray, List.getElem_cons_succ, List.getElem_cons_zero]
      refine wpAnyH_take (i := 7) (v := .int .i64 (len)) rfl (by kernel_rfl) (by kernel_rfl) (by kernel_rfl) (fun _ _ _ h => h) (Or.inl ⟨by kernel_rfl, ?_⟩) hHeld ?_
      · intro w' hSw; go_simp
      try simp only [Act.put, List.setIfInBounds_toArray, List.set_cons_zero, List.set_cons_succ, List.getElem_toArray, List.getElem_cons_succ, List.getElem_cons_zero]
      refine wpAnyH_take (i := 8) (v := .pointer (some ⟨w1.heap.size, 0, none⟩)) rfl (by kernel_rfl) (by kernel_rfl) (by kernel_rfl) (fun _ _ _ h => h) (Or.inl ⟨by kernel_rfl, ?_⟩) hHeld ?_
      · intro w' hSw; go_simp
      try simp only [Act.put, List.setIfInBounds_toArray, List.set_cons_zero, List.set_cons_succ, List.getElem_toArray, List.getElem_cons_succ, List.getElem_cons_zero]
      refine wpAnyH_take (i := 9) (v := .agg #[.int .i64 (W), .int .i64 (H)]) rfl (by kernel_rfl) (by kernel_rfl) (by kernel_rfl) (fun _ _ _ h => h) (Or.inl ⟨by kernel_rfl, ?_⟩) hHeld ?_
      · intro w' hSw; obtain ⟨z0, z1, z2, -⟩ := (d0.below hSw).open3; go_simp
      try simp only [Act.put, List.setIfInBounds_toArray, List.set_cons_zero, List.set_cons_succ, List.getElem_toArray, List.getElem_cons_succ, List.getElem_cons_zero]
      refine wpAnyH_ready (rs := [10]) (by kernel_rfl) (by simp) ?_
      refine AllReadyH.cons rfl (fun KK hK' => ?_) AllReadyH.nil
      go_simp
      refine (size_any W H _ hW hH).mono ?_
      rintro e u2 ⟨rfl, bb⟩
      replace bu : Kb u0 u2 := bu.trans (bb.mono bu.size)
      clear bb
      try go_wp2_with fail
      clear hHeld
      refine hK'.out _ _ bu (fun hHeld => ?_)
      clear hK' KK
      try simp only [List.setIfInBounds_toArray, List.set_cons_zero, List.set_cons_succ]
      refine wpAnyH_take (i := 11) (v := .bool false) rfl (by kernel_rfl) (by kernel_rfl) (by kernel_rfl) (fun _ _ _ h => h) (Or.inl ⟨by kernel_rfl, ?_⟩) hHeld ?_
      · intro w' hSw; go_simp
      try simp only [Act.put, List.setIfInBounds_toArray, List.set_cons_zero, List.set_cons_succ, List.getElem_toArray, List.getElem_cons_succ, List.getElem_cons_zero]
      refine wpAnyH_take (i := 12) (v := .bool false) rfl (by kernel_rfl) (by kernel_rfl) (by kernel_rfl) (fun _ _ _ h => h) (Or.inl ⟨by kernel_rfl, ?_⟩) hHeld ?_
      · intro w' hSw; go_simp
      try simp only [Act.put, List.setIfInBounds_toArray, List.set_cons_zero, List.set_cons_succ, List.getElem_toArray, List.getElem_cons_succ, List.getElem_cons_zero]
      refine wpAnyH_done (by kernel_rfl) ?_ _
      clear hHeld
      clear hl hne hsd
      obtain ⟨u0', rfl⟩ : ∃ x, u2 = x := ⟨_, rfl⟩
      replace d0 := d0.below bu
      replace hs := hs.below bu
      replace bV := bV.trans (bu.mono bV.size)
      clear bu
      obtain ⟨c0, c1, c2, -⟩ := d0.open3
      go_wp2
      go_loopw [24] (fun s wr => ∃ k : Nat, k ≤ len ∧ s = .int .i64 k ∧ (∀ i, i < k → 0 ≤ f i ∧ f i ≤ 65535) ∧ u2 = wr) (fun s _ => len - (intOf s).toNat)
      case atStart => exact ⟨0, Nat.zero_le _, rfl, fun i hi => absurd hi (by omega), rfl⟩
      case round =>
        obtain ⟨k, hk, rfl, hall, rfl⟩ := hrel
        by_cases hlt : k < len
        · have hlt' : (k : Int) < (len : Int) := by omega
          rcases hs with h0 | ⟨b, off, rfl, hb, hr⟩
          · omega
          have g0 := hr k hlt
          by_cases q1 : 0 ≤ f k ∧ f k ≤ 65535
          · have hi : decide (0 ≤ f k ∧ f k ≤ 65535) = true := decide_eq_true q1
            go_wp2_with (go_at_call 46; refine (isCount_any _ _).mono ?_; rintro e w2 ⟨rfl, rfl⟩; rw [hi])
            refine ⟨⟨k + 1, by omega, by go_num, fun i hi => ?_, trivial⟩, by simp [intOf]; omega⟩
            by_cases e : i = k
            · subst e; exact q1
            · exact hall i (by omega)
          · have hi : decide (0 ≤ f k ∧ f k ≤ 65535) = false := decide_eq_false q1
            go_wp2_with (go_at_call 46; refine (isCount_any _ _).mono ?_; rintro e w2 ⟨rfl, rfl⟩; rw [hi])
            go_ret
            exact ⟨by rw [H0 k hlt q1]; rfl, bV⟩
        · have hlt' : ¬ (k : Int) < (len : Int) := by omega
          obtain rfl : k = len := by omega
          go_wp2
          go_ret
          exact ⟨by rw [H1 hall]; rfl, bV⟩
    · have hne : ((len : Int) != W * H) = true := by simp [hl]
      obtain rfl : D = false := hD ▸ frB_no fun h => hl h.2.2.1
      clear hl hD
      obtain ⟨u0, hu0, bb⟩ : ∃ uu, V2.drew = uu ∧ Below V2.heap.size V2 uu := ⟨_, rfl, (Below.refl _ _).drew⟩
      replace d0 := d0.below bb
      replace hs := hs.below bb
      replace bV := bV.trans (bb.mono bV.size)
      clear bb
      refine wp_region_held_drew (S := Kb u0) (by kernel_rfl) (by rw [hu0]; exact Below.refl _ _) (fun hHeld => ?_)
      rw [hu0] at hHeld ⊢
      clear hu0
      have bu : Kb u0 u0 := Below.refl _ _
      change wpAnyH _ _ _ _ _ 13 #[false, false, false, false, false, false, false, false, false, false, false, false, false] _ _
      refine wpAnyH_take (i := 0) (v := .pointer (some ⟨w1.heap.size, 0, none⟩)) rfl (by kernel_rfl) (by kernel_rfl) (by kernel_rfl) (fun _ _ _ h => h) (Or.inl ⟨by kernel_rfl, ?_⟩) hHeld ?_
      · intro w' hSw; go_simp
      try simp only [Act.put, List.setIfInBounds_toArray, List.set_cons_zero, List.set_cons_succ, List.getElem_toArray, List.getElem_cons_zero]
      refine wpAnyH_take (i := 1) (v := .agg #[.int .i64 (W), .int .i64 (H)]) rfl (by kernel_rfl) (by kernel_rfl) (by kernel_rfl) (fun _ _ _ h => h) (Or.inl ⟨by kernel_rfl, ?_⟩) hHeld ?_
      · intro w' hSw; obtain ⟨z0, z1, z2, -⟩ := (d0.below hSw).open3; go_simp
      try simp only [Act.put, List.setIfInBounds_toArray, List.set_cons_zero, List.set_cons_succ, List.getElem_toArray, List.getElem_cons_succ, List.getElem_cons_zero]
      refine wpAnyH_ready (rs := [2]) (by kernel_rfl) (by simp) ?_
      refine AllReadyH.cons rfl (fun KK hK' => ?_) AllReadyH.nil
      go_simp
      refine (right_any W H _).mono ?_
      rintro e u1 ⟨rfl, bb⟩
      rw [hsd]
      replace bu : Kb u0 u1 := bu.trans (bb.mono bu.size)
      clear bb
      try go_wp2_with fail
      clear hHeld
      refine hK'.out _ _ bu (fun hHeld => ?_)
      clear hK' KK
      try simp only [List.setIfInBounds_toArray, List.set_cons_zero, List.set_cons_succ]
      refine wpAnyH_take (i := 3) (v := .bool false) rfl (by kernel_rfl) (by kernel_rfl) (by kernel_rfl) (fun _ _ _ h => h) (Or.inl ⟨by kernel_rfl, ?_⟩) hHeld ?_
      · intro w' hSw; go_simp
      try simp only [Act.put, List.setIfInBounds_toArray, List.set_cons_zero, List.set_cons_succ, List.getElem_toArray, List.getElem_cons_succ, List.getElem_cons_zero]
      refine wpAnyH_take (i := 4) (v := .bool false) rfl (by kernel_rfl) (by kernel_rfl) (by kernel_rfl) (fun _ _ _ h => h) (Or.inl ⟨by kernel_rfl, ?_⟩) hHeld ?_
      · intro w' hSw; go_simp
      try simp only [Act.put, List.setIfInBounds_toArray, List.set_cons_zero, List.set_cons_succ, List.getElem_toArray, List.getElem_cons_succ, List.getElem_cons_zero]
      refine wpAnyH_take (i := 5) (v := .pointer (some ⟨w1.heap.size, 2, none⟩)) rfl (by kernel_rfl) (by kernel_rfl) (by kernel_rfl) (fun _ _ _ h => h) (Or.inl ⟨by kernel_rfl, ?_⟩) hHeld ?_
      · intro w' hSw; go_simp
      try simp only [Act.put, List.setIfInBounds_toArray, List.set_cons_zero, List.set_cons_succ, List.getElem_toArray, List.getElem_cons_succ, List.getElem_cons_zero]
      refine wpAnyH_take (i := 6) (v := .slice a len cap) rfl (by kernel_rfl) (by kernel_rfl) (by kernel_rfl) (fun _ _ _ h => h) (Or.inl ⟨by kernel_rfl, ?_⟩) hHeld ?_
      · intro w' hSw; obtain ⟨z0, z1, z2, -⟩ := (d0.below hSw).open3; go_simp
      try simp only [Act.put, List.setIfInBounds_toArray, List.set_cons_zero, List.set_cons_succ, List.getElem_toArray, List.getElem_cons_succ, List.getElem_cons_zero]
      refine wpAnyH_take (i := 7) (v := .int .i64 (len)) rfl (by kernel_rfl) (by kernel_rfl) (by kernel_rfl) (fun _ _ _ h => h) (Or.inl ⟨by kernel_rfl, ?_⟩) hHeld ?_
      · intro w' hSw; go_simp
      try simp only [Act.put, List.setIfInBounds_toArray, List.set_cons_zero, List.set_cons_succ, List.getElem_toArray, List.getElem_cons_succ, List.getElem_cons_zero]
      refine wpAnyH_take (i := 8) (v := .pointer (some ⟨w1.heap.size, 0, none⟩)) rfl (by kernel_rfl) (by kernel_rfl) (by kernel_rfl) (fun _ _ _ h => h) (Or.inl ⟨by kernel_rfl, ?_⟩) hHeld ?_
      · intro w' hSw; go_simp
      try simp only [Act.put, List.setIfInBounds_toArray, List.set_cons_zero, List.set_cons_succ, List.getElem_toArray, List.getElem_cons_succ, List.getElem_cons_zero]
      refine wpAnyH_take (i := 9) (v := .agg #[.int .i64 (W), .int .i64 (H)]) rfl (by kernel_rfl) (by kernel_rfl) (by kernel_rfl) (fun _ _ _ h => h) (Or.inl ⟨by kernel_rfl, ?_⟩) hHeld ?_
      · intro w' hSw; obtain ⟨z0, z1, z2, -⟩ := (d0.below hSw).open3; go_simp
      try simp only [Act.put, List.setIfInBounds_toArray, List.set_cons_zero, List.set_cons_succ, List.getElem_toArray, List.getElem_cons_succ, List.getElem_cons_zero]
      refine wpAnyH_ready (rs := [10]) (by kernel_rfl) (by simp) ?_
      refine AllReadyH.cons rfl (fun KK hK' => ?_) AllReadyH.nil
      go_simp
      refine (size_any W H _ hW hH).mono ?_
      rintro e u2 ⟨rfl, bb⟩
      replace bu : Kb u0 u2 := bu.trans (bb.mono bu.size)
      clear bb
      try go_wp2_with fail
      clear hHeld
      refine hK'.out _ _ bu (fun hHeld => ?_)
      clear hK' KK
      try simp only [List.setIfInBounds_toArray, List.set_cons_zero, List.set_cons_succ]
      refine wpAnyH_take (i := 11) (v := .bool true) rfl (by kernel_rfl) (by kernel_rfl) (by kernel_rfl) (fun _ _ _ h => h) (Or.inl ⟨by kernel_rfl, ?_⟩) hHeld ?_
      · intro w' hSw; go_simp
      try simp only [Act.put, List.setIfInBounds_toArray, List.set_cons_zero, List.set_cons_succ, List.getElem_toArray, List.getElem_cons_succ, List.getElem_cons_zero]
      refine wpAnyH_take (i := 12) (v := .bool true) rfl (by kernel_rfl) (by kernel_rfl) (by kernel_rfl) (fun _ _ _ h => h) (Or.inl ⟨by kernel_rfl, ?_⟩) hHeld ?_
      · intro w' hSw; go_simp
      try simp only [Act.put, List.setIfInBounds_toArray, List.set_cons_zero, List.set_cons_succ, List.getElem_toArray, List.getElem_cons_succ, List.getElem_cons_zero]
      refine wpAnyH_done (by kernel_rfl) ?_ _
      clear hHeld
      go_wp2
      go_ret
      exact ⟨rfl, bV.trans (bu.mono bV.size)⟩
  · have hsd := sideB_no hsides
    obtain rfl : D = false := hD ▸ frB_no fun h => hsides ⟨h.1, h.2.1⟩
    clear hD
    obtain ⟨u0, hu0, bb⟩ : ∃ uu, V2.drew = uu ∧ Below V2.heap.size V2 uu := ⟨_, rfl, (Below.refl _ _).drew⟩
    replace d0 := d0.below bb
    replace hs := hs.below bb
    replace bV := bV.trans (bb.mono bV.size)
    clear bb
    refine wp_region_held_drew (S := Kb u0) (by kernel_rfl) (by rw [hu0]; exact Below.refl _ _) (fun hHeld => ?_)
    rw [hu0] at hHeld ⊢
    clear hu0
    have bu : Kb u0 u0 := Below.refl _ _
    change wpAnyH _ _ _ _ _ 13 #[false, false, false, false, false, false, false, false, false, false, false, false, false] _ _
    refine wpAnyH_take (i := 0) (v := .pointer (some ⟨w1.heap.size, 0, none⟩)) rfl (by kernel_rfl) (by kernel_rfl) (by kernel_rfl) (fun _ _ _ h => h) (Or.inl ⟨by kernel_rfl, ?_⟩) hHeld ?_
    · intro w' hSw; go_simp
    try simp only [Act.put, List.setIfInBounds_toArray, List.set_cons_zero, List.set_cons_succ, List.getElem_toArray, List.getElem_cons_zero]
    refine wpAnyH_take (i := 1) (v := .agg #[.int .i64 (W), .int .i64 (H)]) rfl (by kernel_rfl) (by kernel_rfl) (by kernel_rfl) (fun _ _ _ h => h) (Or.inl ⟨by kernel_rfl, ?_⟩) hHeld ?_
    · intro w' hSw; obtain ⟨z0, z1, z2, -⟩ := (d0.below hSw).open3; go_simp
    try simp only [Act.put, List.setIfInBounds_toArray, List.set_cons_zero, List.set_cons_succ, List.getElem_toArray, List.getElem_cons_succ, List.getElem_cons_zero]
    refine wpAnyH_ready (rs := [2]) (by kernel_rfl) (by simp) ?_
    refine AllReadyH.cons rfl (fun KK hK' => ?_) AllReadyH.nil
    go_simp
    refine (right_any W H _).mono ?_
    rintro e u1 ⟨rfl, bb⟩
    rw [hsd]
    replace bu : Kb u0 u1 := bu.trans (bb.mono bu.size)
    clear bb
    try go_wp2_with fail
    clear hHeld
    refine hK'.out _ _ bu (fun hHeld => ?_)
    clear hK' KK
    try simp only [List.setIfInBounds_toArray, List.set_cons_zero, List.set_cons_succ]
    refine wpAnyH_take (i := 3) (v := .bool true) rfl (by kernel_rfl) (by kernel_rfl) (by kernel_rfl) (fun _ _ _ h => h) (Or.inl ⟨by kernel_rfl, ?_⟩) hHeld ?_
    · intro w' hSw; go_simp
    try simp only [Act.put, List.setIfInBounds_toArray, List.set_cons_zero, List.set_cons_succ, List.getElem_toArray, List.getElem_cons_succ, List.getElem_cons_zero]
    refine wpAnyH_take (i := 4) (v := .bool true) rfl (by kernel_rfl) (by kernel_rfl) (by kernel_rfl) (fun _ _ _ h => h) (Or.inl ⟨by kernel_rfl, ?_⟩) hHeld ?_
    · intro w' hSw; go_simp
    try simp only [Act.put, List.setIfInBounds_toArray, List.set_cons_zero, List.set_cons_succ, List.getElem_toArray, List.getElem_cons_succ, List.getElem_cons_zero]
    refine wpAnyH_take (i := 5) (v := undef) rfl (by kernel_rfl) (by kernel_rfl) (by kernel_rfl) (fun _ _ _ h => h) (Or.inr ⟨by kernel_rfl, rfl⟩) hHeld ?_
    try simp only [Act.put, List.setIfInBounds_toArray, List.set_cons_zero, List.set_cons_succ, List.getElem_toArray, List.getElem_cons_succ, List.getElem_cons_zero]
    refine wpAnyH_take (i := 6) (v := undef) rfl (by kernel_rfl) (by kernel_rfl) (by kernel_rfl) (fun _ _ _ h => h) (Or.inr ⟨by kernel_rfl, rfl⟩) hHeld ?_
    try simp only [Act.put, List.setIfInBounds_toArray, List.set_cons_zero, List.set_cons_succ, List.getElem_toArray, List.getElem_cons_succ, List.getElem_cons_zero]
    refine wpAnyH_take (i := 7) (v := undef) rfl (by kernel_rfl) (by kernel_rfl) (by kernel_rfl) (fun _ _ _ h => h) (Or.inr ⟨by kernel_rfl, rfl⟩) hHeld ?_
    try simp only [Act.put, List.setIfInBounds_toArray, List.set_cons_zero, List.set_cons_succ, List.getElem_toArray, List.getElem_cons_succ, List.getElem_cons_zero]
    refine wpAnyH_take (i := 8) (v := undef) rfl (by kernel_rfl) (by kernel_rfl) (by kernel_rfl) (fun _ _ _ h => h) (Or.inr ⟨by kernel_rfl, rfl⟩) hHeld ?_
    try simp only [Act.put, List.setIfInBounds_toArray, List.set_cons_zero, List.set_cons_succ, List.getElem_toArray, List.getElem_cons_succ, List.getElem_cons_zero]
    refine wpAnyH_take (i := 9) (v := undef) rfl (by kernel_rfl) (by kernel_rfl) (by kernel_rfl) (fun _ _ _ h => h) (Or.inr ⟨by kernel_rfl, rfl⟩) hHeld ?_
    try simp only [Act.put, List.setIfInBounds_toArray, List.set_cons_zero, List.set_cons_succ, List.getElem_toArray, List.getElem_cons_succ, List.getElem_cons_zero]
    refine wpAnyH_take (i := 10) (v := undef) rfl (by kernel_rfl) (by kernel_rfl) (by kernel_rfl) (fun _ _ _ h => h) (Or.inr ⟨by kernel_rfl, rfl⟩) hHeld ?_
    try simp only [Act.put, List.setIfInBounds_toArray, List.set_cons_zero, List.set_cons_succ, List.getElem_toArray, List.getElem_cons_succ, List.getElem_cons_zero]
    refine wpAnyH_take (i := 11) (v := undef) rfl (by kernel_rfl) (by kernel_rfl) (by kernel_rfl) (fun _ _ _ h => h) (Or.inr ⟨by kernel_rfl, rfl⟩) hHeld ?_
    try simp only [Act.put, List.setIfInBounds_toArray, List.set_cons_zero, List.set_cons_succ, List.getElem_toArray, List.getElem_cons_succ, List.getElem_cons_zero]
    refine wpAnyH_take (i := 12) (v := .bool true) rfl (by kernel_rfl) (by kernel_rfl) (by kernel_rfl) (fun _ _ _ h => h) (Or.inl ⟨by kernel_rfl, ?_⟩) hHeld ?_
    · intro w' hSw; go_simp
    try simp only [Act.put, List.setIfInBounds_toArray, List.set_cons_zero, List.set_cons_succ, List.getElem_toArray, List.getElem_cons_succ, List.getElem_cons_zero]
    refine wpAnyH_done (by kernel_rfl) ?_ _
    clear hHeld
    go_wp2
    go_ret
    exact ⟨rfl, bV.trans (bu.mono bV.size)⟩
set_option maxHeartbeats 4000000 in
theorem specFrameOk_any {w : World} {a : Option Addr} {len cap : Nat} {f : Nat → Int} (W H : Int) (hs : Src w a len f) (hlen : len ≤ 1048576) :
    Calls Try.prog 15 #[fV W H (.slice a len cap)] w fun e w' => e = .returned (.bool (frB W H len f)) ∧ Below w.heap.size w w' := by
  obtain ⟨V, hV, b0, bV, -⟩ := boxed w 28 #[.int .i64 W, .int .i64 H, .slice a len cap]
  obtain ⟨c0, c1, c2, -⟩ := b0.open3
  replace hs := hs.below bV
  have hll : (len : Int) ≤ 1048576 := by omega
  by_cases hW : 1 ≤ W ∧ W ≤ 64
  · have dW : decide (1 ≤ W ∧ W ≤ 64) = true := decide_eq_true hW
    by_cases hH : 1 ≤ H ∧ H ≤ 64
    · have dH : decide (1 ≤ H ∧ H ≤ 64) = true := decide_eq_true hH
      have p1 := mul_in (a := W) (b := H) (x := 64) (y := 64) (by omega) (by omega)
      by_cases hl : (len : Int) = W * H
      · have hne : ((len : Int) != W * H) = false := by simp [hl]
        have H0 : ∀ k, k < len → ¬ (0 ≤ f k ∧ f k ≤ 65535) → frB W H len f = false := fun k hk h => frB_no fun h' => h (h'.2.2.2 k hk)
        have H1 : (∀ i, i < len → 0 ≤ f i ∧ f i ≤ 65535) → frB W H len f = true := fun h => frB_yes ⟨hW, hH, hl, h⟩
        generalize frB W H len f = D at H0 H1 ⊢
        clear hl
        go_enter Try.func15, Try.ntmps15
        go_wp2_with (go_at_call 43; refine (in_any _ _ _ _).mono ?_; rintro e w2 ⟨rfl, rfl⟩; first | rw [dW] | rw [dH])
        go_loopw [3] (fun s wr => ∃ k : Nat, k ≤ len ∧ s = .int .i64 k ∧ (∀ i, i < k → 0 ≤ f i ∧ f i ≤ 65535) ∧ V = wr) (fun s _ => len - (intOf s).toNat)
        case atStart => exact ⟨0, Nat.zero_le _, rfl, fun i hi => absurd hi (by omega), rfl⟩
        case round =>
          obtain ⟨k, hk, rfl, hall, rfl⟩ := hrel
          by_cases hlt : k < len
          · have hlt' : (k : Int) < (len : Int) := by omega
            rcases hs with h0 | ⟨b, off, rfl, hb, hr⟩
            · omega
            have g0 := hr k hlt
            by_cases q1 : 0 ≤ f k ∧ f k ≤ 65535
            · have hi : decide (0 ≤ f k ∧ f k ≤ 65535) = true := decide_eq_true q1
              go_wp2_with (go_at_call 43; refine (in_any _ _ _ _).mono ?_; rintro e w2 ⟨rfl, rfl⟩; rw [hi])
              refine ⟨⟨k + 1, by omega, by go_num, fun i hi => ?_, trivial⟩, by simp [intOf]; omega⟩
              by_cases e : i = k
              · subst e; exact q1
              · exact hall i (by omega)
            · have hi : decide (0 ≤ f k ∧ f k ≤ 65535) = false := decide_eq_false q1
              go_wp2_with (go_at_call 43; refine (in_any _ _ _ _).mono ?_; rintro e w2 ⟨rfl, rfl⟩; rw [hi])
              go_ret
              exact ⟨by rw [H0 k hlt q1]; rfl, bV⟩
          · have hlt' : ¬ (k : Int) < (len : Int) := by omega
            obtain rfl : k = len := by omega
            go_wp2
            go_ret
            exact ⟨by rw [H1 hall]; rfl, bV⟩
      · have hne : ((len : Int) != W * H) = true := by simp [hl]
        rw [frB_no fun h => hl h.2.2.1]
        clear hl
        go_enter Try.func15, Try.ntmps15
        go_wp2_with (go_at_call 43; refine (in_any _ _ _ _).mono ?_; rintro e w2 ⟨rfl, rfl⟩; first | rw [dW] | rw [dH])
        go_ret
        exact ⟨rfl, bV⟩
    · have dH : decide (1 ≤ H ∧ H ≤ 64) = false := decide_eq_false hH
      rw [frB_no fun h => hH h.2.1]
      go_enter Try.func15, Try.ntmps15
      go_wp2_with (go_at_call 43; refine (in_any _ _ _ _).mono ?_; rintro e w2 ⟨rfl, rfl⟩; first | rw [dW] | rw [dH])
      go_ret
      exact ⟨rfl, bV⟩
  · have dW : decide (1 ≤ W ∧ W ≤ 64) = false := decide_eq_false hW
    rw [frB_no fun h => hW h.1]
    go_enter Try.func15, Try.ntmps15
    go_wp2_with (go_at_call 43; refine (in_any _ _ _ _).mono ?_; rintro e w2 ⟨rfl, rfl⟩; rw [dW])
    go_ret
    exact ⟨rfl, bV⟩
end Go.Proofs.Ytlofbgkefalpoaa
