/-
  Texts, items and data compared: walked.
-/
import Derived.Test.YtdhfoekfejcceaaD16d
namespace Go.Proofs.Ytdhfoekfejcceaa
open Go.RowKit

theorem ItO.at {w : World} {g N : Nat} {vb : Nat → Nat} {nm : Nat → ByteArray} {n : Nat → Nat} {rw : Nat → Int} {f : Nat → Nat → ByteArray} (h : ItO w g N N vb nm n rw f) {i : Nat} (hi : i < N) : w.cell? ⟨g, i * 3, none⟩ = some (.string (nm i)) ∧ w.cell? ⟨g, i * 3 + 1, none⟩ = some (.slice (some ⟨vb i, 0, none⟩) (n i) (n i)) ∧ w.cell? ⟨g, i * 3 + 2, none⟩ = some (.int .i64 (rw i)) := by
  obtain ⟨cur, h1, h2, h3⟩ := h.blk
  exact ⟨h1.cell _ (h3 i hi).1, h1.cell _ (h3 i hi).2.1, h1.cell _ (h3 i hi).2.2⟩
theorem eqStringS_true {w : World} {g1 g2 n c1 c2 : Nat} {f : Nat → ByteArray} (h1 : Strs w g1 0 n f) (h2 : Strs w g2 0 n f) (l1 : g1 < w.heap.size) (l2 : g2 < w.heap.size) (hn : n ≤ 1048576) :
    Calls Try.prog 15 #[.slice (some ⟨g1, 0, none⟩) n c1, .slice (some ⟨g2, 0, none⟩) n c2] w fun e w' => e = .returned (.bool true) ∧ Below w.heap.size w w' := by
  have hn' : (n : Int) ≤ 1048576 := by omega
  go_enter Try.func15, Try.ntmps15
  go_wp2
  go_loopw [5] (fun s wr => ∃ k : Nat, k ≤ n ∧ s = .int .i64 k ∧ Below w.heap.size w wr) (fun s _ => n - (intOf s).toNat)
  case atStart => exact ⟨0, Nat.zero_le _, rfl, Below.refl _ _⟩
  case round =>
    obtain ⟨k, hk, rfl, hbel⟩ := hrel
    by_cases hlt : k < n
    · have hlt' : (k : Int) < (n : Int) := by omega
      have hk0 : (0 : Int) ≤ (k : Int) := by omega
      have a0 := (hbel.cell (p := ⟨g1, 0 + k, none⟩) l1).trans (h1 k hlt)
      have a2 := (hbel.cell (p := ⟨g2, 0 + k, none⟩) l2).trans (h2 k hlt)
      rw [Nat.zero_add] at a0 a2
      have hne := bne_self_eq_false (f k).toList
      go_wp2
      go_quiet (fail)
      go_wp2
      go_roundw
      case rel => exact ⟨k + 1, by omega, by go_num, below_drewN hbel _⟩
      case measure => simp [intOf]; omega
    · have hlt' : ¬ (k : Int) < (n : Int) := by omega
      go_wp2
      go_ret
      exact ⟨rfl, hbel⟩
set_option maxRecDepth 100000 in
theorem eqItem_true {w : World} {g1 g2 n : Nat} {f : Nat → ByteArray} (s : ByteArray) (r : Int) (h1 : Strs w g1 0 n f) (h2 : Strs w g2 0 n f) (l1 : g1 < w.heap.size) (l2 : g2 < w.heap.size) (hn : n ≤ 1048576) :
    Calls Try.prog 47 #[.agg #[.string s, .slice (some ⟨g1, 0, none⟩) n n, .int .i64 r], .agg #[.string s, .slice (some ⟨g2, 0, none⟩) n n, .int .i64 r]] w fun e w' => e = .returned (.bool true) ∧ Below w.heap.size w w' := by
  obtain ⟨W1, hW1, a1, b1, -⟩ := boxed w 46 #[.string s, .slice (some ⟨g1, 0, none⟩) n n, .int .i64 r]
  obtain ⟨W2, hW2, a2, b2, -⟩ := boxed W1 46 #[.string s, .slice (some ⟨g2, 0, none⟩) n n, .int .i64 r]
  replace a1 := a1.below b2
  have B := b1.trans (b2.mono b1.size)
  obtain ⟨q1, hq1⟩ : ∃ q, w.heap.size = q := ⟨_, rfl⟩
  obtain ⟨q2, hq2⟩ : ∃ q, W1.heap.size = q := ⟨_, rfl⟩
  rw [hq1] at a1
  rw [hq2] at a2
  have hne := bne_self_eq_false s.toList
  have hr := bne_self_eq_false r
  have k1 : Strs W2 g1 0 n f := fun i hi => (B.cell (p := ⟨g1, 0 + i, none⟩) l1).trans (h1 i hi)
  have k2 : Strs W2 g2 0 n f := fun i hi => (B.cell (p := ⟨g2, 0 + i, none⟩) l2).trans (h2 i hi)
  have m1 := Nat.lt_of_lt_of_le l1 B.size
  have m2 := Nat.lt_of_lt_of_le l2 B.size
  obtain ⟨c0, c1, c2, -⟩ := a1.open3
  obtain ⟨d0, d1, d2, -⟩ := a2.open3
  clear b1 b2 h1 h2 l1 l2
  go_enter Try.func47, Try.ntmps47
  go_wp2_with fail
  refine (eqStringS_true k1 k2 m1 m2 hn).mono ?_
  rintro e w3 ⟨rfl, b3⟩
  replace a1 := a1.below b3
  replace a2 := a2.below b3
  clear c0 c1 c2 d0 d1 d2
  obtain ⟨c0, c1, c2, -⟩ := a1.open3
  obtain ⟨d0, d1, d2, -⟩ := a2.open3
  have B3 := B.trans (b3.mono B.size)
  go_wp2
  go_ret
  exact ⟨rfl, B3⟩
set_option maxRecDepth 100000 in
set_option maxHeartbeats 1600000 in
theorem eqItemS_true {w : World} {g1 g2 N : Nat} {v1 v2 : Nat → Nat} {nm : Nat → ByteArray} {n : Nat → Nat} {rw : Nat → Int} {f : Nat → Nat → ByteArray} (h1 : ItO w g1 N N v1 nm n rw f) (h2 : ItO w g2 N N v2 nm n rw f) (hN : N ≤ 1048576) (hn : ∀ i, i < N → n i ≤ 1048576) :
    Calls Try.prog 28 #[.slice (some ⟨g1, 0, none⟩) N N, .slice (some ⟨g2, 0, none⟩) N N] w fun e w' => e = .returned (.bool true) ∧ Below w.heap.size w w' := by
  have hn' : (N : Int) ≤ 1048576 := by omega
  go_enter Try.func28, Try.ntmps28
  go_wp2
  go_loopw [5] (fun s wr => ∃ k : Nat, k ≤ N ∧ s = .int .i64 k ∧ Below w.heap.size w wr) (fun s _ => N - (intOf s).toNat)
  case atStart => exact ⟨0, Nat.zero_le _, rfl, Below.refl _ _⟩
  case round =>
    obtain ⟨k, hk, rfl, B⟩ := hrel
    by_cases hlt : k < N
    · have hlt' : (k : Int) < (N : Int) := by omega
      have hk0 : (0 : Int) ≤ (k : Int) := by omega
      have L1 := h1.below B
      have L2 := h2.below B
      have hnk := hn k hlt
      clear h1 h2
      go_wp2_with fail
      obtain ⟨u0, hu0, bb⟩ : ∃ uu, wr.drew = uu ∧ Below wr.heap.size wr uu := ⟨_, rfl, (Below.refl _ _).drew⟩
      replace L1 := L1.below bb
      replace L2 := L2.below bb
      replace B := B.trans (bb.mono B.size)
      clear bb
      refine wp_region_held_drew (S := Kb u0) (by kernel_rfl) (by rw [hu0]; exact Below.refl _ _) (fun hHeld => ?_)
      rw [hu0] at hHeld ⊢
      clear hu0
      have bu : Kb u0 u0 := Below.refl _ _
      change wpAnyH _ _ _ _ _ 10 #[false, false, false, false, false, false, false, false, false, false] _ _
      refine wpAnyH_take (i := 0) (v := .slice ((some ⟨g1, 0, none⟩)) N N) rfl (by kernel_rfl) (by kernel_rfl) (by kernel_rfl) (fun _ _ _ h => h) (Or.inl ⟨by kernel_rfl, ?_⟩) hHeld ?_
      · intro w' hSw; go_simp
      try simp only [Act.put, List.setIfInBounds_toArray, List.set_cons_zero, List.set_cons_succ, List.getElem_toArray, List.getElem_cons_zero]
      refine wpAnyH_take (i := 1) (v := .int .i64 ((k : Int))) rfl (by kernel_rfl) (by kernel_rfl) (by kernel_rfl) (fun _ _ _ h => h) (Or.inl ⟨by kernel_rfl, ?_⟩) hHeld ?_
      · intro w' hSw; go_simp
      try simp only [Act.put, List.setIfInBounds_toArray, List.set_cons_zero, List.set_cons_succ, List.getElem_toArray, List.getElem_cons_succ, List.getElem_cons_zero]
      refine wpAnyH_take (i := 2) (v := .pointer (some ⟨g1, k * 3, none⟩)) rfl (by kernel_rfl) (by kernel_rfl) (by kernel_rfl) (fun _ _ _ h => h) (Or.inl ⟨by kernel_rfl, ?_⟩) hHeld ?_
      · intro w' hSw; go_simp
      try simp only [Act.put, List.setIfInBounds_toArray, List.set_cons_zero, List.set_cons_succ, List.getElem_toArray, List.getElem_cons_succ, List.getElem_cons_zero]
      refine wpAnyH_take (i := 3) (v := .agg #[.string (nm k), .slice ((some ⟨v1 k, 0, none⟩)) ((n k)) ((n k)), .int .i64 (rw k)]) rfl (by kernel_rfl) (by kernel_rfl) (by kernel_rfl) (fun _ _ _ h => h) (Or.inl ⟨by kernel_rfl, ?_⟩) hHeld ?_
      · intro w' hSw; obtain ⟨z0, z1, z2⟩ := (L1.below hSw).at hlt; go_simp
      try simp only [Act.put, List.setIfInBounds_toArray, List.set_cons_zero, List.set_cons_succ, List.getElem_toArray, List.getElem_cons_succ, List.getElem_cons_zero]
      refine wpAnyH_take (i := 4) (v := .slice ((some ⟨g2, 0, none⟩)) N N) rfl (by kernel_rfl) (by kernel_rfl) (by kernel_rfl) (fun _ _ _ h => h) (Or.inl ⟨by kernel_rfl, ?_⟩) hHeld ?_
      · intro w' hSw; go_simp
      try simp only [Act.put, List.setIfInBounds_toArray, List.set_cons_zero, List.set_cons_succ, List.getElem_toArray, List.getElem_cons_succ, List.getElem_cons_zero]
      refine wpAnyH_take (i := 5) (v := .int .i64 ((k : Int))) rfl (by kernel_rfl) (by kernel_rfl) (by kernel_rfl) (fun _ _ _ h => h) (Or.inl ⟨by kernel_rfl, ?_⟩) hHeld ?_
      · intro w' hSw; go_simp
      try simp only [Act.put, List.setIfInBounds_toArray, List.set_cons_zero, List.set_cons_succ, List.getElem_toArray, List.getElem_cons_succ, List.getElem_cons_zero]
      refine wpAnyH_take (i := 6) (v := .pointer (some ⟨g2, k * 3, none⟩)) rfl (by kernel_rfl) (by kernel_rfl) (by kernel_rfl) (fun _ _ _ h => h) (Or.inl ⟨by kernel_rfl, ?_⟩) hHeld ?_
      · intro w' hSw; go_simp
      try simp only [Act.put, List.setIfInBounds_toArray, List.set_cons_zero, List.set_cons_succ, List.getElem_toArray, List.getElem_cons_succ, List.getElem_cons_zero]
      refine wpAnyH_take (i := 7) (v := .agg #[.string (nm k), .slice ((some ⟨v2 k, 0, none⟩)) ((n k)) ((n k)), .int .i64 (rw k)]) rfl (by kernel_rfl) (by kernel_rfl) (by kernel_rfl) (fun _ _ _ h => h) (Or.inl ⟨by kernel_rfl, ?_⟩) hHeld ?_
      · intro w' hSw; obtain ⟨z0, z1, z2⟩ := (L2.below hSw).at hlt; go_simp
      try simp only [Act.put, List.setIfInBounds_toArray, List.set_cons_zero, List.set_cons_succ, List.getElem_toArray, List.getElem_cons_succ, List.getElem_cons_zero]
      refine wpAnyH_ready (rs := [8]) (by kernel_rfl) (by simp) ?_
      refine AllReadyH.cons rfl (fun KK hK' => ?_) AllReadyH.nil
      go_simp
      refine (eqItem_true (nm k) (rw k) (L1.own k hlt).2.strs (L2.own k hlt).2.strs (L1.own k hlt).2.lt (L2.own k hlt).2.lt hnk).mono ?_
      rintro e u1 ⟨rfl, bb⟩
      replace bu : Kb u0 u1 := bu.trans (bb.mono bu.size)
      clear bb
      try go_wp2_with fail
      clear hHeld
      refine hK'.out _ _ (bu) (fun hHeld => ?_)
      clear hK' KK
      try simp only [List.setIfInBounds_toArray, List.set_cons_zero, List.set_cons_succ]
      refine wpAnyH_take (i := 9) (v := .bool false) rfl (by kernel_rfl) (by kernel_rfl) (by kernel_rfl) (fun _ _ _ h => h) (Or.inl ⟨by kernel_rfl, ?_⟩) hHeld ?_
      · intro w' hSw; go_simp
      try simp only [Act.put, List.setIfInBounds_toArray, List.set_cons_zero, List.set_cons_succ, List.getElem_toArray, List.getElem_cons_succ, List.getElem_cons_zero]
      refine wpAnyH_done (by kernel_rfl) ?_ _
      clear hHeld
      go_wp2
      exact ⟨⟨k + 1, by omega, by go_num, B.trans (bu.mono B.size)⟩, by simp [intOf]; omega⟩
    · have hlt' : ¬ (k : Int) < (N : Int) := by omega
      go_wp2
      go_ret
      exact ⟨rfl, B⟩
set_option maxRecDepth 100000 in
set_option maxHeartbeats 1600000 in
theorem eqData_true {w : World} {g1 h1 g2 h2 N M : Nat} {s : ByteArray} {v1 v2 : Nat → Nat} {nm : Nat → ByteArray} {n : Nat → Nat} {rw : Nat → Int} {f : Nat → Nat → ByteArray} {lp : Nat → Int} (k1 : DaO w g1 N h1 M v1 nm n rw f lp) (k2 : DaO w g2 N h2 M v2 nm n rw f lp) (hN : N ≤ 1048576) (hn : ∀ i, i < N → n i ≤ 1048576) (hM : M ≤ 1048576) :
    Calls Try.prog 10 #[dV s g1 N h1 M, dV s g2 N h2 M] w fun e w' => e = .returned (.bool true) ∧ Below w.heap.size w w' := by
  unfold dV
  obtain ⟨W1, hW1, a1, b1, -⟩ := boxed w 30 #[.string s, .slice (some ⟨g1, 0, none⟩) N N, .slice (some ⟨h1, 0, none⟩) M M]
  obtain ⟨W2, hW2, a2, b2, -⟩ := boxed W1 30 #[.string s, .slice (some ⟨g2, 0, none⟩) N N, .slice (some ⟨h2, 0, none⟩) M M]
  replace a1 := a1.below b2
  have B := b1.trans (b2.mono b1.size)
  obtain ⟨q1, hq1⟩ : ∃ q, w.heap.size = q := ⟨_, rfl⟩
  obtain ⟨q2, hq2⟩ : ∃ q, W1.heap.size = q := ⟨_, rfl⟩
  rw [hq1] at a1
  rw [hq2] at a2
  have hne := bne_self_eq_false s.toList
  replace k1 := k1.below B
  replace k2 := k2.below B
  obtain ⟨c0, c1, c2, -⟩ := a1.open3
  obtain ⟨d0, d1, d2, -⟩ := a2.open3
  clear b1 b2
  go_enter Try.func10, Try.ntmps10
  go_wp2_with fail
  refine (eqItemS_true k1.it k2.it hN hn).mono ?_
  rintro e w3 ⟨rfl, b3⟩
  replace a1 := a1.below b3
  replace a2 := a2.below b3
  replace k1 := k1.below b3
  replace k2 := k2.below b3
  have B3 := B.trans (b3.mono B.size)
  clear c0 c1 c2 d0 d1 d2 b3 B
  obtain ⟨c0, c1, c2, -⟩ := a1.open3
  obtain ⟨d0, d1, d2, -⟩ := a2.open3
  go_wp2_with fail
  refine (eqInts_true (Made.row k1.lo) (Made.row k2.lo) (Made.lt k1.lo) (Made.lt k2.lo) hM).mono ?_
  rintro e w4 ⟨rfl, b4⟩
  have B4 := B3.trans (b4.mono B3.size)
  go_wp2
  go_ret
  exact ⟨rfl, B4⟩
end Go.Proofs.Ytdhfoekfejcceaa
