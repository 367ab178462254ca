/-
  Lists of frames: compared and marked, walked.
-/
import Derived.Test.YtlofbgkefalpoaaUa
namespace Go.Proofs.Ytlofbgkefalpoaa
open Go.RowKit

theorem FrO.open {w : World} {lo hi g N k : Nat} {B : Nat → Nat} {v : Nat → Value} {W H : Nat → Int} {n : Nat → Nat} {f : Nat → Nat → Int} (h : FrO w lo hi g N k B v W H n f) {i : Nat} (hi : i < k) : w.cell? ⟨g, i * 3, none⟩ = some (.int .i64 (W i)) ∧ w.cell? ⟨g, i * 3 + 1, none⟩ = some (.int .i64 (H i)) ∧ w.cell? ⟨g, i * 3 + 2, none⟩ = some (v i) := by
  obtain ⟨cur, h1, h2, h3⟩ := h.blk
  exact ⟨h1.cell _ (h3 i hi).1, h1.cell _ (h3 i hi).2.1, h1.cell _ (h3 i hi).2.2⟩
theorem FrO.turn {w w' : World} {lo hi a b g N k : Nat} {B : Nat → Nat} {v : Nat → Value} {W H : Nat → Int} {n : Nat → Nat} {f : Nat → Nat → Int} (h : FrO w a b g N k B v W H n f) (ht : Turn lo hi w w') (hd : b ≤ lo ∨ hi ≤ a) : FrO w' a b g N k B v W H n f := by
  have e1 := h.hi
  have e2 := h.lo
  have e3 := h.b0
  obtain ⟨cur, h1, h2, h3⟩ := h.blk
  have m0 := mono_of h.st (i := 0) (j := k) (by omega) (Nat.le_refl _)
  refine ⟨h.lo, h.b0, h.st, h.hi, ⟨cur, h1.turn ht (by omega), h2, h3⟩, fun i hi => (h.arr i hi).turn ht ?_⟩
  have m1 := mono_of h.st (i := 0) (j := i) (by omega) (by omega)
  have m2 := mono_of h.st (i := i + 1) (j := k) (by omega) (Nat.le_refl _)
  omega
set_option maxRecDepth 100000 in
set_option maxHeartbeats 4000000 in
theorem eqFrameS_true {w : World} {lo1 hi1 lo2 hi2 g1 g2 N : Nat} {B1 B2 : Nat → Nat} {v1 v2 : Nat → Value} {W H : Nat → Int} {n : Nat → Nat} {f : Nat → Nat → Int} (h1 : FrO w lo1 hi1 g1 N N B1 v1 W H n f) (h2 : FrO w lo2 hi2 g2 N N B2 v2 W H n f) (hN : N ≤ 1048576) (hn : ∀ i, i < N → n i ≤ 1048576) :
    Calls Try.prog 21 #[.slice (some ⟨g1, 0, none⟩) N N, .slice (some ⟨g2, 0, none⟩) N N] w fun e w' => e = .returned (.bool true) ∧ Below w.heap.size w w' := by
  have hn' : (N : Int) ≤ 1048576 := by omega
  go_enter Try.func21, Try.ntmps21
  go_wp2
  go_loopw [5] (fun s wr => ∃ k : Nat, k ≤ N ∧ s = .int .i64 k ∧ Below w.heap.size w wr) (fun s _ => N - (intOf s).toNat)
  case atStart => exact ⟨0, Nat.zero_le _, rfl, Below.refl _ _⟩
  case round =>
    obtain ⟨k, hk, rfl, B⟩ := hrel
    by_cases hlt : k < N
    · have hlt' : (k : Int) < (N : Int) := by omega
      have hk0 : (0 : Int) ≤ (k : Int) := by omega
      have L1 := h1.below B
      have L2 := h2.below B
      clear h1 h2
      obtain ⟨d1, e1, E1, -⟩ := (L1.arr k hlt).src
      obtain ⟨d2, e2, E2, -⟩ := (L2.arr k hlt).src
      have hnk := hn k hlt
      have H1 : Hid (v1 k = .slice d1 (n k) e1) := E1
      have H2 : Hid (v2 k = .slice d2 (n k) e2) := E2
      clear E1 E2
      go_wp2_with fail
      obtain ⟨u0, hu0, bb⟩ : ∃ uu, wr.drew = uu ∧ Below wr.heap.size wr uu := ⟨_, rfl, (Below.refl _ _).drew⟩
      replace L1 := L1.below bb
      replace L2 := L2.below bb
      replace B := B.trans (bb.mono B.size)
      clear bb
      refine wp_region_held_drew (S := Kb u0) (by kernel_rfl) (by rw [hu0]; exact Below.refl _ _) (fun hHeld => ?_)
      rw [hu0] at hHeld ⊢
      clear hu0
      have bu : Kb u0 u0 := Below.refl _ _
      change wpAnyH _ _ _ _ _ 10 #[false, false, false, false, false, false, false, false, false, false] _ _
      refine wpAnyH_take (i := 0) (v := .slice ((some ⟨g1, 0, none⟩)) N N) rfl (by kernel_rfl) (by kernel_rfl) (by kernel_rfl) (fun _ _ _ h => h) (Or.inl ⟨by kernel_rfl, ?_⟩) hHeld ?_
      · intro w' hSw; go_simp
      try simp only [Act.put, List.setIfInBounds_toArray, List.set_cons_zero, List.set_cons_succ, List.getElem_toArray, List.getElem_cons_zero]
      refine wpAnyH_take (i := 1) (v := .int .i64 ((k : Int))) rfl (by kernel_rfl) (by kernel_rfl) (by kernel_rfl) (fun _ _ _ h => h) (Or.inl ⟨by kernel_rfl, ?_⟩) hHeld ?_
      · intro w' hSw; go_simp
      try simp only [Act.put, List.setIfInBounds_toArray, List.set_cons_zero, List.set_cons_succ, List.getElem_toArray, List.getElem_cons_succ, List.getElem_cons_zero]
      refine wpAnyH_take (i := 2) (v := .pointer (some ⟨g1, k * 3, none⟩)) rfl (by kernel_rfl) (by kernel_rfl) (by kernel_rfl) (fun _ _ _ h => h) (Or.inl ⟨by kernel_rfl, ?_⟩) hHeld ?_
      · intro w' hSw; go_simp
      try simp only [Act.put, List.setIfInBounds_toArray, List.set_cons_zero, List.set_cons_succ, List.getElem_toArray, List.getElem_cons_succ, List.getElem_cons_zero]
      refine wpAnyH_take (i := 3) (v := .agg #[.int .i64 (W k), .int .i64 (H k), .slice d1 ((n k)) e1]) rfl (by kernel_rfl) (by kernel_rfl) (by kernel_rfl) (fun _ _ _ h => h) (Or.inl ⟨by kernel_rfl, ?_⟩) hHeld ?_
      · intro w' hSw; obtain ⟨z0, z1, z2⟩ := (L1.below hSw).open hlt; rw [H1.out] at z2; go_simp
      try simp only [Act.put, List.setIfInBounds_toArray, List.set_cons_zero, List.set_cons_succ, List.getElem_toArray, List.getElem_cons_succ, List.getElem_cons_zero]
      refine wpAnyH_take (i := 4) (v := .slice ((some ⟨g2, 0, none⟩)) N N) rfl (by kernel_rfl) (by kernel_rfl) (by kernel_rfl) (fun _ _ _ h => h) (Or.inl ⟨by kernel_rfl, ?_⟩) hHeld ?_
      · intro w' hSw; go_simp
      try simp only [Act.put, List.setIfInBounds_toArray, List.set_cons_zero, List.set_cons_succ, List.getElem_toArray, List.getElem_cons_succ, List.getElem_cons_zero]
      refine wpAnyH_take (i := 5) (v := .int .i64 ((k : Int))) rfl (by kernel_rfl) (by kernel_rfl) (by kernel_rfl) (fun _ _ _ h => h) (Or.inl ⟨by kernel_rfl, ?_⟩) hHeld ?_
      · intro w' hSw; go_simp
      try simp only [Act.put, List.setIfInBounds_toArray, List.set_cons_zero, List.set_cons_succ, List.getElem_toArray, List.getElem_cons_succ, List.getElem_cons_zero]
      refine wpAnyH_take (i := 6) (v := .pointer (some ⟨g2, k * 3, none⟩)) rfl (by kernel_rfl) (by kernel_rfl) (by kernel_rfl) (fun _ _ _ h => h) (Or.inl ⟨by kernel_rfl, ?_⟩) hHeld ?_
      · intro w' hSw; go_simp
      try simp only [Act.put, List.setIfInBounds_toArray, List.set_cons_zero, List.set_cons_succ, List.getElem_toArray, List.getElem_cons_succ, List.getElem_cons_zero]
      refine wpAnyH_take (i := 7) (v := .agg #[.int .i64 (W k), .int .i64 (H k), .slice d2 ((n k)) e2]) rfl (by kernel_rfl) (by kernel_rfl) (by kernel_rfl) (fun _ _ _ h => h) (Or.inl ⟨by kernel_rfl, ?_⟩) hHeld ?_
      · intro w' hSw; obtain ⟨z0, z1, z2⟩ := (L2.below hSw).open hlt; rw [H2.out] at z2; go_simp
      try simp only [Act.put, List.setIfInBounds_toArray, List.set_cons_zero, List.set_cons_succ, List.getElem_toArray, List.getElem_cons_succ, List.getElem_cons_zero]
      refine wpAnyH_ready (rs := [8]) (by kernel_rfl) (by simp) ?_
      refine AllReadyH.cons rfl (fun KK hK' => ?_) AllReadyH.nil
      go_simp
      refine (eqFrame_true (lo1 := B1 k) (hi1 := B1 (k + 1)) (lo2 := B2 k) (hi2 := B2 (k + 1)) ⟨_, rfl, (congrArg (fun x => Arr _ (B1 k) (B1 (k + 1)) x (n k) (f k)) H1.out).mp (L1.arr k hlt)⟩ ⟨_, rfl, (congrArg (fun x => Arr _ (B2 k) (B2 (k + 1)) x (n k) (f k)) H2.out).mp (L2.arr k hlt)⟩ hnk).mono ?_
      rintro e u1 ⟨rfl, bb⟩
      replace bu : Kb u0 u1 := bu.trans (bb.mono bu.size)
      clear bb
      try go_wp2_with fail
      clear hHeld
      refine hK'.out _ _ (bu) (fun hHeld => ?_)
      clear hK' KK
      try simp only [List.setIfInBounds_toArray, List.set_cons_zero, List.set_cons_succ]
      refine wpAnyH_take (i := 9) (v := .bool false) rfl (by kernel_rfl) (by kernel_rfl) (by kernel_rfl) (fun _ _ _ h => h) (Or.inl ⟨by kernel_rfl, ?_⟩) hHeld ?_
      · intro w' hSw; go_simp
      try simp only [Act.put, List.setIfInBounds_toArray, List.set_cons_zero, List.set_cons_succ, List.getElem_toArray, List.getElem_cons_succ, List.getElem_cons_zero]
      refine wpAnyH_done (by kernel_rfl) ?_ _
      clear hHeld
      go_wp2
      exact ⟨⟨k + 1, by omega, by go_num, B.trans (bu.mono B.size)⟩, by simp [intOf]; omega⟩
    · have hlt' : ¬ (k : Int) < (N : Int) := by omega
      go_wp2
      go_ret
      exact ⟨rfl, B⟩
/-- What of a list is still to be marked: from frame j on. -/
structure FrM (w : World) (g N j : Nat) (B : Nat → Nat) (v : Nat → Value) (n : Nat → Nat) (f : Nat → Nat → Int) : Prop where
  blk : ∃ cur : Array Value, At 28 w g cur ∧ cur.size = N * 3 ∧ ∀ i, j ≤ i → i < N → cur[i * 3 + 2]? = some (v i)
  arr : ∀ i, j ≤ i → i < N → Arr w (B i) (B (i + 1)) (v i) (n i) (f i)
theorem FrM.cells {w : World} {g N k j : Nat} {B : Nat → Nat} {v : Nat → Value} {n : Nat → Nat} {f : Nat → Nat → Int} (h : FrM w g N k B v n f) (hj : j < N * 3) : w.cell? ⟨g, j, none⟩ = some (cv w g j) ∧ w.frozen? ⟨g, j, none⟩ = false := by
  obtain ⟨cur, h1, h2, h3⟩ := h.blk
  have hl : j < cur.size := by omega
  have := h1.cell j (Array.getElem?_eq_getElem hl)
  exact ⟨by rw [cv, this]; rfl, h1.frozen j⟩
theorem FrM.set {w : World} {g N k j : Nat} {B : Nat → Nat} {v : Nat → Value} {n : Nat → Nat} {f : Nat → Nat → Int} (h : FrM w g N k B v n f) (hB : ∀ i, i < N → g < B i) (hj : ∀ i, j ≠ i * 3 + 2) (u : Value) : FrM (w.setCell ⟨g, j, none⟩ u) g N k B v n f := by
  obtain ⟨cur, h1, h2, h3⟩ := h.blk
  have ht := ((Kept.refl g w).set (i := j) u).turn
  refine ⟨⟨_, h1.set j _, by simpa using h2, fun i h4 h5 => ?_⟩, fun i h4 h5 => (h.arr i h4 h5).turn ht (.inr (hB i h5))⟩
  rw [Array.getElem?_setIfInBounds, if_neg (hj i)]
  exact h3 i h4 h5
theorem FrM.next {w w' : World} {g N k : Nat} {B : Nat → Nat} {v : Nat → Value} {n : Nat → Nat} {f : Nat → Nat → Int} (h : FrM w g N k B v n f) (hg : g < B k) (hB : ∀ i, k < i → i < N → B (k + 1) ≤ B i) (ht : Turn (B k) (B (k + 1)) w w') : FrM w' g N (k + 1) B v n f := by
  obtain ⟨cur, h1, h2, h3⟩ := h.blk
  exact ⟨⟨cur, h1.turn ht (.inl hg), h2, fun i h4 h5 => h3 i (by omega) h5⟩, fun i h4 h5 => (h.arr i (by omega) h5).turn ht (.inr (hB i (by omega) h5))⟩
theorem Turn.wide {lo hi lo' hi' : Nat} {w w' : World} (h : Turn lo hi w w') (h1 : lo' ≤ lo) (h2 : hi ≤ hi') : Turn lo' hi' w w' := ⟨h.os, h.tape, h.output, h.size, fun k hk hd => h.block k hk (by omega)⟩
theorem Turn.set {lo hi g j : Nat} {w w' : World} (h : Turn lo hi w w') (h1 : lo ≤ g) (h2 : g < hi) (u : Value) : Turn lo hi w (w'.setCell ⟨g, j, none⟩ u) := h.trans ((((Kept.refl g w').set (i := j) u).turn).wide h1 h2)
theorem markArr_t {w : World} {lo hi : Nat} {v : Value} {n : Nat} {f : Nat → Int} (h : Arr w lo hi v n f) (hn : n ≤ 1048576) (x : Nat) (hx : x ≤ 10000000) :
    Calls Try.prog 29 #[v, .int .i64 (x : Int)] w fun e w' => e = .returned (.int .i64 ((x + n : Nat) : Int)) ∧ Arr w' lo hi v n (fun i => (x + i : Nat)) ∧ Turn lo hi w w' := by
  refine (markArr_any h hn x hx).mono ?_
  rintro e w' ⟨h1, h2, h3⟩
  exact ⟨h1, h2, Turn.of_only h3 h⟩
set_option maxRecDepth 100000 in
set_option maxHeartbeats 4000000 in
theorem markFrameS_any {w : World} {lo hi g N : Nat} {B : Nat → Nat} {v : Nat → Value} {W H : Nat → Int} {n : Nat → Nat} {f : Nat → Nat → Int} (h : FrO w lo hi g N N B v W H n f) (hN : N ≤ 1048576) (hn : tot n N ≤ 1048576) :
    Calls Try.prog 22 #[.slice (some ⟨g, 0, none⟩) N N, .int .i64 1] w fun e w' => e = .returned (.int .i64 ((1 + 2 * N + tot n N : Nat) : Int)) ∧ Turn lo hi w w' := by
  have hn' : (N : Int) ≤ 1048576 := by omega
  have i1 := h.lo
  have i2 := h.b0
  have i3 := h.hi
  have i4 : ∀ i j, i ≤ j → j ≤ N → B i ≤ B j := fun i j => mono_of h.st
  have i5 := i4 0 N (by omega) (Nat.le_refl _)
  have M0 : FrM w g N 0 B v n f := by
    obtain ⟨cur, h1, h2, h3⟩ := h.blk
    exact ⟨⟨cur, h1, h2, fun i _ hi => (h3 i hi).2.2⟩, fun i _ hi => h.arr i hi⟩
  clear h
  go_enter Try.func22, Try.ntmps22
  go_wp2
  go_loopw [1, 5] (fun s t wr => ∃ k : Nat, k ≤ N ∧ s = .int .i64 ((1 + 2 * k + tot n k : Nat) : Int) ∧ t = .int .i64 (k : Int) ∧ FrM wr g N k B v n f ∧ Turn lo hi w wr) (fun _ t _ => N - (intOf t).toNat)
  case atStart => exact ⟨0, Nat.zero_le _, rfl, rfl, M0, Turn.of_below (Below.refl _ _)⟩
  case round =>
    clear M0
    obtain ⟨k, hk', rfl, rfl, h, hK⟩ := hrel
    by_cases hk : k < N
    · have hklt : (k : Int) < (N : Int) := by omega
      have t1 := tot_one n hk
      obtain ⟨X, hX⟩ : ∃ X : Nat, 1 + 2 * k + tot n k = X := ⟨_, rfl⟩
      have hX1 : X ≤ 5000000 := by omega
      have hX2 : (0 : Int) ≤ (X : Int) ∧ (X : Int) ≤ 5000000 := by omega
      have hg : ∀ i, i < N → g < B i := fun i hi => by have := i4 0 i (by omega) (by omega); omega
      obtain ⟨d1, e1, E1, -⟩ := (h.arr k (Nat.le_refl _) hk).src
      have hnk : n k ≤ 1048576 := by omega
      obtain ⟨c0, f0⟩ := h.cells (j := k * 3) (by omega)
      have h1 := h.set (j := k * 3) hg (fun i => by omega) (.int .i64 (X : Int))
      obtain ⟨V1, hV1⟩ : ∃ V, wr.setCell ⟨g, k * 3, none⟩ (.int .i64 (X : Int)) = V := ⟨_, rfl⟩
      have K1 : Turn lo hi w V1 := by rw [← hV1]; exact hK.set i1 (by omega) _
      rw [hV1] at h1
      obtain ⟨c1, f1⟩ := h1.cells (j := k * 3 + 1) (by omega)
      have h2 := h1.set (j := k * 3 + 1) hg (fun i => by omega) (.int .i64 ((X : Int) + 1))
      obtain ⟨V2, hV2⟩ : ∃ V, V1.setCell ⟨g, k * 3 + 1, none⟩ (.int .i64 ((X : Int) + 1)) = V := ⟨_, rfl⟩
      have K2 : Turn lo hi w V2 := by rw [← hV2]; exact K1.set i1 (by omega) _
      rw [hV2] at h2
      have c2 : V2.cell? ⟨g, k * 3 + 2, none⟩ = some (.slice d1 (n k) e1) := by
        obtain ⟨cur, q1, q2, q3⟩ := h2.blk
        rw [← E1]
        exact q1.cell _ (q3 k (Nat.le_refl _) hk)
      have A2 := h2.arr k (Nat.le_refl _) hk
      rw [E1] at A2
      have w1 : IntKind.i64.wrap ((X : Int) + 1) = (X : Int) + 1 := by rw [IntKind.wrap_i64]; omega
      have w2 : IntKind.i64.wrap ((X : Int) + 1 + 1) = ((X + 2 : Nat) : Int) := by rw [IntKind.wrap_i64]; omega
      rw [hX]
      clear h h1 K1 hK E1
      go_wp2_with fail
      refine (markArr_t A2 hnk (X + 2) (by omega)).mono ?_
      rintro e w4 ⟨rfl, -, tt⟩
      have h4 := h2.next (hg k hk) (fun i h5 h6 => i4 (k + 1) i (by omega) (by omega)) tt
      have K4 := K2.trans (tt.wide (show lo ≤ B k by have := hg k hk; omega) (show B (k + 1) ≤ hi by have := i4 (k + 1) N (by omega) (Nat.le_refl _); omega))
      have e9 : X + 2 + n k = 1 + 2 * (k + 1) + tot n (k + 1) := by have : tot n (k + 1) = tot n k + n k := rfl; omega
      clear hV1 hV2 c0 c1 c2 f0 f1 w1 w2 h2 K2 tt A2
      have HH : Hid (X + 2 + n k = 1 + 2 * (k + 1) + tot n (k + 1)) := e9
      clear e9
      go_wp2
      exact ⟨⟨k + 1, by omega, congrArg (Value.int .i64) (by have := HH.out; omega), by go_num, h4, K4⟩, by simp [intOf]; omega⟩
    · have hklt : ¬ (k : Int) < (N : Int) := by omega
      obtain rfl : k = N := by omega
      go_wp2
      go_ret
      exact ⟨rfl, hK⟩
end Go.Proofs.Ytlofbgkefalpoaa
