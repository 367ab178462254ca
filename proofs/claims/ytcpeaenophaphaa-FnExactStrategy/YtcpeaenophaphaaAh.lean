/-
  Lists of lists of numbers: compared and marked; the laws on StrategyOk and WitnessOk, walked.
-/
import Derived.Test.YtcpeaenophaphaaAg
namespace Go.Proofs.Ytcpeaenophaphaa
open Go.RowKit

theorem LlO.open {w : World} {lo hi g N k : Nat} {B : Nat → Nat} {v : Nat → Value} {n : Nat → Nat} {f : Nat → Nat → Int} (h : LlO w lo hi g N k B v n f) {i : Nat} (hi : i < k) : w.cell? ⟨g, i, none⟩ = some (v i) := by
  obtain ⟨cur, h1, h2, h3⟩ := h.blk
  exact h1.cell _ (h3 i hi)
theorem LlO.turn {w w' : World} {lo hi a b g N k : Nat} {B : Nat → Nat} {v : Nat → Value} {n : Nat → Nat} {f : Nat → Nat → Int} (h : LlO w a b g N k B v n f) (ht : Turn lo hi w w') (hd : b ≤ lo ∨ hi ≤ a) : LlO w' a b g N k B v n f := by
  have e1 := h.hi
  have e2 := h.lo
  have e3 := h.b0
  obtain ⟨cur, h1, h2, h3⟩ := h.blk
  have m0 := mono_of h.st (i := 0) (j := k) (by omega) (Nat.le_refl _)
  refine ⟨h.lo, h.b0, h.st, h.hi, ⟨cur, h1.turn ht (by omega), h2, h3⟩, fun i hi => (h.arr i hi).turn ht ?_⟩
  have m1 := mono_of h.st (i := 0) (j := i) (by omega) (by omega)
  have m2 := mono_of h.st (i := i + 1) (j := k) (by omega) (Nat.le_refl _)
  omega
set_option maxRecDepth 100000 in
set_option maxHeartbeats 4000000 in
theorem eqSS_true {w : World} {lo1 hi1 lo2 hi2 g1 g2 N : Nat} {B1 B2 : Nat → Nat} {v1 v2 : Nat → Value} {n : Nat → Nat} {f : Nat → Nat → Int} (h1 : LlO w lo1 hi1 g1 N N B1 v1 n f) (h2 : LlO w lo2 hi2 g2 N N B2 v2 n f) (hN : N ≤ 1048576) (hn : ∀ i, i < N → n i ≤ 1048576) :
    Calls Try.prog 21 #[.slice (some ⟨g1, 0, none⟩) N N, .slice (some ⟨g2, 0, none⟩) N N] w fun e w' => e = .returned (.bool true) ∧ Below w.heap.size w w' := by
  have hn' : (N : Int) ≤ 1048576 := by omega
  go_enter Try.func21, Try.ntmps21
  go_wp2
  go_loopw [5] (fun s wr => ∃ k : Nat, k ≤ N ∧ s = .int .i64 k ∧ Below w.heap.size w wr) (fun s _ => N - (intOf s).toNat)
  case atStart => exact ⟨0, Nat.zero_le _, rfl, Below.refl _ _⟩
  case round =>
    obtain ⟨k, hk, rfl, B⟩ := hrel
    by_cases hlt : k < N
    · have hlt' : (k : Int) < (N : Int) := by omega
      have hk0 : (0 : Int) ≤ (k : Int) := by omega
      have L1 := h1.below B
      have L2 := h2.below B
      clear h1 h2
      obtain ⟨d1, e1, E1, -⟩ := (L1.arr k hlt).src
      obtain ⟨d2, e2, E2, -⟩ := (L2.arr k hlt).src
      have hnk := hn k hlt
      have H1 : Hid (v1 k = .slice d1 (n k) e1) := E1
      have H2 : Hid (v2 k = .slice d2 (n k) e2) := E2
      clear E1 E2
      go_wp2_with fail
      obtain ⟨u0, hu0, bb⟩ : ∃ uu, wr.drew = uu ∧ Below wr.heap.size wr uu := ⟨_, rfl, (Below.refl _ _).drew⟩
      replace L1 := L1.below bb
      replace L2 := L2.below bb
      replace B := B.trans (bb.mono B.size)
      clear bb
      refine wp_region_held_drew (S := Kb u0) (by kernel_rfl) (by rw [hu0]; exact Below.refl _ _) (fun hHeld => ?_)
      rw [hu0] at hHeld ⊢
      clear hu0
      have bu : Kb u0 u0 := Below.refl _ _
      change wpAnyH _ _ _ _ _ 10 #[false, false, false, false, false, false, false, false, false, false] _ _
      refine wpAnyH_take (i := 0) (v := .slice ((some ⟨g1, 0, none⟩)) N N) rfl (by kernel_rfl) (by kernel_rfl) (by kernel_rfl) (fun _ _ _ h => h) (Or.inl ⟨by kernel_rfl, ?_⟩) hHeld ?_
      · intro w' hSw; go_simp
      try simp only [Act.put, List.setIfInBounds_toArray, List.set_cons_zero, List.set_cons_succ, List.getElem_toArray, List.getElem_cons_zero]
      refine wpAnyH_take (i := 1) (v := .int .i64 ((k : Int))) rfl (by kernel_rfl) (by kernel_rfl) (by kernel_rfl) (fun _ _ _ h => h) (Or.inl ⟨by kernel_rfl, ?_⟩) hHeld ?_
      · intro w' hSw; go_simp
      try simp only [Act.put, List.setIfInBounds_toArray, List.set_cons_zero, List.set_cons_succ, List.getElem_toArray, List.getElem_cons_succ, List.getElem_cons_zero]
      refine wpAnyH_take (i := 2) (v := .pointer (some ⟨g1, k, none⟩)) rfl (by kernel_rfl) (by kernel_rfl) (by kernel_rfl) (fun _ _ _ h => h) (Or.inl ⟨by kernel_rfl, ?_⟩) hHeld ?_
      · intro w' hSw; go_simp
      try simp only [Act.put, List.setIfInBounds_toArray, List.set_cons_zero, List.set_cons_succ, List.getElem_toArray, List.getElem_cons_succ, List.getElem_cons_zero]
      refine wpAnyH_take (i := 3) (v := .slice d1 ((n k)) e1) rfl (by kernel_rfl) (by kernel_rfl) (by kernel_rfl) (fun _ _ _ h => h) (Or.inl ⟨by kernel_rfl, ?_⟩) hHeld ?_
      · intro w' hSw; have z2 := (L1.below hSw).open hlt; rw [H1.out] at z2; go_simp
      try simp only [Act.put, List.setIfInBounds_toArray, List.set_cons_zero, List.set_cons_succ, List.getElem_toArray, List.getElem_cons_succ, List.getElem_cons_zero]
      refine wpAnyH_take (i := 4) (v := .slice ((some ⟨g2, 0, none⟩)) N N) rfl (by kernel_rfl) (by kernel_rfl) (by kernel_rfl) (fun _ _ _ h => h) (Or.inl ⟨by kernel_rfl, ?_⟩) hHeld ?_
      · intro w' hSw; go_simp
      try simp only [Act.put, List.setIfInBounds_toArray, List.set_cons_zero, List.set_cons_succ, List.getElem_toArray, List.getElem_cons_succ, List.getElem_cons_zero]
      refine wpAnyH_take (i := 5) (v := .int .i64 ((k : Int))) rfl (by kernel_rfl) (by kernel_rfl) (by kernel_rfl) (fun _ _ _ h => h) (Or.inl ⟨by kernel_rfl, ?_⟩) hHeld ?_
      · intro w' hSw; go_simp
      try simp only [Act.put, List.setIfInBounds_toArray, List.set_cons_zero, List.set_cons_succ, List.getElem_toArray, List.getElem_cons_succ, List.getElem_cons_zero]
      refine wpAnyH_take (i := 6) (v := .pointer (some ⟨g2, k, none⟩)) rfl (by kernel_rfl) (by kernel_rfl) (by kernel_rfl) (fun _ _ _ h => h) (Or.inl ⟨by kernel_rfl, ?_⟩) hHeld ?_
      · intro w' hSw; go_simp
      try simp only [Act.put, List.setIfInBounds_toArray, List.set_cons_zero, List.set_cons_succ, List.getElem_toArray, List.getElem_cons_succ, List.getElem_cons_zero]
      refine wpAnyH_take (i := 7) (v := .slice d2 ((n k)) e2) rfl (by kernel_rfl) (by kernel_rfl) (by kernel_rfl) (fun _ _ _ h => h) (Or.inl ⟨by kernel_rfl, ?_⟩) hHeld ?_
      · intro w' hSw; have z2 := (L2.below hSw).open hlt; rw [H2.out] at z2; go_simp
      try simp only [Act.put, List.setIfInBounds_toArray, List.set_cons_zero, List.set_cons_succ, List.getElem_toArray, List.getElem_cons_succ, List.getElem_cons_zero]
      refine wpAnyH_ready (rs := [8]) (by kernel_rfl) (by simp) ?_
      refine AllReadyH.cons rfl (fun KK hK' => ?_) AllReadyH.nil
      go_simp
      refine (eqArr_true (lo1 := B1 k) (hi1 := B1 (k + 1)) (lo2 := B2 k) (hi2 := B2 (k + 1)) ((congrArg (fun x => Arr _ (B1 k) (B1 (k + 1)) x (n k) (f k)) H1.out).mp (L1.arr k hlt)) ((congrArg (fun x => Arr _ (B2 k) (B2 (k + 1)) x (n k) (f k)) H2.out).mp (L2.arr k hlt)) hnk).mono ?_
      rintro e u1 ⟨rfl, bb⟩
      replace bu : Kb u0 u1 := bu.trans (bb.mono bu.size)
      clear bb
      try go_wp2_with fail
      clear hHeld
      refine hK'.out _ _ (bu) (fun hHeld => ?_)
      clear hK' KK
      try simp only [List.setIfInBounds_toArray, List.set_cons_zero, List.set_cons_succ]
      refine wpAnyH_take (i := 9) (v := .bool false) rfl (by kernel_rfl) (by kernel_rfl) (by kernel_rfl) (fun _ _ _ h => h) (Or.inl ⟨by kernel_rfl, ?_⟩) hHeld ?_
      · intro w' hSw; go_simp
      try simp only [Act.put, List.setIfInBounds_toArray, List.set_cons_zero, List.set_cons_succ, List.getElem_toArray, List.getElem_cons_succ, List.getElem_cons_zero]
      refine wpAnyH_done (by kernel_rfl) ?_ _
      clear hHeld
      go_wp2
      exact ⟨⟨k + 1, by omega, by go_num, B.trans (bu.mono B.size)⟩, by simp [intOf]; omega⟩
    · have hlt' : ¬ (k : Int) < (N : Int) := by omega
      go_wp2
      go_ret
      exact ⟨rfl, B⟩
/-- What of a list is still to be marked: from list j on. -/
structure LlM (w : World) (g N j : Nat) (B : Nat → Nat) (v : Nat → Value) (n : Nat → Nat) (f : Nat → Nat → Int) : Prop where
  blk : ∃ cur : Array Value, At 25 w g cur ∧ cur.size = N ∧ ∀ i, j ≤ i → i < N → cur[i]? = some (v i)
  arr : ∀ i, j ≤ i → i < N → Arr w (B i) (B (i + 1)) (v i) (n i) (f i)
theorem LlM.next {w w' : World} {g N k : Nat} {B : Nat → Nat} {v : Nat → Value} {n : Nat → Nat} {f : Nat → Nat → Int} (h : LlM w g N k B v n f) (hg : g < B k) (hB : ∀ i, k < i → i < N → B (k + 1) ≤ B i) (ht : Turn (B k) (B (k + 1)) w w') : LlM w' g N (k + 1) B v n f := by
  obtain ⟨cur, h1, h2, h3⟩ := h.blk
  exact ⟨⟨cur, h1.turn ht (.inl hg), h2, fun i h4 h5 => h3 i (by omega) h5⟩, fun i h4 h5 => (h.arr i (by omega) h5).turn ht (.inr (hB i (by omega) h5))⟩
theorem Turn.wide {lo hi lo' hi' : Nat} {w w' : World} (h : Turn lo hi w w') (h1 : lo' ≤ lo) (h2 : hi ≤ hi') : Turn lo' hi' w w' := ⟨h.os, h.tape, h.output, h.size, fun k hk hd => h.block k hk (by omega)⟩
theorem markArr_t {w : World} {lo hi : Nat} {v : Value} {n : Nat} {f : Nat → Int} (h : Arr w lo hi v n f) (hn : n ≤ 1048576) (x : Nat) (hx : x ≤ 10000000) :
    Calls Try.prog 24 #[v, .int .i64 (x : Int)] w fun e w' => e = .returned (.int .i64 ((x + n : Nat) : Int)) ∧ Arr w' lo hi v n (fun i => (x + i : Nat)) ∧ Turn lo hi w w' := by
  refine (markArr_any h hn x hx).mono ?_
  rintro e w' ⟨h1, h2, h3⟩
  exact ⟨h1, h2, Turn.of_only h3 h⟩
set_option maxRecDepth 100000 in
set_option maxHeartbeats 4000000 in
theorem markSS_any {w : World} {lo hi g N : Nat} {B : Nat → Nat} {v : Nat → Value} {n : Nat → Nat} {f : Nat → Nat → Int} (h : LlO w lo hi g N N B v n f) (hN : N ≤ 1048576) (hn : tot n N ≤ 1048576) :
    Calls Try.prog 23 #[.slice (some ⟨g, 0, none⟩) N N, .int .i64 1] w fun e w' => e = .returned (.int .i64 ((1 + tot n N : Nat) : Int)) ∧ Turn lo hi w w' := by
  have hn' : (N : Int) ≤ 1048576 := by omega
  have i1 := h.lo
  have i2 := h.b0
  have i3 := h.hi
  have i4 : ∀ i j, i ≤ j → j ≤ N → B i ≤ B j := fun i j => mono_of h.st
  have i5 := i4 0 N (by omega) (Nat.le_refl _)
  have M0 : LlM w g N 0 B v n f := by
    obtain ⟨cur, h1, h2, h3⟩ := h.blk
    exact ⟨⟨cur, h1, h2, fun i _ hi => h3 i hi⟩, fun i _ hi => h.arr i hi⟩
  clear h
  go_enter Try.func23, Try.ntmps23
  go_wp2
  go_loopw [1, 5] (fun s t wr => ∃ k : Nat, k ≤ N ∧ s = .int .i64 ((1 + tot n k : Nat) : Int) ∧ t = .int .i64 (k : Int) ∧ LlM wr g N k B v n f ∧ Turn lo hi w wr) (fun _ t _ => N - (intOf t).toNat)
  case atStart => exact ⟨0, Nat.zero_le _, rfl, rfl, M0, Turn.of_below (Below.refl _ _)⟩
  case round =>
    clear M0
    obtain ⟨k, hk', rfl, rfl, h, hK⟩ := hrel
    by_cases hk : k < N
    · have hklt : (k : Int) < (N : Int) := by omega
      have t1 := tot_one n hk
      obtain ⟨X, hX⟩ : ∃ X : Nat, 1 + tot n k = X := ⟨_, rfl⟩
      have hX1 : X ≤ 5000000 := by omega
      have hX2 : (0 : Int) ≤ (X : Int) ∧ (X : Int) ≤ 5000000 := by omega
      have hg : ∀ i, i < N → g < B i := fun i hi => by have := i4 0 i (by omega) (by omega); omega
      obtain ⟨d1, e1, E1, -⟩ := (h.arr k (Nat.le_refl _) hk).src
      have hnk : n k ≤ 1048576 := by omega
      have c2 : wr.cell? ⟨g, k, none⟩ = some (.slice d1 (n k) e1) := by
        obtain ⟨cur, q1, q2, q3⟩ := h.blk
        rw [← E1]
        exact q1.cell _ (q3 k (Nat.le_refl _) hk)
      have A2 := h.arr k (Nat.le_refl _) hk
      rw [E1] at A2
      rw [hX]
      clear E1
      go_wp2_with fail
      refine (markArr_t A2 hnk X (by omega)).mono ?_
      rintro e w4 ⟨rfl, -, tt⟩
      have h4 := h.next (hg k hk) (fun i h5 h6 => i4 (k + 1) i (by omega) (by omega)) tt
      have K4 := hK.trans (tt.wide (show lo ≤ B k by have := hg k hk; omega) (show B (k + 1) ≤ hi by have := i4 (k + 1) N (by omega) (Nat.le_refl _); omega))
      have e9 : X + n k = 1 + tot n (k + 1) := by have : tot n (k + 1) = tot n k + n k := rfl; omega
      clear c2 h hK tt A2
      have HH : Hid (X + n k = 1 + tot n (k + 1)) := e9
      clear e9
      go_wp2
      exact ⟨⟨k + 1, by omega, congrArg (Value.int .i64) (by have := HH.out; omega), by go_num, h4, K4⟩, by simp [intOf]; omega⟩
    · have hklt : ¬ (k : Int) < (N : Int) := by omega
      obtain rfl : k = N := by omega
      go_wp2
      go_ret
      exact ⟨rfl, hK⟩
theorem tot_each {n : Nat → Nat} {N i : Nat} (h : i < N) : n i ≤ tot n N := by have := tot_one n h; omega
set_option maxRecDepth 100000 in
set_option maxHeartbeats 4000000 in
theorem exactStrategyOk_walk {w : World} {p q : Option Addr} {N cap M cap2 : Nat} {a : Nat → Option Addr} {c : Nat → Nat} {n : Nat → Nat} {f : Nat → Nat → Int} {l : Nat → Int} (hS : LlS w p N a c n f) (hN0 : N ≤ maxLen) (hn0 : ∀ i, i < N → n i ≤ maxLen) (hl : Src w q M l) :
    Calls Try.prog 4 #[.slice p N cap, .slice q M cap2] w fun e w' => e = .returned (.bool true) ∧ Below w.heap.size w w' := by
  by_cases hM1 : 1048576 < M
  · have hM' : (1048576 : Int) < (M : Int) := by omega
    go_enter Try.func4, Try.ntmps4
    go_wp2
    go_ret
    exact ⟨rfl, Below.refl _ _⟩
  have hM' : ¬ (1048576 : Int) < (M : Int) := by omega
  have hM : M ≤ 1048576 := by omega
  go_enter Try.func4, Try.ntmps4
  go_wp2_with fail
  refine (szSS_any hS hN0 hn0).mono ?_
  rintro e w1 ⟨r, rfl, hr, bW⟩
  rcases hr with rfl | ⟨hr, hT⟩
  · go_wp2
    go_ret
    exact ⟨rfl, bW⟩
  have hr' : ¬ r < 0 := by omega
  have hN : N ≤ 1048576 := by omega
  have hn : ∀ i, i < N → n i ≤ 1048576 := fun i hi => by have := tot_each (n := n) hi; omega
  go_wp2_with fail
  refine (toSS_any (hS.below bW) hN hn).mono ?_
  rintro e w2 ⟨g1, B1, v1, rfl, T1, bb⟩
  replace bW := bW.trans (bb.mono bW.size)
  clear bb
  obtain ⟨a1, c1, -, F1⟩ := T1.fri
  clear T1
  go_wp2_with fail
  refine (toInts_any (hl.below bW) hM).mono ?_
  rintro e w3 ⟨g2, rfl, hg2, o2, bb⟩
  replace bW := bW.trans (bb.mono bW.size)
  replace F1 := F1.below bb
  clear bb
  go_wp2_with fail
  refine (specStrategyOk_any F1 hN hn (.inr ⟨g2, 0, rfl, o2.lt, o2.row⟩) hM).mono ?_
  rintro e w4 ⟨rfl, bb⟩
  replace bW := bW.trans (bb.mono bW.size)
  clear bb F1 o2
  go_wp2_with fail
  refine (toSS_any (hS.below bW) hN hn).mono ?_
  rintro e w5 ⟨g3, B3, v3, rfl, T3, bb⟩
  replace bW := bW.trans (bb.mono bW.size)
  clear bb
  go_wp2_with fail
  refine (toInts_any (hl.below bW) hM).mono ?_
  rintro e w6 ⟨g4, rfl, hg4, o4, bb⟩
  replace bW := bW.trans (bb.mono bW.size)
  replace T3 := T3.below bb
  clear bb
  obtain ⟨a3, c3, -, F3⟩ := T3.fri
  go_wp2_with fail
  refine (implStrategyOk_any F3 hN hn (.inr ⟨g4, 0, rfl, o4.lt, o4.row⟩) hM).mono ?_
  rintro e w7 ⟨rfl, bb⟩
  replace bW := bW.trans (bb.mono bW.size)
  replace T3 := T3.below bb
  replace o4 := o4.below bb
  clear bb F3
  go_wp2_with fail
  refine (toSS_any (hS.below bW) hN hn).mono ?_
  rintro e w8 ⟨g5, B5, v5, rfl, T5, bb⟩
  replace bW := bW.trans (bb.mono bW.size)
  replace T3 := T3.below bb
  replace o4 := o4.below bb
  clear bb
  go_wp2_with fail
  refine (eqSS_true T3 T5 hN hn).mono ?_
  rintro e w9 ⟨rfl, bb⟩
  replace bW := bW.trans (bb.mono bW.size)
  replace o4 := o4.below bb
  clear bb T3 T5
  go_wp2_with fail
  refine (toInts_any (hl.below bW) hM).mono ?_
  rintro e w10 ⟨g6, rfl, hg6, o6, bb⟩
  replace bW := bW.trans (bb.mono bW.size)
  replace o4 := o4.below bb
  clear bb
  go_wp2_with fail
  refine (eqInts_true o4.row o6.row o4.lt o6.lt hM).mono ?_
  rintro e w11 ⟨rfl, bb⟩
  replace bW := bW.trans (bb.mono bW.size)
  clear bb
  go_wp2
  go_ret
  exact ⟨rfl, bW⟩
theorem exactStrategyOk_law {w : World} {p q : Option Addr} {N cap M cap2 : Nat} {a : Nat → Option Addr} {c : Nat → Nat} {n : Nat → Nat} {f : Nat → Nat → Int} {zs : List Int} (hS : LlS w p N a c n f) (hN0 : N ≤ maxLen) (hn0 : ∀ i, i < N → n i ≤ maxLen) (hr : IsRow .i64 w q M cap2 zs) :
    Calls Try.prog 4 #[.slice p N cap, .slice q M cap2] w fun e w' => e = .returned (.bool true) ∧ Below w.heap.size w w' := by
  obtain ⟨l, hl, -⟩ := src_of hr
  exact exactStrategyOk_walk hS hN0 hn0 hl
end Go.Proofs.Ytcpeaenophaphaa
