/-
  Lists of structs of three numbers: laid, read, handed on. Facets taken over, measured, held against each other. Walked.
-/
import Derived.Test.YtealbihplfpgeaaRows
import Derived.Test.YtealbihplfpgeaaKit
namespace Go.Proofs.Ytealbihplfpgeaa
open Go.RowKit

abbrev fV (a b c : Int) : Value := .agg #[.int .i64 a, .int .i64 b, .int .i64 c]
theorem boxed2 (w : World) (t u : TypeId) (vs us : Array Value) : ∃ W, (w.alloc (.cells vs t)).alloc (.cells us u) = W ∧ At t W w.heap.size vs ∧ At u W (w.heap.size + 1) us ∧ Below w.heap.size w W ∧ w.heap.size + 1 < W.heap.size := by
  refine ⟨_, rfl, (at_new t w vs).below (below_alloc _ _), ?_, (below_alloc _ _).trans ((below_alloc _ _).mono (by simp)), by simp⟩
  have := at_new u (w.alloc (.cells vs t)) us
  simpa using this
theorem boxed3 (w : World) (t u r : TypeId) (vs us rs : Array Value) : ∃ W, ((w.alloc (.cells vs t)).alloc (.cells us u)).alloc (.cells rs r) = W ∧ At t W w.heap.size vs ∧ At u W (w.heap.size + 1) us ∧ At r W (w.heap.size + 2) rs ∧ Below w.heap.size w W ∧ w.heap.size + 2 < W.heap.size := by
  obtain ⟨W0, h0, a0, a1, b0, -⟩ := boxed2 w t u vs us
  have e : W0.heap.size = w.heap.size + 2 := by rw [← h0]; simp
  rw [h0]
  refine ⟨_, rfl, a0.below (below_alloc _ _), a1.below (below_alloc _ _), ?_, b0.trans ((below_alloc _ _).mono b0.size), by simp; omega⟩
  have := at_new r W0 rs
  rwa [e] at this
/-- n structs of three numbers lie in block g. -/
def Trips (w : World) (g n : Nat) (f : Nat → Int) : Prop := g < w.heap.size ∧ ∀ i, i < n * 3 → w.cell? ⟨g, i, none⟩ = some (.int .i64 (f i))
theorem Trips.below {w w' : World} {g n : Nat} {f : Nat → Int} (h : Trips w g n f) (hb : Below w.heap.size w w') : Trips w' g n f :=
  ⟨Nat.lt_of_lt_of_le h.1 hb.size, fun i hi => (hb.cell (p := ⟨g, i, none⟩) h.1).trans (h.2 i hi)⟩
theorem Trips.take {w : World} {g n m : Nat} {f : Nat → Int} (h : Trips w g n f) (hm : m ≤ n) : Trips w g m f := ⟨h.1, fun i hi => h.2 i (by omega)⟩
theorem Trips.open {w : World} {g n : Nat} {f : Nat → Int} (h : Trips w g n f) (k : Nat) (hk : k < n) : w.cell? ⟨g, k * 3, none⟩ = some (.int .i64 (f (k * 3))) ∧ w.cell? ⟨g, k * 3 + 1, none⟩ = some (.int .i64 (f (k * 3 + 1))) ∧ w.cell? ⟨g, k * 3 + 2, none⟩ = some (.int .i64 (f (k * 3 + 2))) :=
  ⟨h.2 _ (by omega), h.2 _ (by omega), h.2 _ (by omega)⟩
theorem Ints.open3 {w : World} {g off n : Nat} {f : Nat → Int} (h : Ints w g off (n * 3) f) (k : Nat) (hk : k < n) : w.cell? ⟨g, off + k * 3, none⟩ = some (.int .i64 (f (k * 3))) ∧ w.cell? ⟨g, off + k * 3 + 1, none⟩ = some (.int .i64 (f (k * 3 + 1))) ∧ w.cell? ⟨g, off + k * 3 + 2, none⟩ = some (.int .i64 (f (k * 3 + 2))) :=
  ⟨h _ (by omega), h (k * 3 + 1) (by omega), h (k * 3 + 2) (by omega)⟩
/-- A block of n structs of three, of which the first k are laid. -/
def Laid3 (w : World) (g n k : Nat) (f : Nat → Int) : Prop :=
  ∃ cur : Array Value, At 35 w g cur ∧ cur.size = n * 3 ∧ ∀ i, i < k * 3 → cur[i]? = some (.int .i64 (f i))
theorem Laid3.below {w w' : World} {g n k : Nat} {f : Nat → Int} (h : Laid3 w g n k f) (hb : Below w.heap.size w w') : Laid3 w' g n k f := by
  obtain ⟨cur, h1, h2, h3⟩ := h
  exact ⟨cur, h1.below hb, h2, h3⟩
theorem Laid3.put {w : World} {g n k : Nat} {f : Nat → Int} (h : Laid3 w g n k f) :
    Laid3 (((w.setCell ⟨g, k * 3, none⟩ (.int .i64 (f (k * 3)))).setCell ⟨g, k * 3 + 1, none⟩ (.int .i64 (f (k * 3 + 1)))).setCell ⟨g, k * 3 + 2, none⟩ (.int .i64 (f (k * 3 + 2)))) g n (k + 1) f ∨ n ≤ k := by
  by_cases hk : k < n
  · refine .inl ?_
    obtain ⟨cur, h1, h2, h3⟩ := h
    refine ⟨_, ((h1.set (k * 3) _).set (k * 3 + 1) _).set (k * 3 + 2) _, by simpa using h2, fun i hi => ?_⟩
    by_cases e2 : i = k * 3 + 2
    · subst e2
      rw [Array.getElem?_setIfInBounds, if_pos rfl, if_pos (by simp; omega)]
    · rw [Array.getElem?_setIfInBounds, if_neg (by omega)]
      by_cases e1 : i = k * 3 + 1
      · subst e1
        rw [Array.getElem?_setIfInBounds, if_pos rfl, if_pos (by simp; omega)]
      · rw [Array.getElem?_setIfInBounds, if_neg (by omega)]
        by_cases e0 : i = k * 3
        · subst e0
          rw [Array.getElem?_setIfInBounds, if_pos rfl, if_pos (by omega)]
        · rw [Array.getElem?_setIfInBounds, if_neg (by omega)]
          exact h3 i (by omega)
  · exact .inr (by omega)
theorem Laid3.cells {w : World} {g n k j : Nat} {f : Nat → Int} (h : Laid3 w g n k f) (hj : j < n * 3) : w.cell? ⟨g, j, none⟩ = some (cv w g j) ∧ w.frozen? ⟨g, j, none⟩ = false := by
  obtain ⟨cur, h1, h2, h3⟩ := h
  have hl : j < cur.size := by omega
  have := h1.cell j (Array.getElem?_eq_getElem hl)
  exact ⟨by rw [cv, this]; rfl, h1.frozen j⟩
theorem Laid3.trips {w : World} {g n : Nat} {f : Nat → Int} (h : Laid3 w g n n f) : Trips w g n f := by
  obtain ⟨cur, h1, h2, h3⟩ := h
  exact ⟨h1.lt, fun i hi => h1.cell _ (h3 i hi)⟩
theorem sz_any {a : Option Addr} {n cap : Nat} (w : World) (hn : n ≤ maxLen) : Calls Try.prog 21 #[.slice a n cap, .int .i64 1048576] w fun e w' => (∃ r : Int, e = .returned (.int .i64 r) ∧ (r = -1 ∨ (0 ≤ r ∧ n ≤ 1048576))) ∧ w = w' := by
  unfold maxLen at hn
  by_cases hb : 1048576 < n
  · have h1 : (1048576 : Int) - (n : Int) < 0 := by omega
    go_enter Try.func21, Try.ntmps21
    go_wp2
    go_ret
    exact ⟨⟨_, rfl, .inl rfl⟩, rfl⟩
  · have h1 : ¬ (1048576 : Int) - (n : Int) < 0 := by omega
    go_enter Try.func21, Try.ntmps21
    go_wp2
    go_ret
    exact ⟨⟨_, rfl, .inr ⟨by omega, by omega⟩⟩, rfl⟩
theorem toFacet_any (a b c : Int) (w : World) : Calls Try.prog 56 #[fV a b c] w fun e w' => e = .returned (fV a b c) ∧ Below w.heap.size w w' := by
  go_enter Try.func56, Try.ntmps56
  go_wp2
  exact bodyPost_ret (v := fV a b c) (by simp [results, Try.results56, go_sem]) rfl ⟨rfl, (below_alloc _ _).trans (((below_alloc _ _).trans ((below_alloc _ _).mono (by simp))).mono (by simp))⟩
theorem infoFacet : (Try.prog.info? 35).map (fun i => (i.zero, i.size, i.bytes)) = some (some (.agg #[.int .i64 0, .int .i64 0, .int .i64 0]), 3, 24) := by kernel_rfl
theorem make_facets (M : Nat) (hM : M ≤ 1048576) : ∃ C : Array Value, C.size = M * 3 ∧ ∀ w, (Instr.makeSlice 24 (.int .i64 (M : Int)) (.int .i64 (M : Int))).run Try.prog w = .ok (.slice (some ⟨w.heap.size, 0, none⟩) M M) (w.alloc (.cells C 35)) := by
  obtain ⟨i0, hi0, hz0, hz1, hz2⟩ := info_parts infoFacet
  refine ⟨madeCells (Value.agg #[.int .i64 0, .int .i64 0, .int .i64 0]).cells (M * 3), by simp [madeCells], fun w => ?_⟩
  have := run_make (P := Try.prog) w 24 35 i0 _ Try.underlying24 hi0 hz0 .i64 .i64 (M : Int) (M : Int) (by omega) (by omega) (by rw [hz2]; omega) (by omega)
  rw [this, hz1]
  simp
set_option maxRecDepth 100000 in
set_option maxHeartbeats 800000 in
theorem toFacetS_any {w : World} {a : Option Addr} {n cap : Nat} {f : Nat → Int} (hS : Src w a (n * 3) f) (hn : n ≤ 1048576) :
    Calls Try.prog 22 #[.slice a n cap] w fun e w' => ∃ g, e = .returned (.slice (some ⟨g, 0, none⟩) n n) ∧ w.heap.size ≤ g ∧ Laid3 w' g n n f ∧ Below w.heap.size w w' := by
  have hn' : (n : Int) ≤ 1048576 := by omega
  obtain ⟨C, hC, hmk⟩ := make_facets n hn
  obtain ⟨W1, hW1, a1, B1, -⟩ := boxed w 35 C
  have L1 : Laid3 W1 w.heap.size n 0 f := ⟨C, a1, hC, fun i hi => by omega⟩
  go_enter Try.func22, Try.ntmps22
  go_wp2
  clear hmk hW1 a1
  go_loopw [4] (fun s wr => ∃ k : Nat, k ≤ n ∧ s = .int .i64 k ∧ Laid3 wr w.heap.size n k f ∧ Below w.heap.size w wr) (fun s _ => n - (intOf s).toNat)
  case atStart => exact ⟨0, Nat.zero_le _, rfl, L1, B1⟩
  case round =>
    clear L1 B1
    obtain ⟨k, hk, rfl, L, B⟩ := hrel
    by_cases hlt : k < n
    · have hlt' : (k : Int) < (n : Int) := by omega
      rcases hS.below B with h0 | ⟨g, off, rfl, hg, rr⟩
      · omega
      obtain ⟨c0, c1, c2⟩ := rr.open3 k hlt
      clear rr
      go_wp2_with fail
      refine (toFacet_any _ _ _ _).mono ?_
      rintro e w3 ⟨rfl, b3⟩
      have L3 := L.below b3
      have B3 := B.trans (b3.mono B.size)
      clear c0 c1 c2 L B b3
      obtain ⟨d0, f0⟩ := L3.cells (j := k * 3) (by omega)
      obtain ⟨d1, f1⟩ := L3.cells (j := k * 3 + 1) (by omega)
      obtain ⟨d2, f2⟩ := L3.cells (j := k * 3 + 2) (by omega)
      have HL : Hid (Laid3 (((w3.setCell ⟨w.heap.size, k * 3, none⟩ (.int .i64 (f (k * 3)))).setCell ⟨w.heap.size, k * 3 + 1, none⟩ (.int .i64 (f (k * 3 + 1)))).setCell ⟨w.heap.size, k * 3 + 2, none⟩ (.int .i64 (f (k * 3 + 2)))) w.heap.size n (k + 1) f) := L3.put.resolve_right (by omega)
      clear L3
      go_wp2
      refine ⟨⟨k + 1, by omega, by go_num, HL.out, ((B3.setCell (Nat.le_refl w.heap.size) _).setCell (Nat.le_refl w.heap.size) _).setCell (Nat.le_refl w.heap.size) _⟩, by simp [intOf]; omega⟩
    · have hlt' : ¬ (k : Int) < (n : Int) := by omega
      obtain rfl : k = n := by omega
      have HO : Hid (Laid3 wr w.heap.size k k f) := L
      clear L
      go_wp2
      go_ret
      exact ⟨_, rfl, Nat.le_refl _, HO.out, B⟩
theorem eqFacet_any (a b c : Int) (w : World) : Calls Try.prog 57 #[fV a b c, fV a b c] w fun e w' => e = .returned (.bool true) ∧ Below w.heap.size w w' := by
  obtain ⟨W, hW, b0, b1, bW, -⟩ := boxed2 w 35 35 #[.int .i64 a, .int .i64 b, .int .i64 c] #[.int .i64 a, .int .i64 b, .int .i64 c]
  obtain ⟨c0, c1, c2, -⟩ := b0.open3
  obtain ⟨d0, d1, d2, -⟩ := b1.open3
  go_enter Try.func57, Try.ntmps57
  go_wp2
  go_ret
  exact ⟨rfl, bW⟩
/-- The cells of the facets k of two lists. -/
def Two (g1 g2 k : Nat) (f : Nat → Int) (w : World) : Prop :=
  (w.cell? ⟨g1, k * 3, none⟩ = some (.int .i64 (f (k * 3))) ∧ w.cell? ⟨g1, k * 3 + 1, none⟩ = some (.int .i64 (f (k * 3 + 1))) ∧ w.cell? ⟨g1, k * 3 + 2, none⟩ = some (.int .i64 (f (k * 3 + 2)))) ∧
  (w.cell? ⟨g2, k * 3, none⟩ = some (.int .i64 (f (k * 3))) ∧ w.cell? ⟨g2, k * 3 + 1, none⟩ = some (.int .i64 (f (k * 3 + 1))) ∧ w.cell? ⟨g2, k * 3 + 2, none⟩ = some (.int .i64 (f (k * 3 + 2))))
theorem two_of {w : World} {g1 g2 n k : Nat} {f : Nat → Int} (h1 : Trips w g1 n f) (h2 : Trips w g2 n f) (hk : k < n) : Two g1 g2 k f w := ⟨h1.open k hk, h2.open k hk⟩
set_option maxRecDepth 100000 in
set_option maxHeartbeats 800000 in
theorem eqFacetS_true {w : World} {g1 g2 n c1 c2 : Nat} {f : Nat → Int} (h1 : Trips w g1 n f) (h2 : Trips w g2 n f) (hn : n ≤ 1048576) :
    Calls Try.prog 24 #[.slice (some ⟨g1, 0, none⟩) n c1, .slice (some ⟨g2, 0, none⟩) n c2] w fun e w' => e = .returned (.bool true) ∧ Below w.heap.size w w' := by
  have hn' : (n : Int) ≤ 1048576 := by omega
  go_enter Try.func24, Try.ntmps24
  go_wp2
  go_loopw [5] (fun s wr => ∃ k : Nat, k ≤ n ∧ s = .int .i64 k ∧ Below w.heap.size w wr) (fun s _ => n - (intOf s).toNat)
  case atStart => exact ⟨0, Nat.zero_le _, rfl, Below.refl _ _⟩
  case round =>
    obtain ⟨k, hk, rfl, B⟩ := hrel
    by_cases hlt : k < n
    · have hlt' : (k : Int) < (n : Int) := by omega
      have L1 := h1.below B
      have L2 := h2.below B
      go_wp2_with fail
      obtain ⟨u0, hu0, bb⟩ : ∃ u0, wr.drew = u0 ∧ Below wr.heap.size wr u0 := ⟨_, rfl, (Below.refl _ _).drew⟩
      replace L1 := L1.below bb
      replace L2 := L2.below bb
      replace B := B.trans (bb.mono B.size)
      clear bb
      refine wp_region_held_drew (S := Two g1 g2 k f) (by kernel_rfl) (by rw [hu0]; exact two_of L1 L2 hlt) (fun hHeld => ?_)
      rw [hu0] at hHeld ⊢
      clear hu0
      change wpAnyH _ _ _ _ _ 10 #[false, false, false, false, false, false, false, false, false, false] _ _
      refine wpAnyH_take (i := 0) (v := .slice (some ⟨g1, 0, none⟩) n c1) rfl (by kernel_rfl) (by kernel_rfl) (by kernel_rfl) (fun _ _ _ h => h) (Or.inl ⟨by kernel_rfl, ?_⟩) hHeld ?_
      · intro w' hSw; go_simp
      try simp only [Act.put, List.setIfInBounds_toArray, List.set_cons_zero]
      refine wpAnyH_take (i := 1) (v := .int .i64 (k : Int)) rfl (by kernel_rfl) (by kernel_rfl) (by kernel_rfl) (fun _ _ _ h => h) (Or.inl ⟨by kernel_rfl, ?_⟩) hHeld ?_
      · intro w' hSw; go_simp
      try simp only [Act.put, List.setIfInBounds_toArray, List.set_cons_zero, List.set_cons_succ]
      refine wpAnyH_take (i := 2) (v := .pointer (some ⟨g1, k * 3, none⟩)) rfl (by kernel_rfl) (by kernel_rfl) (by kernel_rfl) (fun _ _ _ h => h) (Or.inl ⟨by kernel_rfl, ?_⟩) hHeld ?_
      · intro w' hSw; go_simp
      try simp only [Act.put, List.setIfInBounds_toArray, List.set_cons_zero, List.set_cons_succ]
      refine wpAnyH_take (i := 3) (v := fV (f (k * 3)) (f (k * 3 + 1)) (f (k * 3 + 2))) rfl (by kernel_rfl) (by kernel_rfl) (by kernel_rfl) (fun _ _ _ h => h) (Or.inl ⟨by kernel_rfl, ?_⟩) hHeld ?_
      · intro w' hSw; obtain ⟨⟨z0, z1, z2⟩, -⟩ := hSw; go_simp
      try simp only [Act.put, List.setIfInBounds_toArray, List.set_cons_zero, List.set_cons_succ]
      refine wpAnyH_take (i := 4) (v := .slice (some ⟨g2, 0, none⟩) n c2) rfl (by kernel_rfl) (by kernel_rfl) (by kernel_rfl) (fun _ _ _ h => h) (Or.inl ⟨by kernel_rfl, ?_⟩) hHeld ?_
      · intro w' hSw; go_simp
      try simp only [Act.put, List.setIfInBounds_toArray, List.set_cons_zero, List.set_cons_succ]
      refine wpAnyH_take (i := 5) (v := .int .i64 (k : Int)) rfl (by kernel_rfl) (by kernel_rfl) (by kernel_rfl) (fun _ _ _ h => h) (Or.inl ⟨by kernel_rfl, ?_⟩) hHeld ?_
      · intro w' hSw; go_simp
      try simp only [Act.put, List.setIfInBounds_toArray, List.set_cons_zero, List.set_cons_succ]
      refine wpAnyH_take (i := 6) (v := .pointer (some ⟨g2, k * 3, none⟩)) rfl (by kernel_rfl) (by kernel_rfl) (by kernel_rfl) (fun _ _ _ h => h) (Or.inl ⟨by kernel_rfl, ?_⟩) hHeld ?_
      · intro w' hSw; go_simp
      try simp only [Act.put, List.setIfInBounds_toArray, List.set_cons_zero, List.set_cons_succ]
      refine wpAnyH_take (i := 7) (v := fV (f (k * 3)) (f (k * 3 + 1)) (f (k * 3 + 2))) rfl (by kernel_rfl) (by kernel_rfl) (by kernel_rfl) (fun _ _ _ h => h) (Or.inl ⟨by kernel_rfl, ?_⟩) hHeld ?_
      · intro w' hSw; obtain ⟨-, z0, z1, z2⟩ := hSw; go_simp
      try simp only [Act.put, List.setIfInBounds_toArray, List.set_cons_zero, List.set_cons_succ]
      refine wpAnyH_ready (rs := [8]) (by kernel_rfl) (by simp) ?_
      refine AllReadyH.cons rfl (fun KK hK' => ?_) AllReadyH.nil
      go_simp
      refine (eqFacet_any _ _ _ _).mono ?_
      rintro e u1 ⟨rfl, bb⟩
      replace L1 := L1.below bb
      replace L2 := L2.below bb
      replace B := B.trans (bb.mono B.size)
      clear bb
      try go_wp2_with fail
      clear hHeld
      refine hK'.out _ _ (two_of L1 L2 hlt) (fun hHeld => ?_)
      clear hK' KK
      try simp only [List.setIfInBounds_toArray, List.set_cons_zero, List.set_cons_succ]
      refine wpAnyH_ready (rs := [9]) (by kernel_rfl) (by simp) ?_
      refine AllReadyH.cons rfl (fun KK hK' => ?_) AllReadyH.nil
      go_simp
      clear hHeld
      refine hK'.out _ _ (two_of L1 L2 hlt) (fun hHeld => ?_)
      clear hK' KK
      try simp only [List.setIfInBounds_toArray, List.set_cons_zero, List.set_cons_succ]
      clear hHeld L1 L2
      refine wpAnyH_done (by kernel_rfl) ?_ _
      go_wp2
      exact ⟨⟨k + 1, by omega, by go_num, B⟩, by simp [intOf]; omega⟩
    · have hlt' : ¬ (k : Int) < (n : Int) := by omega
      go_wp2
      go_ret
      exact ⟨rfl, B⟩
end Go.Proofs.Ytealbihplfpgeaa
