/-
  Rows of cyclotomic numbers: compared, marked, held. Walked.
-/
import Derived.Test.YthcanmnbaemdbaaDoorRb
namespace Go.Proofs.YthcanmnbaemdbaaDoor
open Go.RowKit

/-- n structs of four numbers lie in block g. -/
def Quads (w : World) (g n : Nat) (f : Nat → Int) : Prop := g < w.heap.size ∧ ∀ i, i < n * 4 → w.cell? ⟨g, i, none⟩ = some (.int .i64 (f i))
theorem Quads.below {w w' : World} {g n : Nat} {f : Nat → Int} (h : Quads w g n f) (hb : Below w.heap.size w w') : Quads w' g n f :=
  ⟨Nat.lt_of_lt_of_le h.1 hb.size, fun i hi => (hb.cell (p := ⟨g, i, none⟩) h.1).trans (h.2 i hi)⟩
theorem Quads.open {w : World} {g n : Nat} {f : Nat → Int} (h : Quads w g n f) (k : Nat) (hk : k < n) : w.cell? ⟨g, k * 4, none⟩ = some (.int .i64 (f (k * 4))) ∧ w.cell? ⟨g, k * 4 + 1, none⟩ = some (.int .i64 (f (k * 4 + 1))) ∧ w.cell? ⟨g, k * 4 + 2, none⟩ = some (.int .i64 (f (k * 4 + 2))) ∧ w.cell? ⟨g, k * 4 + 3, none⟩ = some (.int .i64 (f (k * 4 + 3))) :=
  ⟨h.2 _ (by omega), h.2 _ (by omega), h.2 _ (by omega), h.2 _ (by omega)⟩
theorem Ints.open4 {w : World} {g off n : Nat} {f : Nat → Int} (h : Ints w g off (n * 4) f) (k : Nat) (hk : k < n) : w.cell? ⟨g, off + k * 4, none⟩ = some (.int .i64 (f (k * 4))) ∧ w.cell? ⟨g, off + k * 4 + 1, none⟩ = some (.int .i64 (f (k * 4 + 1))) ∧ w.cell? ⟨g, off + k * 4 + 2, none⟩ = some (.int .i64 (f (k * 4 + 2))) ∧ w.cell? ⟨g, off + k * 4 + 3, none⟩ = some (.int .i64 (f (k * 4 + 3))) :=
  ⟨h _ (by omega), h (k * 4 + 1) (by omega), h (k * 4 + 2) (by omega), h (k * 4 + 3) (by omega)⟩
/-- A block of n structs of four, of which the first k are laid. -/
def Laid4 (w : World) (g n k : Nat) (f : Nat → Int) : Prop :=
  ∃ cur : Array Value, At 25 w g cur ∧ cur.size = n * 4 ∧ ∀ i, i < k * 4 → cur[i]? = some (.int .i64 (f i))
theorem Laid4.below {w w' : World} {g n k : Nat} {f : Nat → Int} (h : Laid4 w g n k f) (hb : Below w.heap.size w w') : Laid4 w' g n k f := by
  obtain ⟨cur, h1, h2, h3⟩ := h
  exact ⟨cur, h1.below hb, h2, h3⟩
theorem Laid4.put {w : World} {g n k : Nat} {f : Nat → Int} (h : Laid4 w g n k f) :
    Laid4 ((((w.setCell ⟨g, k * 4, none⟩ (.int .i64 (f (k * 4)))).setCell ⟨g, k * 4 + 1, none⟩ (.int .i64 (f (k * 4 + 1)))).setCell ⟨g, k * 4 + 2, none⟩ (.int .i64 (f (k * 4 + 2)))).setCell ⟨g, k * 4 + 3, none⟩ (.int .i64 (f (k * 4 + 3)))) g n (k + 1) f ∨ n ≤ k := by
  by_cases hk : k < n
  · refine .inl ?_
    obtain ⟨cur, h1, h2, h3⟩ := h
    refine ⟨_, (((h1.set (k * 4) _).set (k * 4 + 1) _).set (k * 4 + 2) _).set (k * 4 + 3) _, by simpa using h2, fun i hi => ?_⟩
    by_cases e3 : i = k * 4 + 3
    · subst e3
      rw [Array.getElem?_setIfInBounds, if_pos rfl, if_pos (by simp; omega)]
    · rw [Array.getElem?_setIfInBounds, if_neg (by omega)]
      by_cases e2 : i = k * 4 + 2
      · subst e2
        rw [Array.getElem?_setIfInBounds, if_pos rfl, if_pos (by simp; omega)]
      · rw [Array.getElem?_setIfInBounds, if_neg (by omega)]
        by_cases e1 : i = k * 4 + 1
        · subst e1
          rw [Array.getElem?_setIfInBounds, if_pos rfl, if_pos (by simp; omega)]
        · rw [Array.getElem?_setIfInBounds, if_neg (by omega)]
          by_cases e0 : i = k * 4
          · subst e0
            rw [Array.getElem?_setIfInBounds, if_pos rfl, if_pos (by omega)]
          · rw [Array.getElem?_setIfInBounds, if_neg (by omega)]
            exact h3 i (by omega)
  · exact .inr (by omega)
theorem Laid4.cells {w : World} {g n k j : Nat} {f : Nat → Int} (h : Laid4 w g n k f) (hj : j < n * 4) : w.cell? ⟨g, j, none⟩ = some (cv w g j) ∧ w.frozen? ⟨g, j, none⟩ = false := by
  obtain ⟨cur, h1, h2, h3⟩ := h
  have hl : j < cur.size := by omega
  have := h1.cell j (Array.getElem?_eq_getElem hl)
  exact ⟨by rw [cv, this]; rfl, h1.frozen j⟩
theorem Laid4.quads {w : World} {g n : Nat} {f : Nat → Int} (h : Laid4 w g n n f) : Quads w g n f := by
  obtain ⟨cur, h1, h2, h3⟩ := h
  exact ⟨h1.lt, fun i hi => h1.cell _ (h3 i hi)⟩
theorem eqCyc_any (a b c d : Int) (w : World) : Calls Tryd.prog 59 #[cV a b c d, cV a b c d] w fun e w' => e = .returned (.bool true) ∧ Below w.heap.size w w' := by
  obtain ⟨W, hW, b0, b1, bW, -⟩ := boxed2 w 25 25 #[.int .i64 a, .int .i64 b, .int .i64 c, .int .i64 d] #[.int .i64 a, .int .i64 b, .int .i64 c, .int .i64 d]
  obtain ⟨c0, c1, c2, c3, -⟩ := b0.open4
  obtain ⟨d0, d1, d2, d3, -⟩ := b1.open4
  go_enter Tryd.func59, Tryd.ntmps59
  go_wp2
  go_ret
  exact ⟨rfl, bW⟩
/-- The cells of the numbers k of two lists. -/
def Two (g1 g2 k : Nat) (f : Nat → Int) (w : World) : Prop :=
  (w.cell? ⟨g1, k * 4, none⟩ = some (.int .i64 (f (k * 4))) ∧ w.cell? ⟨g1, k * 4 + 1, none⟩ = some (.int .i64 (f (k * 4 + 1))) ∧ w.cell? ⟨g1, k * 4 + 2, none⟩ = some (.int .i64 (f (k * 4 + 2))) ∧ w.cell? ⟨g1, k * 4 + 3, none⟩ = some (.int .i64 (f (k * 4 + 3)))) ∧
  (w.cell? ⟨g2, k * 4, none⟩ = some (.int .i64 (f (k * 4))) ∧ w.cell? ⟨g2, k * 4 + 1, none⟩ = some (.int .i64 (f (k * 4 + 1))) ∧ w.cell? ⟨g2, k * 4 + 2, none⟩ = some (.int .i64 (f (k * 4 + 2))) ∧ w.cell? ⟨g2, k * 4 + 3, none⟩ = some (.int .i64 (f (k * 4 + 3))))
theorem two_of {w : World} {g1 g2 n k : Nat} {f : Nat → Int} (h1 : Quads w g1 n f) (h2 : Quads w g2 n f) (hk : k < n) : Two g1 g2 k f w := ⟨h1.open k hk, h2.open k hk⟩
set_option maxRecDepth 100000 in
set_option maxHeartbeats 800000 in
theorem eqCycS_true {w : World} {g1 g2 n c1 c2 : Nat} {f : Nat → Int} (h1 : Quads w g1 n f) (h2 : Quads w g2 n f) (hn : n ≤ 1048576) :
    Calls Tryd.prog 45 #[.slice (some ⟨g1, 0, none⟩) n c1, .slice (some ⟨g2, 0, none⟩) n c2] w fun e w' => e = .returned (.bool true) ∧ Below w.heap.size w w' := by
  have hn' : (n : Int) ≤ 1048576 := by omega
  go_enter Tryd.func45, Tryd.ntmps45
  go_wp2
  go_loopw [5] (fun s wr => ∃ k : Nat, k ≤ n ∧ s = .int .i64 k ∧ Below w.heap.size w wr) (fun s _ => n - (intOf s).toNat)
  case atStart => exact ⟨0, Nat.zero_le _, rfl, Below.refl _ _⟩
  case round =>
    obtain ⟨k, hk, rfl, B⟩ := hrel
    by_cases hlt : k < n
    · have hlt' : (k : Int) < (n : Int) := by omega
      have L1 := h1.below B
      have L2 := h2.below B
      go_wp2_with fail
      obtain ⟨u0, hu0, bb⟩ : ∃ u0, wr.drew = u0 ∧ Below wr.heap.size wr u0 := ⟨_, rfl, (Below.refl _ _).drew⟩
      replace L1 := L1.below bb
      replace L2 := L2.below bb
      replace B := B.trans (bb.mono B.size)
      clear bb
      refine wp_region_held_drew (S := Two g1 g2 k f) (by kernel_rfl) (by rw [hu0]; exact two_of L1 L2 hlt) (fun hHeld => ?_)
      rw [hu0] at hHeld ⊢
      clear hu0
      change wpAnyH _ _ _ _ _ 10 #[false, false, false, false, false, false, false, false, false, false] _ _
      refine wpAnyH_take (i := 0) (v := .slice (some ⟨g1, 0, none⟩) n c1) rfl (by kernel_rfl) (by kernel_rfl) (by kernel_rfl) (fun _ _ _ h => h) (Or.inl ⟨by kernel_rfl, ?_⟩) hHeld ?_
      · intro w' hSw; go_simp
      try simp only [Act.put, List.setIfInBounds_toArray, List.set_cons_zero]
      refine wpAnyH_take (i := 1) (v := .int .i64 (k : Int)) rfl (by kernel_rfl) (by kernel_rfl) (by kernel_rfl) (fun _ _ _ h => h) (Or.inl ⟨by kernel_rfl, ?_⟩) hHeld ?_
      · intro w' hSw; go_simp
      try simp only [Act.put, List.setIfInBounds_toArray, List.set_cons_zero, List.set_cons_succ]
      refine wpAnyH_take (i := 2) (v := .pointer (some ⟨g1, k * 4, none⟩)) rfl (by kernel_rfl) (by kernel_rfl) (by kernel_rfl) (fun _ _ _ h => h) (Or.inl ⟨by kernel_rfl, ?_⟩) hHeld ?_
      · intro w' hSw; go_simp
      try simp only [Act.put, List.setIfInBounds_toArray, List.set_cons_zero, List.set_cons_succ]
      refine wpAnyH_take (i := 3) (v := cV (f (k * 4)) (f (k * 4 + 1)) (f (k * 4 + 2)) (f (k * 4 + 3))) rfl (by kernel_rfl) (by kernel_rfl) (by kernel_rfl) (fun _ _ _ h => h) (Or.inl ⟨by kernel_rfl, ?_⟩) hHeld ?_
      · intro w' hSw; obtain ⟨⟨z0, z1, z2, z3⟩, -⟩ := hSw; go_simp
      try simp only [Act.put, List.setIfInBounds_toArray, List.set_cons_zero, List.set_cons_succ]
      refine wpAnyH_take (i := 4) (v := .slice (some ⟨g2, 0, none⟩) n c2) rfl (by kernel_rfl) (by kernel_rfl) (by kernel_rfl) (fun _ _ _ h => h) (Or.inl ⟨by kernel_rfl, ?_⟩) hHeld ?_
      · intro w' hSw; go_simp
      try simp only [Act.put, List.setIfInBounds_toArray, List.set_cons_zero, List.set_cons_succ]
      refine wpAnyH_take (i := 5) (v := .int .i64 (k : Int)) rfl (by kernel_rfl) (by kernel_rfl) (by kernel_rfl) (fun _ _ _ h => h) (Or.inl ⟨by kernel_rfl, ?_⟩) hHeld ?_
      · intro w' hSw; go_simp
      try simp only [Act.put, List.setIfInBounds_toArray, List.set_cons_zero, List.set_cons_succ]
      refine wpAnyH_take (i := 6) (v := .pointer (some ⟨g2, k * 4, none⟩)) rfl (by kernel_rfl) (by kernel_rfl) (by kernel_rfl) (fun _ _ _ h => h) (Or.inl ⟨by kernel_rfl, ?_⟩) hHeld ?_
      · intro w' hSw; go_simp
      try simp only [Act.put, List.setIfInBounds_toArray, List.set_cons_zero, List.set_cons_succ]
      refine wpAnyH_take (i := 7) (v := cV (f (k * 4)) (f (k * 4 + 1)) (f (k * 4 + 2)) (f (k * 4 + 3))) rfl (by kernel_rfl) (by kernel_rfl) (by kernel_rfl) (fun _ _ _ h => h) (Or.inl ⟨by kernel_rfl, ?_⟩) hHeld ?_
      · intro w' hSw; obtain ⟨-, z0, z1, z2, z3⟩ := hSw; go_simp
      try simp only [Act.put, List.setIfInBounds_toArray, List.set_cons_zero, List.set_cons_succ]
      refine wpAnyH_ready (rs := [8]) (by kernel_rfl) (by simp) ?_
      refine AllReadyH.cons rfl (fun KK hK' => ?_) AllReadyH.nil
      go_simp
      refine (eqCyc_any _ _ _ _ _).mono ?_
      rintro e u1 ⟨rfl, bb⟩
      replace L1 := L1.below bb
      replace L2 := L2.below bb
      replace B := B.trans (bb.mono B.size)
      clear bb
      try go_wp2_with fail
      clear hHeld
      refine hK'.out _ _ (two_of L1 L2 hlt) (fun hHeld => ?_)
      clear hK' KK
      try simp only [List.setIfInBounds_toArray, List.set_cons_zero, List.set_cons_succ]
      refine wpAnyH_ready (rs := [9]) (by kernel_rfl) (by simp) ?_
      refine AllReadyH.cons rfl (fun KK hK' => ?_) AllReadyH.nil
      go_simp
      clear hHeld
      refine hK'.out _ _ (two_of L1 L2 hlt) (fun hHeld => ?_)
      clear hK' KK
      try simp only [List.setIfInBounds_toArray, List.set_cons_zero, List.set_cons_succ]
      clear hHeld L1 L2
      refine wpAnyH_done (by kernel_rfl) ?_ _
      go_wp2
      exact ⟨⟨k + 1, by omega, by go_num, B⟩, by simp [intOf]; omega⟩
    · have hlt' : ¬ (k : Int) < (n : Int) := by omega
      go_wp2
      go_ret
      exact ⟨rfl, B⟩
theorem Laid4.lt {w : World} {g n k : Nat} {f : Nat → Int} (h : Laid4 w g n k f) : g < w.heap.size := by
  obtain ⟨cur, h1, -⟩ := h
  exact h1.lt
theorem Laid4.part {w : World} {g c n : Nat} {f : Nat → Int} (h : Laid4 w g c n f) : Quads w g n f := by
  obtain ⟨cur, h1, h2, h3⟩ := h
  exact ⟨h1.lt, fun i hi => h1.cell i (h3 i hi)⟩
theorem Laid4.turn {w w' : World} {lo hi g n k : Nat} {f : Nat → Int} (h : Laid4 w g n k f) (t : Turn lo hi w w') (hd : g < lo ∨ hi ≤ g) : Laid4 w' g n k f := by
  obtain ⟨cur, h1, h2, h3⟩ := h
  exact ⟨cur, h1.turn t hd, h2, h3⟩
theorem markCycS_any {w : World} {g c n : Nat} {f : Nat → Int} (h : Laid4 w g c n f) (hc : n ≤ c) (hn : n ≤ 12) (x : Nat) (hx : x ≤ 100000) :
    Calls Tryd.prog 46 #[.slice (some ⟨g, 0, none⟩) n c, .int .i64 (x : Int)] w fun e w' => e = .returned (.int .i64 ((x + 4 * n : Nat) : Int)) ∧ Laid4 w' g c n (fun i => ((x + i : Nat) : Int)) ∧ Turn g (g + 1) w w' := by
  have hn' : (n : Int) ≤ 12 := by omega
  have h0 : Laid4 w g c 0 (fun i => ((x + i : Nat) : Int)) := by
    obtain ⟨cur, h1, h2, h3⟩ := h
    exact ⟨cur, h1, h2, fun i hi => by omega⟩
  clear h
  go_enter Tryd.func46, Tryd.ntmps46
  go_wp2_with fail
  go_loopw [1, 5] (fun s t wr => ∃ k : Nat, k ≤ n ∧ s = .int .i64 ((x + 4 * k : Nat) : Int) ∧ t = .int .i64 k ∧ Laid4 wr g c k (fun i => ((x + i : Nat) : Int)) ∧ Kept g w wr) (fun _ t _ => n - (intOf t).toNat)
  case atStart => exact ⟨0, Nat.zero_le _, rfl, rfl, h0, Kept.refl _ _⟩
  case round =>
    clear h0
    obtain ⟨k, hk, rfl, rfl, L, K⟩ := hrel
    by_cases hlt : k < n
    · have hlt' : (k : Int) < (n : Int) := by omega
      have hp := L.put.resolve_right (by omega)
      obtain ⟨X, hX⟩ : ∃ X : Int, ((x + 4 * k : Nat) : Int) = X := ⟨_, rfl⟩
      rw [show ((x + k * 4 : Nat) : Int) = X by omega, show ((x + (k * 4 + 1) : Nat) : Int) = X + 1 by omega, show ((x + (k * 4 + 2) : Nat) : Int) = X + 1 + 1 by omega, show ((x + (k * 4 + 3) : Nat) : Int) = X + 1 + 1 + 1 by omega] at hp
      have hX1 : 0 ≤ X ∧ X ≤ 20000000 := by omega
      rw [hX]
      obtain ⟨d0, f0⟩ := L.cells (j := k * 4) (by omega)
      obtain ⟨d1, f1⟩ := L.cells (j := k * 4 + 1) (by omega)
      obtain ⟨d2, f2⟩ := L.cells (j := k * 4 + 2) (by omega)
      obtain ⟨d3, f3⟩ := L.cells (j := k * 4 + 3) (by omega)
      have HL : Hid (Laid4 _ g c (k + 1) (fun i => ((x + i : Nat) : Int))) := hp
      clear L hp
      go_wp2
      exact ⟨⟨k + 1, by omega, by rw [show X + 1 + 1 + 1 + 1 = ((x + 4 * (k + 1) : Nat) : Int) by omega], by go_num, HL.out, (((K.set _).set _).set _).set _⟩, by simp [intOf]; omega⟩
    · have hlt' : ¬ (k : Int) < (n : Int) := by omega
      obtain rfl : k = n := by omega
      have HL : Hid (Laid4 wr g c k (fun i => ((x + i : Nat) : Int))) := L
      clear L
      go_wp2
      go_ret
      exact ⟨rfl, HL.out, ⟨K.os, K.tape, K.output, K.size, fun k hk hd => K.block k hk (by omega)⟩⟩
theorem heldCycS_any {w : World} {g c n : Nat} (x : Nat) (h : Quads w g n (fun i => ((x + i : Nat) : Int))) (hn : n ≤ 12) (hx : x ≤ 100000) :
    Calls Tryd.prog 47 #[.slice (some ⟨g, 0, none⟩) n c, .int .i64 (x : Int)] w fun e w' => e = .returned (.int .i64 ((x + 4 * n : Nat) : Int)) ∧ Below w.heap.size w w' := by
  have hn' : (n : Int) ≤ 12 := by omega
  go_enter Tryd.func47, Tryd.ntmps47
  go_wp2_with fail
  go_loopw [1, 5] (fun s t wr => ∃ k : Nat, k ≤ n ∧ s = .int .i64 ((x + 4 * k : Nat) : Int) ∧ t = .int .i64 k ∧ Below w.heap.size w wr) (fun _ t _ => n - (intOf t).toNat)
  case atStart => exact ⟨0, Nat.zero_le _, rfl, rfl, Below.refl _ _⟩
  case round =>
    obtain ⟨k, hk, rfl, rfl, B⟩ := hrel
    by_cases hlt : k < n
    · have hlt' : (k : Int) < (n : Int) := by omega
      obtain ⟨d0, d1, d2, d3⟩ := (h.below B).open k hlt
      obtain ⟨X, hX⟩ : ∃ X : Int, ((x + 4 * k : Nat) : Int) = X := ⟨_, rfl⟩
      rw [show ((x + k * 4 : Nat) : Int) = X by omega] at d0
      rw [show ((x + (k * 4 + 1) : Nat) : Int) = X + 1 by omega] at d1
      rw [show ((x + (k * 4 + 2) : Nat) : Int) = X + 1 + 1 by omega] at d2
      rw [show ((x + (k * 4 + 3) : Nat) : Int) = X + 1 + 1 + 1 by omega] at d3
      have hX1 : 0 ≤ X ∧ X ≤ 20000000 := by omega
      rw [hX]
      go_wp2
      exact ⟨⟨k + 1, by omega, by rw [show X + 1 + 1 + 1 + 1 = ((x + 4 * (k + 1) : Nat) : Int) by omega], by go_num, B⟩, by simp [intOf]; omega⟩
    · have hlt' : ¬ (k : Int) < (n : Int) := by omega
      obtain rfl : k = n := by omega
      go_wp2
      go_ret
      exact ⟨rfl, B⟩
end Go.Proofs.YthcanmnbaemdbaaDoor
