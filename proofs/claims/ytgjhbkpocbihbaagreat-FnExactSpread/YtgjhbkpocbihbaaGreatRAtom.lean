/-
  Lists of Atom: taken over, measured, held against each other, marked. Walked.
-/
import Derived.Test.YtgjhbkpocbihbaaGreatND
namespace Go.Proofs.YtgjhbkpocbihbaaGreat
open Go.RowKit

abbrev atomV (x0 x1 x2 x3 : Int) : Value := .agg #[.int .i64 x0, .int .i64 x1, .int .i64 x2, .int .i64 x3]
theorem Atom.open {w : World} {g n : Nat} {f : Nat → Int} (h : Recs 4 w g n f) (k : Nat) (hk : k < n) : w.cell? ⟨g, k * 4, none⟩ = some (.int .i64 (f (k * 4))) ∧ w.cell? ⟨g, k * 4 + 1, none⟩ = some (.int .i64 (f (k * 4 + 1))) ∧ w.cell? ⟨g, k * 4 + 2, none⟩ = some (.int .i64 (f (k * 4 + 2))) ∧ w.cell? ⟨g, k * 4 + 3, none⟩ = some (.int .i64 (f (k * 4 + 3))) :=
  ⟨h.2 _ (by omega), h.2 _ (by omega), h.2 _ (by omega), h.2 _ (by omega)⟩
theorem Atom.openI {w : World} {g off n : Nat} {f : Nat → Int} (h : Ints w g off (n * 4) f) (k : Nat) (hk : k < n) : w.cell? ⟨g, off + k * 4, none⟩ = some (.int .i64 (f (k * 4))) ∧ w.cell? ⟨g, off + k * 4 + 1, none⟩ = some (.int .i64 (f (k * 4 + 1))) ∧ w.cell? ⟨g, off + k * 4 + 2, none⟩ = some (.int .i64 (f (k * 4 + 2))) ∧ w.cell? ⟨g, off + k * 4 + 3, none⟩ = some (.int .i64 (f (k * 4 + 3))) :=
  ⟨h (k * 4) (by omega), h (k * 4 + 1) (by omega), h (k * 4 + 2) (by omega), h (k * 4 + 3) (by omega)⟩
theorem Atom.put {w : World} {g n k : Nat} {f : Nat → Int} (h : LaidK 4 81 w g n k f) (hk : k < n) : LaidK 4 81 ((((w.setCell ⟨g, k * 4, none⟩ (.int .i64 (f (k * 4)))).setCell ⟨g, k * 4 + 1, none⟩ (.int .i64 (f (k * 4 + 1)))).setCell ⟨g, k * 4 + 2, none⟩ (.int .i64 (f (k * 4 + 2)))).setCell ⟨g, k * 4 + 3, none⟩ (.int .i64 (f (k * 4 + 3)))) g n (k + 1) f := by
  obtain ⟨cur, h1, h2, h3⟩ := h
  refine ⟨_, ((((h1.set (k * 4) _).set (k * 4 + 1) _).set (k * 4 + 2) _).set (k * 4 + 3) _), by simpa using h2, fun i hi => ?_⟩
  by_cases e3 : i = k * 4 + 3
  · subst e3
    rw [Array.getElem?_setIfInBounds, if_pos rfl, if_pos (by simp; omega)]
  rw [Array.getElem?_setIfInBounds, if_neg (by omega)]
  by_cases e2 : i = k * 4 + 2
  · subst e2
    rw [Array.getElem?_setIfInBounds, if_pos rfl, if_pos (by simp; omega)]
  rw [Array.getElem?_setIfInBounds, if_neg (by omega)]
  by_cases e1 : i = k * 4 + 1
  · subst e1
    rw [Array.getElem?_setIfInBounds, if_pos rfl, if_pos (by simp; omega)]
  rw [Array.getElem?_setIfInBounds, if_neg (by omega)]
  by_cases e0 : i = k * 4
  · subst e0
    rw [Array.getElem?_setIfInBounds, if_pos rfl, if_pos (by omega)]
  rw [Array.getElem?_setIfInBounds, if_neg (by omega)]
  exact h3 i (by omega)
theorem Atom.box {t : TypeId} {w : World} {q : Nat} {v0 v1 v2 v3 : Value} (h : At t w q #[v0, v1, v2, v3]) : w.cell? ⟨q, 0, none⟩ = some v0 ∧ w.cell? ⟨q, 1, none⟩ = some v1 ∧ w.cell? ⟨q, 2, none⟩ = some v2 ∧ w.cell? ⟨q, 3, none⟩ = some v3 ∧ q < w.heap.size := ⟨h.cell 0 rfl, h.cell 1 rfl, h.cell 2 rfl, h.cell 3 rfl, h.lt⟩
theorem Atom.boxF {t : TypeId} {w : World} {q : Nat} {vs : Array Value} (h : At t w q vs) : w.frozen? ⟨q, 0, none⟩ = false ∧ w.frozen? ⟨q, 1, none⟩ = false ∧ w.frozen? ⟨q, 2, none⟩ = false ∧ w.frozen? ⟨q, 3, none⟩ = false := ⟨h.frozen 0, h.frozen 1, h.frozen 2, h.frozen 3⟩
theorem Atom.putBox {t : TypeId} {w : World} {q : Nat} {v0 v1 v2 v3 : Value} (h : At t w q #[v0, v1, v2, v3]) (x0 x1 x2 x3 : Value) : At t ((((w.setCell ⟨q, 0, none⟩ x0).setCell ⟨q, 1, none⟩ x1).setCell ⟨q, 2, none⟩ x2).setCell ⟨q, 3, none⟩ x3) q #[x0, x1, x2, x3] := by
  have := ((((h.set 0 x0).set 1 x1).set 2 x2).set 3 x3)
  simpa using this
theorem Atom.putBelow {w0 w : World} {q N : Nat} (h : Below N w0 w) (hq : N ≤ q) (x0 x1 x2 x3 : Value) : Below N w0 ((((w.setCell ⟨q, 0, none⟩ x0).setCell ⟨q, 1, none⟩ x1).setCell ⟨q, 2, none⟩ x2).setCell ⟨q, 3, none⟩ x3) := ((((h.setCell hq _).setCell hq _).setCell hq _).setCell hq _)
theorem szAtom_any {a : Option Addr} {n cap : Nat} (l : Int) (hl : 0 ≤ l ∧ l ≤ 1048576) (w : World) (hn : n ≤ maxLen) : Calls Tryz.prog 19 #[.slice a n cap, .int .i64 l] w fun e w' => (∃ r : Int, e = .returned (.int .i64 r) ∧ (r = -1 ∨ (0 ≤ r ∧ r ≤ l ∧ n ≤ 1048576))) ∧ w = w' := by
  unfold maxLen at hn
  by_cases hb : l < (n : Int)
  · have h1 : l - (n : Int) < 0 := by omega
    go_enter Tryz.func19, Tryz.ntmps19
    go_wp2
    go_ret
    exact ⟨⟨_, rfl, .inl rfl⟩, rfl⟩
  · have h1 : ¬ l - (n : Int) < 0 := by omega
    go_enter Tryz.func19, Tryz.ntmps19
    go_wp2
    go_ret
    exact ⟨⟨_, rfl, .inr ⟨by omega, by omega, by omega⟩⟩, rfl⟩
set_option maxHeartbeats 1600000 in
theorem toAtom_any (x0 x1 x2 x3 : Int) (w : World) : Calls Tryz.prog 47 #[atomV x0 x1 x2 x3] w fun e w' => e = .returned (atomV x0 x1 x2 x3) ∧ Below w.heap.size w w' := by
  go_enter Tryz.func47, Tryz.ntmps47
  go_wp2
  exact bodyPost_ret (v := atomV x0 x1 x2 x3) (by simp [results, Tryz.results47, go_sem]) rfl ⟨rfl, (below_alloc _ _).trans (((below_alloc _ _).trans ((below_alloc _ _).mono (by simp))).mono (by simp))⟩
theorem infoAtom : (Tryz.prog.info? 81).map (fun i => (i.zero, i.size, i.bytes)) = some (some (.agg #[.int .i64 0, .int .i64 0, .int .i64 0, .int .i64 0]), 4, 32) := by kernel_rfl
theorem makeAtom (M : Nat) (hM : M ≤ 1048576) : ∃ C : Array Value, C.size = M * 4 ∧ ∀ w, (Instr.makeSlice 42 (.int .i64 (M : Int)) (.int .i64 (M : Int))).run Tryz.prog w = .ok (.slice (some ⟨w.heap.size, 0, none⟩) M M) (w.alloc (.cells C 81)) := by
  obtain ⟨i0, hi0, hz0, hz1, hz2⟩ := info_parts infoAtom
  refine ⟨madeCells (Value.agg #[.int .i64 0, .int .i64 0, .int .i64 0, .int .i64 0]).cells (M * 4), by simp [madeCells], fun w => ?_⟩
  have := run_make (P := Tryz.prog) w 42 81 i0 _ Tryz.underlying42 hi0 hz0 .i64 .i64 (M : Int) (M : Int) (by omega) (by omega) (by rw [hz2]; omega) (by omega)
  rw [this, hz1]
  simp
set_option maxRecDepth 100000 in
set_option maxHeartbeats 1600000 in
theorem toAtomS_any {w : World} {a : Option Addr} {n cap : Nat} {f : Nat → Int} (hS : Src w a (n * 4) f) (hn : n ≤ 1048576) :
    Calls Tryz.prog 21 #[.slice a n cap] w fun e w' => ∃ g, e = .returned (.slice (some ⟨g, 0, none⟩) n n) ∧ w.heap.size ≤ g ∧ LaidK 4 81 w' g n n f ∧ Below w.heap.size w w' := by
  have hn' : (n : Int) ≤ 1048576 := by omega
  obtain ⟨C, hC, hmk⟩ := makeAtom n hn
  obtain ⟨W1, hW1, a1, B1, -⟩ := boxed w 81 C
  have L1 : LaidK 4 81 W1 w.heap.size n 0 f := ⟨C, a1, hC, fun i hi => by omega⟩
  go_enter Tryz.func21, Tryz.ntmps21
  go_wp2
  clear hmk hW1 a1
  go_loopw [4] (fun s wr => ∃ k : Nat, k ≤ n ∧ s = .int .i64 k ∧ LaidK 4 81 wr w.heap.size n k f ∧ Below w.heap.size w wr) (fun s _ => n - (intOf s).toNat)
  case atStart => exact ⟨0, Nat.zero_le _, rfl, L1, B1⟩
  case round =>
    clear L1 B1
    obtain ⟨k, hk, rfl, L, B⟩ := hrel
    by_cases hlt : k < n
    · have hlt' : (k : Int) < (n : Int) := by omega
      rcases hS.below B with h0 | ⟨g, off, rfl, hg, rr⟩
      · omega
      obtain ⟨c0, c1, c2, c3⟩ := Atom.openI rr k hlt
      clear rr
      go_wp2_with fail
      refine (toAtom_any _ _ _ _ _).mono ?_
      rintro e w3 ⟨rfl, b3⟩
      have L3 := L.below b3
      have B3 := B.trans (b3.mono B.size)
      clear c0 c1 c2 c3 L B b3
      obtain ⟨d0, f0⟩ := L3.cells (j := k * 4) (by omega)
      obtain ⟨d1, f1⟩ := L3.cells (j := k * 4 + 1) (by omega)
      obtain ⟨d2, f2⟩ := L3.cells (j := k * 4 + 2) (by omega)
      obtain ⟨d3, f3⟩ := L3.cells (j := k * 4 + 3) (by omega)
      have HL : Hid (LaidK 4 81 ((((w3.setCell ⟨w.heap.size, k * 4, none⟩ (.int .i64 (f (k * 4)))).setCell ⟨w.heap.size, k * 4 + 1, none⟩ (.int .i64 (f (k * 4 + 1)))).setCell ⟨w.heap.size, k * 4 + 2, none⟩ (.int .i64 (f (k * 4 + 2)))).setCell ⟨w.heap.size, k * 4 + 3, none⟩ (.int .i64 (f (k * 4 + 3)))) w.heap.size n (k + 1) f) := Atom.put L3 hlt
      clear L3
      go_wp2
      refine ⟨⟨k + 1, by omega, by go_num, HL.out, ((((B3.setCell (Nat.le_refl w.heap.size) _).setCell (Nat.le_refl w.heap.size) _).setCell (Nat.le_refl w.heap.size) _).setCell (Nat.le_refl w.heap.size) _)⟩, by simp [intOf]; omega⟩
    · have hlt' : ¬ (k : Int) < (n : Int) := by omega
      obtain rfl : k = n := by omega
      have HO : Hid (LaidK 4 81 wr w.heap.size k k f) := L
      clear L
      go_wp2
      go_ret
      exact ⟨_, rfl, Nat.le_refl _, HO.out, B⟩
set_option maxHeartbeats 1600000 in
theorem eqAtom_any (x0 x1 x2 x3 : Int) (w : World) : Calls Tryz.prog 54 #[atomV x0 x1 x2 x3, atomV x0 x1 x2 x3] w fun e w' => e = .returned (.bool true) ∧ Below w.heap.size w w' := by
  obtain ⟨W, hW, b0, b1, bW, -⟩ := bx2 w 81 81 #[.int .i64 x0, .int .i64 x1, .int .i64 x2, .int .i64 x3] #[.int .i64 x0, .int .i64 x1, .int .i64 x2, .int .i64 x3]
  have c0 := b0.cell 0 rfl
  have c1 := b0.cell 1 rfl
  have c2 := b0.cell 2 rfl
  have c3 := b0.cell 3 rfl
  have d0 := b1.cell 0 rfl
  have d1 := b1.cell 1 rfl
  have d2 := b1.cell 2 rfl
  have d3 := b1.cell 3 rfl
  go_enter Tryz.func54, Tryz.ntmps54
  go_wp2
  go_ret
  exact ⟨rfl, bW⟩
/-- The cells of the structs k of two lists. -/
def Atom.Two (g1 g2 k : Nat) (f : Nat → Int) (w : World) : Prop :=
  (w.cell? ⟨g1, k * 4, none⟩ = some (.int .i64 (f (k * 4))) ∧ w.cell? ⟨g1, k * 4 + 1, none⟩ = some (.int .i64 (f (k * 4 + 1))) ∧ w.cell? ⟨g1, k * 4 + 2, none⟩ = some (.int .i64 (f (k * 4 + 2))) ∧ w.cell? ⟨g1, k * 4 + 3, none⟩ = some (.int .i64 (f (k * 4 + 3)))) ∧
  (w.cell? ⟨g2, k * 4, none⟩ = some (.int .i64 (f (k * 4))) ∧ w.cell? ⟨g2, k * 4 + 1, none⟩ = some (.int .i64 (f (k * 4 + 1))) ∧ w.cell? ⟨g2, k * 4 + 2, none⟩ = some (.int .i64 (f (k * 4 + 2))) ∧ w.cell? ⟨g2, k * 4 + 3, none⟩ = some (.int .i64 (f (k * 4 + 3))))
theorem Atom.two_of {w : World} {g1 g2 n k : Nat} {f : Nat → Int} (h1 : Recs 4 w g1 n f) (h2 : Recs 4 w g2 n f) (hk : k < n) : Atom.Two g1 g2 k f w := ⟨Atom.open h1 k hk, Atom.open h2 k hk⟩
set_option maxRecDepth 100000 in
set_option maxHeartbeats 1600000 in
theorem eqAtomS_true {w : World} {g1 g2 n c1 c2 : Nat} {f : Nat → Int} (h1 : Recs 4 w g1 n f) (h2 : Recs 4 w g2 n f) (hn : n ≤ 1048576) :
    Calls Tryz.prog 23 #[.slice (some ⟨g1, 0, none⟩) n c1, .slice (some ⟨g2, 0, none⟩) n c2] w fun e w' => e = .returned (.bool true) ∧ Below w.heap.size w w' := by
  have hn' : (n : Int) ≤ 1048576 := by omega
  go_enter Tryz.func23, Tryz.ntmps23
  go_wp2
  go_loopw [5] (fun s wr => ∃ k : Nat, k ≤ n ∧ s = .int .i64 k ∧ Below w.heap.size w wr) (fun s _ => n - (intOf s).toNat)
  case atStart => exact ⟨0, Nat.zero_le _, rfl, Below.refl _ _⟩
  case round =>
    obtain ⟨k, hk, rfl, B⟩ := hrel
    by_cases hlt : k < n
    · have hlt' : (k : Int) < (n : Int) := by omega
      have L1 := h1.below B
      have L2 := h2.below B
      go_wp2_with fail
      obtain ⟨u0, hu0, bb⟩ : ∃ u0, wr.drew = u0 ∧ Below wr.heap.size wr u0 := ⟨_, rfl, (Below.refl _ _).drew⟩
      replace L1 := L1.below bb
      replace L2 := L2.below bb
      replace B := B.trans (bb.mono B.size)
      clear bb
      refine wp_region_held_drew (S := Atom.Two g1 g2 k f) (by kernel_rfl) (by rw [hu0]; exact Atom.two_of L1 L2 hlt) (fun hHeld => ?_)
      rw [hu0] at hHeld ⊢
      clear hu0
      change wpAnyH _ _ _ _ _ 10 #[false, false, false, false, false, false, false, false, false, false] _ _
      refine wpAnyH_take (i := 0) (v := .slice (some ⟨g1, 0, none⟩) n c1) rfl (by kernel_rfl) (by kernel_rfl) (by kernel_rfl) (fun _ _ _ h => h) (Or.inl ⟨by kernel_rfl, ?_⟩) hHeld ?_
      · intro w' hSw; go_simp
      try simp only [Act.put, List.setIfInBounds_toArray, List.set_cons_zero]
      refine wpAnyH_take (i := 1) (v := .int .i64 (k : Int)) rfl (by kernel_rfl) (by kernel_rfl) (by kernel_rfl) (fun _ _ _ h => h) (Or.inl ⟨by kernel_rfl, ?_⟩) hHeld ?_
      · intro w' hSw; go_simp
      try simp only [Act.put, List.setIfInBounds_toArray, List.set_cons_zero, List.set_cons_succ]
      refine wpAnyH_take (i := 2) (v := .pointer (some ⟨g1, k * 4, none⟩)) rfl (by kernel_rfl) (by kernel_rfl) (by kernel_rfl) (fun _ _ _ h => h) (Or.inl ⟨by kernel_rfl, ?_⟩) hHeld ?_
      · intro w' hSw; go_simp
      try simp only [Act.put, List.setIfInBounds_toArray, List.set_cons_zero, List.set_cons_succ]
      refine wpAnyH_take (i := 3) (v := atomV (f (k * 4)) (f (k * 4 + 1)) (f (k * 4 + 2)) (f (k * 4 + 3))) rfl (by kernel_rfl) (by kernel_rfl) (by kernel_rfl) (fun _ _ _ h => h) (Or.inl ⟨by kernel_rfl, ?_⟩) hHeld ?_
      · intro w' hSw; obtain ⟨⟨z0, z1, z2, z3⟩, -⟩ := hSw; go_simp
      try simp only [Act.put, List.setIfInBounds_toArray, List.set_cons_zero, List.set_cons_succ]
      refine wpAnyH_take (i := 4) (v := .slice (some ⟨g2, 0, none⟩) n c2) rfl (by kernel_rfl) (by kernel_rfl) (by kernel_rfl) (fun _ _ _ h => h) (Or.inl ⟨by kernel_rfl, ?_⟩) hHeld ?_
      · intro w' hSw; go_simp
      try simp only [Act.put, List.setIfInBounds_toArray, List.set_cons_zero, List.set_cons_succ]
      refine wpAnyH_take (i := 5) (v := .int .i64 (k : Int)) rfl (by kernel_rfl) (by kernel_rfl) (by kernel_rfl) (fun _ _ _ h => h) (Or.inl ⟨by kernel_rfl, ?_⟩) hHeld ?_
      · intro w' hSw; go_simp
      try simp only [Act.put, List.setIfInBounds_toArray, List.set_cons_zero, List.set_cons_succ]
      refine wpAnyH_take (i := 6) (v := .pointer (some ⟨g2, k * 4, none⟩)) rfl (by kernel_rfl) (by kernel_rfl) (by kernel_rfl) (fun _ _ _ h => h) (Or.inl ⟨by kernel_rfl, ?_⟩) hHeld ?_
      · intro w' hSw; go_simp
      try simp only [Act.put, List.setIfInBounds_toArray, List.set_cons_zero, List.set_cons_succ]
      refine wpAnyH_take (i := 7) (v := atomV (f (k * 4)) (f (k * 4 + 1)) (f (k * 4 + 2)) (f (k * 4 + 3))) rfl (by kernel_rfl) (by kernel_rfl) (by kernel_rfl) (fun _ _ _ h => h) (Or.inl ⟨by kernel_rfl, ?_⟩) hHeld ?_
      · intro w' hSw; obtain ⟨-, z0, z1, z2, z3⟩ := hSw; go_simp
      try simp only [Act.put, List.setIfInBounds_toArray, List.set_cons_zero, List.set_cons_succ]
      refine wpAnyH_ready (rs := [8]) (by kernel_rfl) (by simp) ?_
      refine AllReadyH.cons rfl (fun KK hK' => ?_) AllReadyH.nil
      go_simp
      refine (eqAtom_any _ _ _ _ _).mono ?_
      rintro e u1 ⟨rfl, bb⟩
      replace L1 := L1.below bb
      replace L2 := L2.below bb
      replace B := B.trans (bb.mono B.size)
      clear bb
      try go_wp2_with fail
      clear hHeld
      refine hK'.out _ _ (Atom.two_of L1 L2 hlt) (fun hHeld => ?_)
      clear hK' KK
      try simp only [List.setIfInBounds_toArray, List.set_cons_zero, List.set_cons_succ]
      refine wpAnyH_ready (rs := [9]) (by kernel_rfl) (by simp) ?_
      refine AllReadyH.cons rfl (fun KK hK' => ?_) AllReadyH.nil
      go_simp
      clear hHeld
      refine hK'.out _ _ (Atom.two_of L1 L2 hlt) (fun hHeld => ?_)
      clear hK' KK
      try simp only [List.setIfInBounds_toArray, List.set_cons_zero, List.set_cons_succ]
      clear hHeld L1 L2
      refine wpAnyH_done (by kernel_rfl) ?_ _
      go_wp2
      exact ⟨⟨k + 1, by omega, by go_num, B⟩, by simp [intOf]; omega⟩
    · have hlt' : ¬ (k : Int) < (n : Int) := by omega
      go_wp2
      go_ret
      exact ⟨rfl, B⟩
set_option maxRecDepth 100000 in
set_option maxHeartbeats 3200000 in
theorem markAtomS_any {w : World} {g n c : Nat} (l : Int) (hl : 0 ≤ l ∧ l ≤ 100000000) (h : RoomK 4 81 w g n) (hn : n ≤ 1048576) :
    Calls Tryz.prog 24 #[.slice (some ⟨g, 0, none⟩) n c, .int .i64 l] w fun e w' => e = .returned (.int .i64 (l + 4 * (n : Int))) ∧ Kept g w w' := by
  have hn' : (n : Int) ≤ 1048576 := by omega
  go_enter Tryz.func24, Tryz.ntmps24
  go_wp2
  go_loopw [1, 5] (fun s t wr => ∃ k : Nat, k ≤ n ∧ s = .int .i64 (l + 4 * (k : Int)) ∧ t = .int .i64 (k : Int) ∧ RoomK 4 81 wr g n ∧ Kept g w wr) (fun _ t _ => n - (intOf t).toNat)
  case atStart => exact ⟨0, Nat.zero_le _, by simp, rfl, h, Kept.refl _ _⟩
  case round =>
    clear h
    obtain ⟨k, hk', rfl, rfl, h, hK⟩ := hrel
    by_cases hk : k < n
    · have hklt : (k : Int) < (n : Int) := by omega
      obtain ⟨X, hX⟩ : ∃ X : Int, l + 4 * (k : Int) = X := ⟨_, rfl⟩
      have hX1 : 0 ≤ X ∧ X ≤ 200000000 := by omega
      obtain ⟨c0, f0⟩ := h.cell (i := k * 4) (by omega)
      obtain ⟨V1, hV1⟩ : ∃ V, wr.setCell ⟨g, k * 4, none⟩ (.int .i64 (X)) = V := ⟨_, rfl⟩
      have h1 : RoomK 4 81 V1 g n := by rw [← hV1]; exact h.set _ _
      have K1 : Kept g w V1 := by rw [← hV1]; exact hK.set _
      obtain ⟨c1, f1⟩ := h1.cell (i := k * 4 + 1) (by omega)
      obtain ⟨V2, hV2⟩ : ∃ V, V1.setCell ⟨g, k * 4 + 1, none⟩ (.int .i64 (X + 1)) = V := ⟨_, rfl⟩
      have h2 : RoomK 4 81 V2 g n := by rw [← hV2]; exact h1.set _ _
      have K2 : Kept g w V2 := by rw [← hV2]; exact K1.set _
      obtain ⟨c2, f2⟩ := h2.cell (i := k * 4 + 2) (by omega)
      obtain ⟨V3, hV3⟩ : ∃ V, V2.setCell ⟨g, k * 4 + 2, none⟩ (.int .i64 (X + 2)) = V := ⟨_, rfl⟩
      have h3 : RoomK 4 81 V3 g n := by rw [← hV3]; exact h2.set _ _
      have K3 : Kept g w V3 := by rw [← hV3]; exact K2.set _
      obtain ⟨c3, f3⟩ := h3.cell (i := k * 4 + 3) (by omega)
      have w1 : IntKind.i64.wrap (X + 1) = X + 1 := by rw [IntKind.wrap_i64]; omega
      have w2 : IntKind.i64.wrap (X + 1 + 1) = X + 2 := by rw [IntKind.wrap_i64]; omega
      have w3 : IntKind.i64.wrap (X + 2 + 1) = X + 3 := by rw [IntKind.wrap_i64]; omega
      have w4 : IntKind.i64.wrap (X + 3 + 1) = X + 4 := by rw [IntKind.wrap_i64]; omega
      rw [hX]
      go_wp2
      refine ⟨⟨k + 1, by omega, ?_, by go_num, h3.set _ _, K3.set _⟩, by simp [intOf]; omega⟩
      rw [show l + 4 * ((k + 1 : Nat) : Int) = X + 4 by omega]
    · have hklt : ¬ (k : Int) < (n : Int) := by omega
      obtain rfl : k = n := by omega
      go_wp2
      go_ret
      exact ⟨rfl, hK⟩
end Go.Proofs.YtgjhbkpocbihbaaGreat
