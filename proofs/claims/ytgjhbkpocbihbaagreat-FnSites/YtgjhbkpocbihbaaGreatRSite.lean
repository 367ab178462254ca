/-
  Lists of Site: taken over, measured, held against each other, marked. Walked.
-/
import Derived.Test.YtgjhbkpocbihbaaGreatND
namespace Go.Proofs.YtgjhbkpocbihbaaGreat
open Go.RowKit

abbrev siteV (x0 x1 : Int) : Value := .agg #[.int .i64 x0, .int .i64 x1]
theorem Site.open {w : World} {g n : Nat} {f : Nat → Int} (h : Recs 2 w g n f) (k : Nat) (hk : k < n) : w.cell? ⟨g, k * 2, none⟩ = some (.int .i64 (f (k * 2))) ∧ w.cell? ⟨g, k * 2 + 1, none⟩ = some (.int .i64 (f (k * 2 + 1))) :=
  ⟨h.2 _ (by omega), h.2 _ (by omega)⟩
theorem Site.openI {w : World} {g off n : Nat} {f : Nat → Int} (h : Ints w g off (n * 2) f) (k : Nat) (hk : k < n) : w.cell? ⟨g, off + k * 2, none⟩ = some (.int .i64 (f (k * 2))) ∧ w.cell? ⟨g, off + k * 2 + 1, none⟩ = some (.int .i64 (f (k * 2 + 1))) :=
  ⟨h (k * 2) (by omega), h (k * 2 + 1) (by omega)⟩
theorem Site.put {w : World} {g n k : Nat} {f : Nat → Int} (h : LaidK 2 31 w g n k f) (hk : k < n) : LaidK 2 31 ((w.setCell ⟨g, k * 2, none⟩ (.int .i64 (f (k * 2)))).setCell ⟨g, k * 2 + 1, none⟩ (.int .i64 (f (k * 2 + 1)))) g n (k + 1) f := by
  obtain ⟨cur, h1, h2, h3⟩ := h
  refine ⟨_, ((h1.set (k * 2) _).set (k * 2 + 1) _), by simpa using h2, fun i hi => ?_⟩
  by_cases e1 : i = k * 2 + 1
  · subst e1
    rw [Array.getElem?_setIfInBounds, if_pos rfl, if_pos (by simp; omega)]
  rw [Array.getElem?_setIfInBounds, if_neg (by omega)]
  by_cases e0 : i = k * 2
  · subst e0
    rw [Array.getElem?_setIfInBounds, if_pos rfl, if_pos (by omega)]
  rw [Array.getElem?_setIfInBounds, if_neg (by omega)]
  exact h3 i (by omega)
theorem Site.box {t : TypeId} {w : World} {q : Nat} {v0 v1 : Value} (h : At t w q #[v0, v1]) : w.cell? ⟨q, 0, none⟩ = some v0 ∧ w.cell? ⟨q, 1, none⟩ = some v1 ∧ q < w.heap.size := ⟨h.cell 0 rfl, h.cell 1 rfl, h.lt⟩
theorem Site.boxF {t : TypeId} {w : World} {q : Nat} {vs : Array Value} (h : At t w q vs) : w.frozen? ⟨q, 0, none⟩ = false ∧ w.frozen? ⟨q, 1, none⟩ = false := ⟨h.frozen 0, h.frozen 1⟩
theorem Site.putBox {t : TypeId} {w : World} {q : Nat} {v0 v1 : Value} (h : At t w q #[v0, v1]) (x0 x1 : Value) : At t ((w.setCell ⟨q, 0, none⟩ x0).setCell ⟨q, 1, none⟩ x1) q #[x0, x1] := by
  have := ((h.set 0 x0).set 1 x1)
  simpa using this
theorem Site.putBelow {w0 w : World} {q N : Nat} (h : Below N w0 w) (hq : N ≤ q) (x0 x1 : Value) : Below N w0 ((w.setCell ⟨q, 0, none⟩ x0).setCell ⟨q, 1, none⟩ x1) := ((h.setCell hq _).setCell hq _)
theorem infoSite : (Tryz.prog.info? 31).map (fun i => (i.zero, i.size, i.bytes)) = some (some (.agg #[.int .i64 0, .int .i64 0]), 2, 16) := by kernel_rfl
theorem makeSite (M : Nat) (hM : M ≤ 1048576) : ∃ C : Array Value, C.size = M * 2 ∧ ∀ w, (Instr.makeSlice 27 (.int .i64 (M : Int)) (.int .i64 (M : Int))).run Tryz.prog w = .ok (.slice (some ⟨w.heap.size, 0, none⟩) M M) (w.alloc (.cells C 31)) := by
  obtain ⟨i0, hi0, hz0, hz1, hz2⟩ := info_parts infoSite
  refine ⟨madeCells (Value.agg #[.int .i64 0, .int .i64 0]).cells (M * 2), by simp [madeCells], fun w => ?_⟩
  have := run_make (P := Tryz.prog) w 27 31 i0 _ Tryz.underlying27 hi0 hz0 .i64 .i64 (M : Int) (M : Int) (by omega) (by omega) (by rw [hz2]; omega) (by omega)
  rw [this, hz1]
  simp
set_option maxHeartbeats 1600000 in
theorem eqSite_any (x0 x1 : Int) (w : World) : Calls Tryz.prog 42 #[siteV x0 x1, siteV x0 x1] w fun e w' => e = .returned (.bool true) ∧ Below w.heap.size w w' := by
  obtain ⟨W, hW, b0, b1, bW, -⟩ := bx2 w 31 31 #[.int .i64 x0, .int .i64 x1] #[.int .i64 x0, .int .i64 x1]
  have c0 := b0.cell 0 rfl
  have c1 := b0.cell 1 rfl
  have d0 := b1.cell 0 rfl
  have d1 := b1.cell 1 rfl
  go_enter Tryz.func42, Tryz.ntmps42
  go_wp2
  go_ret
  exact ⟨rfl, bW⟩
/-- The cells of the structs k of two lists. -/
def Site.Two (g1 g2 k : Nat) (f : Nat → Int) (w : World) : Prop :=
  (w.cell? ⟨g1, k * 2, none⟩ = some (.int .i64 (f (k * 2))) ∧ w.cell? ⟨g1, k * 2 + 1, none⟩ = some (.int .i64 (f (k * 2 + 1)))) ∧
  (w.cell? ⟨g2, k * 2, none⟩ = some (.int .i64 (f (k * 2))) ∧ w.cell? ⟨g2, k * 2 + 1, none⟩ = some (.int .i64 (f (k * 2 + 1))))
theorem Site.two_of {w : World} {g1 g2 n k : Nat} {f : Nat → Int} (h1 : Recs 2 w g1 n f) (h2 : Recs 2 w g2 n f) (hk : k < n) : Site.Two g1 g2 k f w := ⟨Site.open h1 k hk, Site.open h2 k hk⟩
set_option maxRecDepth 100000 in
set_option maxHeartbeats 1600000 in
theorem eqSiteS_true {w : World} {g1 g2 n c1 c2 : Nat} {f : Nat → Int} (h1 : Recs 2 w g1 n f) (h2 : Recs 2 w g2 n f) (hn : n ≤ 1048576) :
    Calls Tryz.prog 14 #[.slice (some ⟨g1, 0, none⟩) n c1, .slice (some ⟨g2, 0, none⟩) n c2] w fun e w' => e = .returned (.bool true) ∧ Below w.heap.size w w' := by
  have hn' : (n : Int) ≤ 1048576 := by omega
  go_enter Tryz.func14, Tryz.ntmps14
  go_wp2
  go_loopw [5] (fun s wr => ∃ k : Nat, k ≤ n ∧ s = .int .i64 k ∧ Below w.heap.size w wr) (fun s _ => n - (intOf s).toNat)
  case atStart => exact ⟨0, Nat.zero_le _, rfl, Below.refl _ _⟩
  case round =>
    obtain ⟨k, hk, rfl, B⟩ := hrel
    by_cases hlt : k < n
    · have hlt' : (k : Int) < (n : Int) := by omega
      have L1 := h1.below B
      have L2 := h2.below B
      go_wp2_with fail
      obtain ⟨u0, hu0, bb⟩ : ∃ u0, wr.drew = u0 ∧ Below wr.heap.size wr u0 := ⟨_, rfl, (Below.refl _ _).drew⟩
      replace L1 := L1.below bb
      replace L2 := L2.below bb
      replace B := B.trans (bb.mono B.size)
      clear bb
      refine wp_region_held_drew (S := Site.Two g1 g2 k f) (by kernel_rfl) (by rw [hu0]; exact Site.two_of L1 L2 hlt) (fun hHeld => ?_)
      rw [hu0] at hHeld ⊢
      clear hu0
      change wpAnyH _ _ _ _ _ 10 #[false, false, false, false, false, false, false, false, false, false] _ _
      refine wpAnyH_take (i := 0) (v := .slice (some ⟨g1, 0, none⟩) n c1) rfl (by kernel_rfl) (by kernel_rfl) (by kernel_rfl) (fun _ _ _ h => h) (Or.inl ⟨by kernel_rfl, ?_⟩) hHeld ?_
      · intro w' hSw; go_simp
      try simp only [Act.put, List.setIfInBounds_toArray, List.set_cons_zero]
      refine wpAnyH_take (i := 1) (v := .int .i64 (k : Int)) rfl (by kernel_rfl) (by kernel_rfl) (by kernel_rfl) (fun _ _ _ h => h) (Or.inl ⟨by kernel_rfl, ?_⟩) hHeld ?_
      · intro w' hSw; go_simp
      try simp only [Act.put, List.setIfInBounds_toArray, List.set_cons_zero, List.set_cons_succ]
      refine wpAnyH_take (i := 2) (v := .pointer (some ⟨g1, k * 2, none⟩)) rfl (by kernel_rfl) (by kernel_rfl) (by kernel_rfl) (fun _ _ _ h => h) (Or.inl ⟨by kernel_rfl, ?_⟩) hHeld ?_
      · intro w' hSw; go_simp
      try simp only [Act.put, List.setIfInBounds_toArray, List.set_cons_zero, List.set_cons_succ]
      refine wpAnyH_take (i := 3) (v := siteV (f (k * 2)) (f (k * 2 + 1))) rfl (by kernel_rfl) (by kernel_rfl) (by kernel_rfl) (fun _ _ _ h => h) (Or.inl ⟨by kernel_rfl, ?_⟩) hHeld ?_
      · intro w' hSw; obtain ⟨⟨z0, z1⟩, -⟩ := hSw; go_simp
      try simp only [Act.put, List.setIfInBounds_toArray, List.set_cons_zero, List.set_cons_succ]
      refine wpAnyH_take (i := 4) (v := .slice (some ⟨g2, 0, none⟩) n c2) rfl (by kernel_rfl) (by kernel_rfl) (by kernel_rfl) (fun _ _ _ h => h) (Or.inl ⟨by kernel_rfl, ?_⟩) hHeld ?_
      · intro w' hSw; go_simp
      try simp only [Act.put, List.setIfInBounds_toArray, List.set_cons_zero, List.set_cons_succ]
      refine wpAnyH_take (i := 5) (v := .int .i64 (k : Int)) rfl (by kernel_rfl) (by kernel_rfl) (by kernel_rfl) (fun _ _ _ h => h) (Or.inl ⟨by kernel_rfl, ?_⟩) hHeld ?_
      · intro w' hSw; go_simp
      try simp only [Act.put, List.setIfInBounds_toArray, List.set_cons_zero, List.set_cons_succ]
      refine wpAnyH_take (i := 6) (v := .pointer (some ⟨g2, k * 2, none⟩)) rfl (by kernel_rfl) (by kernel_rfl) (by kernel_rfl) (fun _ _ _ h => h) (Or.inl ⟨by kernel_rfl, ?_⟩) hHeld ?_
      · intro w' hSw; go_simp
      try simp only [Act.put, List.setIfInBounds_toArray, List.set_cons_zero, List.set_cons_succ]
      refine wpAnyH_take (i := 7) (v := siteV (f (k * 2)) (f (k * 2 + 1))) rfl (by kernel_rfl) (by kernel_rfl) (by kernel_rfl) (fun _ _ _ h => h) (Or.inl ⟨by kernel_rfl, ?_⟩) hHeld ?_
      · intro w' hSw; obtain ⟨-, z0, z1⟩ := hSw; go_simp
      try simp only [Act.put, List.setIfInBounds_toArray, List.set_cons_zero, List.set_cons_succ]
      refine wpAnyH_ready (rs := [8]) (by kernel_rfl) (by simp) ?_
      refine AllReadyH.cons rfl (fun KK hK' => ?_) AllReadyH.nil
      go_simp
      refine (eqSite_any _ _ _).mono ?_
      rintro e u1 ⟨rfl, bb⟩
      replace L1 := L1.below bb
      replace L2 := L2.below bb
      replace B := B.trans (bb.mono B.size)
      clear bb
      try go_wp2_with fail
      clear hHeld
      refine hK'.out _ _ (Site.two_of L1 L2 hlt) (fun hHeld => ?_)
      clear hK' KK
      try simp only [List.setIfInBounds_toArray, List.set_cons_zero, List.set_cons_succ]
      refine wpAnyH_ready (rs := [9]) (by kernel_rfl) (by simp) ?_
      refine AllReadyH.cons rfl (fun KK hK' => ?_) AllReadyH.nil
      go_simp
      clear hHeld
      refine hK'.out _ _ (Site.two_of L1 L2 hlt) (fun hHeld => ?_)
      clear hK' KK
      try simp only [List.setIfInBounds_toArray, List.set_cons_zero, List.set_cons_succ]
      clear hHeld L1 L2
      refine wpAnyH_done (by kernel_rfl) ?_ _
      go_wp2
      exact ⟨⟨k + 1, by omega, by go_num, B⟩, by simp [intOf]; omega⟩
    · have hlt' : ¬ (k : Int) < (n : Int) := by omega
      go_wp2
      go_ret
      exact ⟨rfl, B⟩
set_option maxRecDepth 100000 in
set_option maxHeartbeats 3200000 in
theorem markSiteS_any {w : World} {g n c : Nat} (l : Int) (hl : 0 ≤ l ∧ l ≤ 100000000) (h : RoomK 2 31 w g n) (hn : n ≤ 1048576) :
    Calls Tryz.prog 17 #[.slice (some ⟨g, 0, none⟩) n c, .int .i64 l] w fun e w' => e = .returned (.int .i64 (l + 2 * (n : Int))) ∧ Kept g w w' := by
  have hn' : (n : Int) ≤ 1048576 := by omega
  go_enter Tryz.func17, Tryz.ntmps17
  go_wp2
  go_loopw [1, 5] (fun s t wr => ∃ k : Nat, k ≤ n ∧ s = .int .i64 (l + 2 * (k : Int)) ∧ t = .int .i64 (k : Int) ∧ RoomK 2 31 wr g n ∧ Kept g w wr) (fun _ t _ => n - (intOf t).toNat)
  case atStart => exact ⟨0, Nat.zero_le _, by simp, rfl, h, Kept.refl _ _⟩
  case round =>
    clear h
    obtain ⟨k, hk', rfl, rfl, h, hK⟩ := hrel
    by_cases hk : k < n
    · have hklt : (k : Int) < (n : Int) := by omega
      obtain ⟨X, hX⟩ : ∃ X : Int, l + 2 * (k : Int) = X := ⟨_, rfl⟩
      have hX1 : 0 ≤ X ∧ X ≤ 200000000 := by omega
      obtain ⟨c0, f0⟩ := h.cell (i := k * 2) (by omega)
      obtain ⟨V1, hV1⟩ : ∃ V, wr.setCell ⟨g, k * 2, none⟩ (.int .i64 (X)) = V := ⟨_, rfl⟩
      have h1 : RoomK 2 31 V1 g n := by rw [← hV1]; exact h.set _ _
      have K1 : Kept g w V1 := by rw [← hV1]; exact hK.set _
      obtain ⟨c1, f1⟩ := h1.cell (i := k * 2 + 1) (by omega)
      have w1 : IntKind.i64.wrap (X + 1) = X + 1 := by rw [IntKind.wrap_i64]; omega
      have w2 : IntKind.i64.wrap (X + 1 + 1) = X + 2 := by rw [IntKind.wrap_i64]; omega
      rw [hX]
      go_wp2
      refine ⟨⟨k + 1, by omega, ?_, by go_num, h1.set _ _, K1.set _⟩, by simp [intOf]; omega⟩
      rw [show l + 2 * ((k + 1 : Nat) : Int) = X + 2 by omega]
    · have hklt : ¬ (k : Int) < (n : Int) := by omega
      obtain rfl : k = n := by omega
      go_wp2
      go_ret
      exact ⟨rfl, hK⟩
end Go.Proofs.YtgjhbkpocbihbaaGreat
