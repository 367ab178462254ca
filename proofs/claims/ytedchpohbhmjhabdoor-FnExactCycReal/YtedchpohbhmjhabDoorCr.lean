/-
  Which cyclotomic numbers are real, by the program and by the specification: walked.
-/
import Derived.Test.YtedchpohbhmjhabDoorCq
namespace Go.Proofs.YtedchpohbhmjhabDoor
open Go.RowKit

/-- The cells of a box. -/
def R4q (q : Nat) (a b c d : Int) (w : World) : Prop := w.cell? ⟨q, 0, none⟩ = some (.int .i64 a) ∧ w.cell? ⟨q, 1, none⟩ = some (.int .i64 b) ∧ w.cell? ⟨q, 2, none⟩ = some (.int .i64 c) ∧ w.cell? ⟨q, 3, none⟩ = some (.int .i64 d)
theorem r4q_of {t : TypeId} {q : Nat} {a b c d : Int} {w : World} (h : At t w q #[.int .i64 a, .int .i64 b, .int .i64 c, .int .i64 d]) : R4q q a b c d w := by
  obtain ⟨a0, a1, a2, a3, -⟩ := h.open4
  exact ⟨a0, a1, a2, a3⟩
set_option maxRecDepth 100000 in
theorem specReal_yes (a b c d : Int) (w : World) (h1 : cOk a b c d = true) (hc : c = 0) (hb : b = -2 * d) : Calls Tryd.prog 12 #[cV a b c d] w fun e w' => e = .returned (.tuple #[.int .i64 a, .int .i64 (-d), .bool true]) ∧ Below w.heap.size w w' := by
  obtain ⟨j1, j2, j3, j4⟩ := cOk_in h1
  obtain ⟨W, hW, b0, bW, -⟩ := boxed w 24 #[.int .i64 a, .int .i64 b, .int .i64 c, .int .i64 d]
  obtain ⟨c0, c1, c2, c3, -⟩ := b0.open4
  have hb' : (b != -2 * d) = false := by simp [hb]
  have hc' : (c != 0) = false := by simp [hc]
  have r1 : -2000000000000 ≤ -2 * d ∧ -2 * d ≤ 2000000000000 := by omega
  generalize hg : -2 * d = g at *
  clear hb hc
  go_enter Tryd.func12, Tryd.ntmps12
  go_wp2_with (go_at_call 31; refine (specOk_any _ _ _ _ _).mono ?_; rintro e w2 ⟨rfl, hb2⟩; rw [h1]; clear c0 c1 c2 c3; replace b0 := b0.below hb2; replace bW := bW.trans (hb2.mono bW.size); obtain ⟨c0, c1, c2, c3, -⟩ := b0.open4; clear hb2)
  have hw : IntKind.i64.wrap (-d) = -d := by rw [IntKind.wrap_i64]; omega
  obtain ⟨u0, hu0, bb⟩ : ∃ u0, w2.drew = u0 ∧ Below w2.heap.size w2 u0 := ⟨_, rfl, (Below.refl _ _).drew⟩
  replace b0 := b0.below bb
  replace bW := bW.trans (bb.mono bW.size)
  clear bb
  refine wp_region_held_drew (S := R4q w.heap.size a b c d) (by kernel_rfl) (by rw [hu0]; exact r4q_of b0) (fun hHeld => ?_)
  rw [hu0] at hHeld ⊢
  clear hu0
  change wpAnyH _ _ _ _ _ 8 #[false, false, false, false, false, false, false, false] _ _
  refine wpAnyH_take (i := 0) (v := .pointer (some ⟨w.heap.size, 0, none⟩)) rfl (by kernel_rfl) (by kernel_rfl) (by kernel_rfl) (fun _ _ _ h => h) (Or.inl ⟨by kernel_rfl, ?_⟩) hHeld ?_
  · intro w' hSw; go_simp
  try simp only [Act.put, List.setIfInBounds_toArray, List.set_cons_zero, List.set_cons_succ, List.getElem_toArray, List.getElem_cons_zero]
  refine wpAnyH_take (i := 1) (v := .int .i64 a) rfl (by kernel_rfl) (by kernel_rfl) (by kernel_rfl) (fun _ _ _ h => h) (Or.inl ⟨by kernel_rfl, ?_⟩) hHeld ?_
  · intro w' hSw; obtain ⟨z0, z1, z2, z3⟩ := hSw; go_simp
  try simp only [Act.put, List.setIfInBounds_toArray, List.set_cons_zero, List.set_cons_succ, List.getElem_toArray, List.getElem_cons_succ, List.getElem_cons_zero]
  refine wpAnyH_take (i := 2) (v := .pointer (some ⟨w.heap.size, 3, none⟩)) rfl (by kernel_rfl) (by kernel_rfl) (by kernel_rfl) (fun _ _ _ h => h) (Or.inl ⟨by kernel_rfl, ?_⟩) hHeld ?_
  · intro w' hSw; go_simp
  try simp only [Act.put, List.setIfInBounds_toArray, List.set_cons_zero, List.set_cons_succ, List.getElem_toArray, List.getElem_cons_succ, List.getElem_cons_zero]
  refine wpAnyH_take (i := 3) (v := .int .i64 d) rfl (by kernel_rfl) (by kernel_rfl) (by kernel_rfl) (fun _ _ _ h => h) (Or.inl ⟨by kernel_rfl, ?_⟩) hHeld ?_
  · intro w' hSw; obtain ⟨z0, z1, z2, z3⟩ := hSw; go_simp
  try simp only [Act.put, List.setIfInBounds_toArray, List.set_cons_zero, List.set_cons_succ, List.getElem_toArray, List.getElem_cons_succ, List.getElem_cons_zero]
  refine wpAnyH_take (i := 4) (v := .int .i64 (-d)) rfl (by kernel_rfl) (by kernel_rfl) (by kernel_rfl) (fun _ _ _ h => h) (Or.inl ⟨by kernel_rfl, ?_⟩) hHeld ?_
  · intro w' hSw; go_simp
  try simp only [Act.put, List.setIfInBounds_toArray, List.set_cons_zero, List.set_cons_succ, List.getElem_toArray, List.getElem_cons_succ, List.getElem_cons_zero]
  refine wpAnyH_take (i := 5) (v := .int .i64 a) rfl (by kernel_rfl) (by kernel_rfl) (by kernel_rfl) (fun _ _ _ h => h) (Or.inl ⟨by kernel_rfl, ?_⟩) hHeld ?_
  · intro w' hSw; go_simp
  try simp only [Act.put, List.setIfInBounds_toArray, List.set_cons_zero, List.set_cons_succ, List.getElem_toArray, List.getElem_cons_succ, List.getElem_cons_zero]
  refine wpAnyH_take (i := 6) (v := .int .i64 (-d)) rfl (by kernel_rfl) (by kernel_rfl) (by kernel_rfl) (fun _ _ _ h => h) (Or.inl ⟨by kernel_rfl, ?_⟩) hHeld ?_
  · intro w' hSw; go_simp
  try simp only [Act.put, List.setIfInBounds_toArray, List.set_cons_zero, List.set_cons_succ, List.getElem_toArray, List.getElem_cons_succ, List.getElem_cons_zero]
  refine wpAnyH_ready (rs := [7]) (by kernel_rfl) (by simp) ?_
  refine AllReadyH.cons rfl (fun KK hK' => ?_) AllReadyH.nil
  go_simp
  clear hHeld
  refine hK'.out _ _ (r4q_of b0) (fun hHeld => ?_)
  clear hK' KK
  try simp only [List.setIfInBounds_toArray, List.set_cons_zero, List.set_cons_succ]
  refine wpAnyH_done (by kernel_rfl) ?_ _
  clear hHeld
  go_wp2
  exact bodyPost_ret (v := .tuple #[.int .i64 a, .int .i64 (-d), .bool true]) (by simp [results, Tryd.results12, go_sem]) rfl ⟨rfl, bW⟩
set_option maxRecDepth 100000 in
theorem implReal_no1 (a b c d : Int) (w : World) (ht : Tab w) (h1 : cOk a b c d = false) : Calls Tryd.prog 13 #[cV a b c d] w fun e w' => e = .returned (.tuple #[.int .i64 0, .int .i64 0, .bool false]) ∧ Below w.heap.size w w' := by
  obtain ⟨W, hW, b0, bW, -⟩ := boxed w 24 #[.int .i64 a, .int .i64 b, .int .i64 c, .int .i64 d]
  have t := ht.below bW
  go_enter Tryd.func13, Tryd.ntmps13
  go_wp2_with fail
  clear hW
  obtain ⟨u0, hu0, bb⟩ : ∃ u0, W.drew = u0 ∧ Below W.heap.size W u0 := ⟨_, rfl, (Below.refl _ _).drew⟩
  replace b0 := b0.below bb
  replace t := t.below bb
  replace bW := bW.trans (bb.mono bW.size)
  clear bb
  refine wp_region_held_drew (S := R4q w.heap.size a b c d) (by kernel_rfl) (by rw [hu0]; exact r4q_of b0) (fun hHeld => ?_)
  rw [hu0] at hHeld ⊢
  clear hu0
  change wpAnyH _ _ _ _ _ 9 #[false, false, false, false, false, false, false, false, false] _ _
  refine wpAnyH_take (i := 0) (v := cV a b c d) rfl (by kernel_rfl) (by kernel_rfl) (by kernel_rfl) (fun _ _ _ h => h) (Or.inl ⟨by kernel_rfl, ?_⟩) hHeld ?_
  · intro w' hSw; obtain ⟨z0, z1, z2, z3⟩ := hSw; go_simp
  try simp only [Act.put, List.setIfInBounds_toArray, List.set_cons_zero, List.set_cons_succ, List.getElem_toArray, List.getElem_cons_zero]
  refine wpAnyH_ready (rs := [1]) (by kernel_rfl) (by simp) ?_
  refine AllReadyH.cons rfl (fun KK hK' => ?_) AllReadyH.nil
  go_simp
  refine (implOk_any _ _ _ _ _).mono ?_
  rintro e u1 ⟨rfl, bb⟩
  rw [h1]
  replace b0 := b0.below bb
  replace t := t.below bb
  replace bW := bW.trans (bb.mono bW.size)
  clear bb
  try go_wp2_with fail
  clear hHeld
  refine hK'.out _ _ (r4q_of b0) (fun hHeld => ?_)
  clear hK' KK
  try simp only [List.setIfInBounds_toArray, List.set_cons_zero, List.set_cons_succ]
  refine wpAnyH_take (i := 2) (v := .bool true) rfl (by kernel_rfl) (by kernel_rfl) (by kernel_rfl) (fun _ _ _ h => h) (Or.inl ⟨by kernel_rfl, ?_⟩) hHeld ?_
  · intro w' hSw; go_simp
  try simp only [Act.put, List.setIfInBounds_toArray, List.set_cons_zero, List.set_cons_succ, List.getElem_toArray, List.getElem_cons_succ, List.getElem_cons_zero]
  refine wpAnyH_take (i := 3) (v := .bool true) rfl (by kernel_rfl) (by kernel_rfl) (by kernel_rfl) (fun _ _ _ h => h) (Or.inl ⟨by kernel_rfl, ?_⟩) hHeld ?_
  · intro w' hSw; go_simp
  try simp only [Act.put, List.setIfInBounds_toArray, List.set_cons_zero, List.set_cons_succ, List.getElem_toArray, List.getElem_cons_succ, List.getElem_cons_zero]
  refine wpAnyH_take (i := 4) (v := undef) rfl (by kernel_rfl) (by kernel_rfl) (by kernel_rfl) (fun _ _ _ h => h) (Or.inr ⟨by kernel_rfl, rfl⟩) hHeld ?_
  try simp only [Act.put, List.setIfInBounds_toArray, List.set_cons_zero, List.set_cons_succ, List.getElem_toArray, List.getElem_cons_succ, List.getElem_cons_zero]
  refine wpAnyH_take (i := 5) (v := undef) rfl (by kernel_rfl) (by kernel_rfl) (by kernel_rfl) (fun _ _ _ h => h) (Or.inr ⟨by kernel_rfl, rfl⟩) hHeld ?_
  try simp only [Act.put, List.setIfInBounds_toArray, List.set_cons_zero, List.set_cons_succ, List.getElem_toArray, List.getElem_cons_succ, List.getElem_cons_zero]
  refine wpAnyH_take (i := 6) (v := undef) rfl (by kernel_rfl) (by kernel_rfl) (by kernel_rfl) (fun _ _ _ h => h) (Or.inr ⟨by kernel_rfl, rfl⟩) hHeld ?_
  try simp only [Act.put, List.setIfInBounds_toArray, List.set_cons_zero, List.set_cons_succ, List.getElem_toArray, List.getElem_cons_succ, List.getElem_cons_zero]
  refine wpAnyH_take (i := 7) (v := undef) rfl (by kernel_rfl) (by kernel_rfl) (by kernel_rfl) (fun _ _ _ h => h) (Or.inr ⟨by kernel_rfl, rfl⟩) hHeld ?_
  try simp only [Act.put, List.setIfInBounds_toArray, List.set_cons_zero, List.set_cons_succ, List.getElem_toArray, List.getElem_cons_succ, List.getElem_cons_zero]
  refine wpAnyH_take (i := 8) (v := .bool true) rfl (by kernel_rfl) (by kernel_rfl) (by kernel_rfl) (fun _ _ _ h => h) (Or.inl ⟨by kernel_rfl, ?_⟩) hHeld ?_
  · intro w' hSw; go_simp
  try simp only [Act.put, List.setIfInBounds_toArray, List.set_cons_zero, List.set_cons_succ, List.getElem_toArray, List.getElem_cons_succ, List.getElem_cons_zero]
  refine wpAnyH_done (by kernel_rfl) ?_ _
  clear hHeld
  go_wp2
  exact bodyPost_ret (v := .tuple #[.int .i64 0, .int .i64 0, .bool false]) (by simp [results, Tryd.results13, go_sem]) rfl ⟨rfl, bW⟩
set_option maxRecDepth 100000 in
theorem implReal_no2 (a b c d : Int) (w : World) (ht : Tab w) (h1 : cOk a b c d = true) (h2 : ¬ (c = 0 ∧ b = -2 * d)) : Calls Tryd.prog 13 #[cV a b c d] w fun e w' => e = .returned (.tuple #[.int .i64 0, .int .i64 0, .bool false]) ∧ Below w.heap.size w w' := by
  obtain ⟨W, hW, b0, bW, -⟩ := boxed w 24 #[.int .i64 a, .int .i64 b, .int .i64 c, .int .i64 d]
  have t := ht.below bW
  obtain ⟨p, q, r, s, hs⟩ := conjT_parts a b c d
  have CJ := fun (w : World) (h : Tab w) => implConj_any a b c d w h
  rw [hs] at CJ
  have hne : ¬ (p = a ∧ q = b ∧ r = c ∧ s = d) := fun h => h2 ((conj_own h1 hs).1 h)
  clear hs h2
  go_enter Tryd.func13, Tryd.ntmps13
  go_wp2_with fail
  clear hW
  obtain ⟨u0, hu0, bb⟩ : ∃ u0, W.drew = u0 ∧ Below W.heap.size W u0 := ⟨_, rfl, (Below.refl _ _).drew⟩
  replace b0 := b0.below bb
  replace t := t.below bb
  replace bW := bW.trans (bb.mono bW.size)
  clear bb
  refine wp_region_held_drew (S := R4q w.heap.size a b c d) (by kernel_rfl) (by rw [hu0]; exact r4q_of b0) (fun hHeld => ?_)
  rw [hu0] at hHeld ⊢
  clear hu0
  change wpAnyH _ _ _ _ _ 9 #[false, false, false, false, false, false, false, false, false] _ _
  refine wpAnyH_take (i := 0) (v := cV a b c d) rfl (by kernel_rfl) (by kernel_rfl) (by kernel_rfl) (fun _ _ _ h => h) (Or.inl ⟨by kernel_rfl, ?_⟩) hHeld ?_
  · intro w' hSw; obtain ⟨z0, z1, z2, z3⟩ := hSw; go_simp
  try simp only [Act.put, List.setIfInBounds_toArray, List.set_cons_zero, List.set_cons_succ, List.getElem_toArray, List.getElem_cons_zero]
  refine wpAnyH_ready (rs := [1]) (by kernel_rfl) (by simp) ?_
  refine AllReadyH.cons rfl (fun KK hK' => ?_) AllReadyH.nil
  go_simp
  refine (implOk_any _ _ _ _ _).mono ?_
  rintro e u1 ⟨rfl, bb⟩
  rw [h1]
  replace b0 := b0.below bb
  replace t := t.below bb
  replace bW := bW.trans (bb.mono bW.size)
  clear bb
  try go_wp2_with fail
  clear hHeld
  refine hK'.out _ _ (r4q_of b0) (fun hHeld => ?_)
  clear hK' KK
  try simp only [List.setIfInBounds_toArray, List.set_cons_zero, List.set_cons_succ]
  refine wpAnyH_take (i := 2) (v := .bool false) rfl (by kernel_rfl) (by kernel_rfl) (by kernel_rfl) (fun _ _ _ h => h) (Or.inl ⟨by kernel_rfl, ?_⟩) hHeld ?_
  · intro w' hSw; go_simp
  try simp only [Act.put, List.setIfInBounds_toArray, List.set_cons_zero, List.set_cons_succ, List.getElem_toArray, List.getElem_cons_succ, List.getElem_cons_zero]
  refine wpAnyH_take (i := 3) (v := .bool false) rfl (by kernel_rfl) (by kernel_rfl) (by kernel_rfl) (fun _ _ _ h => h) (Or.inl ⟨by kernel_rfl, ?_⟩) hHeld ?_
  · intro w' hSw; go_simp
  try simp only [Act.put, List.setIfInBounds_toArray, List.set_cons_zero, List.set_cons_succ, List.getElem_toArray, List.getElem_cons_succ, List.getElem_cons_zero]
  refine wpAnyH_take (i := 4) (v := cV a b c d) rfl (by kernel_rfl) (by kernel_rfl) (by kernel_rfl) (fun _ _ _ h => h) (Or.inl ⟨by kernel_rfl, ?_⟩) hHeld ?_
  · intro w' hSw; obtain ⟨z0, z1, z2, z3⟩ := hSw; go_simp
  try simp only [Act.put, List.setIfInBounds_toArray, List.set_cons_zero, List.set_cons_succ, List.getElem_toArray, List.getElem_cons_succ, List.getElem_cons_zero]
  refine wpAnyH_take (i := 6) (v := cV a b c d) rfl (by kernel_rfl) (by kernel_rfl) (by kernel_rfl) (fun _ _ _ h => h) (Or.inl ⟨by kernel_rfl, ?_⟩) hHeld ?_
  · intro w' hSw; obtain ⟨z0, z1, z2, z3⟩ := hSw; go_simp
  try simp only [Act.put, List.setIfInBounds_toArray, List.set_cons_zero, List.set_cons_succ, List.getElem_toArray, List.getElem_cons_succ, List.getElem_cons_zero]
  refine wpAnyH_ready (rs := [5]) (by kernel_rfl) (by simp) ?_
  refine AllReadyH.cons rfl (fun KK hK' => ?_) AllReadyH.nil
  go_simp
  refine (CJ _ t).mono ?_
  rintro e u2 ⟨rfl, bb⟩
  replace b0 := b0.below bb
  replace t := t.below bb
  replace bW := bW.trans (bb.mono bW.size)
  clear bb
  try go_wp2_with fail
  clear hHeld
  refine hK'.out _ _ (r4q_of b0) (fun hHeld => ?_)
  clear hK' KK
  try simp only [List.setIfInBounds_toArray, List.set_cons_zero, List.set_cons_succ]
  refine wpAnyH_take (i := 7) (v := .bool true) rfl (by kernel_rfl) (by kernel_rfl) (by kernel_rfl) (fun _ _ _ h => h) (Or.inl ⟨by kernel_rfl, ?_⟩) hHeld ?_
  · intro w' hSw; go_simp; exact fun x1 x2 x3 x4 => hne ⟨x1, x2, x3, x4⟩
  try simp only [Act.put, List.setIfInBounds_toArray, List.set_cons_zero, List.set_cons_succ, List.getElem_toArray, List.getElem_cons_succ, List.getElem_cons_zero]
  refine wpAnyH_take (i := 8) (v := .bool true) rfl (by kernel_rfl) (by kernel_rfl) (by kernel_rfl) (fun _ _ _ h => h) (Or.inl ⟨by kernel_rfl, ?_⟩) hHeld ?_
  · intro w' hSw; go_simp
  try simp only [Act.put, List.setIfInBounds_toArray, List.set_cons_zero, List.set_cons_succ, List.getElem_toArray, List.getElem_cons_succ, List.getElem_cons_zero]
  refine wpAnyH_done (by kernel_rfl) ?_ _
  clear hHeld
  go_wp2
  exact bodyPost_ret (v := .tuple #[.int .i64 0, .int .i64 0, .bool false]) (by simp [results, Tryd.results13, go_sem]) rfl ⟨rfl, bW⟩
set_option maxRecDepth 100000 in
theorem implReal_yes (a b c d : Int) (w : World) (ht : Tab w) (h1 : cOk a b c d = true) (h2 : c = 0 ∧ b = -2 * d) : Calls Tryd.prog 13 #[cV a b c d] w fun e w' => e = .returned (.tuple #[.int .i64 a, .int .i64 (-d), .bool true]) ∧ Below w.heap.size w w' := by
  obtain ⟨W, hW, b0, bW, -⟩ := boxed w 24 #[.int .i64 a, .int .i64 b, .int .i64 c, .int .i64 d]
  have t := ht.below bW
  obtain ⟨p, q, r, s, hs⟩ := conjT_parts a b c d
  have CJ := fun (w : World) (h : Tab w) => implConj_any a b c d w h
  rw [hs] at CJ
  obtain ⟨e1, e2, e3, e4⟩ := (conj_own h1 hs).2 h2
  rw [e1, e2, e3, e4] at CJ
  obtain ⟨j1, j2, j3, j4⟩ := cOk_in h1
  clear hs h2
  go_enter Tryd.func13, Tryd.ntmps13
  go_wp2_with fail
  clear hW
  obtain ⟨u0, hu0, bb⟩ : ∃ u0, W.drew = u0 ∧ Below W.heap.size W u0 := ⟨_, rfl, (Below.refl _ _).drew⟩
  replace b0 := b0.below bb
  replace t := t.below bb
  replace bW := bW.trans (bb.mono bW.size)
  clear bb
  refine wp_region_held_drew (S := R4q w.heap.size a b c d) (by kernel_rfl) (by rw [hu0]; exact r4q_of b0) (fun hHeld => ?_)
  rw [hu0] at hHeld ⊢
  clear hu0
  change wpAnyH _ _ _ _ _ 9 #[false, false, false, false, false, false, false, false, false] _ _
  refine wpAnyH_take (i := 0) (v := cV a b c d) rfl (by kernel_rfl) (by kernel_rfl) (by kernel_rfl) (fun _ _ _ h => h) (Or.inl ⟨by kernel_rfl, ?_⟩) hHeld ?_
  · intro w' hSw; obtain ⟨z0, z1, z2, z3⟩ := hSw; go_simp
  try simp only [Act.put, List.setIfInBounds_toArray, List.set_cons_zero, List.set_cons_succ, List.getElem_toArray, List.getElem_cons_zero]
  refine wpAnyH_ready (rs := [1]) (by kernel_rfl) (by simp) ?_
  refine AllReadyH.cons rfl (fun KK hK' => ?_) AllReadyH.nil
  go_simp
  refine (implOk_any _ _ _ _ _).mono ?_
  rintro e u1 ⟨rfl, bb⟩
  rw [h1]
  replace b0 := b0.below bb
  replace t := t.below bb
  replace bW := bW.trans (bb.mono bW.size)
  clear bb
  try go_wp2_with fail
  clear hHeld
  refine hK'.out _ _ (r4q_of b0) (fun hHeld => ?_)
  clear hK' KK
  try simp only [List.setIfInBounds_toArray, List.set_cons_zero, List.set_cons_succ]
  refine wpAnyH_take (i := 2) (v := .bool false) rfl (by kernel_rfl) (by kernel_rfl) (by kernel_rfl) (fun _ _ _ h => h) (Or.inl ⟨by kernel_rfl, ?_⟩) hHeld ?_
  · intro w' hSw; go_simp
  try simp only [Act.put, List.setIfInBounds_toArray, List.set_cons_zero, List.set_cons_succ, List.getElem_toArray, List.getElem_cons_succ, List.getElem_cons_zero]
  refine wpAnyH_take (i := 3) (v := .bool false) rfl (by kernel_rfl) (by kernel_rfl) (by kernel_rfl) (fun _ _ _ h => h) (Or.inl ⟨by kernel_rfl, ?_⟩) hHeld ?_
  · intro w' hSw; go_simp
  try simp only [Act.put, List.setIfInBounds_toArray, List.set_cons_zero, List.set_cons_succ, List.getElem_toArray, List.getElem_cons_succ, List.getElem_cons_zero]
  refine wpAnyH_take (i := 4) (v := cV a b c d) rfl (by kernel_rfl) (by kernel_rfl) (by kernel_rfl) (fun _ _ _ h => h) (Or.inl ⟨by kernel_rfl, ?_⟩) hHeld ?_
  · intro w' hSw; obtain ⟨z0, z1, z2, z3⟩ := hSw; go_simp
  try simp only [Act.put, List.setIfInBounds_toArray, List.set_cons_zero, List.set_cons_succ, List.getElem_toArray, List.getElem_cons_succ, List.getElem_cons_zero]
  refine wpAnyH_take (i := 6) (v := cV a b c d) rfl (by kernel_rfl) (by kernel_rfl) (by kernel_rfl) (fun _ _ _ h => h) (Or.inl ⟨by kernel_rfl, ?_⟩) hHeld ?_
  · intro w' hSw; obtain ⟨z0, z1, z2, z3⟩ := hSw; go_simp
  try simp only [Act.put, List.setIfInBounds_toArray, List.set_cons_zero, List.set_cons_succ, List.getElem_toArray, List.getElem_cons_succ, List.getElem_cons_zero]
  refine wpAnyH_ready (rs := [5]) (by kernel_rfl) (by simp) ?_
  refine AllReadyH.cons rfl (fun KK hK' => ?_) AllReadyH.nil
  go_simp
  refine (CJ _ t).mono ?_
  rintro e u2 ⟨rfl, bb⟩
  replace b0 := b0.below bb
  replace t := t.below bb
  replace bW := bW.trans (bb.mono bW.size)
  clear bb
  try go_wp2_with fail
  clear hHeld
  refine hK'.out _ _ (r4q_of b0) (fun hHeld => ?_)
  clear hK' KK
  try simp only [List.setIfInBounds_toArray, List.set_cons_zero, List.set_cons_succ]
  refine wpAnyH_take (i := 7) (v := .bool false) rfl (by kernel_rfl) (by kernel_rfl) (by kernel_rfl) (fun _ _ _ h => h) (Or.inl ⟨by kernel_rfl, ?_⟩) hHeld ?_
  · intro w' hSw; go_simp
  try simp only [Act.put, List.setIfInBounds_toArray, List.set_cons_zero, List.set_cons_succ, List.getElem_toArray, List.getElem_cons_succ, List.getElem_cons_zero]
  refine wpAnyH_take (i := 8) (v := .bool false) rfl (by kernel_rfl) (by kernel_rfl) (by kernel_rfl) (fun _ _ _ h => h) (Or.inl ⟨by kernel_rfl, ?_⟩) hHeld ?_
  · intro w' hSw; go_simp
  try simp only [Act.put, List.setIfInBounds_toArray, List.set_cons_zero, List.set_cons_succ, List.getElem_toArray, List.getElem_cons_succ, List.getElem_cons_zero]
  refine wpAnyH_done (by kernel_rfl) ?_ _
  clear hHeld
  go_wp2_with fail
  have hw : IntKind.i64.wrap (-d) = -d := by rw [IntKind.wrap_i64]; omega
  obtain ⟨u0, hu0, bb⟩ : ∃ u0, u2.drew = u0 ∧ Below u2.heap.size u2 u0 := ⟨_, rfl, (Below.refl _ _).drew⟩
  replace b0 := b0.below bb
  replace bW := bW.trans (bb.mono bW.size)
  clear bb
  refine wp_region_held_drew (S := R4q w.heap.size a b c d) (by kernel_rfl) (by rw [hu0]; exact r4q_of b0) (fun hHeld => ?_)
  rw [hu0] at hHeld ⊢
  clear hu0
  change wpAnyH _ _ _ _ _ 8 #[false, false, false, false, false, false, false, false] _ _
  refine wpAnyH_take (i := 0) (v := .pointer (some ⟨w.heap.size, 0, none⟩)) rfl (by kernel_rfl) (by kernel_rfl) (by kernel_rfl) (fun _ _ _ h => h) (Or.inl ⟨by kernel_rfl, ?_⟩) hHeld ?_
  · intro w' hSw; go_simp
  try simp only [Act.put, List.setIfInBounds_toArray, List.set_cons_zero, List.set_cons_succ, List.getElem_toArray, List.getElem_cons_zero]
  refine wpAnyH_take (i := 1) (v := .int .i64 a) rfl (by kernel_rfl) (by kernel_rfl) (by kernel_rfl) (fun _ _ _ h => h) (Or.inl ⟨by kernel_rfl, ?_⟩) hHeld ?_
  · intro w' hSw; obtain ⟨z0, z1, z2, z3⟩ := hSw; go_simp
  try simp only [Act.put, List.setIfInBounds_toArray, List.set_cons_zero, List.set_cons_succ, List.getElem_toArray, List.getElem_cons_succ, List.getElem_cons_zero]
  refine wpAnyH_take (i := 2) (v := .pointer (some ⟨w.heap.size, 3, none⟩)) rfl (by kernel_rfl) (by kernel_rfl) (by kernel_rfl) (fun _ _ _ h => h) (Or.inl ⟨by kernel_rfl, ?_⟩) hHeld ?_
  · intro w' hSw; go_simp
  try simp only [Act.put, List.setIfInBounds_toArray, List.set_cons_zero, List.set_cons_succ, List.getElem_toArray, List.getElem_cons_succ, List.getElem_cons_zero]
  refine wpAnyH_take (i := 3) (v := .int .i64 d) rfl (by kernel_rfl) (by kernel_rfl) (by kernel_rfl) (fun _ _ _ h => h) (Or.inl ⟨by kernel_rfl, ?_⟩) hHeld ?_
  · intro w' hSw; obtain ⟨z0, z1, z2, z3⟩ := hSw; go_simp
  try simp only [Act.put, List.setIfInBounds_toArray, List.set_cons_zero, List.set_cons_succ, List.getElem_toArray, List.getElem_cons_succ, List.getElem_cons_zero]
  refine wpAnyH_take (i := 4) (v := .int .i64 (-d)) rfl (by kernel_rfl) (by kernel_rfl) (by kernel_rfl) (fun _ _ _ h => h) (Or.inl ⟨by kernel_rfl, ?_⟩) hHeld ?_
  · intro w' hSw; go_simp
  try simp only [Act.put, List.setIfInBounds_toArray, List.set_cons_zero, List.set_cons_succ, List.getElem_toArray, List.getElem_cons_succ, List.getElem_cons_zero]
  refine wpAnyH_take (i := 5) (v := .int .i64 a) rfl (by kernel_rfl) (by kernel_rfl) (by kernel_rfl) (fun _ _ _ h => h) (Or.inl ⟨by kernel_rfl, ?_⟩) hHeld ?_
  · intro w' hSw; go_simp
  try simp only [Act.put, List.setIfInBounds_toArray, List.set_cons_zero, List.set_cons_succ, List.getElem_toArray, List.getElem_cons_succ, List.getElem_cons_zero]
  refine wpAnyH_take (i := 6) (v := .int .i64 (-d)) rfl (by kernel_rfl) (by kernel_rfl) (by kernel_rfl) (fun _ _ _ h => h) (Or.inl ⟨by kernel_rfl, ?_⟩) hHeld ?_
  · intro w' hSw; go_simp
  try simp only [Act.put, List.setIfInBounds_toArray, List.set_cons_zero, List.set_cons_succ, List.getElem_toArray, List.getElem_cons_succ, List.getElem_cons_zero]
  refine wpAnyH_ready (rs := [7]) (by kernel_rfl) (by simp) ?_
  refine AllReadyH.cons rfl (fun KK hK' => ?_) AllReadyH.nil
  go_simp
  clear hHeld
  refine hK'.out _ _ (r4q_of b0) (fun hHeld => ?_)
  clear hK' KK
  try simp only [List.setIfInBounds_toArray, List.set_cons_zero, List.set_cons_succ]
  refine wpAnyH_done (by kernel_rfl) ?_ _
  clear hHeld
  go_wp2
  exact bodyPost_ret (v := .tuple #[.int .i64 a, .int .i64 (-d), .bool true]) (by simp [results, Tryd.results13, go_sem]) rfl ⟨rfl, bW⟩
set_option maxRecDepth 100000 in
theorem specReal_no (a b c d : Int) (w : World) (h : ¬ (cOk a b c d = true ∧ c = 0 ∧ b = -2 * d)) : Calls Tryd.prog 12 #[cV a b c d] w fun e w' => e = .returned (.tuple #[.int .i64 0, .int .i64 0, .bool false]) ∧ Below w.heap.size w w' := by
  obtain ⟨W, hW, b0, bW, -⟩ := boxed w 24 #[.int .i64 a, .int .i64 b, .int .i64 c, .int .i64 d]
  obtain ⟨c0, c1, c2, c3, -⟩ := b0.open4
  cases h1 : cOk a b c d
  · clear h
    go_enter Tryd.func12, Tryd.ntmps12
    go_wp2_with (go_at_call 31; refine (specOk_any _ _ _ _ _).mono ?_; rintro e w2 ⟨rfl, hb2⟩; rw [h1]; clear c0 c1 c2 c3; replace b0 := b0.below hb2; replace bW := bW.trans (hb2.mono bW.size); obtain ⟨c0, c1, c2, c3, -⟩ := b0.open4; clear hb2)
    exact bodyPost_ret (v := .tuple #[.int .i64 0, .int .i64 0, .bool false]) (by simp [results, Tryd.results12, go_sem]) rfl ⟨rfl, bW⟩
  · obtain ⟨j1, j2, j3, j4⟩ := cOk_in h1
    by_cases hc : c = 0
    · have hb : ¬ b = -2 * d := fun e => h ⟨h1, hc, e⟩
      have hb' : (b != -2 * d) = true := by simp only [bne_iff_ne]; exact hb
      have hc' : (c != 0) = false := by simp [hc]
      have r1 : -2000000000000 ≤ -2 * d ∧ -2 * d ≤ 2000000000000 := by omega
      clear h hc
      generalize hg : -2 * d = g at *
      go_enter Tryd.func12, Tryd.ntmps12
      go_wp2_with (go_at_call 31; refine (specOk_any _ _ _ _ _).mono ?_; rintro e w2 ⟨rfl, hb2⟩; rw [h1]; clear c0 c1 c2 c3; replace b0 := b0.below hb2; replace bW := bW.trans (hb2.mono bW.size); obtain ⟨c0, c1, c2, c3, -⟩ := b0.open4; clear hb2)
      all_goals first
        | exact absurd ‹_› hb
        | exact bodyPost_ret (v := .tuple #[.int .i64 0, .int .i64 0, .bool false]) (by simp [results, Tryd.results12, go_sem]) rfl ⟨rfl, bW⟩
    · have hc' : (c != 0) = true := by simp [hc]
      clear h
      go_enter Tryd.func12, Tryd.ntmps12
      go_wp2_with (go_at_call 31; refine (specOk_any _ _ _ _ _).mono ?_; rintro e w2 ⟨rfl, hb2⟩; rw [h1]; clear c0 c1 c2 c3; replace b0 := b0.below hb2; replace bW := bW.trans (hb2.mono bW.size); obtain ⟨c0, c1, c2, c3, -⟩ := b0.open4; clear hb2)
      exact bodyPost_ret (v := .tuple #[.int .i64 0, .int .i64 0, .bool false]) (by simp [results, Tryd.results12, go_sem]) rfl ⟨rfl, bW⟩
theorem real_some (a b c d : Int) : ∃ (p q : Int) (v : Bool), (∀ w, Calls Tryd.prog 12 #[cV a b c d] w fun e w' => e = .returned (.tuple #[.int .i64 p, .int .i64 q, .bool v]) ∧ Below w.heap.size w w') ∧ (∀ w, Tab w → Calls Tryd.prog 13 #[cV a b c d] w fun e w' => e = .returned (.tuple #[.int .i64 p, .int .i64 q, .bool v]) ∧ Below w.heap.size w w') := by
  cases h1 : cOk a b c d
  · exact ⟨0, 0, false, fun w => specReal_no a b c d w (by simp [h1]), fun w t => implReal_no1 a b c d w t h1⟩
  · by_cases h2 : c = 0 ∧ b = -2 * d
    · exact ⟨a, -d, true, fun w => specReal_yes a b c d w h1 h2.1 h2.2, fun w t => implReal_yes a b c d w t h1 h2⟩
    · exact ⟨0, 0, false, fun w => specReal_no a b c d w (fun h => h2 h.2), fun w t => implReal_no2 a b c d w t h1 h2⟩
set_option maxRecDepth 100000 in
theorem exactCycReal_walk (a b c d : Int) (w : World) (ht : Tab w) : Calls Tryd.prog 4 #[cV a b c d] w fun e w' => e = .returned (.bool true) ∧ Below w.heap.size w w' := by
  obtain ⟨p, q, v, SP, IM⟩ := real_some a b c d
  obtain ⟨W, hW, b0, bW, -⟩ := boxed w 23 #[.int .i64 a, .int .i64 b, .int .i64 c, .int .i64 d]
  have t := ht.below bW
  have k1 : (p != p) = false := by simp
  have k2 : (q != q) = false := by simp
  have k3 : (v != v) = false := by simp
  go_enter Tryd.func4, Tryd.ntmps4
  obtain ⟨c0, c1, c2, c3, -⟩ := b0.open4
  go_wp2_with fail
  refine (toCyc_any _ _ _ _ _).mono ?_
  rintro e w2 ⟨rfl, hb2⟩
  replace b0 := b0.below hb2
  replace t := t.below hb2
  replace bW := bW.trans (hb2.mono bW.size)
  clear c0 c1 c2 c3 hb2 hW
  go_wp2_with fail
  refine (SP _).mono ?_
  rintro e w3 ⟨rfl, hb3⟩
  replace b0 := b0.below hb3
  replace t := t.below hb3
  replace bW := bW.trans (hb3.mono bW.size)
  clear hb3
  obtain ⟨c0, c1, c2, c3, -⟩ := b0.open4
  go_wp2_with fail
  refine (toCyc_any _ _ _ _ _).mono ?_
  rintro e w4 ⟨rfl, hb4⟩
  replace t := t.below hb4
  replace bW := bW.trans (hb4.mono bW.size)
  clear c0 c1 c2 c3 hb4 b0
  go_wp2_with fail
  refine (IM _ t).mono ?_
  rintro e w5 ⟨rfl, hb5⟩
  replace bW := bW.trans (hb5.mono bW.size)
  clear hb5 SP IM t
  go_wp2
  go_ret
  exact ⟨rfl, bW⟩
end Go.Proofs.YtedchpohbhmjhabDoor
