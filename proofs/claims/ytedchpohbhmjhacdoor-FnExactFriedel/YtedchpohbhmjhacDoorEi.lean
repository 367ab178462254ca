/-
  Friedel's law by the program and by the specification: walked.
-/
import Derived.Test.YtedchpohbhmjhacDoorEh
import Derived.Test.YtedchpohbhmjhacDoorCo
namespace Go.Proofs.YtedchpohbhmjhacDoor
open Go.RowKit

theorem opposite_any (a b c : Int) (w : World) (ha : is64 (-a)) (hb : is64 (-b)) (hc : is64 (-c)) : Calls Tryd.prog 37 #[hV a b c] w fun e w' => e = .returned (hV (-a) (-b) (-c)) ∧ Below w.heap.size w w' := by
  obtain ⟨a1, a2⟩ := ha
  obtain ⟨b1, b2⟩ := hb
  obtain ⟨c1, c2⟩ := hc
  go_enter Tryd.func37, Tryd.ntmps37
  go_wp2
  exact bodyPost_ret (v := hV (-a) (-b) (-c)) (by simp [results, Tryd.results37, go_sem]) rfl ⟨rfl, (below_alloc _ _).trans ((below_alloc _ _).mono (by simp))⟩
/-- The opposite is in range as the reflection is, and its powers are the opposite ones. -/
theorem hOk_neg (h k l : Int) : hOk (-h) (-k) (-l) = hOk h k l := by
  rw [Bool.eq_iff_iff]
  simp only [hOk, Bool.and_eq_true, decide_eq_true_eq]
  omega
theorem pw_neg (f : Nat → Int) (h k l : Int) (j : Nat) : (pw f h k l j + pw f (-h) (-k) (-l) j) % 12 = 0 := by
  unfold pw
  simp only [Int.neg_mul]
  generalize h * f (j * 4) = x
  generalize k * f (j * 4 + 1) = y
  generalize l * f (j * 4 + 2) = z
  omega
theorem es_neg (f : Nat → Int) (h k l : Int) (n : Nat) : es (amt f) (pw f (-h) (-k) (-l)) 0 n = es (amt f) (pw f h k l) 0 n + es (amt f) (pw f h k l) 2 n ∧ es (amt f) (pw f (-h) (-k) (-l)) 1 n = es (amt f) (pw f h k l) 1 n ∧ es (amt f) (pw f (-h) (-k) (-l)) 2 n = -es (amt f) (pw f h k l) 2 n ∧ es (amt f) (pw f (-h) (-k) (-l)) 3 n = -es (amt f) (pw f h k l) 1 n - es (amt f) (pw f h k l) 3 n :=
  es_conj _ _ _ _ fun _ _ => ⟨pw_lt _ _ _ _ _, pw_lt _ _ _ _ _, pw_neg _ _ _ _ _⟩
/-- The structure factor's conjugate. -/
theorem conj_es {f : Nat → Int} {n : Nat} (h k l : Int) (hok : AOk n f) : conjT (es (amt f) (pw f h k l) 0 n) (es (amt f) (pw f h k l) 1 n) (es (amt f) (pw f h k l) 2 n) (es (amt f) (pw f h k l) 3 n) = cV (es (amt f) (pw f (-h) (-k) (-l)) 0 n) (es (amt f) (pw f (-h) (-k) (-l)) 1 n) (es (amt f) (pw f (-h) (-k) (-l)) 2 n) (es (amt f) (pw f (-h) (-k) (-l)) 3 n) := by
  obtain ⟨e0, e1, e2, e3⟩ := es_neg f h k l n
  have hn := hok.1
  have B := fun i (hi : i < 4) => es_num (B := 1000) (amt f) (pw f h k l) i hi n (fun i _ => pw_lt f h k l i) (fun i hi => (aOk_in (hok.2 i hi)).2.2.2)
  have b0 := B 0 (by decide)
  have b1 := B 1 (by decide)
  have b2 := B 2 (by decide)
  have b3 := B 3 (by decide)
  rw [e0, e1, e2, e3]
  unfold conjT
  rw [if_pos]
  simp only [cOk, Bool.and_eq_true, decide_eq_true_eq]
  unfold inC
  omega
/-- The cells of two boxes of four. -/
def Rr (q p : Nat) (x0 x1 x2 x3 y0 y1 y2 y3 : Int) (w : World) : Prop :=
  w.cell? ⟨q, 0, none⟩ = some (.int .i64 x0) ∧ w.cell? ⟨q, 1, none⟩ = some (.int .i64 x1) ∧ w.cell? ⟨q, 2, none⟩ = some (.int .i64 x2) ∧ w.cell? ⟨q, 3, none⟩ = some (.int .i64 x3) ∧ w.cell? ⟨p, 0, none⟩ = some (.int .i64 y0) ∧ w.cell? ⟨p, 1, none⟩ = some (.int .i64 y1) ∧ w.cell? ⟨p, 2, none⟩ = some (.int .i64 y2) ∧ w.cell? ⟨p, 3, none⟩ = some (.int .i64 y3)
theorem rr_of {t u : TypeId} {w : World} {q p : Nat} {x0 x1 x2 x3 y0 y1 y2 y3 : Int} (a : At t w q #[.int .i64 x0, .int .i64 x1, .int .i64 x2, .int .i64 x3]) (b : At u w p #[.int .i64 y0, .int .i64 y1, .int .i64 y2, .int .i64 y3]) : Rr q p x0 x1 x2 x3 y0 y1 y2 y3 w := by
  obtain ⟨a0, a1, a2, a3, -⟩ := a.open4
  obtain ⟨b0, b1, b2, b3, -⟩ := b.open4
  exact ⟨a0, a1, a2, a3, b0, b1, b2, b3⟩
set_option maxRecDepth 100000 in
set_option maxHeartbeats 1600000 in
theorem implFriedel_no {w : World} {g n c : Nat} {f : Nat → Int} (h k l : Int) (hq : Quads w g n f) (hn : n ≤ 1048576) (ht : Tab w) (b : Bool) (hb : b = true ↔ AOk n f) (hno : (b && hOk h k l) = false) :
    Calls Tryd.prog 17 #[.slice (some ⟨g, 0, none⟩) n c, hV h k l] w fun e w' => e = .returned (.bool false) ∧ Below w.heap.size w w' := by
  obtain ⟨W, hW, b0, bW, -⟩ := boxed w 32 #[.int .i64 h, .int .i64 k, .int .i64 l]
  obtain ⟨e0, e1, e2, -⟩ := b0.open3
  have I := fun (w' : World) (L : Quads w' g n f) (t : Tab w') => implExact_no (c := c) h k l L hn t b hb hno
  clear hb hno
  go_enter Tryd.func17, Tryd.ntmps17
  go_wp2_with fail
  refine (I _ (hq.below bW) (ht.below bW)).mono ?_
  rintro e w2 ⟨rfl, b2⟩
  replace bW := bW.trans (b2.mono bW.size)
  clear hq ht I b0 e0 e1 e2 b2 hW
  go_wp2
  go_ret
  exact ⟨rfl, bW.trans ((below_alloc _ _).mono bW.size)⟩
set_option maxRecDepth 100000 in
set_option maxHeartbeats 1600000 in
theorem implFriedel_yes {w : World} {g n c : Nat} {f : Nat → Int} (h k l : Int) (hq : Quads w g n f) (ht : Tab w) (hok : AOk n f) (hh : hOk h k l = true) :
    Calls Tryd.prog 17 #[.slice (some ⟨g, 0, none⟩) n c, hV h k l] w fun e w' => e = .returned (.bool true) ∧ Below w.heap.size w w' := by
  obtain ⟨i1, i2, i3⟩ := hOk_in hh
  obtain ⟨W, hW, b0, bW, -⟩ := boxed w 32 #[.int .i64 h, .int .i64 k, .int .i64 l]
  obtain ⟨e0, e1, e2, -⟩ := b0.open3
  have I := fun (w' : World) (L : Quads w' g n f) (t : Tab w') => implExact_yes (c := c) h k l L t hok hh
  have J := fun (w' : World) (L : Quads w' g n f) (t : Tab w') => implExact_yes (c := c) (-h) (-k) (-l) L t hok ((hOk_neg h k l).trans hh)
  have C := fun (w' : World) (t : Tab w') => implConj_any (es (amt f) (pw f h k l) 0 n) (es (amt f) (pw f h k l) 1 n) (es (amt f) (pw f h k l) 2 n) (es (amt f) (pw f h k l) 3 n) w' t
  rw [conj_es h k l hok] at C
  generalize es (amt f) (pw f h k l) 0 n = x0 at *
  generalize es (amt f) (pw f h k l) 1 n = x1 at *
  generalize es (amt f) (pw f h k l) 2 n = x2 at *
  generalize es (amt f) (pw f h k l) 3 n = x3 at *
  generalize es (amt f) (pw f (-h) (-k) (-l)) 0 n = y0 at *
  generalize es (amt f) (pw f (-h) (-k) (-l)) 1 n = y1 at *
  generalize es (amt f) (pw f (-h) (-k) (-l)) 2 n = y2 at *
  generalize es (amt f) (pw f (-h) (-k) (-l)) 3 n = y3 at *
  have L := hq.below bW
  have t := ht.below bW
  clear hok hh hq ht
  go_enter Tryd.func17, Tryd.ntmps17
  go_wp2_with fail
  refine (I _ L t).mono ?_
  rintro e w2 ⟨rfl, b2⟩
  replace L := L.below b2
  replace t := t.below b2
  replace b0 := b0.below b2
  replace bW := bW.trans (b2.mono bW.size)
  have lb := b0.lt
  clear I e0 e1 e2 b2 hW
  obtain ⟨e0, e1, e2, -⟩ := b0.open3
  go_wp2_with fail
  obtain ⟨V, hV, s0, bV, -⟩ := boxed w2 38 #[.int .i64 x0, .int .i64 x1, .int .i64 x2, .int .i64 x3]
  rw [hV]
  replace L := L.below bV
  replace t := t.below bV
  replace bW := bW.trans (bV.mono bW.size)
  clear e0 e1 e2 hV bV lb b0
  refine (opposite_any h k l _ ⟨by omega, by omega⟩ ⟨by omega, by omega⟩ ⟨by omega, by omega⟩).mono ?_
  rintro e w3 ⟨rfl, b3⟩
  replace L := L.below b3
  replace t := t.below b3
  replace s0 := s0.below b3
  replace bW := bW.trans (b3.mono bW.size)
  clear b3
  go_wp2_with fail
  refine (J _ L t).mono ?_
  rintro e w4 ⟨rfl, b4⟩
  replace t := t.below b4
  replace s0 := s0.below b4
  replace bW := bW.trans (b4.mono bW.size)
  clear b4 J L
  have ls := s0.lt
  obtain ⟨e0, e1, e2, e3, -⟩ := s0.open4
  go_wp2_with fail
  obtain ⟨V4, hV4, o0, bV4, -⟩ := boxed w4 38 #[.int .i64 y0, .int .i64 y1, .int .i64 y2, .int .i64 y3]
  rw [hV4]
  replace s0 := s0.below bV4
  replace t := t.below bV4
  replace bW := bW.trans (bV4.mono bW.size)
  clear hV4 bV4 e0 e1 e2 e3
  obtain ⟨u0, hu0, bb⟩ : ∃ u0, V4.drew = u0 ∧ Below V4.heap.size V4 u0 := ⟨_, rfl, (Below.refl _ _).drew⟩
  replace s0 := s0.below bb
  replace o0 := o0.below bb
  replace t := t.below bb
  replace bW := bW.trans (bb.mono bW.size)
  clear bb
  refine wp_region_held_drew (S := Rr w2.heap.size w4.heap.size x0 x1 x2 x3 y0 y1 y2 y3) (by kernel_rfl) (by rw [hu0]; exact rr_of s0 o0) (fun hHeld => ?_)
  rw [hu0] at hHeld ⊢
  clear hu0
  change wpAnyH _ _ _ _ _ 8 #[false, false, false, false, false, false, false, false] _ _
  refine wpAnyH_take (i := 0) (v := .bool true) rfl (by kernel_rfl) (by kernel_rfl) (by kernel_rfl) (fun _ _ _ h => h) (Or.inl ⟨by kernel_rfl, ?_⟩) hHeld ?_
  · intro w' hSw; go_simp
  try simp only [Act.put, List.setIfInBounds_toArray, List.set_cons_zero, List.set_cons_succ, List.getElem_toArray, List.getElem_cons_zero]
  refine wpAnyH_take (i := 1) (v := .bool true) rfl (by kernel_rfl) (by kernel_rfl) (by kernel_rfl) (fun _ _ _ h => h) (Or.inl ⟨by kernel_rfl, ?_⟩) hHeld ?_
  · intro w' hSw; go_simp
  try simp only [Act.put, List.setIfInBounds_toArray, List.set_cons_zero, List.set_cons_succ, List.getElem_toArray, List.getElem_cons_succ, List.getElem_cons_zero]
  refine wpAnyH_take (i := 2) (v := cV y0 y1 y2 y3) rfl (by kernel_rfl) (by kernel_rfl) (by kernel_rfl) (fun _ _ _ h => h) (Or.inl ⟨by kernel_rfl, ?_⟩) hHeld ?_
  · intro w' hSw; obtain ⟨-, -, -, -, z0, z1, z2, z3⟩ := hSw; go_simp
  try simp only [Act.put, List.setIfInBounds_toArray, List.set_cons_zero, List.set_cons_succ, List.getElem_toArray, List.getElem_cons_succ, List.getElem_cons_zero]
  refine wpAnyH_take (i := 3) (v := cV x0 x1 x2 x3) rfl (by kernel_rfl) (by kernel_rfl) (by kernel_rfl) (fun _ _ _ h => h) (Or.inl ⟨by kernel_rfl, ?_⟩) hHeld ?_
  · intro w' hSw; obtain ⟨z0, z1, z2, z3, -⟩ := hSw; go_simp
  try simp only [Act.put, List.setIfInBounds_toArray, List.set_cons_zero, List.set_cons_succ, List.getElem_toArray, List.getElem_cons_succ, List.getElem_cons_zero]
  refine wpAnyH_ready (rs := [4]) (by kernel_rfl) (by simp) ?_
  refine AllReadyH.cons rfl (fun KK hK' => ?_) AllReadyH.nil
  go_simp
  refine (C _ t).mono ?_
  rintro e u1 ⟨rfl, bb⟩
  replace s0 := s0.below bb
  replace o0 := o0.below bb
  replace bW := bW.trans (bb.mono bW.size)
  clear bb C
  try go_wp2_with fail
  clear hHeld
  refine hK'.out _ _ (rr_of s0 o0) (fun hHeld => ?_)
  clear hK' KK
  try simp only [List.setIfInBounds_toArray, List.set_cons_zero, List.set_cons_succ]
  refine wpAnyH_take (i := 5) (v := .bool true) rfl (by kernel_rfl) (by kernel_rfl) (by kernel_rfl) (fun _ _ _ h => h) (Or.inl ⟨by kernel_rfl, ?_⟩) hHeld ?_
  · intro w' hSw; go_simp
  try simp only [Act.put, List.setIfInBounds_toArray, List.set_cons_zero, List.set_cons_succ, List.getElem_toArray, List.getElem_cons_succ, List.getElem_cons_zero]
  refine wpAnyH_take (i := 6) (v := .bool true) rfl (by kernel_rfl) (by kernel_rfl) (by kernel_rfl) (fun _ _ _ h => h) (Or.inl ⟨by kernel_rfl, ?_⟩) hHeld ?_
  · intro w' hSw; go_simp
  try simp only [Act.put, List.setIfInBounds_toArray, List.set_cons_zero, List.set_cons_succ, List.getElem_toArray, List.getElem_cons_succ, List.getElem_cons_zero]
  refine wpAnyH_ready (rs := [7]) (by kernel_rfl) (by simp) ?_
  refine AllReadyH.cons rfl (fun KK hK' => ?_) AllReadyH.nil
  go_simp
  clear hHeld
  refine hK'.out _ _ (rr_of s0 o0) (fun hHeld => ?_)
  clear hK' KK
  try simp only [List.setIfInBounds_toArray, List.set_cons_zero, List.set_cons_succ]
  refine wpAnyH_done (by kernel_rfl) ?_ _
  clear hHeld
  go_wp2
  go_ret
  exact ⟨rfl, bW⟩
set_option maxRecDepth 100000 in
set_option maxHeartbeats 1600000 in
theorem specFriedel_no {w : World} {g n c : Nat} {f : Nat → Int} (h k l : Int) (hq : Quads w g n f) (hn : n ≤ 1048576) (b : Bool) (hb : b = true ↔ AOk n f) (hno : (b && hOk h k l) = false) :
    Calls Tryd.prog 16 #[.slice (some ⟨g, 0, none⟩) n c, hV h k l] w fun e w' => e = .returned (.bool false) ∧ Below w.heap.size w w' := by
  obtain ⟨W, hW, b0, bW, -⟩ := boxed w 32 #[.int .i64 h, .int .i64 k, .int .i64 l]
  obtain ⟨e0, e1, e2, -⟩ := b0.open3
  have I := fun (w' : World) (L : Quads w' g n f) => specExact_no (c := c) h k l L hn b hb hno
  clear hb hno
  have L := hq.below bW
  go_enter Tryd.func16, Tryd.ntmps16
  go_wp2_with fail
  refine (I _ L).mono ?_
  rintro e w2 ⟨rfl, b2⟩
  replace L := L.below b2
  replace b0 := b0.below b2
  replace bW := bW.trans (b2.mono bW.size)
  have lb := b0.lt
  clear I e0 e1 e2 b2 hW
  obtain ⟨e0, e1, e2, -⟩ := b0.open3
  go_wp2_with fail
  obtain ⟨V, hV, s0, bV, -⟩ := boxed w2 38 #[.int .i64 0, .int .i64 0, .int .i64 0, .int .i64 0]
  rw [hV]
  replace L := L.below bV
  replace bW := bW.trans (bV.mono bW.size)
  obtain ⟨p0, q0, r0, v0, vb, SP, -⟩ := told_some (n := n) (f := f) (wrap64 (-h)) (wrap64 (-k)) (wrap64 (-l)) hn
  clear e0 e1 e2 hV bV lb b0
  refine (SP _ _ _ L).mono ?_
  rintro e w3 ⟨rfl, b3⟩
  replace bW := bW.trans (b3.mono bW.size)
  clear b3 SP L s0
  go_wp2_with fail
  obtain ⟨V4, hV4, o0, bV4, -⟩ := boxed w3 38 #[.int .i64 p0, .int .i64 q0, .int .i64 r0, .int .i64 v0]
  rw [hV4]
  replace bW := bW.trans (bV4.mono bW.size)
  clear hV4 bV4 o0
  obtain ⟨u0, hu0, bb⟩ : ∃ u0, V4.drew = u0 ∧ Below V4.heap.size V4 u0 := ⟨_, rfl, (Below.refl _ _).drew⟩
  replace bW := bW.trans (bb.mono bW.size)
  clear bb
  refine wp_region_held_drew (S := fun _ => True) (by kernel_rfl) True.intro (fun hHeld => ?_)
  rw [hu0]
  clear hu0
  change wpAnyH _ _ _ _ _ 11 #[false, false, false, false, false, false, false, false, false, false, false] _ _
  refine wpAnyH_take (i := 0) (v := .bool false) rfl (by kernel_rfl) (by kernel_rfl) (by kernel_rfl) (fun _ _ _ h => h) (Or.inl ⟨by kernel_rfl, ?_⟩) hHeld ?_
  · intro w' hSw; go_simp
  try simp only [Act.put, List.setIfInBounds_toArray, List.set_cons_zero, List.set_cons_succ, List.getElem_toArray, List.getElem_cons_zero]
  refine wpAnyH_take (i := 1) (v := .bool false) rfl (by kernel_rfl) (by kernel_rfl) (by kernel_rfl) (fun _ _ _ h => h) (Or.inl ⟨by kernel_rfl, ?_⟩) hHeld ?_
  · intro w' hSw; go_simp
  try simp only [Act.put, List.setIfInBounds_toArray, List.set_cons_zero, List.set_cons_succ, List.getElem_toArray, List.getElem_cons_succ, List.getElem_cons_zero]
  refine wpAnyH_take (i := 2) (v := undef) rfl (by kernel_rfl) (by kernel_rfl) (by kernel_rfl) (fun _ _ _ h => h) (Or.inr ⟨by kernel_rfl, rfl⟩) hHeld ?_
  try simp only [Act.put, List.setIfInBounds_toArray, List.set_cons_zero, List.set_cons_succ, List.getElem_toArray, List.getElem_cons_succ, List.getElem_cons_zero]
  refine wpAnyH_take (i := 3) (v := .bool false) rfl (by kernel_rfl) (by kernel_rfl) (by kernel_rfl) (fun _ _ _ h => h) (Or.inl ⟨by kernel_rfl, ?_⟩) hHeld ?_
  · intro w' hSw; go_simp
  try simp only [Act.put, List.setIfInBounds_toArray, List.set_cons_zero, List.set_cons_succ, List.getElem_toArray, List.getElem_cons_succ, List.getElem_cons_zero]
  refine wpAnyH_take (i := 4) (v := .bool false) rfl (by kernel_rfl) (by kernel_rfl) (by kernel_rfl) (fun _ _ _ h => h) (Or.inl ⟨by kernel_rfl, ?_⟩) hHeld ?_
  · intro w' hSw; go_simp
  try simp only [Act.put, List.setIfInBounds_toArray, List.set_cons_zero, List.set_cons_succ, List.getElem_toArray, List.getElem_cons_succ, List.getElem_cons_zero]
  refine wpAnyH_take (i := 5) (v := undef) rfl (by kernel_rfl) (by kernel_rfl) (by kernel_rfl) (fun _ _ _ h => h) (Or.inr ⟨by kernel_rfl, rfl⟩) hHeld ?_
  try simp only [Act.put, List.setIfInBounds_toArray, List.set_cons_zero, List.set_cons_succ, List.getElem_toArray, List.getElem_cons_succ, List.getElem_cons_zero]
  refine wpAnyH_take (i := 6) (v := undef) rfl (by kernel_rfl) (by kernel_rfl) (by kernel_rfl) (fun _ _ _ h => h) (Or.inr ⟨by kernel_rfl, rfl⟩) hHeld ?_
  try simp only [Act.put, List.setIfInBounds_toArray, List.set_cons_zero, List.set_cons_succ, List.getElem_toArray, List.getElem_cons_succ, List.getElem_cons_zero]
  refine wpAnyH_take (i := 7) (v := undef) rfl (by kernel_rfl) (by kernel_rfl) (by kernel_rfl) (fun _ _ _ h => h) (Or.inr ⟨by kernel_rfl, rfl⟩) hHeld ?_
  try simp only [Act.put, List.setIfInBounds_toArray, List.set_cons_zero, List.set_cons_succ, List.getElem_toArray, List.getElem_cons_succ, List.getElem_cons_zero]
  refine wpAnyH_take (i := 8) (v := undef) rfl (by kernel_rfl) (by kernel_rfl) (by kernel_rfl) (fun _ _ _ h => h) (Or.inr ⟨by kernel_rfl, rfl⟩) hHeld ?_
  try simp only [Act.put, List.setIfInBounds_toArray, List.set_cons_zero, List.set_cons_succ, List.getElem_toArray, List.getElem_cons_succ, List.getElem_cons_zero]
  refine wpAnyH_take (i := 9) (v := .bool false) rfl (by kernel_rfl) (by kernel_rfl) (by kernel_rfl) (fun _ _ _ h => h) (Or.inl ⟨by kernel_rfl, ?_⟩) hHeld ?_
  · intro w' hSw; go_simp
  try simp only [Act.put, List.setIfInBounds_toArray, List.set_cons_zero, List.set_cons_succ, List.getElem_toArray, List.getElem_cons_succ, List.getElem_cons_zero]
  refine wpAnyH_ready (rs := [10]) (by kernel_rfl) (by simp) ?_
  refine AllReadyH.cons rfl (fun KK hK' => ?_) AllReadyH.nil
  go_simp
  clear hHeld
  refine hK'.out _ _ (True.intro) (fun hHeld => ?_)
  clear hK' KK
  try simp only [List.setIfInBounds_toArray, List.set_cons_zero, List.set_cons_succ]
  refine wpAnyH_done (by kernel_rfl) ?_ _
  clear hHeld
  go_wp2
  go_ret
  exact ⟨rfl, bW⟩
set_option maxRecDepth 100000 in
set_option maxHeartbeats 1600000 in
theorem specFriedel_yes {w : World} {g n c : Nat} {f : Nat → Int} (h k l : Int) (hq : Quads w g n f) (hok : AOk n f) (hh : hOk h k l = true) :
    Calls Tryd.prog 16 #[.slice (some ⟨g, 0, none⟩) n c, hV h k l] w fun e w' => e = .returned (.bool true) ∧ Below w.heap.size w w' := by
  obtain ⟨i1, i2, i3⟩ := hOk_in hh
  obtain ⟨W, hW, b0, bW, -⟩ := boxed w 32 #[.int .i64 h, .int .i64 k, .int .i64 l]
  obtain ⟨e0, e1, e2, -⟩ := b0.open3
  have I := fun (w' : World) (L : Quads w' g n f) => specExact_yes (c := c) h k l L hok hh
  have J := fun (w' : World) (L : Quads w' g n f) => specExact_yes (c := c) (-h) (-k) (-l) L hok ((hOk_neg h k l).trans hh)
  have C := fun (w' : World) => specConj_any (es (amt f) (pw f h k l) 0 n) (es (amt f) (pw f h k l) 1 n) (es (amt f) (pw f h k l) 2 n) (es (amt f) (pw f h k l) 3 n) w'
  rw [conj_es h k l hok] at C
  generalize es (amt f) (pw f h k l) 0 n = x0 at *
  generalize es (amt f) (pw f h k l) 1 n = x1 at *
  generalize es (amt f) (pw f h k l) 2 n = x2 at *
  generalize es (amt f) (pw f h k l) 3 n = x3 at *
  generalize es (amt f) (pw f (-h) (-k) (-l)) 0 n = y0 at *
  generalize es (amt f) (pw f (-h) (-k) (-l)) 1 n = y1 at *
  generalize es (amt f) (pw f (-h) (-k) (-l)) 2 n = y2 at *
  generalize es (amt f) (pw f (-h) (-k) (-l)) 3 n = y3 at *
  have L := hq.below bW
  clear hok hh hq
  go_enter Tryd.func16, Tryd.ntmps16
  go_wp2_with fail
  refine (I _ L).mono ?_
  rintro e w2 ⟨rfl, b2⟩
  replace L := L.below b2
  replace b0 := b0.below b2
  replace bW := bW.trans (b2.mono bW.size)
  have lb := b0.lt
  clear I e0 e1 e2 b2 hW
  obtain ⟨e0, e1, e2, -⟩ := b0.open3
  go_wp2_with fail
  obtain ⟨V, hV, s0, bV, -⟩ := boxed w2 38 #[.int .i64 x0, .int .i64 x1, .int .i64 x2, .int .i64 x3]
  rw [hV]
  replace L := L.below bV
  replace bW := bW.trans (bV.mono bW.size)
  clear e0 e1 e2 hV bV lb b0
  refine (J _ L).mono ?_
  rintro e w4 ⟨rfl, b4⟩
  replace s0 := s0.below b4
  replace bW := bW.trans (b4.mono bW.size)
  clear b4 J L
  have ls := s0.lt
  obtain ⟨e0, e1, e2, e3, -⟩ := s0.open4
  go_wp2_with fail
  obtain ⟨V4, hV4, o0, bV4, -⟩ := boxed w4 38 #[.int .i64 y0, .int .i64 y1, .int .i64 y2, .int .i64 y3]
  rw [hV4]
  replace s0 := s0.below bV4
  replace bW := bW.trans (bV4.mono bW.size)
  clear hV4 bV4 e0 e1 e2 e3
  obtain ⟨u0, hu0, bb⟩ : ∃ u0, V4.drew = u0 ∧ Below V4.heap.size V4 u0 := ⟨_, rfl, (Below.refl _ _).drew⟩
  replace s0 := s0.below bb
  replace o0 := o0.below bb
  replace bW := bW.trans (bb.mono bW.size)
  clear bb
  refine wp_region_held_drew (S := Rr w2.heap.size w4.heap.size x0 x1 x2 x3 y0 y1 y2 y3) (by kernel_rfl) (by rw [hu0]; exact rr_of s0 o0) (fun hHeld => ?_)
  rw [hu0] at hHeld ⊢
  clear hu0
  change wpAnyH _ _ _ _ _ 11 #[false, false, false, false, false, false, false, false, false, false, false] _ _
  refine wpAnyH_take (i := 0) (v := .bool true) rfl (by kernel_rfl) (by kernel_rfl) (by kernel_rfl) (fun _ _ _ h => h) (Or.inl ⟨by kernel_rfl, ?_⟩) hHeld ?_
  · intro w' hSw; go_simp
  try simp only [Act.put, List.setIfInBounds_toArray, List.set_cons_zero, List.set_cons_succ, List.getElem_toArray, List.getElem_cons_zero]
  refine wpAnyH_take (i := 1) (v := .bool true) rfl (by kernel_rfl) (by kernel_rfl) (by kernel_rfl) (fun _ _ _ h => h) (Or.inl ⟨by kernel_rfl, ?_⟩) hHeld ?_
  · intro w' hSw; go_simp
  try simp only [Act.put, List.setIfInBounds_toArray, List.set_cons_zero, List.set_cons_succ, List.getElem_toArray, List.getElem_cons_succ, List.getElem_cons_zero]
  refine wpAnyH_take (i := 2) (v := .bool true) rfl (by kernel_rfl) (by kernel_rfl) (by kernel_rfl) (fun _ _ _ h => h) (Or.inl ⟨by kernel_rfl, ?_⟩) hHeld ?_
  · intro w' hSw; go_simp
  try simp only [Act.put, List.setIfInBounds_toArray, List.set_cons_zero, List.set_cons_succ, List.getElem_toArray, List.getElem_cons_succ, List.getElem_cons_zero]
  refine wpAnyH_take (i := 3) (v := .bool true) rfl (by kernel_rfl) (by kernel_rfl) (by kernel_rfl) (fun _ _ _ h => h) (Or.inl ⟨by kernel_rfl, ?_⟩) hHeld ?_
  · intro w' hSw; go_simp
  try simp only [Act.put, List.setIfInBounds_toArray, List.set_cons_zero, List.set_cons_succ, List.getElem_toArray, List.getElem_cons_succ, List.getElem_cons_zero]
  refine wpAnyH_take (i := 4) (v := .bool true) rfl (by kernel_rfl) (by kernel_rfl) (by kernel_rfl) (fun _ _ _ h => h) (Or.inl ⟨by kernel_rfl, ?_⟩) hHeld ?_
  · intro w' hSw; go_simp
  try simp only [Act.put, List.setIfInBounds_toArray, List.set_cons_zero, List.set_cons_succ, List.getElem_toArray, List.getElem_cons_succ, List.getElem_cons_zero]
  refine wpAnyH_take (i := 5) (v := cV x0 x1 x2 x3) rfl (by kernel_rfl) (by kernel_rfl) (by kernel_rfl) (fun _ _ _ h => h) (Or.inl ⟨by kernel_rfl, ?_⟩) hHeld ?_
  · intro w' hSw; obtain ⟨z0, z1, z2, z3, -⟩ := hSw; go_simp
  try simp only [Act.put, List.setIfInBounds_toArray, List.set_cons_zero, List.set_cons_succ, List.getElem_toArray, List.getElem_cons_succ, List.getElem_cons_zero]
  refine wpAnyH_take (i := 7) (v := cV y0 y1 y2 y3) rfl (by kernel_rfl) (by kernel_rfl) (by kernel_rfl) (fun _ _ _ h => h) (Or.inl ⟨by kernel_rfl, ?_⟩) hHeld ?_
  · intro w' hSw; obtain ⟨-, -, -, -, z0, z1, z2, z3⟩ := hSw; go_simp
  try simp only [Act.put, List.setIfInBounds_toArray, List.set_cons_zero, List.set_cons_succ, List.getElem_toArray, List.getElem_cons_succ, List.getElem_cons_zero]
  refine wpAnyH_ready (rs := [6]) (by kernel_rfl) (by simp) ?_
  refine AllReadyH.cons rfl (fun KK hK' => ?_) AllReadyH.nil
  go_simp
  refine (C _).mono ?_
  rintro e u1 ⟨rfl, bb⟩
  replace s0 := s0.below bb
  replace o0 := o0.below bb
  replace bW := bW.trans (bb.mono bW.size)
  clear bb C
  try go_wp2_with fail
  clear hHeld
  refine hK'.out _ _ (rr_of s0 o0) (fun hHeld => ?_)
  clear hK' KK
  try simp only [List.setIfInBounds_toArray, List.set_cons_zero, List.set_cons_succ]
  refine wpAnyH_take (i := 8) (v := .bool true) rfl (by kernel_rfl) (by kernel_rfl) (by kernel_rfl) (fun _ _ _ h => h) (Or.inl ⟨by kernel_rfl, ?_⟩) hHeld ?_
  · intro w' hSw; go_simp
  try simp only [Act.put, List.setIfInBounds_toArray, List.set_cons_zero, List.set_cons_succ, List.getElem_toArray, List.getElem_cons_succ, List.getElem_cons_zero]
  refine wpAnyH_take (i := 9) (v := .bool true) rfl (by kernel_rfl) (by kernel_rfl) (by kernel_rfl) (fun _ _ _ h => h) (Or.inl ⟨by kernel_rfl, ?_⟩) hHeld ?_
  · intro w' hSw; go_simp
  try simp only [Act.put, List.setIfInBounds_toArray, List.set_cons_zero, List.set_cons_succ, List.getElem_toArray, List.getElem_cons_succ, List.getElem_cons_zero]
  refine wpAnyH_ready (rs := [10]) (by kernel_rfl) (by simp) ?_
  refine AllReadyH.cons rfl (fun KK hK' => ?_) AllReadyH.nil
  go_simp
  clear hHeld
  refine hK'.out _ _ (rr_of s0 o0) (fun hHeld => ?_)
  clear hK' KK
  try simp only [List.setIfInBounds_toArray, List.set_cons_zero, List.set_cons_succ]
  refine wpAnyH_done (by kernel_rfl) ?_ _
  clear hHeld
  go_wp2
  go_ret
  exact ⟨rfl, bW⟩
/-- Both tell the same. -/
theorem friedel_some {n : Nat} {f : Nat → Int} (h k l : Int) (hn : n ≤ 1048576) : ∃ v : Bool, (∀ (w : World) (g c : Nat), Quads w g n f → Calls Tryd.prog 16 #[.slice (some ⟨g, 0, none⟩) n c, hV h k l] w fun e w' => e = .returned (.bool v) ∧ Below w.heap.size w w') ∧
    (∀ (w : World) (g c : Nat), Quads w g n f → Tab w → Calls Tryd.prog 17 #[.slice (some ⟨g, 0, none⟩) n c, hV h k l] w fun e w' => e = .returned (.bool v) ∧ Below w.heap.size w w') := by
  by_cases ha : AOk n f
  · cases hh : hOk h k l
    · exact ⟨false, fun w g c L => specFriedel_no h k l L hn true (by simp [ha]) (by simp [hh]), fun w g c L t => implFriedel_no h k l L hn t true (by simp [ha]) (by simp [hh])⟩
    · exact ⟨true, fun w g c L => specFriedel_yes h k l L ha hh, fun w g c L t => implFriedel_yes h k l L t ha hh⟩
  · exact ⟨false, fun w g c L => specFriedel_no h k l L hn false (by simp [ha]) (by simp), fun w g c L t => implFriedel_no h k l L hn t false (by simp [ha]) (by simp)⟩
set_option maxRecDepth 100000 in
set_option maxHeartbeats 3200000 in
theorem exactFriedel_walk {w : World} {a : Option Addr} {n cap : Nat} {f : Nat → Int} (h k l : Int) (hS : Src w a (n * 4) f) (hn : n ≤ maxLen) (ht : Tab w) :
    Calls Tryd.prog 5 #[.slice a n cap, hV h k l] w fun e w' => e = .returned (.bool true) ∧ Below w.heap.size w w' := by
  obtain ⟨W, hW, b0, bW, -⟩ := boxed w 24 #[.int .i64 h, .int .i64 k, .int .i64 l]
  have G : Lw w a n f h k l W := ⟨b0, hS.below bW, ht.below bW, bW⟩
  clear b0 bW
  go_enter Tryd.func5, Tryd.ntmps5
  go_wp2_with fail
  refine (sz_any _ hn).mono ?_
  rintro e w1 ⟨⟨r, rfl, hr⟩, rfl⟩
  rcases hr with rfl | ⟨h0, hsh⟩
  · go_wp2
    go_ret
    exact ⟨rfl, G.2.2.2⟩
  · have h1 : ¬ r < 0 := by omega
    obtain ⟨v0, SP, IM⟩ := friedel_some (n := n) (f := f) h k l hsh
    clear hW
    have F : Lv w a n f h k l W W := ⟨G, Below.refl _ _⟩
    clear G
    go_wp2_with fail
    obtain ⟨u0, hu0, bb⟩ : ∃ u0, W.drew = u0 ∧ Below W.heap.size W u0 := ⟨_, rfl, (Below.refl _ _).drew⟩
    replace F := F.below bb
    clear bb
    refine wp_region_held_drew (S := Rh w.heap.size h k l) (by kernel_rfl) (by rw [hu0]; exact rh_of F) (fun hHeld => ?_)
    rw [hu0] at hHeld ⊢
    clear hu0
    change wpAnyH _ _ _ _ _ 6 #[false, false, false, false, false, false] _ _
    refine wpAnyH_take (i := 0) (v := .slice a n cap) rfl (by kernel_rfl) (by kernel_rfl) (by kernel_rfl) (fun _ _ _ h => h) (Or.inl ⟨by kernel_rfl, ?_⟩) hHeld ?_
    · intro w' hSw; go_simp
    try simp only [Act.put, List.setIfInBounds_toArray, List.set_cons_zero, List.set_cons_succ, List.getElem_toArray, List.getElem_cons_zero]
    refine wpAnyH_take (i := 2) (v := hV h k l) rfl (by kernel_rfl) (by kernel_rfl) (by kernel_rfl) (fun _ _ _ h => h) (Or.inl ⟨by kernel_rfl, ?_⟩) hHeld ?_
    · intro w' hSw; obtain ⟨z0, z1, z2⟩ := hSw; go_simp
    try simp only [Act.put, List.setIfInBounds_toArray, List.set_cons_zero, List.set_cons_succ, List.getElem_toArray, List.getElem_cons_succ, List.getElem_cons_zero]
    refine wpAnyH_ready (rs := [1]) (by kernel_rfl) (by simp) ?_
    refine AllReadyH.cons rfl (fun KK hK' => ?_) AllReadyH.nil
    go_simp
    refine (toAtomS_any F.lw.2.1 hsh).mono ?_
    rintro e u1 ⟨gl, rfl, L, bb⟩
    replace F := F.below bb
    clear bb
    try go_wp2_with fail
    clear hHeld
    refine hK'.out _ _ (rh_of F) (fun hHeld => ?_)
    clear hK' KK
    try simp only [List.setIfInBounds_toArray, List.set_cons_zero, List.set_cons_succ]
    refine wpAnyH_ready (rs := [3]) (by kernel_rfl) (by simp) ?_
    refine AllReadyH.cons rfl (fun KK hK' => ?_) AllReadyH.nil
    go_simp
    refine (toHkl_any _ _ _ _).mono ?_
    rintro e u2 ⟨rfl, bb⟩
    replace F := F.below bb
    replace L := L.below bb
    clear bb
    try go_wp2_with fail
    clear hHeld
    refine hK'.out _ _ (rh_of F) (fun hHeld => ?_)
    clear hK' KK
    try simp only [List.setIfInBounds_toArray, List.set_cons_zero, List.set_cons_succ]
    refine wpAnyH_ready (rs := [4]) (by kernel_rfl) (by simp) ?_
    refine AllReadyH.cons rfl (fun KK hK' => ?_) AllReadyH.nil
    go_simp
    refine (SP _ _ _ L).mono ?_
    rintro e u3 ⟨rfl, bb⟩
    replace F := F.below bb
    clear bb L SP
    try go_wp2_with fail
    clear hHeld
    refine hK'.out _ _ (rh_of F) (fun hHeld => ?_)
    clear hK' KK
    try simp only [List.setIfInBounds_toArray, List.set_cons_zero, List.set_cons_succ]
    refine wpAnyH_ready (rs := [5]) (by kernel_rfl) (by simp) ?_
    refine AllReadyH.cons rfl (fun KK hK' => ?_) AllReadyH.nil
    go_simp
    clear hHeld
    refine hK'.out _ _ (rh_of F) (fun hHeld => ?_)
    clear hK' KK
    try simp only [List.setIfInBounds_toArray, List.set_cons_zero, List.set_cons_succ]
    refine wpAnyH_done (by kernel_rfl) ?_ _
    clear hHeld
    have G := F.lw
    clear F
    go_wp2_with fail
    refine (toAtomS_any G.2.1 hsh).mono ?_
    rintro e w2 ⟨g2, rfl, L2, b2⟩
    replace G := G.below b2
    clear b2
    obtain ⟨e0, e1, e2, -⟩ := G.1.open3
    go_wp2_with fail
    refine (toHkl_any _ _ _ _).mono ?_
    rintro e w3 ⟨rfl, b3⟩
    replace G := G.below b3
    replace L2 := L2.below b3
    clear b3 e0 e1 e2
    go_wp2_with fail
    refine (IM _ _ _ L2 G.2.2.1).mono ?_
    rintro e w4 ⟨rfl, b4⟩
    replace G := G.below b4
    replace L2 := L2.below b4
    clear b4 IM
    have hkk : (v0 != v0) = false := by simp
    go_wp2_with fail
    refine (toAtomS_any G.2.1 hsh).mono ?_
    rintro e w6 ⟨g6, rfl, L6, b6⟩
    replace G := G.below b6
    go_wp2_with fail
    refine (eqAtomS_true (L2.below b6) L6 hsh).mono ?_
    rintro e w7 ⟨rfl, b7⟩
    replace G := G.below b7
    clear b6 b7 L2 L6
    go_wp2
    go_ret
    exact ⟨rfl, G.2.2.2⟩
end Go.Proofs.YtedchpohbhmjhacDoor
