/-
  Halves of cyclotomic numbers, joined again, and products, by the program: walked.
-/
import Derived.Test.YtbninbeccgdemaaDoorMi
namespace Go.Proofs.YtbninbeccgdemaaDoor
open Go.RowKit

/-- The cells of two boxes of four. -/
def R8 (q p : Nat) (x0 x1 x2 x3 y0 y1 y2 y3 : Int) (w : World) : Prop :=
  (w.cell? ⟨q, 0, none⟩ = some (.int .i64 x0) ∧ w.cell? ⟨q, 1, none⟩ = some (.int .i64 x1) ∧ w.cell? ⟨q, 2, none⟩ = some (.int .i64 x2) ∧ w.cell? ⟨q, 3, none⟩ = some (.int .i64 x3)) ∧ (w.cell? ⟨p, 0, none⟩ = some (.int .i64 y0) ∧ w.cell? ⟨p, 1, none⟩ = some (.int .i64 y1) ∧ w.cell? ⟨p, 2, none⟩ = some (.int .i64 y2) ∧ w.cell? ⟨p, 3, none⟩ = some (.int .i64 y3))
theorem r8_of {t u : TypeId} {w : World} {q p : Nat} {x0 x1 x2 x3 y0 y1 y2 y3 : Int} (a : At t w q #[.int .i64 x0, .int .i64 x1, .int .i64 x2, .int .i64 x3]) (b : At u w p #[.int .i64 y0, .int .i64 y1, .int .i64 y2, .int .i64 y3]) : R8 q p x0 x1 x2 x3 y0 y1 y2 y3 w := by
  obtain ⟨a0, a1, a2, a3, -⟩ := a.open4
  obtain ⟨b0, b1, b2, b3, -⟩ := b.open4
  exact ⟨⟨a0, a1, a2, a3⟩, b0, b1, b2, b3⟩
theorem put4_other {t : TypeId} {w : World} {q p : Nat} {vs : Array Value} (h : At t w q vs) (hq : q ≠ p) (v0 v1 v2 v3 : Value) : At t ((((w.setCell ⟨p, 0, none⟩ v0).setCell ⟨p, 1, none⟩ v1).setCell ⟨p, 2, none⟩ v2).setCell ⟨p, 3, none⟩ v3) q vs :=
  (((h.setOther hq _).setOther hq _).setOther hq _).setOther hq _
set_option maxRecDepth 100000 in
set_option maxHeartbeats 1600000 in
theorem joinHalves_any (a b c d x y z u : Int) (w : World) (ha : big a) (hb : big b) (hc : big c) (hd : big d) (hx : big x) (hy : big y) (hz : big z) (hu : big u) :
    Calls Tryd.prog 42 #[cV a b c d, cV x y z u] w fun e w' => e = .returned (cV (jn a x) (jn b y) (jn c z) (jn d u)) ∧ Below w.heap.size w w' := by
  obtain ⟨W, hW, b0, b1, b2, bW, sW⟩ := boxed3 w 33 33 33 #[.int .i64 a, .int .i64 b, .int .i64 c, .int .i64 d] #[.int .i64 x, .int .i64 y, .int .i64 z, .int .i64 u] #[.int .i64 0, .int .i64 0, .int .i64 0, .int .i64 0]
  go_enter Tryd.func42, Tryd.ntmps42
  go_wp2_with fail
  clear hW
  obtain ⟨u0, hu0, bb⟩ : ∃ u0, W.drew = u0 ∧ Below W.heap.size W u0 := ⟨_, rfl, (Below.refl _ _).drew⟩
  replace b0 := b0.below bb
  replace b1 := b1.below bb
  replace b2 := b2.below bb
  replace bW := bW.trans (bb.mono bW.size)
  clear bb
  refine wp_region_held_drew (S := R8 w.heap.size (w.heap.size + 1) a b c d x y z u) (by kernel_rfl) (by rw [hu0]; exact r8_of b0 b1) (fun hHeld => ?_)
  rw [hu0] at hHeld ⊢
  clear hu0
  change wpAnyH _ _ _ _ _ 22 #[false, false, false, false, false, false, false, false, false, false, false, false, false, false, false, false, false, false, false, false, false, false] _ _
  refine wpAnyH_take (i := 0) (v := .pointer (some ⟨w.heap.size, 0, none⟩)) rfl (by kernel_rfl) (by kernel_rfl) (by kernel_rfl) (fun _ _ _ h => h) (Or.inl ⟨by kernel_rfl, ?_⟩) hHeld ?_
  · intro w' hSw; go_simp
  try simp only [Act.put, List.setIfInBounds_toArray, List.set_cons_zero, List.set_cons_succ, List.getElem_toArray, List.getElem_cons_zero]
  refine wpAnyH_take (i := 1) (v := .int .i64 a) rfl (by kernel_rfl) (by kernel_rfl) (by kernel_rfl) (fun _ _ _ h => h) (Or.inl ⟨by kernel_rfl, ?_⟩) hHeld ?_
  · intro w' hSw; obtain ⟨⟨z0, z1, z2, z3⟩, -⟩ := hSw; go_simp
  try simp only [Act.put, List.setIfInBounds_toArray, List.set_cons_zero, List.set_cons_succ, List.getElem_toArray, List.getElem_cons_succ, List.getElem_cons_zero]
  refine wpAnyH_take (i := 2) (v := .pointer (some ⟨w.heap.size + 1, 0, none⟩)) rfl (by kernel_rfl) (by kernel_rfl) (by kernel_rfl) (fun _ _ _ h => h) (Or.inl ⟨by kernel_rfl, ?_⟩) hHeld ?_
  · intro w' hSw; go_simp
  try simp only [Act.put, List.setIfInBounds_toArray, List.set_cons_zero, List.set_cons_succ, List.getElem_toArray, List.getElem_cons_succ, List.getElem_cons_zero]
  refine wpAnyH_take (i := 3) (v := .int .i64 x) rfl (by kernel_rfl) (by kernel_rfl) (by kernel_rfl) (fun _ _ _ h => h) (Or.inl ⟨by kernel_rfl, ?_⟩) hHeld ?_
  · intro w' hSw; obtain ⟨-, z0, z1, z2, z3⟩ := hSw; go_simp
  try simp only [Act.put, List.setIfInBounds_toArray, List.set_cons_zero, List.set_cons_succ, List.getElem_toArray, List.getElem_cons_succ, List.getElem_cons_zero]
  refine wpAnyH_take (i := 5) (v := .pointer (some ⟨w.heap.size, 1, none⟩)) rfl (by kernel_rfl) (by kernel_rfl) (by kernel_rfl) (fun _ _ _ h => h) (Or.inl ⟨by kernel_rfl, ?_⟩) hHeld ?_
  · intro w' hSw; go_simp
  try simp only [Act.put, List.setIfInBounds_toArray, List.set_cons_zero, List.set_cons_succ, List.getElem_toArray, List.getElem_cons_succ, List.getElem_cons_zero]
  refine wpAnyH_take (i := 6) (v := .int .i64 b) rfl (by kernel_rfl) (by kernel_rfl) (by kernel_rfl) (fun _ _ _ h => h) (Or.inl ⟨by kernel_rfl, ?_⟩) hHeld ?_
  · intro w' hSw; obtain ⟨⟨z0, z1, z2, z3⟩, -⟩ := hSw; go_simp
  try simp only [Act.put, List.setIfInBounds_toArray, List.set_cons_zero, List.set_cons_succ, List.getElem_toArray, List.getElem_cons_succ, List.getElem_cons_zero]
  refine wpAnyH_take (i := 7) (v := .pointer (some ⟨w.heap.size + 1, 1, none⟩)) rfl (by kernel_rfl) (by kernel_rfl) (by kernel_rfl) (fun _ _ _ h => h) (Or.inl ⟨by kernel_rfl, ?_⟩) hHeld ?_
  · intro w' hSw; go_simp
  try simp only [Act.put, List.setIfInBounds_toArray, List.set_cons_zero, List.set_cons_succ, List.getElem_toArray, List.getElem_cons_succ, List.getElem_cons_zero]
  refine wpAnyH_take (i := 8) (v := .int .i64 y) rfl (by kernel_rfl) (by kernel_rfl) (by kernel_rfl) (fun _ _ _ h => h) (Or.inl ⟨by kernel_rfl, ?_⟩) hHeld ?_
  · intro w' hSw; obtain ⟨-, z0, z1, z2, z3⟩ := hSw; go_simp
  try simp only [Act.put, List.setIfInBounds_toArray, List.set_cons_zero, List.set_cons_succ, List.getElem_toArray, List.getElem_cons_succ, List.getElem_cons_zero]
  refine wpAnyH_take (i := 10) (v := .pointer (some ⟨w.heap.size, 2, none⟩)) rfl (by kernel_rfl) (by kernel_rfl) (by kernel_rfl) (fun _ _ _ h => h) (Or.inl ⟨by kernel_rfl, ?_⟩) hHeld ?_
  · intro w' hSw; go_simp
  try simp only [Act.put, List.setIfInBounds_toArray, List.set_cons_zero, List.set_cons_succ, List.getElem_toArray, List.getElem_cons_succ, List.getElem_cons_zero]
  refine wpAnyH_take (i := 11) (v := .int .i64 c) rfl (by kernel_rfl) (by kernel_rfl) (by kernel_rfl) (fun _ _ _ h => h) (Or.inl ⟨by kernel_rfl, ?_⟩) hHeld ?_
  · intro w' hSw; obtain ⟨⟨z0, z1, z2, z3⟩, -⟩ := hSw; go_simp
  try simp only [Act.put, List.setIfInBounds_toArray, List.set_cons_zero, List.set_cons_succ, List.getElem_toArray, List.getElem_cons_succ, List.getElem_cons_zero]
  refine wpAnyH_take (i := 12) (v := .pointer (some ⟨w.heap.size + 1, 2, none⟩)) rfl (by kernel_rfl) (by kernel_rfl) (by kernel_rfl) (fun _ _ _ h => h) (Or.inl ⟨by kernel_rfl, ?_⟩) hHeld ?_
  · intro w' hSw; go_simp
  try simp only [Act.put, List.setIfInBounds_toArray, List.set_cons_zero, List.set_cons_succ, List.getElem_toArray, List.getElem_cons_succ, List.getElem_cons_zero]
  refine wpAnyH_take (i := 13) (v := .int .i64 z) rfl (by kernel_rfl) (by kernel_rfl) (by kernel_rfl) (fun _ _ _ h => h) (Or.inl ⟨by kernel_rfl, ?_⟩) hHeld ?_
  · intro w' hSw; obtain ⟨-, z0, z1, z2, z3⟩ := hSw; go_simp
  try simp only [Act.put, List.setIfInBounds_toArray, List.set_cons_zero, List.set_cons_succ, List.getElem_toArray, List.getElem_cons_succ, List.getElem_cons_zero]
  refine wpAnyH_take (i := 15) (v := .pointer (some ⟨w.heap.size, 3, none⟩)) rfl (by kernel_rfl) (by kernel_rfl) (by kernel_rfl) (fun _ _ _ h => h) (Or.inl ⟨by kernel_rfl, ?_⟩) hHeld ?_
  · intro w' hSw; go_simp
  try simp only [Act.put, List.setIfInBounds_toArray, List.set_cons_zero, List.set_cons_succ, List.getElem_toArray, List.getElem_cons_succ, List.getElem_cons_zero]
  refine wpAnyH_take (i := 16) (v := .int .i64 d) rfl (by kernel_rfl) (by kernel_rfl) (by kernel_rfl) (fun _ _ _ h => h) (Or.inl ⟨by kernel_rfl, ?_⟩) hHeld ?_
  · intro w' hSw; obtain ⟨⟨z0, z1, z2, z3⟩, -⟩ := hSw; go_simp
  try simp only [Act.put, List.setIfInBounds_toArray, List.set_cons_zero, List.set_cons_succ, List.getElem_toArray, List.getElem_cons_succ, List.getElem_cons_zero]
  refine wpAnyH_take (i := 17) (v := .pointer (some ⟨w.heap.size + 1, 3, none⟩)) rfl (by kernel_rfl) (by kernel_rfl) (by kernel_rfl) (fun _ _ _ h => h) (Or.inl ⟨by kernel_rfl, ?_⟩) hHeld ?_
  · intro w' hSw; go_simp
  try simp only [Act.put, List.setIfInBounds_toArray, List.set_cons_zero, List.set_cons_succ, List.getElem_toArray, List.getElem_cons_succ, List.getElem_cons_zero]
  refine wpAnyH_take (i := 18) (v := .int .i64 u) rfl (by kernel_rfl) (by kernel_rfl) (by kernel_rfl) (fun _ _ _ h => h) (Or.inl ⟨by kernel_rfl, ?_⟩) hHeld ?_
  · intro w' hSw; obtain ⟨-, z0, z1, z2, z3⟩ := hSw; go_simp
  try simp only [Act.put, List.setIfInBounds_toArray, List.set_cons_zero, List.set_cons_succ, List.getElem_toArray, List.getElem_cons_succ, List.getElem_cons_zero]
  refine wpAnyH_ready (rs := [4]) (by kernel_rfl) (by simp) ?_
  refine AllReadyH.cons rfl (fun KK hK' => ?_) AllReadyH.nil
  go_simp
  refine (joined_any _ _ _ ha hx).mono ?_
  rintro e uu ⟨rfl, rfl⟩
  try go_wp2_with fail
  clear hHeld
  refine hK'.out _ _ (r8_of b0 b1) (fun hHeld => ?_)
  clear hK' KK
  try simp only [List.setIfInBounds_toArray, List.set_cons_zero, List.set_cons_succ]
  refine wpAnyH_ready (rs := [9]) (by kernel_rfl) (by simp) ?_
  refine AllReadyH.cons rfl (fun KK hK' => ?_) AllReadyH.nil
  go_simp
  refine (joined_any _ _ _ hb hy).mono ?_
  rintro e uu ⟨rfl, rfl⟩
  try go_wp2_with fail
  clear hHeld
  refine hK'.out _ _ (r8_of b0 b1) (fun hHeld => ?_)
  clear hK' KK
  try simp only [List.setIfInBounds_toArray, List.set_cons_zero, List.set_cons_succ]
  refine wpAnyH_ready (rs := [14]) (by kernel_rfl) (by simp) ?_
  refine AllReadyH.cons rfl (fun KK hK' => ?_) AllReadyH.nil
  go_simp
  refine (joined_any _ _ _ hc hz).mono ?_
  rintro e uu ⟨rfl, rfl⟩
  try go_wp2_with fail
  clear hHeld
  refine hK'.out _ _ (r8_of b0 b1) (fun hHeld => ?_)
  clear hK' KK
  try simp only [List.setIfInBounds_toArray, List.set_cons_zero, List.set_cons_succ]
  refine wpAnyH_ready (rs := [19]) (by kernel_rfl) (by simp) ?_
  refine AllReadyH.cons rfl (fun KK hK' => ?_) AllReadyH.nil
  go_simp
  refine (joined_any _ _ _ hd hu).mono ?_
  rintro e uu ⟨rfl, rfl⟩
  try go_wp2_with fail
  clear hHeld
  refine hK'.out _ _ (r8_of b0 b1) (fun hHeld => ?_)
  clear hK' KK
  try simp only [List.setIfInBounds_toArray, List.set_cons_zero, List.set_cons_succ]
  refine wpAnyH_take (i := 20) (v := cV (jn a x) (jn b y) (jn c z) (jn d u)) rfl (by kernel_rfl) (by kernel_rfl) (by kernel_rfl) (fun _ _ _ h => h) (Or.inl ⟨by kernel_rfl, ?_⟩) hHeld ?_
  · intro w' hSw; go_simp
  try simp only [Act.put, List.setIfInBounds_toArray, List.set_cons_zero, List.set_cons_succ, List.getElem_toArray, List.getElem_cons_succ, List.getElem_cons_zero]
  obtain ⟨y0, y1, y2, y3, g0, g1, g2, g3⟩ := b2.open4
  refine wpAnyH_ready (rs := [21]) (by kernel_rfl) (by simp) ?_
  refine AllReadyH.cons rfl (fun KK hK' => ?_) AllReadyH.nil
  go_simp
  clear hHeld
  refine hK'.out _ _ (r8_of (put4_other b0 (by omega) _ _ _ _) (put4_other b1 (by omega) _ _ _ _)) (fun hHeld => ?_)
  clear hK' KK
  try simp only [List.setIfInBounds_toArray, List.set_cons_zero, List.set_cons_succ]
  refine wpAnyH_done (by kernel_rfl) ?_ _
  clear hHeld
  go_wp2
  obtain ⟨p0, p1, p2, p3, -⟩ := (put4_at b2 (.int .i64 (jn a x)) (.int .i64 (jn b y)) (.int .i64 (jn c z)) (.int .i64 (jn d u))).open4
  exact bodyPost_ret (v := cV (jn a x) (jn b y) (jn c z) (jn d u)) (by simp [results, Tryd.results42, go_sem, p0, p1, p2, p3]) rfl ⟨rfl, below_put4 bW (by omega) _ _ _ _⟩
/-- A box of four below V stands, and all of V. -/
def Hb (q : Nat) (a b c d : Int) (V wr : World) : Prop := At 33 wr q #[.int .i64 a, .int .i64 b, .int .i64 c, .int .i64 d] ∧ q < V.heap.size ∧ Below V.heap.size V wr
theorem Hb.below {q : Nat} {a b c d : Int} {V wr wr' : World} (h : Hb q a b c d V wr) (hb : Below wr.heap.size wr wr') : Hb q a b c d V wr' := ⟨h.1.below hb, h.2.1, h.2.2.trans (hb.mono h.2.2.size)⟩
theorem hb_lt {q : Nat} {a b c d : Int} {V wr : World} (h : Hb q a b c d V wr) : V.heap.size ≤ wr.heap.size := h.2.2.size
theorem hb_fill {q p : Nat} {a b c d : Int} {V wr : World} {t : TypeId} {u0 u1 u2 u3 : Value} (h : Hb q a b c d V wr) (hp : V.heap.size ≤ p) (rb : At t wr p #[u0, u1, u2, u3]) (v0 v1 v2 v3 : Value) :
    ∃ u, (((wr.setCell ⟨p, 0, none⟩ v0).setCell ⟨p, 1, none⟩ v1).setCell ⟨p, 2, none⟩ v2).setCell ⟨p, 3, none⟩ v3 = u ∧ At t u p #[v0, v1, v2, v3] ∧ Hb q a b c d V u :=
  ⟨_, rfl, put4_at rb _ _ _ _, put4_other h.1 (by have := h.2.1; omega) _ _ _ _, h.2.1, below_put4 h.2.2 hp _ _ _ _⟩
/-- The cells of a box of four. -/
def R4c (q : Nat) (a b c d : Int) (w : World) : Prop := w.cell? ⟨q, 0, none⟩ = some (.int .i64 a) ∧ w.cell? ⟨q, 1, none⟩ = some (.int .i64 b) ∧ w.cell? ⟨q, 2, none⟩ = some (.int .i64 c) ∧ w.cell? ⟨q, 3, none⟩ = some (.int .i64 d)
theorem r4_of {t : TypeId} {q : Nat} {a b c d : Int} {w : World} (h : At t w q #[.int .i64 a, .int .i64 b, .int .i64 c, .int .i64 d]) : R4c q a b c d w := by
  obtain ⟨a0, a1, a2, a3, -⟩ := h.open4
  exact ⟨a0, a1, a2, a3⟩
end Go.Proofs.YtbninbeccgdemaaDoor
