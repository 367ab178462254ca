/-
  The quotient, the program's and the specification's, walked.
-/
import Derived.Test.YteaeolilgdnodaiWalkP
namespace Go.Proofs.Yteaeolilgdnodai
open Go.RowKit Fl

/-- The quotient, each operation by itself. -/
def DivR (a b c d re im : Nat) : Prop :=
  ∃ p q x y z, MulR .f64 a b c (Op.negFloat .f64 d) p q ∧ FR .mul .f64 c c x ∧ FR .mul .f64 d d y ∧ FR .add .f64 x y z ∧ FR .quo .f64 p z re ∧ FR .quo .f64 q z im

theorem DivR.same {a b c d re im re' im' : Nat} (h : DivR a b c d re im) (h' : DivR a b c d re' im') : ab .f64 re = ab .f64 re' ∧ ab .f64 im = ab .f64 im' := by
  obtain ⟨p, q, x, y, z, h1, h2, h3, h4, h5, h6⟩ := h
  obtain ⟨p', q', x', y', z', g1, g2, g3, g4, g5, g6⟩ := h'
  rw [h5.ab_eq, h6.ab_eq, g5.ab_eq, g6.ab_eq, h4.ab_eq, g4.ab_eq, h3.ab_eq, h2.ab_eq, g3.ab_eq, g2.ab_eq, h1.ab_eq.1, h1.ab_eq.2, g1.ab_eq.1, g1.ab_eq.2]
  exact ⟨rfl, rfl⟩

/-- Three boxes, laid one behind the other. -/
theorem threeBoxes (w : World) (t u s : TypeId) (v0 v1 v2 v3 v4 v5 : Value) : ∃ W, ((w.alloc (.cells #[v0, v1] t)).alloc (.cells #[v2, v3] u)).alloc (.cells #[v4, v5] s) = W ∧
    BoxT t W w.heap.size v0 v1 ∧ BoxT u W (w.heap.size + 1) v2 v3 ∧ BoxT s W (w.heap.size + 1 + 1) v4 v5 ∧ Below w.heap.size w W := by
  refine ⟨_, rfl, ((boxT_new _ _ _ _ rfl).below (below_alloc _ _)).below (below_alloc _ _), (boxT_new _ _ _ _ (by simp)).below (below_alloc _ _), boxT_new _ _ _ _ (by simp), ?_⟩
  exact ((below_alloc _ _).trans ((below_alloc _ _).mono (by simp))).trans ((below_alloc _ _).mono (by simp; omega))

theorem specMul_any (a b c d : Nat) (w : World) :
    Calls Try.prog 15 #[.agg #[.float .f64 a, .float .f64 b], .agg #[.float .f64 c, .float .f64 d]] w fun e w' => ∃ re im, e = .returned (.agg #[.float .f64 re, .float .f64 im]) ∧ MulR .f64 a b c d re im ∧ Below w.heap.size w w' := by
  obtain ⟨W, hW, b0, b1, b2, bW⟩ := threeBoxes w 25 25 25 (.float .f64 a) (.float .f64 b) (.float .f64 c) (.float .f64 d) (.float .f64 0) (.float .f64 0)
  obtain ⟨p0, p1, -, -⟩ := b0.open
  obtain ⟨q0, q1, -, -⟩ := b1.open
  obtain ⟨r0, r1, r2, r3⟩ := b2.open
  go_enter Try.func15, Try.ntmps15
  go_wp2
  refine bodyPost_ret (v := .agg #[.float .f64 _, .float .f64 _]) (by simp [results, Try.results15, go_sem, r0, r1]; exact ⟨rfl, rfl⟩) rfl ⟨_, _, rfl, ⟨_, _, _, _, fv_FR .., fv_FR .., fv_FR .., fv_FR .., fv_FR .., fv_FR ..⟩, ?_⟩
  exact ((below_drewN bW _).setCell (p := ⟨w.heap.size + 1 + 1, 0, none⟩) (by show _ ≤ w.heap.size + 1 + 1; omega) _).setCell (p := ⟨w.heap.size + 1 + 1, 1, none⟩) (by show _ ≤ w.heap.size + 1 + 1; omega) _

theorem divWide_any (a b c d : Nat) (w : World) :
    Calls Try.prog 16 #[.complex .f64 a b, .complex .f64 c d] w fun e w' => ∃ re im, e = .returned (.complex .f64 re im) ∧ DivR a b c d re im ∧ Below w.heap.size w w' := by
  go_enter Try.func16, Try.ntmps16
  go_wp2_with (first | (go_at_call 12; refine (conjWide_any _ _ _).mono ?_; rintro e w1 ⟨rfl, rfl⟩) | (go_at_call 17; refine (mulWide_any _ _ _ _ _).mono ?_; rintro e w1 ⟨p, q, rfl, hm, hb⟩))
  go_ret
  exact ⟨_, _, rfl, ⟨p, q, _, _, _, hm, fv_FR .., fv_FR .., fv_FR .., fv_FR .., fv_FR ..⟩, below_drewN hb _⟩

/-- The cells that a region reads and writes: two arguments at n and n + 1, a result at n + 1 + 1. -/
abbrev S2 (W : World) (n a b c d : Nat) (w' : World) : Prop :=
  (w'.cell? ⟨n, 0, none⟩ = some (.float .f64 a) ∧ w'.cell? ⟨n, 1, none⟩ = some (.float .f64 b) ∧ w'.cell? ⟨n + 1, 0, none⟩ = some (.float .f64 c) ∧ w'.cell? ⟨n + 1, 1, none⟩ = some (.float .f64 d)) ∧
  (w'.cell? ⟨n + 1 + 1, 0, none⟩ = some (cv w' (n + 1 + 1) 0) ∧ w'.cell? ⟨n + 1 + 1, 1, none⟩ = some (cv w' (n + 1 + 1) 1) ∧ w'.frozen? ⟨n + 1 + 1, 0, none⟩ = false ∧ w'.frozen? ⟨n + 1 + 1, 1, none⟩ = false) ∧
  Kp W (n + 1 + 1) w' ∧ Slot (n + 1 + 1) w'

theorem implDiv_any (a b c d : Nat) (w : World) :
    Calls Try.prog 10 #[.agg #[.float .f64 a, .float .f64 b], .agg #[.float .f64 c, .float .f64 d]] w fun e w' => ∃ re im, e = .returned (.agg #[.float .f64 re, .float .f64 im]) ∧ DivR a b c d re im ∧ Below w.heap.size w w' := by
  obtain ⟨W, hW, b0, b1, b2, bW⟩ := threeBoxes w 25 25 25 (.float .f64 a) (.float .f64 b) (.float .f64 c) (.float .f64 d) (.float .f64 0) (.float .f64 0)
  have hk : Kp W (w.heap.size + 1 + 1) W := ⟨Below.refl _ _, Nat.le_of_lt b2.lt⟩
  have hs : Slot (w.heap.size + 1 + 1) W := ⟨_, _, _, b2⟩
  have mk : Hid (∀ w', Kp W (w.heap.size + 1 + 1) w' → Slot (w.heap.size + 1 + 1) w' → S2 W w.heap.size a b c d w') := fun w' h h' =>
    ⟨⟨h.cell (by omega) b0.open.1, h.cell (by omega) b0.open.2.1, h.cell (by omega) b1.open.1, h.cell (by omega) b1.open.2.1⟩, h'.open, h, h'⟩
  go_enter Try.func10, Try.ntmps10
  go_wp2_with fail
  clear hW
  go_region_held3 (fun w' => S2 W w.heap.size a b c d w')
    (first | exact mk.out _ (hk.below (Below.refl _ _).drew) (hs.below (Below.refl _ _).drew) | (have hq : S2 _ _ _ _ _ _ _ := ‹_›; exact mk.out _ (hq.2.2.1.below hb1) (hq.2.2.2.below hb1)) | (have hq : S2 _ _ _ _ _ _ _ := ‹_›; exact mk.out _ ((hq.2.2.1.set _).set _) (slot_set _ _ _ _ (by omega) (slot_set _ _ _ _ (by omega) hq.2.2.2))))
    (first | (go_at_call 13; refine (wideOf_any _ _ _).mono ?_; rintro e w1 ⟨rfl, hb1⟩) | (go_at_call 16; refine (divWide_any _ _ _ _ _).mono ?_; rintro e w1 ⟨re, im, rfl, hm, hb1⟩) | (go_at_call 11; refine (cxOf_any _ _ _).mono ?_; rintro e w1 ⟨rfl, hb1⟩))
  have hq : S2 _ _ _ _ _ _ _ := ‹_›
  obtain ⟨r0, r1⟩ := slot_read hq.2.2.2
  have hf := bW.trans (hq.2.2.1.1.mono (by omega))
  clear hq mk hk hs
  go_wp2
  exact bodyPost_ret (v := .agg #[.float .f64 re, .float .f64 im]) (by simp [results, Try.results10, go_sem, r0, r1]) rfl ⟨re, im, rfl, hm, hf⟩

/-- A new block that was laid first stands behind a call. -/
theorem alloc_first {V w3 : World} {o : Obj} (h : Below (V.drew.alloc o).heap.size (V.drew.alloc o) w3) : V.heap.size < w3.heap.size := by
  have := h.size
  simp at this
  exact this
theorem below_realloc {N : Nat} {W w : World} {o : Obj} (h : Below N W (w.alloc o)) (hN : N ≤ w.heap.size) (o' : Obj) : Below N W (w.alloc o') :=
  ⟨h.os, h.tape, h.output, by have := h.size; simp at this ⊢; exact this, fun k hk => by rw [Below.heap_alloc _ _ _ (by omega), ← h.block k hk, Below.heap_alloc _ _ _ (by omega)]⟩

end Go.Proofs.Yteaeolilgdnodai
