/-
  The functions of two widths, walked.
-/
import Derived.Test.YteaeolilgdnodaaWalkK
namespace Go.Proofs.Yteaeolilgdnodaa
open Go.RowKit Fl

/-- Block q holds two cells of the type t. -/
def BoxT (t : TypeId) (w : World) (q : Nat) (v0 v1 : Value) : Prop := w.heap[q]? = some (.cells #[v0, v1] t)
theorem BoxT.lt {t : TypeId} {w : World} {q : Nat} {v0 v1 : Value} (h : BoxT t w q v0 v1) : q < w.heap.size := (Array.getElem?_eq_some_iff.1 h).1
theorem BoxT.kept {t : TypeId} {w w' : World} {p q : Nat} {v0 v1 : Value} (h : BoxT t w q v0 v1) (hk : Kept p w w') (hq : q ≠ p) : BoxT t w' q v0 v1 := (hk.block q h.lt hq).trans h
theorem BoxT.below {t : TypeId} {w w' : World} {q : Nat} {v0 v1 : Value} (h : BoxT t w q v0 v1) (hk : Below w.heap.size w w') : BoxT t w' q v0 v1 := (hk.block q h.lt).trans h
theorem BoxT.open {t : TypeId} {w : World} {q : Nat} {v0 v1 : Value} (h : BoxT t w q v0 v1) : w.cell? ⟨q, 0, none⟩ = some v0 ∧ w.cell? ⟨q, 1, none⟩ = some v1 ∧ w.frozen? ⟨q, 0, none⟩ = false ∧ w.frozen? ⟨q, 1, none⟩ = false := by
  simp [World.cell?, World.frozen?, show w.heap[q]? = _ from h]
theorem boxT_new (t : TypeId) (w : World) (v0 v1 : Value) {q : Nat} (hq : q = w.heap.size) : BoxT t (w.alloc (.cells #[v0, v1] t)) q v0 v1 := hq ▸ heap_alloc_new w _

/-- An argument's box and a result's. -/
theorem pairBoxes (w : World) (t u : TypeId) (v0 v1 v2 v3 : Value) : ∃ W, (w.alloc (.cells #[v0, v1] t)).alloc (.cells #[v2, v3] u) = W ∧
    BoxT t W w.heap.size v0 v1 ∧ BoxT u W (w.heap.size + 1) v2 v3 ∧ Below w.heap.size w W := by
  refine ⟨_, rfl, (boxT_new _ _ _ _ rfl).below (below_alloc _ _), boxT_new _ _ _ _ (by simp), ?_⟩
  exact (below_alloc _ _).trans ((below_alloc _ _).mono (by simp))

theorem slimOf_any (a b : Nat) (w : World) :
    Calls Try.prog 34 #[.agg #[.float .f32 a, .float .f32 b]] w fun e w' => e = .returned (.complex .f32 a b) ∧ Below w.heap.size w w' := by
  go_enter Try.func34, Try.ntmps34
  go_wp2
  go_ret
  exact ⟨rfl, below_alloc _ _⟩

theorem csOf_any (a b : Nat) (w : World) :
    Calls Try.prog 35 #[.complex .f32 a b] w fun e w' => e = .returned (.agg #[.float .f32 a, .float .f32 b]) ∧ Below w.heap.size w w' := by
  go_enter Try.func35, Try.ntmps35
  go_wp2
  exact bodyPost_ret (v := .agg #[.float .f32 a, .float .f32 b]) (by simp [results, Try.results35, go_sem]) rfl ⟨rfl, below_alloc _ _⟩

theorem implWiden_any (a b : Nat) (w : World) :
    Calls Try.prog 15 #[.agg #[.float .f32 a, .float .f32 b]] w fun e w' => ∃ r t, e = .returned (.agg #[.float .f64 r, .float .f64 t]) ∧ CR .f32 .f64 a r ∧ CR .f32 .f64 b t ∧ Below w.heap.size w w' := by
  obtain ⟨W, hW, b0, b1, bW⟩ := pairBoxes w 35 26 (.float .f32 a) (.float .f32 b) (.float .f64 0) (.float .f64 0)
  obtain ⟨p0, p1, p2, p3⟩ := b0.open
  go_enter Try.func15, Try.ntmps15
  go_wp2_with (first | (go_at_call 34; refine (slimOf_any _ _ _).mono ?_; rintro e w1 ⟨rfl, hb⟩; replace b1 := b1.below hb; replace bW := bW.trans (hb.mono bW.size)) | (go_at_call 24; refine (cxOf_any _ _ _).mono ?_; rintro e w2 ⟨rfl, hb2⟩; have b2 := BoxT.below (w := w1.drewN _) b1 hb2; have bF := (below_drewN bW _).trans (hb2.mono bW.size); obtain ⟨q0, q1, q2, q3⟩ := b2.open; clear hb2))
  exact bodyPost_ret (v := .agg #[.float .f64 (cfv .f32 .f64 a w1), .float .f64 (cfv .f32 .f64 b (w1.drewN (cfd .f32 .f64 a)))]) (by simp [results, Try.results15, go_sem, q0, q1]) rfl ⟨_, _, rfl, ⟨_, rfl⟩, ⟨_, rfl⟩, (bF.setCell (Nat.le_succ _) _).setCell (Nat.le_succ _) _⟩

theorem specWiden_any (a b : Nat) (w : World) :
    Calls Try.prog 16 #[.agg #[.float .f32 a, .float .f32 b]] w fun e w' => ∃ r t, e = .returned (.agg #[.float .f64 r, .float .f64 t]) ∧ CR .f32 .f64 a r ∧ CR .f32 .f64 b t ∧ Below w.heap.size w w' := by
  obtain ⟨W, hW, b0, b1, bW⟩ := pairBoxes w 35 26 (.float .f32 a) (.float .f32 b) (.float .f64 0) (.float .f64 0)
  obtain ⟨p0, p1, p2, p3⟩ := b0.open
  obtain ⟨q0, q1, q2, q3⟩ := b1.open
  go_enter Try.func16, Try.ntmps16
  go_wp2
  exact bodyPost_ret (v := .agg #[.float .f64 (cfv .f32 .f64 a W), .float .f64 (cfv .f32 .f64 b (W.drewN (cfd .f32 .f64 a)))]) (by simp [results, Try.results16, go_sem, q0, q1]) rfl ⟨_, _, rfl, ⟨_, rfl⟩, ⟨_, rfl⟩, ((below_drewN bW _).setCell (Nat.le_succ _) _).setCell (Nat.le_succ _) _⟩

theorem implNarrow_any (a b : Nat) (w : World) :
    Calls Try.prog 17 #[.agg #[.float .f64 a, .float .f64 b]] w fun e w' => ∃ r t, e = .returned (.agg #[.float .f32 r, .float .f32 t]) ∧ CR .f64 .f32 a r ∧ CR .f64 .f32 b t ∧ Below w.heap.size w w' := by
  obtain ⟨W, hW, b0, b1, bW⟩ := pairBoxes w 26 35 (.float .f64 a) (.float .f64 b) (.float .f32 0) (.float .f32 0)
  obtain ⟨p0, p1, p2, p3⟩ := b0.open
  go_enter Try.func17, Try.ntmps17
  go_wp2_with (first | (go_at_call 26; refine (wideOf_any _ _ _).mono ?_; rintro e w1 ⟨rfl, hb⟩; replace b1 := b1.below hb; replace bW := bW.trans (hb.mono bW.size)) | (go_at_call 35; refine (csOf_any _ _ _).mono ?_; rintro e w2 ⟨rfl, hb2⟩; have b2 := BoxT.below (w := w1.drewN _) b1 hb2; have bF := (below_drewN bW _).trans (hb2.mono bW.size); obtain ⟨q0, q1, q2, q3⟩ := b2.open; clear hb2))
  exact bodyPost_ret (v := .agg #[.float .f32 (cfv .f64 .f32 a w1), .float .f32 (cfv .f64 .f32 b (w1.drewN (cfd .f64 .f32 a)))]) (by simp [results, Try.results17, go_sem, q0, q1]) rfl ⟨_, _, rfl, ⟨_, rfl⟩, ⟨_, rfl⟩, (bF.setCell (Nat.le_succ _) _).setCell (Nat.le_succ _) _⟩

theorem specNarrow_any (a b : Nat) (w : World) :
    Calls Try.prog 33 #[.agg #[.float .f64 a, .float .f64 b]] w fun e w' => ∃ r t, e = .returned (.agg #[.float .f32 r, .float .f32 t]) ∧ CR .f64 .f32 a r ∧ CR .f64 .f32 b t ∧ Below w.heap.size w w' := by
  obtain ⟨W, hW, b0, b1, bW⟩ := pairBoxes w 26 35 (.float .f64 a) (.float .f64 b) (.float .f32 0) (.float .f32 0)
  obtain ⟨p0, p1, p2, p3⟩ := b0.open
  obtain ⟨q0, q1, q2, q3⟩ := b1.open
  go_enter Try.func33, Try.ntmps33
  go_wp2
  exact bodyPost_ret (v := .agg #[.float .f32 (cfv .f64 .f32 a W), .float .f32 (cfv .f64 .f32 b (W.drewN (cfd .f64 .f32 a)))]) (by simp [results, Try.results33, go_sem, q0, q1]) rfl ⟨_, _, rfl, ⟨_, rfl⟩, ⟨_, rfl⟩, ((below_drewN bW _).setCell (Nat.le_succ _) _).setCell (Nat.le_succ _) _⟩

theorem mulSlim_any (a b c d : Nat) (w : World) :
    Calls Try.prog 36 #[.complex .f32 a b, .complex .f32 c d] w fun e w' => ∃ re im, e = .returned (.complex .f32 re im) ∧ MulR .f32 a b c d re im ∧ Below w.heap.size w w' := by
  go_enter Try.func36, Try.ntmps36
  go_wp2
  go_ret
  exact ⟨_, _, rfl, ⟨_, _, _, _, fv_FR .., fv_FR .., fv_FR .., fv_FR .., fv_FR .., fv_FR ..⟩, below_drewN (Below.refl _ _) _⟩

theorem drawWiden_any {w : World} {a : Option Addr} {len cap : Nat} (hr : Row w w.heap.size a len) :
    Calls Try.prog 14 #[.slice a len cap] w fun e w' => ∃ x y : Nat, e = .returned (.agg #[.float .f32 x, .float .f32 y]) ∧ (x < 2 ^ 32 ∧ y < 2 ^ 32) ∧ Below w.heap.size w w' := by
  obtain ⟨W, hW⟩ : ∃ W, w.alloc (.cells #[.float .f32 0, .float .f32 0] 35) = W := ⟨_, rfl⟩
  have bW : Below w.heap.size w W := by subst hW; exact below_alloc _ _
  have b0 : BoxT 35 W w.heap.size (.float .f32 0) (.float .f32 0) := by subst hW; exact boxT_new _ _ _ _ rfl
  have hsz : W.heap.size = w.heap.size + 1 := by subst hW; simp
  have hr2 : Row W W.heap.size a len := (hr.kept (.of_below bW) (Nat.le_refl _)).mono bW.size
  clear hr
  go_enter Try.func14, Try.ntmps14
  go_wp2_with fail
  refine (new_any hr2).mono ?_
  rintro e w3 ⟨rfl, hb3, hc3⟩
  rw [hsz] at hc3
  clear hr2 hW
  replace b0 := b0.below hb3
  replace bW := bW.trans (hb3.mono (by omega))
  clear hb3
  go_wp2_with fail
  refine (drawCx_dr (Dr.start hc3)).mono ?_
  rintro e w4 ⟨x, y, rfl, hx, hy, hd4⟩
  replace b0 := b0.kept hd4.1 (by omega)
  replace bW := bW.trans (hd4.1.below (by omega) bW.size)
  clear hc3 hd4
  go_wp2_with fail
  refine (specNarrow_any _ _ _).mono ?_
  rintro e w5 ⟨r, t, rfl, ⟨_, rfl⟩, ⟨_, rfl⟩, hb5⟩
  replace b0 := b0.below hb5
  replace bW := bW.trans (hb5.mono bW.size)
  clear hb5
  obtain ⟨q0, q1, q2, q3⟩ := b0.open
  go_wp2
  exact bodyPost_ret (v := .agg #[.float .f32 _, .float .f32 _]) (by simp [results, Try.results14, go_sem, q0, q1]; exact ⟨rfl, rfl⟩) rfl ⟨_, _, rfl, ⟨cfv_lt32 .., cfv_lt32 ..⟩, (bW.setCell (Nat.le_refl _) _).setCell (Nat.le_refl _) _⟩

end Go.Proofs.Yteaeolilgdnodaa
