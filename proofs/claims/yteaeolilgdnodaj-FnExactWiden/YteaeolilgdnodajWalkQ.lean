/-
  The widening, the program's and the specification's, and the law on it, walked.
-/
import Derived.Test.YteaeolilgdnodajWalkP
namespace Go.Proofs.Yteaeolilgdnodaj
open Go.RowKit Fl

@[go_sem] theorem conv_33_24 (b : Nat) (w : World) : (convert 37 22 (.float .f32 b)).run Try.prog w = .ok (.float .f64 (cfv .f32 .f64 b w)) (w.drewN (cfd .f32 .f64 b)) := run_convert_ff 37 22 .f32 .f64 b w (by kernel_rfl) Try.underlying22
@[go_sem] theorem conv_24_33 (b : Nat) (w : World) : (convert 22 37 (.float .f64 b)).run Try.prog w = .ok (.float .f32 (cfv .f64 .f32 b w)) (w.drewN (cfd .f64 .f32 b)) := run_convert_ff 22 37 .f64 .f32 b w (by kernel_rfl) Try.underlying37
@[go_sem] theorem conv_58_49 (a b : Nat) (w : World) : (convert 69 63 (.complex .f32 a b)).run Try.prog w = .ok (.complex .f64 (cfv .f32 .f64 a w) (cfv .f32 .f64 b (w.drewN (cfd .f32 .f64 a)))) (w.drewN (cfd .f32 .f64 a + cfd .f32 .f64 b)) := run_convert_cc 69 63 .f32 .f64 a b w (by kernel_rfl) Try.underlying63
@[go_sem] theorem conv_49_58 (a b : Nat) (w : World) : (convert 63 69 (.complex .f64 a b)).run Try.prog w = .ok (.complex .f32 (cfv .f64 .f32 a w) (cfv .f64 .f32 b (w.drewN (cfd .f64 .f32 a)))) (w.drewN (cfd .f64 .f32 a + cfd .f64 .f32 b)) := run_convert_cc 63 69 .f64 .f32 a b w (by kernel_rfl) Try.underlying69
@[go_sem] theorem build35 (a b : Nat) (w : World) : (Instr.build 39 #[(0, .float .f32 a), (1, .float .f32 b)]).run Try.prog w = .ok (.agg #[.float .f32 a, .float .f32 b]) w := run_build w 39 _ _ (by kernel_rfl)

theorem slimOf_any (a b : Nat) (w : World) :
    Calls Try.prog 43 #[.agg #[.float .f32 a, .float .f32 b]] w fun e w' => e = .returned (.complex .f32 a b) ∧ Below w.heap.size w w' := by
  go_enter Try.func43, Try.ntmps43
  go_wp2
  go_ret
  exact ⟨rfl, below_alloc _ _⟩
theorem implWiden_any (a b : Nat) (w : World) :
    Calls Try.prog 23 #[.agg #[.float .f32 a, .float .f32 b]] w fun e w' => ∃ r t, e = .returned (.agg #[.float .f64 r, .float .f64 t]) ∧ CR .f32 .f64 a r ∧ CR .f32 .f64 b t ∧ Below w.heap.size w w' := by
  obtain ⟨W, hW, b0, b1, bW⟩ := pairBoxes w 39 26 (.float .f32 a) (.float .f32 b) (.float .f64 0) (.float .f64 0)
  obtain ⟨p0, p1, p2, p3⟩ := b0.open
  go_enter Try.func23, Try.ntmps23
  go_wp2_with (first | (go_at_call 43; refine (slimOf_any _ _ _).mono ?_; rintro e w1 ⟨rfl, hb⟩; replace b1 := b1.below hb; replace bW := bW.trans (hb.mono bW.size)) | (go_at_call 40; refine (cxOf_any _ _ _).mono ?_; rintro e w2 ⟨rfl, hb2⟩; have b2 := BoxT.below (w := w1.drewN _) b1 hb2; have bF := (below_drewN bW _).trans (hb2.mono bW.size); obtain ⟨q0, q1, q2, q3⟩ := b2.open; clear hb2))
  exact bodyPost_ret (v := .agg #[.float .f64 (cfv .f32 .f64 a w1), .float .f64 (cfv .f32 .f64 b (w1.drewN (cfd .f32 .f64 a)))]) (by simp [results, Try.results23, go_sem, q0, q1]) rfl ⟨_, _, rfl, ⟨_, rfl⟩, ⟨_, rfl⟩, (bF.setCell (Nat.le_succ _) _).setCell (Nat.le_succ _) _⟩
theorem specWiden_any (a b : Nat) (w : World) :
    Calls Try.prog 21 #[.agg #[.float .f32 a, .float .f32 b]] w fun e w' => ∃ r t, e = .returned (.agg #[.float .f64 r, .float .f64 t]) ∧ CR .f32 .f64 a r ∧ CR .f32 .f64 b t ∧ Below w.heap.size w w' := by
  obtain ⟨W, hW, b0, b1, bW⟩ := pairBoxes w 39 26 (.float .f32 a) (.float .f32 b) (.float .f64 0) (.float .f64 0)
  obtain ⟨p0, p1, p2, p3⟩ := b0.open
  obtain ⟨q0, q1, q2, q3⟩ := b1.open
  go_enter Try.func21, Try.ntmps21
  go_wp2
  exact bodyPost_ret (v := .agg #[.float .f64 (cfv .f32 .f64 a W), .float .f64 (cfv .f32 .f64 b (W.drewN (cfd .f32 .f64 a)))]) (by simp [results, Try.results21, go_sem, q0, q1]) rfl ⟨_, _, rfl, ⟨_, rfl⟩, ⟨_, rfl⟩, ((below_drewN bW _).setCell (Nat.le_succ _) _).setCell (Nat.le_succ _) _⟩


theorem toCs_any (a b : Nat) (w : World) :
    Calls Try.prog 22 #[.agg #[.float .f32 a, .float .f32 b]] w fun e w' => e = .returned (.agg #[.float .f32 a, .float .f32 b]) ∧ Below w.heap.size w w' := by
  go_enter Try.func22, Try.ntmps22
  go_wp2
  exact bodyPost_ret (v := .agg #[.float .f32 a, .float .f32 b]) (by simp [results, Try.results22, go_sem]) rfl ⟨rfl, (((Below.refl _ _).alloc (Nat.le_refl _) _).alloc (by simp) _).alloc (by simp <;> omega) _⟩

theorem widen_same {x r r' : Nat} (h : CR .f32 .f64 x r) (h' : CR .f32 .f64 x r') : ab .f64 r = ab .f64 r' := by
  cases hx : isn Ieee.single x
  · exact ab_widened (.inr ⟨hx, rfl⟩) h h'
  · exact ab_widened (.inl ⟨hx, hx⟩) h h'

theorem exactWiden_walk (a b : Nat) (w : World) :
    Calls Try.prog 6 #[.agg #[.float .f32 a, .float .f32 b]] w fun e w' => e = .returned (.bool true) ∧ Below w.heap.size w w' := by
  obtain ⟨W, hW⟩ : ∃ W, w.alloc (.cells #[.float .f32 a, .float .f32 b] 43) = W := ⟨_, rfl⟩
  have b0 : BoxT 43 W w.heap.size (.float .f32 a) (.float .f32 b) := by subst hW; exact boxT_new _ _ _ _ rfl
  have bW : Below w.heap.size w W := by subst hW; exact below_alloc _ _
  obtain ⟨p0, p1, -, -⟩ := b0.open
  go_enter Try.func6, Try.ntmps6
  go_wp2_with fail
  clear hW
  refine (toCs_any _ _ _).mono ?_
  rintro e w1 ⟨rfl, hb⟩
  replace b0 := b0.below hb
  replace bW := bW.trans (hb.mono bW.size)
  clear hb p0 p1
  go_wp2_with fail
  refine (specWiden_any _ _ _).mono ?_
  rintro e w2 ⟨r, t, rfl, hr, ht, hb⟩
  replace b0 := b0.below hb
  replace bW := bW.trans (hb.mono bW.size)
  clear hb
  obtain ⟨V, hV⟩ : ∃ V, w2.alloc (.cells #[.float .f64 r, .float .f64 t] 26) = V := ⟨_, rfl⟩
  have b1 : BoxT 26 V w2.heap.size (.float .f64 r) (.float .f64 t) := by subst hV; exact boxT_new _ _ _ _ rfl
  replace b0 : BoxT 43 V w.heap.size (.float .f32 a) (.float .f32 b) := by subst hV; exact b0.below (below_alloc _ _)
  replace bW : Below w.heap.size w V := by subst hV; exact bW.trans ((below_alloc _ _).mono bW.size)
  obtain ⟨p0, p1, -, -⟩ := b0.open
  go_wp2_with fail
  clear hV
  refine (toCs_any _ _ _).mono ?_
  rintro e w3 ⟨rfl, hb⟩
  replace b1 := b1.below hb
  replace bW := bW.trans (hb.mono bW.size)
  clear hb p0 p1 b0
  go_wp2_with fail
  refine (implWiden_any _ _ _).mono ?_
  rintro e w4 ⟨r', t', rfl, hr', ht', hb⟩
  replace b1 := b1.below hb
  replace bW := bW.trans (hb.mono bW.size)
  clear hb
  have H1 : Hid (ab .f64 r' = ab .f64 r) := widen_same hr' hr
  have H2 : Hid (ab .f64 t' = ab .f64 t) := widen_same ht' ht
  clear hr ht hr' ht'
  obtain ⟨U, hU⟩ : ∃ U, w4.alloc (.cells #[.float .f64 r', .float .f64 t'] 26) = U := ⟨_, rfl⟩
  have b2 : BoxT 26 U w4.heap.size (.float .f64 r') (.float .f64 t') := by subst hU; exact boxT_new _ _ _ _ rfl
  replace b1 : BoxT 26 U w2.heap.size (.float .f64 r) (.float .f64 t) := by subst hU; exact b1.below (below_alloc _ _)
  replace bW : Below w.heap.size w U := by subst hU; exact bW.trans ((below_alloc _ _).mono bW.size)
  obtain ⟨p0, p1, -, -⟩ := b1.open
  obtain ⟨q0, q1, -, -⟩ := b2.open
  go_wp2_with fail
  clear hU
  refine (eqCx_true H1.out H2.out _).mono ?_
  rintro e w5 ⟨rfl, hb⟩
  replace bW := bW.trans (hb.mono bW.size)
  clear hb
  go_wp2
  go_ret
  exact ⟨rfl, bW⟩

end Go.Proofs.Yteaeolilgdnodaj
