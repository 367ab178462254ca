/-
  A row of one number narrowed and multiplied, and the law FnNarrowBack, walked.
-/
import Derived.Test.YteaeolilgdnodaaWalkL
namespace Go.Proofs.Yteaeolilgdnodaa
open Go.RowKit Fl

theorem narrow3 {r : Nat} (h : CR .f64 .f32 4613937818241073152 r) : r = 1077936128 := by
  obtain ⟨w, rfl⟩ := h
  have hd : FloatKind.f64.format.read 4613937818241073152 = .number false 6755399441055744 (-51) := by decide +kernel
  rw [cfv_num (by decide) hd (by decide +kernel)]
  decide +kernel
theorem narrow5 {r : Nat} (h : CR .f64 .f32 4617315517961601024 r) : r = 1084227584 := by
  obtain ⟨w, rfl⟩ := h
  have hd : FloatKind.f64.format.read 4617315517961601024 = .number false 5629499534213120 (-50) := by decide +kernel
  rw [cfv_num (by decide) hd (by decide +kernel)]
  decide +kernel

theorem mul_slim {re im : Nat} (h : MulR .f32 1077936128 1084227584 1073741824 0 re im) : re = 1086324736 ∧ im = 1092616192 := by
  obtain ⟨rr, ii, ri, ir, h1, h2, h3, h4, h5, h6⟩ := h
  have f : ∀ {op : BinOp} {x y r z : Nat}, FR op .f32 x y r → floatBits op .f32 x y = some z → r = z := by
    intro op x y r z h e
    rcases h with h | ⟨h, _⟩
    · rw [e] at h; exact (Option.some.inj h).symm
    · rw [e] at h; cases h
  obtain rfl := f h1 (z := 1086324736) (by decide +kernel)
  obtain rfl := f h2 (z := 0) (by decide +kernel)
  obtain rfl := f h4 (z := 0) (by decide +kernel)
  obtain rfl := f h5 (z := 1092616192) (by decide +kernel)
  exact ⟨f h3 (by decide +kernel), f h6 (by decide +kernel)⟩

/-- What the round reads and writes. -/
abbrev S4 (W : World) (n q : Nat) (w' : World) : Prop :=
  (w'.cell? ⟨q, 0, none⟩ = some (.float .f64 4613937818241073152) ∧ w'.cell? ⟨q, 1, none⟩ = some (.float .f64 4617315517961601024) ∧ w'.cell? ⟨n, 0, none⟩ = some (.float .f32 1073741824) ∧ w'.cell? ⟨n, 1, none⟩ = some (.float .f32 0)) ∧
  (w'.cell? ⟨n + 1, 0, none⟩ = some (cv w' (n + 1) 0) ∧ w'.cell? ⟨n + 1, 1, none⟩ = some (cv w' (n + 1) 1) ∧ w'.frozen? ⟨n + 1, 0, none⟩ = false ∧ w'.frozen? ⟨n + 1, 1, none⟩ = false) ∧
  Kp W (n + 1) w' ∧ Slot (n + 1) w'

theorem narrowRow_one {w : World} {q : Nat} (hb : BoxT 26 w q (.float .f64 4613937818241073152) (.float .f64 4617315517961601024)) :
    Calls Try.prog 18 #[.slice (some ⟨q, 0, none⟩) 1 1, .agg #[.float .f32 1073741824, .float .f32 0]] w fun e w' => ∃ g, e = .returned (.slice (some ⟨g, 0, none⟩) 1 1) ∧ (w'.cell? ⟨g, 0, none⟩ = some (.float .f32 1086324736) ∧ w'.cell? ⟨g, 1, none⟩ = some (.float .f32 1092616192)) ∧ Below w.heap.size w w' := by
  have hq := hb.lt
  obtain ⟨W, hW, b0, b1, bW⟩ := pairBoxes w 35 35 (.float .f32 1073741824) (.float .f32 0) (.float .f32 0) (.float .f32 0)
  have bq : BoxT 26 W q (.float .f64 4613937818241073152) (.float .f64 4617315517961601024) := hb.below bW
  have hmk : ∀ w, (Instr.makeSlice 39 (.int .i64 1) (.int .i64 1)).run Try.prog w = .ok (.slice (some ⟨w.heap.size, 0, none⟩) 1 1) (w.alloc (.cells #[.float .f32 0, .float .f32 0] 35)) := fun _ => by kernel_rfl
  clear hb
  go_enter Try.func18, Try.ntmps18
  go_wp2
  refine wp_loop_rounds 2 ?_
  rw [rounds_succ]
  go_wp2
  clear hW hmk
  have hk : Kp W (w.heap.size + 1) W := ⟨Below.refl _ _, Nat.le_of_lt b1.lt⟩
  have hs : Slot (w.heap.size + 1) W := ⟨_, _, _, b1⟩
  have mk : Hid (∀ w', Kp W (w.heap.size + 1) w' → Slot (w.heap.size + 1) w' → S4 W w.heap.size q w') := fun w' h h' =>
    ⟨⟨h.cell (by omega) bq.open.1, h.cell (by omega) bq.open.2.1, h.cell (by omega) b0.open.1, h.cell (by omega) b0.open.2.1⟩, h'.open, h, h'⟩
  go_region_held3 (fun w' => S4 W w.heap.size q w')
    (first | exact mk.out _ (hk.below (Below.refl _ _).drew) (hs.below (Below.refl _ _).drew) | (have hq : S4 _ _ _ _ := ‹_›; exact mk.out _ (hq.2.2.1.below hb1) (hq.2.2.2.below hb1)) | (have hq : S4 _ _ _ _ := ‹_›; exact mk.out _ ((hq.2.2.1.set _).set _) (slot_set _ _ _ _ (by omega) (slot_set _ _ _ _ (by omega) hq.2.2.2))))
    (first | (go_at_call 17; refine (implNarrow_any _ _ _).mono ?_; rintro e w1 ⟨r, t, rfl, h3, h5, hb1⟩; obtain rfl := narrow3 h3; obtain rfl := narrow5 h5) | (go_at_call 34; refine (slimOf_any _ _ _).mono ?_; rintro e w1 ⟨rfl, hb1⟩) | (go_at_call 36; refine (mulSlim_any _ _ _ _ _).mono ?_; rintro e w1 ⟨re, im, rfl, hm, hb1⟩; obtain ⟨rfl, rfl⟩ := mul_slim hm) | (go_at_call 35; refine (csOf_any _ _ _).mono ?_; rintro e w1 ⟨rfl, hb1⟩))
  have hf : S4 _ _ _ _ := ‹_›
  have hr := slot_read hf.2.2.2
  have hfin := bW.trans (hf.2.2.1.1.mono (by omega))
  clear hf mk hk hs bq b0 b1 bW
  go_wp2
  rw [rounds_succ]
  go_wp2
  go_ret
  exact ⟨_, rfl, hr, hfin⟩

theorem ab_widened {x y r1 r2 : Nat} (h : (isn Ieee.single x = true ∧ isn Ieee.single y = true) ∨ (isn Ieee.single x = false ∧ y = x)) (h1 : CR .f32 .f64 y r1) (h2 : CR .f32 .f64 x r2) : ab .f64 r1 = ab .f64 r2 := by
  have e1 : ab .f64 r1 = if isn Ieee.double r1 then none else some r1 := rfl
  have e2 : ab .f64 r2 = if isn Ieee.double r2 then none else some r2 := rfl
  rw [e1, e2]
  rcases h with ⟨hx, hy⟩ | ⟨hx, rfl⟩
  · rcases widen_CR h1 with ⟨_, g1⟩ | ⟨g1, _⟩
    · rcases widen_CR h2 with ⟨_, g2⟩ | ⟨g2, _⟩
      · rw [g1, g2]; rfl
      · rw [hx] at g2; cases g2
    · rw [hy] at g1; cases g1
  · rcases widen_CR h1 with ⟨g1, _⟩ | ⟨_, g1, g1'⟩
    · rw [hx] at g1; cases g1
    · rcases widen_CR h2 with ⟨g2, _⟩ | ⟨_, g2, g2'⟩
      · rw [hx] at g2; cases g2
      · rw [g1', g2', g1, g2]

theorem clo_ab {a b c d : Nat} (h1 : ab .f64 a = ab .f64 c) (h2 : ab .f64 b = ab .f64 d) : clo a b c d = 0 := by
  unfold clo
  rw [if_pos (lo_same h1), lo_same h2]

@[go_sem] theorem eq35 (a b c d : Nat) (w : World) : (Op.equalIn 10000 35 (.agg #[.float .f32 a, .float .f32 b]) (.agg #[.float .f32 c, .float .f32 d])).run Try.prog w = .ok (FloatKind.f32.format.order a c == some .eq && FloatKind.f32.format.order b d == some .eq) w := by
  have u33 := Try.underlying33
  have a33 := Try.isAgg33
  have z33 := Try.sizeOf33
  have hS : Try.prog.underlying 35 = some (.struct (Try.prog.fieldsOf 35)) := by kernel_rfl
  have hp : Try.prog.stoodInHeld 35 = false := by kernel_rfl
  rw [show (10000 : Nat) = 9999 + 1 from rfl, run_equalIn_agg w 9999 35 _ _ hS hp]
  simp only [Program.fieldsOf, Try.underlying35]
  go_simp
  by_cases h1 : FloatKind.f32.format.order a c = some .eq <;> by_cases h2 : FloatKind.f32.format.order b d = some .eq <;> simp [h1, h2]

theorem ord_6 : FloatKind.f32.format.order 1086324736 1086324736 = some .eq := by decide +kernel
theorem ord_10 : FloatKind.f32.format.order 1092616192 1092616192 = some .eq := by decide +kernel

/-- What the law's region reads. -/
abbrev S5 (W : World) (n m x y r t : Nat) (w' : World) : Prop :=
  (w'.cell? ⟨n, 0, none⟩ = some (.float .f32 x) ∧ w'.cell? ⟨n, 1, none⟩ = some (.float .f32 y) ∧ w'.cell? ⟨m, 0, none⟩ = some (.float .f64 r) ∧ w'.cell? ⟨m, 1, none⟩ = some (.float .f64 t)) ∧ Below W.heap.size W w'

theorem narrowBack_walk (a : Option Addr) (len cap : Nat) (w : World) (hr : Row w w.heap.size a len) :
    Calls Try.prog 5 #[.slice a len cap] w fun e w' => e = .returned (.bool true) ∧ Below w.heap.size w w' := by
  have hg := fun w => big_any a len cap w hr.1
  by_cases hbig : 1048576 < len
  · have hd : decide (1048576 < len) = true := by simpa using hbig
    rw [hd] at hg
    clear hr
    go_enter Try.func5, Try.ntmps5
    go_wp2_with (go_at_call 7; refine (hg _).mono ?_; rintro e w1 ⟨rfl, rfl⟩)
    go_ret
    exact ⟨rfl, Below.refl _ _⟩
  have hd : decide (1048576 < len) = false := by simpa using hbig
  rw [hd] at hg
  have HR : Hid (Row w w.heap.size a len) := hr
  clear hr hbig hd
  go_enter Try.func5, Try.ntmps5
  go_wp2_with fail
  refine (hg _).mono ?_
  rintro e w1 ⟨rfl, rfl⟩
  clear hg
  go_wp2_with fail
  refine (drawWiden_any HR.out).mono ?_
  rintro e w1 ⟨x, y, rfl, ⟨hx, hy⟩, hb1⟩
  clear HR
  obtain ⟨W, hW⟩ : ∃ W, w1.alloc (.cells #[.float .f32 x, .float .f32 y] 35) = W := ⟨_, rfl⟩
  have bA : BoxT 35 W w1.heap.size (.float .f32 x) (.float .f32 y) := by subst hW; exact boxT_new _ _ _ _ rfl
  have HB : Below w.heap.size w W := by subst hW; exact hb1.trans ((below_alloc _ _).mono hb1.size)
  obtain ⟨c0, c1, -, -⟩ := bA.open
  clear hb1
  go_wp2_with fail
  clear hW
  refine (implWiden_any _ _ _).mono ?_
  rintro e w2 ⟨r, t, rfl, hr1, ht1, hb2⟩
  replace bA := bA.below hb2
  replace HB := HB.trans (hb2.mono HB.size)
  clear hb2 c0 c1
  have hlt := bA.lt
  obtain ⟨V, hV⟩ : ∃ V, w2.alloc (.cells #[.float .f64 r, .float .f64 t] 26) = V := ⟨_, rfl⟩
  replace bA : BoxT 35 V w1.heap.size (.float .f32 x) (.float .f32 y) := by subst hV; exact bA.below (below_alloc _ _)
  have bB : BoxT 26 V w2.heap.size (.float .f64 r) (.float .f64 t) := by subst hV; exact boxT_new _ _ _ _ rfl
  replace HB : Below w.heap.size w V := by subst hV; exact HB.trans ((below_alloc _ _).mono HB.size)
  go_wp2_with fail
  clear hV
  have mk : Hid (∀ w', Below V.heap.size V w' → S5 V w1.heap.size w2.heap.size x y r t w') := fun w' h => ⟨⟨(bA.below h).open.1, (bA.below h).open.2.1, (bB.below h).open.1, (bB.below h).open.2.1⟩, h⟩
  go_region_held3 (fun w' => S5 V w1.heap.size w2.heap.size x y r t w')
    (first | exact mk.out _ (Below.refl _ _).drew | (have hq : S5 _ _ _ _ _ _ _ _ := ‹_›; exact mk.out _ (hq.2.trans (hb3.mono hq.2.size))))
    (first | (go_at_call 17; refine (implNarrow_any _ _ _).mono ?_; rintro e w3 ⟨x', y', rfl, hx', hy', hb3⟩; have gx := back_CR hx hr1 hx'; have gy := back_CR hy ht1 hy'; clear hx' hy') | (go_at_call 16; refine (specWiden_any _ _ _).mono ?_; rintro e w3 ⟨r', t', rfl, hr', ht', hb3⟩) | (go_at_call 10; refine (cxOrder_any _ _ _ _ _).mono ?_; rintro e w3 ⟨rfl, hb3⟩; have hz := clo_ab (ab_widened gx ‹CR .f32 .f64 x' _› ‹CR .f32 .f64 x _›) (ab_widened gy ‹CR .f32 .f64 y' _› ‹CR .f32 .f64 y _›)))
  have hq : S5 _ _ _ _ _ _ _ _ := ‹_›
  replace HB := HB.trans (hq.2.mono HB.size)
  clear hq mk bA bB hlt
  have o6 := ord_6
  have o10 := ord_10
  go_wp2_with fail
  refine (narrowRow_one (boxT_new _ _ _ _ rfl)).mono ?_
  rintro e w4 ⟨g, rfl, ⟨c0, c1⟩, hb4⟩
  replace HB := (HB.trans ((below_alloc _ _).mono HB.size)).trans (hb4.mono (by have := HB.size; simp; omega))
  clear hb4
  go_wp2
  go_ret
  exact ⟨rfl, HB⟩

end Go.Proofs.Yteaeolilgdnodaa
