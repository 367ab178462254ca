/-
  The law FnMulSame, walked.
-/
import Derived.Test.YteaeolilgdnodaaWalkE
namespace Go.Proofs.Yteaeolilgdnodaa
open Go.RowKit Fl

@[go_sem] theorem run_equalIn_float {P : Program} (d : Nat) (t : TypeId) (k k' : FloatKind) (a b : Nat) (w : World) (h : P.underlying t = some (.float k')) : (Op.equalIn (d + 1) t (.float k a) (.float k b)).run P w = .ok (k.format.order a b == some .eq) w := by
  rw [Op.equalIn]
  simp [run_underlying h, Op.floatEq]

@[go_sem] theorem eq26 (a b c d : Nat) (w : World) : (Op.equalIn 10000 26 (.agg #[.float .f64 a, .float .f64 b]) (.agg #[.float .f64 c, .float .f64 d])).run Try.prog w = .ok (FloatKind.f64.format.order a c == some .eq && FloatKind.f64.format.order b d == some .eq) w := by
  have u24 := Try.underlying24
  have a24 := Try.isAgg24
  have z24 := Try.sizeOf24
  have hS : Try.prog.underlying 26 = some (.struct (Try.prog.fieldsOf 26)) := by kernel_rfl
  have hp : Try.prog.stoodInHeld 26 = false := by kernel_rfl
  rw [show (10000 : Nat) = 9999 + 1 from rfl, run_equalIn_agg w 9999 26 _ _ hS hp]
  simp only [Program.fieldsOf, Try.underlying26]
  go_simp
  by_cases h1 : FloatKind.f64.format.order a c = some .eq <;> by_cases h2 : FloatKind.f64.format.order b d = some .eq <;> simp [h1, h2]

theorem cxConj_any (a b : Nat) (w : World) :
    Calls Try.prog 11 #[.agg #[.float .f64 a, .float .f64 b]] w fun e w' => e = .returned (.agg #[.float .f64 a, .float .f64 (Op.negFloat .f64 b)]) ∧ Below w.heap.size w w' := by
  obtain ⟨W, hW⟩ : ∃ W, (w.alloc (.cells #[.float .f64 a, .float .f64 b] 26)).alloc (.cells #[.float .f64 0, .float .f64 0] 26) = W := ⟨_, rfl⟩
  have bW : Below w.heap.size w W := by subst hW; exact (below_alloc _ _).trans ((below_alloc _ _).mono (by simp))
  have b0 : Box W w.heap.size (.float .f64 a) (.float .f64 b) := by subst hW; exact (box_new _ _ _).below (below_alloc _ _)
  have b1 : Box W (w.heap.size + 1) (.float .f64 0) (.float .f64 0) := by subst hW; exact box_new' _ _ _ (by simp)
  obtain ⟨p0, p1, p2, p3⟩ := b0.open
  go_enter Try.func11, Try.ntmps11
  go_wp2_with (first | (go_at_call 26; refine (wideOf_any _ _ _).mono ?_; rintro e w1 ⟨rfl, hb⟩; replace b1 := b1.below hb; replace bW := bW.trans (hb.mono bW.size)) | (go_at_call 28; refine (conjWide_any _ _ _).mono ?_; rintro e w1 ⟨rfl, rfl⟩) | (go_at_call 24; refine (cxOf_any _ _ _).mono ?_; rintro e w1 ⟨rfl, hb⟩; replace b1 := b1.below hb; replace bW := bW.trans (hb.mono bW.size); obtain ⟨q0, q1, q2, q3⟩ := b1.open))
  exact bodyPost_ret (v := .agg #[.float .f64 a, .float .f64 (Op.negFloat .f64 b)]) (by simp [results, Try.results11, go_sem, q0, q1]) rfl ⟨rfl, (bW.setCell (Nat.le_succ _) _).setCell (Nat.le_succ _) _⟩

theorem big_any (a : Option Addr) (len cap : Nat) (w : World) (hm : len ≤ maxLen) : Calls Try.prog 7 #[.slice a len cap] w fun e w' => e = .returned (.bool (decide (1048576 < len))) ∧ w = w' := by
  unfold maxLen at hm
  by_cases h : (1048576 : Int) < (len : Int)
  · have e : decide (1048576 < len) = true := by simp; omega
    rw [e]
    go_enter Try.func7, Try.ntmps7
    go_wp2
    go_ret
    exact ⟨rfl, rfl⟩
  · have e : decide (1048576 < len) = false := by simp; omega
    rw [e]
    go_enter Try.func7, Try.ntmps7
    go_wp2
    go_ret
    exact ⟨rfl, rfl⟩

/-- i times i is -1. -/
theorem mul_ii {re im : Nat} (h : MulR .f64 0 4607182418800017408 0 4607182418800017408 re im) : re = 13830554455654793216 ∧ im = 0 := by
  obtain ⟨rr, ii, ri, ir, h1, h2, h3, h4, h5, h6⟩ := h
  have f : ∀ {op : BinOp} {x y r z : Nat}, FR op .f64 x y r → floatBits op .f64 x y = some z → r = z := by
    intro op x y r z h e
    rcases h with h | ⟨h, _⟩
    · rw [e] at h; exact (Option.some.inj h).symm
    · rw [e] at h; cases h
  obtain rfl := f h1 (z := 0) (by decide +kernel)
  obtain rfl := f h2 (z := 4607182418800017408) (by decide +kernel)
  obtain rfl := f h4 (z := 0) (by decide +kernel)
  obtain rfl := f h5 (z := 0) (by decide +kernel)
  exact ⟨f h3 (by decide +kernel), f h6 (by decide +kernel)⟩

theorem MulR.ab_eq {k : FloatKind} {a b c d re im : Nat} (h : MulR k a b c d re im) :
    ab k re = opO .sub k (opO .mul k (ab k a) (ab k c)) (opO .mul k (ab k b) (ab k d)) ∧ ab k im = opO .add k (opO .mul k (ab k a) (ab k d)) (opO .mul k (ab k b) (ab k c)) := by
  obtain ⟨rr, ii, ri, ir, h1, h2, h3, h4, h5, h6⟩ := h
  rw [h3.ab_eq, h6.ab_eq, h1.ab_eq, h2.ab_eq, h4.ab_eq, h5.ab_eq]
  exact ⟨rfl, rfl⟩

theorem clo_same {a b c d re im re' im' : Nat} (h1 : MulR .f64 a b c d re im) (h2 : MulR .f64 c d a b re' im') : clo re im re' im' = 0 := by
  obtain ⟨e1, e2⟩ := h1.ab_eq
  obtain ⟨e3, e4⟩ := h2.ab_eq
  have r1 : lo re re' = 0 := lo_same (by rw [e1, e3, opO_mul_comm .f64 (ab .f64 a), opO_mul_comm .f64 (ab .f64 b)])
  have r2 : lo im im' = 0 := lo_same (by rw [e2, e4, opO_add_comm, opO_mul_comm .f64 (ab .f64 a), opO_mul_comm .f64 (ab .f64 b)])
  unfold clo
  rw [if_pos r1, r2]

theorem ord_m1 : FloatKind.f64.format.order 13830554455654793216 13830554455654793216 = some .eq := by decide +kernel
theorem ord_00 : FloatKind.f64.format.order 0 0 = some .eq := by decide +kernel

/-- Three boxes of two cells, laid one behind the other. -/
theorem threeBoxes (w : World) (v0 v1 v2 v3 v4 v5 : Value) : ∃ W, ((w.alloc (.cells #[v0, v1] 26)).alloc (.cells #[v2, v3] 26)).alloc (.cells #[v4, v5] 26) = W ∧
    Box W w.heap.size v0 v1 ∧ Box W (w.heap.size + 1) v2 v3 ∧ Box W (w.heap.size + 1 + 1) v4 v5 ∧ Below w.heap.size w W := by
  refine ⟨_, rfl, ((box_new _ _ _).below (below_alloc _ _)).below (below_alloc _ _), (box_new' _ _ _ (by simp)).below (below_alloc _ _), box_new' _ _ _ (by simp), ?_⟩
  exact ((below_alloc _ _).trans ((below_alloc _ _).mono (by simp))).trans ((below_alloc _ _).mono (by simp; omega))

/-- What the law's first region reads. -/
abbrev S3 (W : World) (n x y u v : Nat) (w' : World) : Prop :=
  (w'.cell? ⟨n, 0, none⟩ = some (.float .f64 x) ∧ w'.cell? ⟨n, 1, none⟩ = some (.float .f64 y) ∧ w'.cell? ⟨n + 1, 0, none⟩ = some (.float .f64 u) ∧ w'.cell? ⟨n + 1, 1, none⟩ = some (.float .f64 v) ∧
   w'.cell? ⟨n + 1 + 1, 0, none⟩ = some (.float .f64 0) ∧ w'.cell? ⟨n + 1 + 1, 1, none⟩ = some (.float .f64 4607182418800017408)) ∧ Below W.heap.size W w'

abbrev S1 (W : World) (n x y : Nat) (w' : World) : Prop :=
  (w'.cell? ⟨n, 0, none⟩ = some (.float .f64 x) ∧ w'.cell? ⟨n, 1, none⟩ = some (.float .f64 y)) ∧ Below W.heap.size W w'

theorem below_realloc {N : Nat} {W w : World} {o : Obj} (h : Below N W (w.alloc o)) (hN : N ≤ w.heap.size) (o' : Obj) : Below N W (w.alloc o') :=
  ⟨h.os, h.tape, h.output, by have := h.size; simp at this ⊢; exact this, fun k hk => by rw [Below.heap_alloc _ _ _ (by omega), ← h.block k hk, Below.heap_alloc _ _ _ (by omega)]⟩

theorem alloc_first {V w3 : World} {o : Obj} (h : Below (V.drew.alloc o).heap.size (V.drew.alloc o) w3) : V.heap.size < w3.heap.size := by
  have := h.size
  simp at this
  exact this

theorem conj_im {x y X re im : Nat} (hX : FR .mul .f64 x y X) {s m i} (hf : FloatKind.f64.format.read X = .number s m i) (h : MulR .f64 x y x (Op.negFloat .f64 y) re im) : im = 0 := by
  obtain ⟨rr, ii, ri, ir, h1, h2, h3, h4, h5, h6⟩ := h
  exact conj_nought hX h4 h5 h6 hf

theorem mulSame_walk (a : Option Addr) (len cap : Nat) (w : World) (hr : Row w w.heap.size a len) :
    Calls Try.prog 3 #[.slice a len cap] w fun e w' => e = .returned (.bool true) ∧ Below w.heap.size w w' := by
  have hm := hr.1
  by_cases hbig : 1048576 < len
  · have hd : decide (1048576 < len) = true := by simpa using hbig
    have hg := fun w => big_any a len cap w hm
    rw [hd] at hg
    clear hm hr
    go_enter Try.func3, Try.ntmps3
    go_wp2_with (go_at_call 7; refine (hg _).mono ?_; rintro e w1 ⟨rfl, rfl⟩)
    go_ret
    exact ⟨rfl, Below.refl _ _⟩
  · have hd : decide (1048576 < len) = false := by simpa using hbig
    have hg := fun w => big_any a len cap w hm
    rw [hd] at hg
    have HR : Hid (Row w w.heap.size a len) := hr
    clear hm hr
    have o1 := ord_m1
    have o0 := ord_00
    go_enter Try.func3, Try.ntmps3
    go_wp2_with (first | (go_at_call 7; refine (hg _).mono ?_; rintro e w1 ⟨rfl, rfl⟩) | (go_at_call 8; refine (drawCxMul_any HR.out).mono ?_; rintro e w1 ⟨x, y, u, v, rfl, hx, hb⟩))
    obtain ⟨W, hW, bA, bB, bI, bW⟩ := threeBoxes w1 (.float .f64 x) (.float .f64 y) (.float .f64 u) (.float .f64 v) (.float .f64 0) (.float .f64 4607182418800017408)
    rw [hW]
    clear hW
    have mk : Hid (∀ w', Below W.heap.size W w' → S3 W w1.heap.size x y u v w') := fun w' h => ⟨⟨(bA.below h).open.1, (bA.below h).open.2.1, (bB.below h).open.1, (bB.below h).open.2.1, (bI.below h).open.1, (bI.below h).open.2.1⟩, h⟩
    go_region_held3 (fun w' => S3 W w1.heap.size x y u v w')
      (first | exact mk.out _ (Below.refl _ _).drew | (have hq : S3 _ _ _ _ _ _ _ := ‹_›; exact mk.out _ (hq.2.trans (hb1.mono hq.2.size))))
      (first | (go_at_call 9; refine (cxMul_any _ _ _ _ _).mono ?_; rintro e w2 ⟨re, im, rfl, hm, hb1⟩; try obtain ⟨rfl, rfl⟩ := mul_ii hm) | (go_at_call 10; refine (cxOrder_any _ _ _ _ _).mono ?_; rintro e w2 ⟨rfl, hb1⟩; have hz := clo_same ‹MulR .f64 x y u v _ _› ‹MulR .f64 u v x y _ _›))
    have hq : S3 _ _ _ _ _ _ _ := ‹_›
    replace bA := bA.below hq.2
    have bF : Below w.heap.size w w2 := (hb.trans (bW.mono hb.size)).trans (hq.2.mono (Nat.le_trans hb.size bW.size))
    obtain ⟨a0, a1, a2, a3⟩ := bA.open
    clear hq mk hz bB bI bW hb HR hg hd hbig hm
    go_wp2
    · go_ret
      exact ⟨rfl, below_drewN bF _⟩
    · have ht0 : FloatKind.f64.format.order (fv .sub .f64 (fv .mul .f64 x y w2) (fv .mul .f64 x y w2) (w2.drewN (fd .mul .f64 x y))) 0 = some .eq := by simpa using ‹(FloatKind.f64.format.order _ 0 != some .eq) = false›
      obtain ⟨s, m, i, hfin⟩ := finite_of_sub (fv_FR ..) ht0
      have HF : Hid (∀ re im, MulR .f64 x y x (Op.negFloat .f64 y) re im → im = 0) := fun re im h => conj_im (fv_FR ..) hfin h
      clear ht0 hfin
      generalize hW2 : w2.drewN (fd .mul .f64 x y + fd .sub .f64 (fv .mul .f64 x y w2) (fv .mul .f64 x y w2)) = V
      have bV : Below w.heap.size w V := by subst hW2; exact below_drewN bF _
      have aV : Box V w1.heap.size (.float .f64 x) (.float .f64 y) := by subst hW2; exact bA
      have mk : Hid (∀ w', Below V.heap.size V w' → S1 V w1.heap.size x y w') := fun w' h => ⟨⟨(aV.below h).open.1, (aV.below h).open.2.1⟩, h⟩
      clear hW2 a0 a1 a2 a3 bA bF
      go_region_held3 (fun w' => S1 V w1.heap.size x y w')
        (first | exact mk.out _ (Below.refl _ _).drew | (have hq : S1 _ _ _ _ _ := ‹_›; exact mk.out _ (hq.2.trans (hb3.mono hq.2.size))) | (have hq : S1 _ _ _ _ _ := ‹_›; exact mk.out _ (hq.2.alloc hq.2.size _)) | (have hq : S1 _ _ _ _ _ := ‹_›; refine mk.out _ (below_realloc hq.2 ?_ _); omega) | (have hq : S1 _ _ _ _ _ := ‹_›; refine mk.out _ ((hq.2.setCell ?_ _).setCell ?_ _) <;> first | exact Nat.le_refl _ | assumption))
        (first | (go_at_call 11; refine (cxConj_any _ _ _).mono ?_; rintro e w3 ⟨rfl, hb3⟩; have hz3 : V.heap.size ≤ w3.heap.size := Nat.le_trans (Below.size (And.right (show S1 _ _ _ _ _ from ‹_›))) hb3.size; obtain ⟨hc3, hf3⟩ := bcell hb3; try have hs4 := alloc_first hb3) | (go_at_call 9; refine (cxMul_any _ _ _ _ _).mono ?_; rintro e w3 ⟨re, im, rfl, hm, hb3⟩; obtain rfl := HF.out _ _ hm; have hz3 : V.heap.size ≤ w3.heap.size := Nat.le_trans (Below.size (And.right (show S1 _ _ _ _ _ from ‹_›))) hb3.size; obtain ⟨hc3, hf3⟩ := bcell hb3))
      all_goals
        have hq : S1 _ _ _ _ _ := ‹_›
        have hfin := bV.trans (hq.2.mono bV.size)
        clear hq mk HF
        go_wp2
        go_ret
        exact ⟨rfl, hfin⟩

end Go.Proofs.Yteaeolilgdnodaa
