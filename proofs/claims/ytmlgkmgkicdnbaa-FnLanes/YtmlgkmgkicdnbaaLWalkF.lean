/-
  The law FnMulSame, walked.
-/
import Derived.Test.YtmlgkmgkicdnbaaLWalkE
namespace Go.Proofs.Ytmlgkmgkicdnbaa
open Go.RowKit Fl

@[go_sem] theorem run_equalIn_float {P : Program} (d : Nat) (t : TypeId) (k k' : FloatKind) (a b : Nat) (w : World) (h : P.underlying t = some (.float k')) : (Op.equalIn (d + 1) t (.float k a) (.float k b)).run P w = .ok (k.format.order a b == some .eq) w := by
  rw [Op.equalIn]
  simp [run_underlying h, Op.floatEq]

@[go_sem] theorem eq26 (a b c d : Nat) (w : World) : (Op.equalIn 10000 28 (.agg #[.float .f64 a, .float .f64 b]) (.agg #[.float .f64 c, .float .f64 d])).run Try.prog w = .ok (FloatKind.f64.format.order a c == some .eq && FloatKind.f64.format.order b d == some .eq) w := by
  have u24 := Try.underlying26
  have a24 := Try.isAgg24
  have z24 := Try.sizeOf24
  have hS : Try.prog.underlying 28 = some (.struct (Try.prog.fieldsOf 28)) := by kernel_rfl
  have hp : Try.prog.stoodInHeld 28 = false := by kernel_rfl
  rw [show (10000 : Nat) = 9999 + 1 from rfl, run_equalIn_agg w 9999 28 _ _ hS hp]
  simp only [Program.fieldsOf, Try.underlying28]
  go_simp
  by_cases h1 : FloatKind.f64.format.order a c = some .eq <;> by_cases h2 : FloatKind.f64.format.order b d = some .eq <;> simp [h1, h2]

theorem big_any (a : Option Addr) (len cap : Nat) (w : World) (hm : len ≤ maxLen) : Calls Try.prog 6 #[.slice a len cap] w fun e w' => e = .returned (.bool (decide (1048576 < len))) ∧ w = w' := by
  unfold maxLen at hm
  by_cases h : (1048576 : Int) < (len : Int)
  · have e : decide (1048576 < len) = true := by simp; omega
    rw [e]
    go_enter Try.func6, Try.ntmps6
    go_wp2
    go_ret
    exact ⟨rfl, rfl⟩
  · have e : decide (1048576 < len) = false := by simp; omega
    rw [e]
    go_enter Try.func6, Try.ntmps6
    go_wp2
    go_ret
    exact ⟨rfl, rfl⟩

/-- i times i is -1. -/
theorem mul_ii {re im : Nat} (h : MulR .f64 0 4607182418800017408 0 4607182418800017408 re im) : re = 13830554455654793216 ∧ im = 0 := by
  obtain ⟨rr, ii, ri, ir, h1, h2, h3, h4, h5, h6⟩ := h
  have f : ∀ {op : BinOp} {x y r z : Nat}, FR op .f64 x y r → floatBits op .f64 x y = some z → r = z := by
    intro op x y r z h e
    rcases h with h | ⟨h, _⟩
    · rw [e] at h; exact (Option.some.inj h).symm
    · rw [e] at h; cases h
  obtain rfl := f h1 (z := 0) (by decide +kernel)
  obtain rfl := f h2 (z := 4607182418800017408) (by decide +kernel)
  obtain rfl := f h4 (z := 0) (by decide +kernel)
  obtain rfl := f h5 (z := 0) (by decide +kernel)
  exact ⟨f h3 (by decide +kernel), f h6 (by decide +kernel)⟩

theorem MulR.ab_eq {k : FloatKind} {a b c d re im : Nat} (h : MulR k a b c d re im) :
    ab k re = opO .sub k (opO .mul k (ab k a) (ab k c)) (opO .mul k (ab k b) (ab k d)) ∧ ab k im = opO .add k (opO .mul k (ab k a) (ab k d)) (opO .mul k (ab k b) (ab k c)) := by
  obtain ⟨rr, ii, ri, ir, h1, h2, h3, h4, h5, h6⟩ := h
  rw [h3.ab_eq, h6.ab_eq, h1.ab_eq, h2.ab_eq, h4.ab_eq, h5.ab_eq]
  exact ⟨rfl, rfl⟩

theorem clo_same {a b c d re im re' im' : Nat} (h1 : MulR .f64 a b c d re im) (h2 : MulR .f64 c d a b re' im') : clo re im re' im' = 0 := by
  obtain ⟨e1, e2⟩ := h1.ab_eq
  obtain ⟨e3, e4⟩ := h2.ab_eq
  have r1 : lo re re' = 0 := lo_same (by rw [e1, e3, opO_mul_comm .f64 (ab .f64 a), opO_mul_comm .f64 (ab .f64 b)])
  have r2 : lo im im' = 0 := lo_same (by rw [e2, e4, opO_add_comm, opO_mul_comm .f64 (ab .f64 a), opO_mul_comm .f64 (ab .f64 b)])
  unfold clo
  rw [if_pos r1, r2]

theorem ord_m1 : FloatKind.f64.format.order 13830554455654793216 13830554455654793216 = some .eq := by decide +kernel
theorem ord_00 : FloatKind.f64.format.order 0 0 = some .eq := by decide +kernel

/-- Three boxes of two cells, laid one behind the other. -/
theorem threeBoxes (w : World) (v0 v1 v2 v3 v4 v5 : Value) : ∃ W, ((w.alloc (.cells #[v0, v1] 28)).alloc (.cells #[v2, v3] 28)).alloc (.cells #[v4, v5] 28) = W ∧
    Box W w.heap.size v0 v1 ∧ Box W (w.heap.size + 1) v2 v3 ∧ Box W (w.heap.size + 1 + 1) v4 v5 ∧ Below w.heap.size w W := by
  refine ⟨_, rfl, ((box_new _ _ _).below (below_alloc _ _)).below (below_alloc _ _), (box_new' _ _ _ (by simp)).below (below_alloc _ _), box_new' _ _ _ (by simp), ?_⟩
  exact ((below_alloc _ _).trans ((below_alloc _ _).mono (by simp))).trans ((below_alloc _ _).mono (by simp; omega))

/-- What the law's first region reads. -/
abbrev S3 (W : World) (n x y u v : Nat) (w' : World) : Prop :=
  (w'.cell? ⟨n, 0, none⟩ = some (.float .f64 x) ∧ w'.cell? ⟨n, 1, none⟩ = some (.float .f64 y) ∧ w'.cell? ⟨n + 1, 0, none⟩ = some (.float .f64 u) ∧ w'.cell? ⟨n + 1, 1, none⟩ = some (.float .f64 v) ∧
   w'.cell? ⟨n + 1 + 1, 0, none⟩ = some (.float .f64 0) ∧ w'.cell? ⟨n + 1 + 1, 1, none⟩ = some (.float .f64 4607182418800017408)) ∧ Below W.heap.size W w'

abbrev S1 (W : World) (n x y : Nat) (w' : World) : Prop :=
  (w'.cell? ⟨n, 0, none⟩ = some (.float .f64 x) ∧ w'.cell? ⟨n, 1, none⟩ = some (.float .f64 y)) ∧ Below W.heap.size W w'

theorem below_realloc {N : Nat} {W w : World} {o : Obj} (h : Below N W (w.alloc o)) (hN : N ≤ w.heap.size) (o' : Obj) : Below N W (w.alloc o') :=
  ⟨h.os, h.tape, h.output, by have := h.size; simp at this ⊢; exact this, fun k hk => by rw [Below.heap_alloc _ _ _ (by omega), ← h.block k hk, Below.heap_alloc _ _ _ (by omega)]⟩

theorem alloc_first {V w3 : World} {o : Obj} (h : Below (V.drew.alloc o).heap.size (V.drew.alloc o) w3) : V.heap.size < w3.heap.size := by
  have := h.size
  simp at this
  exact this

theorem conj_im {x y X re im : Nat} (hX : FR .mul .f64 x y X) {s m i} (hf : FloatKind.f64.format.read X = .number s m i) (h : MulR .f64 x y x (Op.negFloat .f64 y) re im) : im = 0 := by
  obtain ⟨rr, ii, ri, ir, h1, h2, h3, h4, h5, h6⟩ := h
  exact conj_nought hX h4 h5 h6 hf

end Go.Proofs.Ytmlgkmgkicdnbaa
