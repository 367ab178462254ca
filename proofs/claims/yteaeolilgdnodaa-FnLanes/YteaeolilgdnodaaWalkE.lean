/-
  Two complex numbers drawn, walked.
-/
import Derived.Test.YteaeolilgdnodaaWalkD
import Derived.RegionTactic
namespace Go.Proofs.Yteaeolilgdnodaa
open Go.RowKit Fl

theorem Row.mono {w : World} {p q : Nat} {a : Option Addr} {len : Nat} (h : Row w p a len) (hq : p ≤ q) : Row w q a len := by
  refine ⟨h.1, h.2.imp id ?_⟩
  rintro ⟨b, off, e, hb, hc⟩
  exact ⟨b, off, e, by omega, hc⟩

/-- Block q holds two cells, and stands in w as it stood. -/
def Box (w : World) (q : Nat) (v0 v1 : Value) : Prop := w.heap[q]? = some (.cells #[v0, v1] 26)
theorem Box.lt {w : World} {q : Nat} {v0 v1 : Value} (h : Box w q v0 v1) : q < w.heap.size := (Array.getElem?_eq_some_iff.1 h).1
theorem Box.kept {w w' : World} {p q : Nat} {v0 v1 : Value} (h : Box w q v0 v1) (hk : Kept p w w') (hq : q ≠ p) : Box w' q v0 v1 := (hk.block q h.lt hq).trans h
theorem Box.below {w w' : World} {q : Nat} {v0 v1 : Value} (h : Box w q v0 v1) (hk : Below w.heap.size w w') : Box w' q v0 v1 := (hk.block q h.lt).trans h
theorem Box.open {w : World} {q : Nat} {v0 v1 : Value} (h : Box w q v0 v1) : w.cell? ⟨q, 0, none⟩ = some v0 ∧ w.cell? ⟨q, 1, none⟩ = some v1 ∧ w.frozen? ⟨q, 0, none⟩ = false ∧ w.frozen? ⟨q, 1, none⟩ = false := by
  simp [World.cell?, World.frozen?, show w.heap[q]? = _ from h]
theorem box_new (w : World) (v0 v1 : Value) : Box (w.alloc (.cells #[v0, v1] 26)) w.heap.size v0 v1 := heap_alloc_new w _
theorem box_new' (w : World) (v0 v1 : Value) {q : Nat} (hq : q = w.heap.size) : Box (w.alloc (.cells #[v0, v1] 26)) q v0 v1 := hq ▸ heap_alloc_new w _
theorem below_alloc (w : World) (o : Obj) : Below w.heap.size w (w.alloc o) := (Below.refl _ _).alloc (Nat.le_refl _) _

theorem neg_lt {x : Nat} (h : x < 2 ^ 64) : Op.negFloat .f64 x < 2 ^ 64 := Nat.xor_lt_two_pow h (by decide)

theorem drawCxMul_any {w : World} {a : Option Addr} {len cap : Nat} (hr : Row w w.heap.size a len) :
    Calls Try.prog 8 #[.slice a len cap] w fun e w' => ∃ x y u v : Nat, e = .returned (.tuple #[.agg #[.float .f64 x, .float .f64 y], .agg #[.float .f64 u, .float .f64 v]]) ∧ (x < 2 ^ 64 ∧ y < 2 ^ 64 ∧ u < 2 ^ 64 ∧ v < 2 ^ 64) ∧ Below w.heap.size w w' := by
  obtain ⟨W, hW⟩ : ∃ W, (w.alloc (.cells #[.float .f64 0, .float .f64 0] 26)).alloc (.cells #[.float .f64 0, .float .f64 0] 26) = W := ⟨_, rfl⟩
  have bW : Below w.heap.size w W := by subst hW; exact (below_alloc _ _).trans ((below_alloc _ _).mono (by simp))
  have b0 : Box W w.heap.size (.float .f64 0) (.float .f64 0) := by subst hW; exact (box_new _ _ _).below (below_alloc _ _)
  have b1 : Box W (w.heap.size + 1) (.float .f64 0) (.float .f64 0) := by subst hW; exact box_new' _ _ _ (by simp)
  have hsz : W.heap.size = w.heap.size + 1 + 1 := by subst hW; simp
  have hr2 : Row W W.heap.size a len := (hr.kept (.of_below bW) (Nat.le_refl _)).mono bW.size
  clear hr
  go_enter Try.func8, Try.ntmps8
  go_wp2_with fail
  refine (new_any hr2).mono ?_
  rintro e w3 ⟨rfl, hb3, hc3⟩
  rw [hsz] at hc3
  clear hr2 hW
  replace b0 := b0.below hb3
  replace b1 := b1.below hb3
  replace bW := bW.trans (hb3.mono (by omega))
  clear hb3
  go_wp2_with fail
  refine (drawCx_dr (Dr.start hc3)).mono ?_
  rintro e w4 ⟨x, y, rfl, hx, hy, hd4⟩
  replace b0 := b0.kept hd4.1 (by omega)
  replace b1 := b1.kept hd4.1 (by omega)
  replace bW := bW.trans (hd4.1.below (by omega) bW.size)
  clear hc3
  go_wp2_with fail
  refine (drawCx_dr (Dr.start (hd4.alloc _).2)).mono ?_
  rintro e w5 ⟨u, v, rfl, hu, hv, hd5⟩
  have hlt := hd4.2.lt
  have ba : Box w5 w4.heap.size (.float .f64 x) (.float .f64 y) := (box_new _ _ _).kept hd5.1 (by omega)
  have sa : w4.heap.size < w5.heap.size := ba.lt
  replace b0 := (b0.below (below_alloc _ _)).kept hd5.1 (by omega)
  replace b1 := (b1.below (below_alloc _ _)).kept hd5.1 (by omega)
  replace bW := (bW.trans ((below_alloc _ _).mono bW.size)).trans (hd5.1.below (by omega) (by have := bW.size; simp; omega))
  have hw4 : w.heap.size ≤ w4.heap.size := by omega
  clear hd4
  go_wp2_with fail
  refine (once_dr (Dr.start (hd5.alloc _).2) 6 (by omega) (by omega)).mono ?_
  rintro e w6 ⟨b, rfl, hd6⟩
  have hlt5 := hd5.2.lt
  have bb : Box w6 w5.heap.size (.float .f64 u) (.float .f64 v) := (box_new _ _ _).kept hd6.1 (by omega)
  replace ba := (ba.below (below_alloc _ _)).kept hd6.1 (by omega)
  replace b0 := (b0.below (below_alloc _ _)).kept hd6.1 (by omega)
  replace b1 := (b1.below (below_alloc _ _)).kept hd6.1 (by omega)
  replace bW := (bW.trans ((below_alloc _ _).mono bW.size)).trans (hd6.1.below (by omega) (by have := bW.size; simp; omega))
  have n1 : w.heap.size ≠ w4.heap.size := by omega
  have n2 : w.heap.size + 1 ≠ w4.heap.size := by omega
  have n3 : w.heap.size ≠ w5.heap.size := by omega
  have n4 : w.heap.size + 1 ≠ w5.heap.size := by omega
  have n5 : w4.heap.size ≠ w5.heap.size := by omega
  clear hd6 hd5 hsz
  obtain ⟨p0, p1, p2, p3⟩ := b0.open
  obtain ⟨q0, q1, q2, q3⟩ := b1.open
  obtain ⟨r0, r1, r2, r3⟩ := ba.open
  obtain ⟨t0, t1, t2, t3⟩ := bb.open
  cases b
  · go_wp2
    go_region
    all_goals
      go_wp2
      exact bodyPost_ret (v := .tuple #[.agg #[.float .f64 x, .float .f64 y], .agg #[.float .f64 u, .float .f64 v]]) (by simp [results, Try.results8, go_sem, p0, p1, q0, q1]) rfl ⟨x, y, u, v, rfl, ⟨hx, hy, hu, hv⟩, ((((bW.setCell (Nat.le_refl _) _).setCell (Nat.le_refl _) _).setCell (Nat.le_succ _) _).setCell (Nat.le_succ _) _).drew⟩
  · go_wp2
    go_region
    all_goals
      go_wp2
      exact bodyPost_ret (v := .tuple #[.agg #[.float .f64 x, .float .f64 y], .agg #[.float .f64 x, .float .f64 (Op.negFloat .f64 y)]]) (by simp [results, Try.results8, go_sem, p0, p1, q0, q1]) rfl ⟨x, y, x, _, rfl, ⟨hx, hy, hx, neg_lt hy⟩, ((((((bW.setCell (p := ⟨w5.heap.size, 0, none⟩) (by show _ ≤ w5.heap.size; omega) _).setCell (p := ⟨w5.heap.size, 1, none⟩) (by show _ ≤ w5.heap.size; omega) _).setCell (Nat.le_refl _) _).setCell (Nat.le_refl _) _).setCell (Nat.le_succ _) _).setCell (Nat.le_succ _) _).drew⟩

end Go.Proofs.Yteaeolilgdnodaa
