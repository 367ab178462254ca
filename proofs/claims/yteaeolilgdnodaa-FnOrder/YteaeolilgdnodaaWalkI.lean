/-
  Numbers drawn for the order, and the law FnOrder, walked.
-/
import Derived.Test.YteaeolilgdnodaaWalkH
namespace Go.Proofs.Yteaeolilgdnodaa
open Go.RowKit Fl

theorem drawCxOrder_any {w : World} {a : Option Addr} {len cap : Nat} (hr : Row w w.heap.size a len) :
    Calls Try.prog 12 #[.slice a len cap] w fun e w' => ∃ x y u v : Nat, e = .returned (.tuple #[.agg #[.float .f64 x, .float .f64 y], .agg #[.float .f64 u, .float .f64 v]]) ∧ (x < 2 ^ 64 ∧ y < 2 ^ 64 ∧ u < 2 ^ 64 ∧ v < 2 ^ 64) ∧ Below w.heap.size w w' := by
  obtain ⟨W, hW⟩ : ∃ W, (w.alloc (.cells #[.float .f64 0, .float .f64 0] 26)).alloc (.cells #[.float .f64 0, .float .f64 0] 26) = W := ⟨_, rfl⟩
  have bW : Below w.heap.size w W := by subst hW; exact (below_alloc _ _).trans ((below_alloc _ _).mono (by simp))
  have b0 : Box W w.heap.size (.float .f64 0) (.float .f64 0) := by subst hW; exact (box_new _ _ _).below (below_alloc _ _)
  have b1 : Box W (w.heap.size + 1) (.float .f64 0) (.float .f64 0) := by subst hW; exact box_new' _ _ _ (by simp)
  have hsz : W.heap.size = w.heap.size + 1 + 1 := by subst hW; simp
  have hr2 : Row W W.heap.size a len := (hr.kept (.of_below bW) (Nat.le_refl _)).mono bW.size
  clear hr
  go_enter Try.func12, Try.ntmps12
  go_wp2_with fail
  refine (new_any hr2).mono ?_
  rintro e w3 ⟨rfl, hb3, hc3⟩
  rw [hsz] at hc3
  clear hr2 hW
  replace b0 := b0.below hb3
  replace b1 := b1.below hb3
  replace bW := bW.trans (hb3.mono (by omega))
  clear hb3
  go_wp2_with fail
  refine (drawCx_dr (Dr.start hc3)).mono ?_
  rintro e w4 ⟨x, y, rfl, hx, hy, hd4⟩
  replace b0 := b0.kept hd4.1 (by omega)
  replace b1 := b1.kept hd4.1 (by omega)
  replace bW := bW.trans (hd4.1.below (by omega) bW.size)
  clear hc3
  go_wp2_with fail
  refine (drawCx_dr (Dr.start (hd4.alloc _).2)).mono ?_
  rintro e w5 ⟨u, v, rfl, hu, hv, hd5⟩
  have hlt := hd4.2.lt
  have ba : Box w5 w4.heap.size (.float .f64 x) (.float .f64 y) := (box_new _ _ _).kept hd5.1 (by omega)
  have sa : w4.heap.size < w5.heap.size := ba.lt
  replace b0 := (b0.below (below_alloc _ _)).kept hd5.1 (by omega)
  replace b1 := (b1.below (below_alloc _ _)).kept hd5.1 (by omega)
  replace bW := (bW.trans ((below_alloc _ _).mono bW.size)).trans (hd5.1.below (by omega) (by have := bW.size; simp; omega))
  have hw4 : w.heap.size ≤ w4.heap.size := by omega
  clear hd4
  go_wp2_with fail
  refine (below_dr (Dr.start (hd5.alloc _).2) 4 (by omega) (by omega)).mono ?_
  rintro e w6 ⟨z, rfl, z0, z1, hd6⟩
  have hlt5 := hd5.2.lt
  have bb : Box w6 w5.heap.size (.float .f64 u) (.float .f64 v) := (box_new _ _ _).kept hd6.1 (by omega)
  replace ba := (ba.below (below_alloc _ _)).kept hd6.1 (by omega)
  replace b0 := (b0.below (below_alloc _ _)).kept hd6.1 (by omega)
  replace b1 := (b1.below (below_alloc _ _)).kept hd6.1 (by omega)
  replace bW := (bW.trans ((below_alloc _ _).mono bW.size)).trans (hd6.1.below (by omega) (by have := bW.size; simp; omega))
  have n1 : w.heap.size ≠ w4.heap.size := by omega
  have n2 : w.heap.size + 1 ≠ w4.heap.size := by omega
  have n3 : w.heap.size ≠ w5.heap.size := by omega
  have n4 : w.heap.size + 1 ≠ w5.heap.size := by omega
  have n5 : w4.heap.size ≠ w5.heap.size := by omega
  clear hd6 hd5 hsz
  obtain ⟨p0, p1, p2, p3⟩ := b0.open
  obtain ⟨q0, q1, q2, q3⟩ := b1.open
  obtain ⟨r0, r1, r2, r3⟩ := ba.open
  obtain ⟨t0, t1, t2, t3⟩ := bb.open
  have hz : z = 0 ∨ z = 1 ∨ z = 2 ∨ z = 3 := by omega
  clear z0 z1
  have g5 : w.heap.size ≤ w5.heap.size := by omega
  rcases hz with rfl | rfl | rfl | rfl
  · go_wp2
    go_region
    all_goals
      go_wp2
      exact bodyPost_ret (v := .tuple #[.agg #[.float .f64 x, .float .f64 y], .agg #[.float .f64 x, .float .f64 y]]) (by simp [results, Try.results12, go_sem, p0, p1, q0, q1]) rfl ⟨x, y, x, y, rfl, ⟨hx, hy, hx, hy⟩, ((((((bW.setCell (p := ⟨w5.heap.size, 0, none⟩) g5 _).setCell (p := ⟨w5.heap.size, 1, none⟩) g5 _).setCell (Nat.le_refl _) _).setCell (Nat.le_refl _) _).setCell (Nat.le_succ _) _).setCell (Nat.le_succ _) _).drew⟩
  · go_wp2
    go_region
    all_goals
      go_wp2
      exact bodyPost_ret (v := .tuple #[.agg #[.float .f64 x, .float .f64 y], .agg #[.float .f64 x, .float .f64 v]]) (by simp [results, Try.results12, go_sem, p0, p1, q0, q1]) rfl ⟨x, y, x, v, rfl, ⟨hx, hy, hx, hv⟩, (((((bW.setCell (p := ⟨w5.heap.size, 0, none⟩) g5 _).setCell (Nat.le_refl _) _).setCell (Nat.le_refl _) _).setCell (Nat.le_succ _) _).setCell (Nat.le_succ _) _).drew⟩
  · go_wp2
    go_region
    all_goals
      go_wp2
      exact bodyPost_ret (v := .tuple #[.agg #[.float .f64 x, .float .f64 y], .agg #[.float .f64 x, .float .f64 (Op.negFloat .f64 y)]]) (by simp [results, Try.results12, go_sem, p0, p1, q0, q1]) rfl ⟨x, y, x, _, rfl, ⟨hx, hy, hx, neg_lt hy⟩, ((((((bW.setCell (p := ⟨w5.heap.size, 0, none⟩) g5 _).setCell (p := ⟨w5.heap.size, 1, none⟩) g5 _).setCell (Nat.le_refl _) _).setCell (Nat.le_refl _) _).setCell (Nat.le_succ _) _).setCell (Nat.le_succ _) _).drew⟩
  · go_wp2
    go_region
    all_goals
      go_wp2
      exact bodyPost_ret (v := .tuple #[.agg #[.float .f64 x, .float .f64 y], .agg #[.float .f64 u, .float .f64 v]]) (by simp [results, Try.results12, go_sem, p0, p1, q0, q1]) rfl ⟨x, y, u, v, rfl, ⟨hx, hy, hu, hv⟩, ((((bW.setCell (Nat.le_refl _) _).setCell (Nat.le_refl _) _).setCell (Nat.le_succ _) _).setCell (Nat.le_succ _) _).drew⟩


theorem cko_anti (a b c d : Nat) : cko c d a b = - cko a b c d := by
  unfold cko ko cmpI
  generalize key a = ka; generalize key b = kb; generalize key c = kc; generalize key d = kd
  (repeat' split) <;> omega

theorem cko_range (a b c d : Nat) : -1 ≤ cko a b c d ∧ cko a b c d ≤ 1 := by
  unfold cko ko cmpI
  (repeat' split) <;> omega

theorem cko_trans (a b c d e f : Nat) : 0 < cko a b c d ∨ 0 < cko c d e f ∨ (cko a b e f ≤ 0 ∧ (cko a b e f = 0 ↔ cko a b c d = 0 ∧ cko c d e f = 0)) := by
  unfold cko ko cmpI
  generalize key a = ka; generalize key b = kb; generalize key c = kc; generalize key d = kd; generalize key e = ke; generalize key f = kf
  by_cases h1 : ka < kc <;> by_cases h2 : kc < ka <;> by_cases h3 : kc < ke <;> by_cases h4 : ke < kc <;> by_cases h5 : ka < ke <;> by_cases h6 : ke < ka <;> simp only [h1, h2, h3, h4, h5, h6, if_true, if_false] <;> (try omega) <;> (repeat' split) <;> omega

theorem clo_eq (a b c d : Nat) : clo a b c d = cko a b c d := by
  unfold clo cko
  rw [lo_eq_ko, lo_eq_ko]

theorem cko_one : cko 0 0 4607182418800017408 0 = -1 := by decide +kernel

@[go_sem] theorem build26z (w : World) : (Instr.build 26 #[]).run Try.prog w = .ok (.agg #[.float .f64 0, .float .f64 0]) w := run_build w 26 _ _ (by kernel_rfl)

end Go.Proofs.Yteaeolilgdnodaa
