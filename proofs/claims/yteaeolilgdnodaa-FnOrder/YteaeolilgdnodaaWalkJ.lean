/-
  The law FnOrder, walked.
-/
import Derived.Test.YteaeolilgdnodaaWalkI
namespace Go.Proofs.Yteaeolilgdnodaa
open Go.RowKit Fl

/-- Two boxes of two cells, laid one behind the other. -/
theorem twoBoxes (w : World) (v0 v1 v2 v3 : Value) : ∃ W, (w.alloc (.cells #[v0, v1] 26)).alloc (.cells #[v2, v3] 26) = W ∧
    Box W w.heap.size v0 v1 ∧ Box W (w.heap.size + 1) v2 v3 ∧ Below w.heap.size w W := by
  refine ⟨_, rfl, (box_new _ _ _).below (below_alloc _ _), box_new' _ _ _ (by simp), ?_⟩
  exact (below_alloc _ _).trans ((below_alloc _ _).mono (by simp))

theorem Row.under {w w' : World} {p : Nat} {a : Option Addr} {len : Nat} (h : Row w p a len) (hb : Below p w w') (hp : p ≤ w.heap.size) : Row w' w'.heap.size a len := by
  refine ⟨h.1, h.2.imp id ?_⟩
  rintro ⟨b, off, e, hlt, hc⟩
  refine ⟨b, off, e, by have := hb.size; omega, fun j hj => ?_⟩
  obtain ⟨n, h0, h1, h2⟩ := hc j hj
  exact ⟨n, h0, h1, (hb.cell (p := ⟨b, off + j, none⟩) hlt).trans h2⟩

/-- The seven ways of three orders. -/
theorem seven {X Y Z : Int} (hx : -1 ≤ X ∧ X ≤ 1) (hy : -1 ≤ Y ∧ Y ≤ 1) (h : 0 < X ∨ 0 < Y ∨ (Z ≤ 0 ∧ (Z = 0 ↔ X = 0 ∧ Y = 0))) (hz : -1 ≤ Z ∧ Z ≤ 1) :
    X = 1 ∨ (X = 0 ∧ Y = 1) ∨ (X = -1 ∧ Y = 1) ∨ (X = 0 ∧ Y = 0 ∧ Z = 0) ∨ (X = 0 ∧ Y = -1 ∧ Z = -1) ∨ (X = -1 ∧ Y = 0 ∧ Z = -1) ∨ (X = -1 ∧ Y = -1 ∧ Z = -1) := by
  omega

theorem order_walk (a0 : Option Addr) (len0 cap0 : Nat) (a1 : Option Addr) (len1 cap1 : Nat) (w : World) (hr0 : Row w w.heap.size a0 len0) (hr1 : Row w w.heap.size a1 len1) :
    Calls Try.prog 4 #[.slice a0 len0 cap0, .slice a1 len1 cap1] w fun e w' => e = .returned (.bool true) ∧ Below w.heap.size w w' := by
  have hg0 := fun w => big_any a0 len0 cap0 w hr0.1
  have hg1 := fun w => big_any a1 len1 cap1 w hr1.1
  by_cases hbig : 1048576 < len0
  · have hd : decide (1048576 < len0) = true := by simpa using hbig
    rw [hd] at hg0
    clear hr0 hr1 hg1
    go_enter Try.func4, Try.ntmps4
    go_wp2_with (go_at_call 7; refine (hg0 _).mono ?_; rintro e w1 ⟨rfl, rfl⟩)
    go_ret
    exact ⟨rfl, Below.refl _ _⟩
  have hd : decide (1048576 < len0) = false := by simpa using hbig
  rw [hd] at hg0
  by_cases hbig1 : 1048576 < len1
  · have hd : decide (1048576 < len1) = true := by simpa using hbig1
    rw [hd] at hg1
    clear hr0 hr1
    go_enter Try.func4, Try.ntmps4
    go_wp2_with fail
    refine (hg0 _).mono ?_
    rintro e w1 ⟨rfl, rfl⟩
    go_wp2_with fail
    refine (hg1 _).mono ?_
    rintro e w1 ⟨rfl, rfl⟩
    go_wp2
    go_ret
    exact ⟨rfl, Below.refl _ _⟩
  have hd1 : decide (1048576 < len1) = false := by simpa using hbig1
  rw [hd1] at hg1
  have HR0 : Hid (Row w w.heap.size a0 len0) := hr0
  have HR1 : Hid (Row w w.heap.size a1 len1) := hr1
  clear hr0 hr1 hbig hbig1 hd hd1
  go_enter Try.func4, Try.ntmps4
  go_wp2_with fail
  refine (hg0 _).mono ?_
  rintro e w1 ⟨rfl, rfl⟩
  go_wp2_with fail
  refine (hg1 _).mono ?_
  rintro e w1 ⟨rfl, rfl⟩
  clear hg0 hg1
  go_wp2_with fail
  refine (drawCxOrder_any HR0.out).mono ?_
  rintro e w1 ⟨x, y, u, v, rfl, ⟨hx, hy, hu, hv⟩, hb1⟩
  obtain ⟨W, hW, bA, bB, bW⟩ := twoBoxes w1 (.float .f64 x) (.float .f64 y) (.float .f64 u) (.float .f64 v)
  go_wp2_with fail
  clear hW
  have HB : Below w.heap.size w W := hb1.trans (bW.mono hb1.size)
  refine (drawCxOrder_any (HR1.out.under HB (Nat.le_refl _))).mono ?_
  rintro e w2 ⟨x2, y2, p, q, rfl, ⟨hx2, hy2, hp, hq⟩, hb2⟩
  replace bA := bA.below hb2
  replace bB := bB.below hb2
  replace HB := HB.trans (hb2.mono HB.size)
  have l1 := bA.lt
  clear HR0 HR1 bW hb1 hb2 hx2 hy2
  obtain ⟨V, hV, _, bC, bV⟩ := twoBoxes w2 (.float .f64 x2) (.float .f64 y2) (.float .f64 p) (.float .f64 q)
  replace bA := bA.below bV
  replace bB := bB.below bV
  replace HB := HB.trans (bV.mono HB.size)
  clear bV
  have z0 : 0 < 2 ^ 64 := by decide
  have z1 : 4607182418800017408 < 2 ^ 64 := by decide
  obtain ⟨X, hX⟩ : ∃ X, cko x y u v = X := ⟨_, rfl⟩
  obtain ⟨Y, hY⟩ : ∃ Y, cko u v p q = Y := ⟨_, rfl⟩
  obtain ⟨Z, hZ⟩ : ∃ Z, cko x y p q = Z := ⟨_, rfl⟩
  have hX' : cko u v x y = -X := by rw [cko_anti, hX]
  have hO := cko_one
  have hL : clo x y u v = X := by rw [clo_eq, hX]
  have h7 := seven (X := X) (Y := Y) (Z := Z) (hX ▸ cko_range ..) (hY ▸ cko_range ..) (by rw [← hX, ← hY, ← hZ]; exact cko_trans ..) (hZ ▸ cko_range ..)
  obtain ⟨r0, r1, -, -⟩ := bA.open
  obtain ⟨s0, s1, -, -⟩ := bB.open
  obtain ⟨t0, t1, -, -⟩ := bC.open
  go_wp2_with fail
  clear hV l1
  rcases h7 with rfl | ⟨rfl, rfl⟩ | ⟨rfl, rfl⟩ | ⟨rfl, rfl, rfl⟩ | ⟨rfl, rfl, rfl⟩ | ⟨rfl, rfl, rfl⟩ | ⟨rfl, rfl, rfl⟩
  all_goals
    go_wp2_with (first | (go_at_call 13; refine (implOrder_any (by assumption) (by assumption) (by assumption) (by assumption) _).mono ?_; rintro e w5 ⟨rfl, hb5⟩; replace bA := bA.below hb5; replace bB := bB.below hb5; replace bC := bC.below hb5; replace HB := HB.trans (hb5.mono HB.size); clear hb5 r0 r1 s0 s1 t0 t1; obtain ⟨r0, r1, -, -⟩ := bA.open; obtain ⟨s0, s1, -, -⟩ := bB.open; obtain ⟨t0, t1, -, -⟩ := bC.open) | (go_at_call 10; refine (cxOrder_any _ _ _ _ _).mono ?_; rintro e w5 ⟨rfl, hb5⟩; replace HB := HB.trans (hb5.mono HB.size); clear hb5))
    go_ret
    exact ⟨rfl, HB⟩

end Go.Proofs.Yteaeolilgdnodaa
