/-
  What the law draws: walked.
-/
import Derived.Test.YtpelbbkkdmlmiaaF15d
namespace Go.Proofs.Ytpelbbkkdmlmiaa
open Go.RowKit

theorem row_mono {w : World} {p p' : Nat} {a : Option Addr} {len : Nat} (h : Row w p a len) (hp : p ≤ p') : Row w p' a len :=
  ⟨h.1, h.2.imp id fun ⟨b, off, e, hb, hc⟩ => ⟨b, off, e, Nat.lt_of_lt_of_le hb hp, hc⟩⟩
/-- What is drawn. -/
def DdP (w : World) (e : Ending) (w' : World) : Prop := ∃ (g c m : Nat) (l : List Int) (x y z t : Int), e = .returned (.tuple #[.slice (some ⟨g, 0, none⟩) m c, hV x y z, .int .i64 t]) ∧ m ≤ 61 ∧ BL l ∧ Recs 4 w' g m (fun i => l.getD i 0) ∧ Below w.heap.size w w'
/-- How it stands while it is drawn: the list, the box of the answer (q2), the box of the reflection (q3). -/
structure Dd (w w1 wr : World) (p : Nat) (a : Option Addr) (len cap q2 q3 g c m : Nat) (l : List Int) (x y z : Int) : Prop where
  R : LG 49 4 w1 wr p a len cap (.slice (some ⟨g, 0, none⟩) m c) m l
  b2 : At 33 wr q2 #[.int .i64 0, .int .i64 0, .int .i64 0]
  b3 : At 33 wr q3 #[.int .i64 x, .int .i64 y, .int .i64 z]
  h0 : w.heap.size ≤ q2
  h1 : q2 < p
  h2 : p < w1.heap.size
  h3 : w1.heap.size ≤ q3
  h4 : g ≠ q3
  b : Below w.heap.size w w1
theorem Dd.draw {w w1 wr w' : World} {p : Nat} {a : Option Addr} {len cap q2 q3 g c m : Nat} {l : List Int} {x y z : Int} (h : Dd w w1 wr p a len cap q2 q3 g c m l x y z) (d : Dr wr p a len cap w') : Dd w w1 w' p a len cap q2 q3 g c m l x y z :=
  ⟨h.R.draw d, h.b2.keptP d.1 (by have := h.h1; omega), h.b3.keptP d.1 (by have := h.h2; have := h.h3; omega), h.h0, h.h1, h.h2, h.h3, h.h4, h.b⟩
theorem Dd.below {w w1 wr w' : World} {p : Nat} {a : Option Addr} {len cap q2 q3 g c m : Nat} {l : List Int} {x y z : Int} (h : Dd w w1 wr p a len cap q2 q3 g c m l x y z) (hb : Below wr.heap.size wr w') : Dd w w1 w' p a len cap q2 q3 g c m l x y z :=
  ⟨h.R.below hb, h.b2.below hb, h.b3.below hb, h.h0, h.h1, h.h2, h.h3, h.h4, h.b⟩
theorem Dd.st {w w1 wr : World} {p : Nat} {a : Option Addr} {len cap q2 q3 g c m : Nat} {l : List Int} {x y z : Int} (h : Dd w w1 wr p a len cap q2 q3 g c m l x y z) : Dr wr p a len cap wr := h.R.st
/-- The answer is stored: what is told of it. -/
theorem Dd.done {w w1 wr : World} {p : Nat} {a : Option Addr} {len cap q2 q3 g c m : Nat} {l : List Int} {x y z : Int} (h : Dd w w1 wr p a len cap q2 q3 g c m l x y z) :
    (((wr.setCell ⟨q2, 0, none⟩ (.int .i64 x)).setCell ⟨q2, 1, none⟩ (.int .i64 y)).setCell ⟨q2, 2, none⟩ (.int .i64 z)).heap[q2]? = some (.cells #[.int .i64 x, .int .i64 y, .int .i64 z] 33) ∧ Recs 4 (((wr.setCell ⟨q2, 0, none⟩ (.int .i64 x)).setCell ⟨q2, 1, none⟩ (.int .i64 y)).setCell ⟨q2, 2, none⟩ (.int .i64 z)) g m (fun i => l.getD i 0) ∧ Below w.heap.size w (((wr.setCell ⟨q2, 0, none⟩ (.int .i64 x)).setCell ⟨q2, 1, none⟩ (.int .i64 y)).setCell ⟨q2, 2, none⟩ (.int .i64 z)) := by
  have hg := own_lt h.R.own
  have e1 := h.h1
  have e2 := h.h2
  refine ⟨put3_atD h.b2 _ _ _, ⟨?_, fun i hi => ?_⟩, ?_⟩
  · simpa [World.setCell] using hg.2.1
  · rw [World.cell?_of_block (w := wr)]
    · exact (h.R.cell hi).1
    · rw [Below.heap_setCell _ _ _ _ (by show g ≠ q2; omega), Below.heap_setCell _ _ _ _ (by show g ≠ q2; omega), Below.heap_setCell _ _ _ _ (by show g ≠ q2; omega)]
  · have hk : Below w.heap.size w wr := h.b.trans (h.R.kp.below (by have := h.h0; omega) h.b.size)
    exact ((hk.setCell h.h0 _).setCell h.h0 _).setCell h.h0 _
/-- The box of the reflection gets another one. -/
theorem Dd.store {w w1 wr : World} {p : Nat} {a : Option Addr} {len cap q2 q3 g c m : Nat} {l : List Int} {x y z : Int} (h : Dd w w1 wr p a len cap q2 q3 g c m l x y z) (x' y' z' : Int) :
    Dd w w1 (((wr.setCell ⟨q3, 0, none⟩ (.int .i64 x')).setCell ⟨q3, 1, none⟩ (.int .i64 y')).setCell ⟨q3, 2, none⟩ (.int .i64 z')) p a len cap q2 q3 g c m l x' y' z' := by
  have e1 := h.h1
  have e2 := h.h2
  have e3 := h.h3
  have e4 := h.h4
  have D : Dz w1 wr p a len cap := ⟨h.R.kp, h.R.cur, h.R.pN⟩
  have D3 := ((D.fresh e3 0 (.int .i64 x')).fresh e3 1 (.int .i64 y')).fresh e3 2 (.int .i64 z')
  have hv : (Value.slice (some ⟨g, 0, none⟩) m c).ownBlock ≠ some q3 := fun e => e4 (by simpa [Value.ownBlock] using e)
  refine ⟨⟨own_setO (own_setO (own_setO h.R.own hv _) hv _) hv _, h.R.nn, D3.cur, D3.kp, h.R.pN⟩, ((h.b2.setOther (by omega) _).setOther (by omega) _).setOther (by omega) _, put3_atD h.b3 _ _ _, h.h0, h.h1, h.h2, h.h3, h.h4, h.b⟩
set_option maxRecDepth 100000 in
set_option maxHeartbeats 12800000 in
theorem drawDeduce_any {w : World} {a : Option Addr} {len cap : Nat} (hr : Row w w.heap.size a len) :
    Calls Try.prog 24 #[.slice a len cap] w (DdP w) := by
  obtain ⟨V, hV, b2, bb, sV⟩ := boxed w 33 #[.int .i64 0, .int .i64 0, .int .i64 0]
  have hrV : Row V V.heap.size a len := row_mono (hr.kept (.of_below bb) (Nat.le_refl _)) bb.size
  have hb4 : ∀ w, (Instr.buildSlice 78 4 #[(0, .int .i64 0), (1, .int .i64 (-1)), (2, .int .i64 60), (3, .int .i64 61)]).run Try.prog w = .ok (.slice (some ⟨w.heap.size, 0, none⟩) 4 4) (w.alloc (.cells #[.int .i64 0, .int .i64 (-1), .int .i64 60, .int .i64 61] 2)) := fun _ => by kernel_rfl
  obtain ⟨q2, hq2⟩ : ∃ q, w.heap.size = q := ⟨_, rfl⟩
  have HQ : Hid (w.heap.size = q2) := hq2
  have sV' : q2 < V.heap.size := by omega
  rw [hq2] at b2
  clear sV
  go_enter Try.func24, Try.ntmps24
  go_wp2_with fail
  refine (new_any hrV).mono ?_
  rintro e w1 ⟨rfl, b1, hc⟩
  replace b2 := b2.below b1
  have BW := bb.trans (b1.mono bb.size)
  obtain ⟨p, hp⟩ : ∃ p, V.heap.size = p := ⟨_, rfl⟩
  rw [hp] at hc sV' ⊢
  have hpl : p < w1.heap.size := hc.lt
  clear b1 bb hrV hr hp hq2 hV
  go_wp2_with fail
  refine (drawSigns_any hc).mono ?_
  rintro e w2 ⟨v, m, l, rfl, hm, hl, R⟩
  obtain ⟨g, c, rfl⟩ := R.open
  replace b2 := b2.keptP R.kp (by omega)
  have HL : Hid (BL l) := hl
  clear hl hc
  go_wp2_with fail
  refine (from_dr R.st (-2) 2 (by omega) (by omega) (by omega) (by omega)).mono ?_
  rintro e w3 ⟨x, rfl, x0, x1, hd⟩
  replace b2 := b2.keptP hd.1 (by omega)
  replace R := R.draw hd
  clear hd
  go_wp2_with fail
  refine (from_dr R.st (-2) 2 (by omega) (by omega) (by omega) (by omega)).mono ?_
  rintro e w4 ⟨y, rfl, y0, y1, hd⟩
  replace b2 := b2.keptP hd.1 (by omega)
  replace R := R.draw hd
  clear hd
  go_wp2_with fail
  refine (from_dr R.st (0) 2 (by omega) (by omega) (by omega) (by omega)).mono ?_
  rintro e w5 ⟨z, rfl, z0, z1, hd⟩
  replace b2 := b2.keptP hd.1 (by omega)
  replace R := R.draw hd
  clear hd
  obtain ⟨V1, hV1, b3, bb1, -⟩ := boxed w5 33 #[.int .i64 x, .int .i64 y, .int .i64 z]
  have hs5 : w1.heap.size ≤ w5.heap.size := R.kp.size
  have hg5 : g < w5.heap.size := (own_lt R.own).2.1
  obtain ⟨q3, hq3⟩ : ∃ r, w5.heap.size = r := ⟨_, rfl⟩
  rw [hq3] at b3 hs5 hg5
  have D : Dd w w1 V1 p a len cap q2 q3 g c m l x y z := ⟨R.below bb1, b2.below bb1, b3, by rw [HQ.out]; exact Nat.le_refl _, sV', hpl, hs5, by omega, BW⟩
  clear R b2 b3 bb1
  go_wp2_with fail
  refine (once_dr D.st 20 (by omega) (by omega)).mono ?_
  rintro e w6 ⟨o1, rfl, hd⟩
  replace D := D.draw hd
  clear hd hV1 hq3
  cases o1
  · skip
    go_wp2_with fail
    refine (below_dr D.st 3 (by omega) (by omega)).mono ?_
    rintro e w9 ⟨n3, rfl, n30, n31, hd⟩
    replace D := D.draw hd
    try clear t0 t1 t2 f0 f1 f2 hW8
    clear hd
    go_wp2_with fail
    refine (once_dr D.st 14 (by omega) (by omega)).mono ?_
    rintro e w10 ⟨o2, rfl, hd⟩
    replace D := D.draw hd
    clear hd
    cases o2
    · skip
      obtain ⟨k0, k1, k2, -⟩ := D.b3.open3
      obtain ⟨g0, g1, g2, h0, h1, h2⟩ := D.b2.open3
      obtain ⟨e1, e2, e3⟩ := D.done
      obtain ⟨W8, hW8⟩ : ∃ W, (((w10.setCell ⟨q2, 0, none⟩ (.int .i64 (x))).setCell ⟨q2, 1, none⟩ (.int .i64 (y))).setCell ⟨q2, 2, none⟩ (.int .i64 (z))) = W := ⟨_, rfl⟩
      rw [hW8] at e1 e2 e3
      have HW8 : Hid ((((w10.setCell ⟨q2, 0, none⟩ (.int .i64 (x))).setCell ⟨q2, 1, none⟩ (.int .i64 (y))).setCell ⟨q2, 2, none⟩ (.int .i64 (z))) = W8) := hW8
      clear hW8
      have a9 : At 33 W8 q2 #[.int .i64 (x), .int .i64 (y), .int .i64 (z)] := e1
      obtain ⟨W9, hW9, bd⟩ : ∃ W, W8.drew = W ∧ Below W8.heap.size W8 W := ⟨_, rfl, (Below.refl _ _).drew⟩
      have HW9 : Hid (W8.drew = W9) := hW9
      replace a9 := a9.below bd
      replace e2 := e2.below bd
      replace e3 := e3.trans (bd.mono e3.size)
      obtain ⟨p0, p1, p2, -⟩ := a9.open3
      clear a9 e1 bd hW9
      go_wp2_with fail
      go_region
      rw [HW8.out, HW9.out]
      clear HW8 HW9 g0 g1 g2 h0 h1 h2 k0 k1 k2
      go_wp2
      exact bodyPost_ret (v := .tuple #[.slice (some ⟨g, 0, none⟩) m c, hV (x) (y) (z), .int .i64 (1 + n3)]) (by simp [results, Try.results24, go_sem, p0, p1, p2]) rfl ⟨g, c, m, l, _, _, _, _, rfl, hm, HL.out, e2, e3⟩
    · obtain ⟨V4, hV4, b4, bb, -⟩ := boxed w10 2 #[.int .i64 0, .int .i64 (-1), .int .i64 60, .int .i64 61]
      have hp6 : p < w10.heap.size := D.R.cur.lt
      obtain ⟨q4, hq4⟩ : ∃ r, w10.heap.size = r := ⟨_, rfl⟩
      rw [hq4] at b4 hp6
      replace D := D.below bb
      clear bb
      go_wp2_with fail
      refine (below_dr D.st 4 (by omega) (by omega)).mono ?_
      rintro e w11 ⟨j, rfl, j0, j1, hd⟩
      replace b4 := b4.keptP hd.1 (by omega)
      replace D := D.draw hd
      clear hd hV4 hq4
      obtain ⟨u0, u1, u2, u3, -⟩ := b4.open4
      rcases (by omega : j = 0 ∨ j = 1 ∨ j = 2 ∨ j = 3) with rfl | rfl | rfl | rfl
      · skip
        obtain ⟨k0, k1, k2, -⟩ := D.b3.open3
        obtain ⟨g0, g1, g2, h0, h1, h2⟩ := D.b2.open3
        obtain ⟨e1, e2, e3⟩ := D.done
        obtain ⟨W8, hW8⟩ : ∃ W, (((w11.setCell ⟨q2, 0, none⟩ (.int .i64 (x))).setCell ⟨q2, 1, none⟩ (.int .i64 (y))).setCell ⟨q2, 2, none⟩ (.int .i64 (z))) = W := ⟨_, rfl⟩
        rw [hW8] at e1 e2 e3
        have HW8 : Hid ((((w11.setCell ⟨q2, 0, none⟩ (.int .i64 (x))).setCell ⟨q2, 1, none⟩ (.int .i64 (y))).setCell ⟨q2, 2, none⟩ (.int .i64 (z))) = W8) := hW8
        clear hW8
        have a9 : At 33 W8 q2 #[.int .i64 (x), .int .i64 (y), .int .i64 (z)] := e1
        obtain ⟨W9, hW9, bd⟩ : ∃ W, W8.drew = W ∧ Below W8.heap.size W8 W := ⟨_, rfl, (Below.refl _ _).drew⟩
        have HW9 : Hid (W8.drew = W9) := hW9
        replace a9 := a9.below bd
        replace e2 := e2.below bd
        replace e3 := e3.trans (bd.mono e3.size)
        obtain ⟨p0, p1, p2, -⟩ := a9.open3
        clear a9 e1 bd hW9
        go_wp2_with fail
        go_region
        rw [HW8.out, HW9.out]
        clear HW8 HW9 g0 g1 g2 h0 h1 h2 k0 k1 k2
        go_wp2
        exact bodyPost_ret (v := .tuple #[.slice (some ⟨g, 0, none⟩) m c, hV (x) (y) (z), .int .i64 (0)]) (by simp [results, Try.results24, go_sem, p0, p1, p2]) rfl ⟨g, c, m, l, _, _, _, _, rfl, hm, HL.out, e2, e3⟩
      · skip
        obtain ⟨k0, k1, k2, -⟩ := D.b3.open3
        obtain ⟨g0, g1, g2, h0, h1, h2⟩ := D.b2.open3
        obtain ⟨e1, e2, e3⟩ := D.done
        obtain ⟨W8, hW8⟩ : ∃ W, (((w11.setCell ⟨q2, 0, none⟩ (.int .i64 (x))).setCell ⟨q2, 1, none⟩ (.int .i64 (y))).setCell ⟨q2, 2, none⟩ (.int .i64 (z))) = W := ⟨_, rfl⟩
        rw [hW8] at e1 e2 e3
        have HW8 : Hid ((((w11.setCell ⟨q2, 0, none⟩ (.int .i64 (x))).setCell ⟨q2, 1, none⟩ (.int .i64 (y))).setCell ⟨q2, 2, none⟩ (.int .i64 (z))) = W8) := hW8
        clear hW8
        have a9 : At 33 W8 q2 #[.int .i64 (x), .int .i64 (y), .int .i64 (z)] := e1
        obtain ⟨W9, hW9, bd⟩ : ∃ W, W8.drew = W ∧ Below W8.heap.size W8 W := ⟨_, rfl, (Below.refl _ _).drew⟩
        have HW9 : Hid (W8.drew = W9) := hW9
        replace a9 := a9.below bd
        replace e2 := e2.below bd
        replace e3 := e3.trans (bd.mono e3.size)
        obtain ⟨p0, p1, p2, -⟩ := a9.open3
        clear a9 e1 bd hW9
        go_wp2_with fail
        go_region
        rw [HW8.out, HW9.out]
        clear HW8 HW9 g0 g1 g2 h0 h1 h2 k0 k1 k2
        go_wp2
        exact bodyPost_ret (v := .tuple #[.slice (some ⟨g, 0, none⟩) m c, hV (x) (y) (z), .int .i64 (-1)]) (by simp [results, Try.results24, go_sem, p0, p1, p2]) rfl ⟨g, c, m, l, _, _, _, _, rfl, hm, HL.out, e2, e3⟩
      · skip
        obtain ⟨k0, k1, k2, -⟩ := D.b3.open3
        obtain ⟨g0, g1, g2, h0, h1, h2⟩ := D.b2.open3
        obtain ⟨e1, e2, e3⟩ := D.done
        obtain ⟨W8, hW8⟩ : ∃ W, (((w11.setCell ⟨q2, 0, none⟩ (.int .i64 (x))).setCell ⟨q2, 1, none⟩ (.int .i64 (y))).setCell ⟨q2, 2, none⟩ (.int .i64 (z))) = W := ⟨_, rfl⟩
        rw [hW8] at e1 e2 e3
        have HW8 : Hid ((((w11.setCell ⟨q2, 0, none⟩ (.int .i64 (x))).setCell ⟨q2, 1, none⟩ (.int .i64 (y))).setCell ⟨q2, 2, none⟩ (.int .i64 (z))) = W8) := hW8
        clear hW8
        have a9 : At 33 W8 q2 #[.int .i64 (x), .int .i64 (y), .int .i64 (z)] := e1
        obtain ⟨W9, hW9, bd⟩ : ∃ W, W8.drew = W ∧ Below W8.heap.size W8 W := ⟨_, rfl, (Below.refl _ _).drew⟩
        have HW9 : Hid (W8.drew = W9) := hW9
        replace a9 := a9.below bd
        replace e2 := e2.below bd
        replace e3 := e3.trans (bd.mono e3.size)
        obtain ⟨p0, p1, p2, -⟩ := a9.open3
        clear a9 e1 bd hW9
        go_wp2_with fail
        go_region
        rw [HW8.out, HW9.out]
        clear HW8 HW9 g0 g1 g2 h0 h1 h2 k0 k1 k2
        go_wp2
        exact bodyPost_ret (v := .tuple #[.slice (some ⟨g, 0, none⟩) m c, hV (x) (y) (z), .int .i64 (60)]) (by simp [results, Try.results24, go_sem, p0, p1, p2]) rfl ⟨g, c, m, l, _, _, _, _, rfl, hm, HL.out, e2, e3⟩
      · skip
        obtain ⟨k0, k1, k2, -⟩ := D.b3.open3
        obtain ⟨g0, g1, g2, h0, h1, h2⟩ := D.b2.open3
        obtain ⟨e1, e2, e3⟩ := D.done
        obtain ⟨W8, hW8⟩ : ∃ W, (((w11.setCell ⟨q2, 0, none⟩ (.int .i64 (x))).setCell ⟨q2, 1, none⟩ (.int .i64 (y))).setCell ⟨q2, 2, none⟩ (.int .i64 (z))) = W := ⟨_, rfl⟩
        rw [hW8] at e1 e2 e3
        have HW8 : Hid ((((w11.setCell ⟨q2, 0, none⟩ (.int .i64 (x))).setCell ⟨q2, 1, none⟩ (.int .i64 (y))).setCell ⟨q2, 2, none⟩ (.int .i64 (z))) = W8) := hW8
        clear hW8
        have a9 : At 33 W8 q2 #[.int .i64 (x), .int .i64 (y), .int .i64 (z)] := e1
        obtain ⟨W9, hW9, bd⟩ : ∃ W, W8.drew = W ∧ Below W8.heap.size W8 W := ⟨_, rfl, (Below.refl _ _).drew⟩
        have HW9 : Hid (W8.drew = W9) := hW9
        replace a9 := a9.below bd
        replace e2 := e2.below bd
        replace e3 := e3.trans (bd.mono e3.size)
        obtain ⟨p0, p1, p2, -⟩ := a9.open3
        clear a9 e1 bd hW9
        go_wp2_with fail
        go_region
        rw [HW8.out, HW9.out]
        clear HW8 HW9 g0 g1 g2 h0 h1 h2 k0 k1 k2
        go_wp2
        exact bodyPost_ret (v := .tuple #[.slice (some ⟨g, 0, none⟩) m c, hV (x) (y) (z), .int .i64 (61)]) (by simp [results, Try.results24, go_sem, p0, p1, p2]) rfl ⟨g, c, m, l, _, _, _, _, rfl, hm, HL.out, e2, e3⟩
  · go_wp2_with fail
    refine (drawHkl_any D.R.cur).mono ?_
    rintro e w7 ⟨x', y', z', rfl, dz⟩
    replace D := D.draw ⟨dz.kp, dz.cur⟩
    clear dz
    obtain ⟨t0, t1, t2, f0, f1, f2⟩ := D.b3.open3
    have D2 := D.store x' y' z'
    obtain ⟨W8, hW8⟩ : ∃ W, ((w7.setCell ⟨q3, 0, none⟩ (.int .i64 x')).setCell ⟨q3, 1, none⟩ (.int .i64 y')).setCell ⟨q3, 2, none⟩ (.int .i64 z') = W := ⟨_, rfl⟩
    rw [hW8] at D2
    replace D := D2
    clear D2
    go_wp2_with fail
    refine (below_dr D.st 3 (by omega) (by omega)).mono ?_
    rintro e w9 ⟨n3, rfl, n30, n31, hd⟩
    replace D := D.draw hd
    try clear t0 t1 t2 f0 f1 f2 hW8
    clear hd
    go_wp2_with fail
    refine (once_dr D.st 14 (by omega) (by omega)).mono ?_
    rintro e w10 ⟨o2, rfl, hd⟩
    replace D := D.draw hd
    clear hd
    cases o2
    · skip
      obtain ⟨k0, k1, k2, -⟩ := D.b3.open3
      obtain ⟨g0, g1, g2, h0, h1, h2⟩ := D.b2.open3
      obtain ⟨e1, e2, e3⟩ := D.done
      obtain ⟨W8, hW8⟩ : ∃ W, (((w10.setCell ⟨q2, 0, none⟩ (.int .i64 (x'))).setCell ⟨q2, 1, none⟩ (.int .i64 (y'))).setCell ⟨q2, 2, none⟩ (.int .i64 (z'))) = W := ⟨_, rfl⟩
      rw [hW8] at e1 e2 e3
      have HW8 : Hid ((((w10.setCell ⟨q2, 0, none⟩ (.int .i64 (x'))).setCell ⟨q2, 1, none⟩ (.int .i64 (y'))).setCell ⟨q2, 2, none⟩ (.int .i64 (z'))) = W8) := hW8
      clear hW8
      have a9 : At 33 W8 q2 #[.int .i64 (x'), .int .i64 (y'), .int .i64 (z')] := e1
      obtain ⟨W9, hW9, bd⟩ : ∃ W, W8.drew = W ∧ Below W8.heap.size W8 W := ⟨_, rfl, (Below.refl _ _).drew⟩
      have HW9 : Hid (W8.drew = W9) := hW9
      replace a9 := a9.below bd
      replace e2 := e2.below bd
      replace e3 := e3.trans (bd.mono e3.size)
      obtain ⟨p0, p1, p2, -⟩ := a9.open3
      clear a9 e1 bd hW9
      go_wp2_with fail
      go_region
      rw [HW8.out, HW9.out]
      clear HW8 HW9 g0 g1 g2 h0 h1 h2 k0 k1 k2
      go_wp2
      exact bodyPost_ret (v := .tuple #[.slice (some ⟨g, 0, none⟩) m c, hV (x') (y') (z'), .int .i64 (1 + n3)]) (by simp [results, Try.results24, go_sem, p0, p1, p2]) rfl ⟨g, c, m, l, _, _, _, _, rfl, hm, HL.out, e2, e3⟩
    · obtain ⟨V4, hV4, b4, bb, -⟩ := boxed w10 2 #[.int .i64 0, .int .i64 (-1), .int .i64 60, .int .i64 61]
      have hp6 : p < w10.heap.size := D.R.cur.lt
      obtain ⟨q4, hq4⟩ : ∃ r, w10.heap.size = r := ⟨_, rfl⟩
      rw [hq4] at b4 hp6
      replace D := D.below bb
      clear bb
      go_wp2_with fail
      refine (below_dr D.st 4 (by omega) (by omega)).mono ?_
      rintro e w11 ⟨j, rfl, j0, j1, hd⟩
      replace b4 := b4.keptP hd.1 (by omega)
      replace D := D.draw hd
      clear hd hV4 hq4
      obtain ⟨u0, u1, u2, u3, -⟩ := b4.open4
      rcases (by omega : j = 0 ∨ j = 1 ∨ j = 2 ∨ j = 3) with rfl | rfl | rfl | rfl
      · skip
        obtain ⟨k0, k1, k2, -⟩ := D.b3.open3
        obtain ⟨g0, g1, g2, h0, h1, h2⟩ := D.b2.open3
        obtain ⟨e1, e2, e3⟩ := D.done
        obtain ⟨W8, hW8⟩ : ∃ W, (((w11.setCell ⟨q2, 0, none⟩ (.int .i64 (x'))).setCell ⟨q2, 1, none⟩ (.int .i64 (y'))).setCell ⟨q2, 2, none⟩ (.int .i64 (z'))) = W := ⟨_, rfl⟩
        rw [hW8] at e1 e2 e3
        have HW8 : Hid ((((w11.setCell ⟨q2, 0, none⟩ (.int .i64 (x'))).setCell ⟨q2, 1, none⟩ (.int .i64 (y'))).setCell ⟨q2, 2, none⟩ (.int .i64 (z'))) = W8) := hW8
        clear hW8
        have a9 : At 33 W8 q2 #[.int .i64 (x'), .int .i64 (y'), .int .i64 (z')] := e1
        obtain ⟨W9, hW9, bd⟩ : ∃ W, W8.drew = W ∧ Below W8.heap.size W8 W := ⟨_, rfl, (Below.refl _ _).drew⟩
        have HW9 : Hid (W8.drew = W9) := hW9
        replace a9 := a9.below bd
        replace e2 := e2.below bd
        replace e3 := e3.trans (bd.mono e3.size)
        obtain ⟨p0, p1, p2, -⟩ := a9.open3
        clear a9 e1 bd hW9
        go_wp2_with fail
        go_region
        rw [HW8.out, HW9.out]
        clear HW8 HW9 g0 g1 g2 h0 h1 h2 k0 k1 k2
        go_wp2
        exact bodyPost_ret (v := .tuple #[.slice (some ⟨g, 0, none⟩) m c, hV (x') (y') (z'), .int .i64 (0)]) (by simp [results, Try.results24, go_sem, p0, p1, p2]) rfl ⟨g, c, m, l, _, _, _, _, rfl, hm, HL.out, e2, e3⟩
      · skip
        obtain ⟨k0, k1, k2, -⟩ := D.b3.open3
        obtain ⟨g0, g1, g2, h0, h1, h2⟩ := D.b2.open3
        obtain ⟨e1, e2, e3⟩ := D.done
        obtain ⟨W8, hW8⟩ : ∃ W, (((w11.setCell ⟨q2, 0, none⟩ (.int .i64 (x'))).setCell ⟨q2, 1, none⟩ (.int .i64 (y'))).setCell ⟨q2, 2, none⟩ (.int .i64 (z'))) = W := ⟨_, rfl⟩
        rw [hW8] at e1 e2 e3
        have HW8 : Hid ((((w11.setCell ⟨q2, 0, none⟩ (.int .i64 (x'))).setCell ⟨q2, 1, none⟩ (.int .i64 (y'))).setCell ⟨q2, 2, none⟩ (.int .i64 (z'))) = W8) := hW8
        clear hW8
        have a9 : At 33 W8 q2 #[.int .i64 (x'), .int .i64 (y'), .int .i64 (z')] := e1
        obtain ⟨W9, hW9, bd⟩ : ∃ W, W8.drew = W ∧ Below W8.heap.size W8 W := ⟨_, rfl, (Below.refl _ _).drew⟩
        have HW9 : Hid (W8.drew = W9) := hW9
        replace a9 := a9.below bd
        replace e2 := e2.below bd
        replace e3 := e3.trans (bd.mono e3.size)
        obtain ⟨p0, p1, p2, -⟩ := a9.open3
        clear a9 e1 bd hW9
        go_wp2_with fail
        go_region
        rw [HW8.out, HW9.out]
        clear HW8 HW9 g0 g1 g2 h0 h1 h2 k0 k1 k2
        go_wp2
        exact bodyPost_ret (v := .tuple #[.slice (some ⟨g, 0, none⟩) m c, hV (x') (y') (z'), .int .i64 (-1)]) (by simp [results, Try.results24, go_sem, p0, p1, p2]) rfl ⟨g, c, m, l, _, _, _, _, rfl, hm, HL.out, e2, e3⟩
      · skip
        obtain ⟨k0, k1, k2, -⟩ := D.b3.open3
        obtain ⟨g0, g1, g2, h0, h1, h2⟩ := D.b2.open3
        obtain ⟨e1, e2, e3⟩ := D.done
        obtain ⟨W8, hW8⟩ : ∃ W, (((w11.setCell ⟨q2, 0, none⟩ (.int .i64 (x'))).setCell ⟨q2, 1, none⟩ (.int .i64 (y'))).setCell ⟨q2, 2, none⟩ (.int .i64 (z'))) = W := ⟨_, rfl⟩
        rw [hW8] at e1 e2 e3
        have HW8 : Hid ((((w11.setCell ⟨q2, 0, none⟩ (.int .i64 (x'))).setCell ⟨q2, 1, none⟩ (.int .i64 (y'))).setCell ⟨q2, 2, none⟩ (.int .i64 (z'))) = W8) := hW8
        clear hW8
        have a9 : At 33 W8 q2 #[.int .i64 (x'), .int .i64 (y'), .int .i64 (z')] := e1
        obtain ⟨W9, hW9, bd⟩ : ∃ W, W8.drew = W ∧ Below W8.heap.size W8 W := ⟨_, rfl, (Below.refl _ _).drew⟩
        have HW9 : Hid (W8.drew = W9) := hW9
        replace a9 := a9.below bd
        replace e2 := e2.below bd
        replace e3 := e3.trans (bd.mono e3.size)
        obtain ⟨p0, p1, p2, -⟩ := a9.open3
        clear a9 e1 bd hW9
        go_wp2_with fail
        go_region
        rw [HW8.out, HW9.out]
        clear HW8 HW9 g0 g1 g2 h0 h1 h2 k0 k1 k2
        go_wp2
        exact bodyPost_ret (v := .tuple #[.slice (some ⟨g, 0, none⟩) m c, hV (x') (y') (z'), .int .i64 (60)]) (by simp [results, Try.results24, go_sem, p0, p1, p2]) rfl ⟨g, c, m, l, _, _, _, _, rfl, hm, HL.out, e2, e3⟩
      · skip
        obtain ⟨k0, k1, k2, -⟩ := D.b3.open3
        obtain ⟨g0, g1, g2, h0, h1, h2⟩ := D.b2.open3
        obtain ⟨e1, e2, e3⟩ := D.done
        obtain ⟨W8, hW8⟩ : ∃ W, (((w11.setCell ⟨q2, 0, none⟩ (.int .i64 (x'))).setCell ⟨q2, 1, none⟩ (.int .i64 (y'))).setCell ⟨q2, 2, none⟩ (.int .i64 (z'))) = W := ⟨_, rfl⟩
        rw [hW8] at e1 e2 e3
        have HW8 : Hid ((((w11.setCell ⟨q2, 0, none⟩ (.int .i64 (x'))).setCell ⟨q2, 1, none⟩ (.int .i64 (y'))).setCell ⟨q2, 2, none⟩ (.int .i64 (z'))) = W8) := hW8
        clear hW8
        have a9 : At 33 W8 q2 #[.int .i64 (x'), .int .i64 (y'), .int .i64 (z')] := e1
        obtain ⟨W9, hW9, bd⟩ : ∃ W, W8.drew = W ∧ Below W8.heap.size W8 W := ⟨_, rfl, (Below.refl _ _).drew⟩
        have HW9 : Hid (W8.drew = W9) := hW9
        replace a9 := a9.below bd
        replace e2 := e2.below bd
        replace e3 := e3.trans (bd.mono e3.size)
        obtain ⟨p0, p1, p2, -⟩ := a9.open3
        clear a9 e1 bd hW9
        go_wp2_with fail
        go_region
        rw [HW8.out, HW9.out]
        clear HW8 HW9 g0 g1 g2 h0 h1 h2 k0 k1 k2
        go_wp2
        exact bodyPost_ret (v := .tuple #[.slice (some ⟨g, 0, none⟩) m c, hV (x') (y') (z'), .int .i64 (61)]) (by simp [results, Try.results24, go_sem, p0, p1, p2]) rfl ⟨g, c, m, l, _, _, _, _, rfl, hm, HL.out, e2, e3⟩
end Go.Proofs.Ytpelbbkkdmlmiaa
