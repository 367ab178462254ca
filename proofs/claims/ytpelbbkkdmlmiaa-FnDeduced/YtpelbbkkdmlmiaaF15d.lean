/-
  A list of reflections with signs, a reflection and a number drawn: walked.
-/
import Derived.Test.YtpelbbkkdmlmiaaF15c
namespace Go.Proofs.Ytpelbbkkdmlmiaa
open Go.RowKit

/-- The cursor, and what has turned since w0: its own block alone. -/
structure Dz (w0 w : World) (p : Nat) (a : Option Addr) (len cap : Nat) : Prop where
  kp : Kept p w0 w
  cur : Cur w p a len cap
  pN : p < w0.heap.size
theorem Dz.st {w0 w : World} {p : Nat} {a : Option Addr} {len cap : Nat} (h : Dz w0 w p a len cap) : Dr w p a len cap w := Dr.start h.cur
theorem Dz.draw {w0 w w' : World} {p : Nat} {a : Option Addr} {len cap : Nat} (h : Dz w0 w p a len cap) (d : Dr w p a len cap w') : Dz w0 w' p a len cap := ⟨h.kp.trans d.1, d.2, h.pN⟩
theorem Dz.below {w0 w w' : World} {p : Nat} {a : Option Addr} {len cap : Nat} (h : Dz w0 w p a len cap) (hb : Below w.heap.size w w') : Dz w0 w' p a len cap := ⟨h.kp.trans (Kept.of_below hb), h.cur.kept hb, h.pN⟩
theorem Dz.fresh {w0 w : World} {p : Nat} {a : Option Addr} {len cap : Nat} (h : Dz w0 w p a len cap) {q : Nat} (hq : w0.heap.size ≤ q) (i : Nat) (x : Value) : Dz w0 (w.setCell ⟨q, i, none⟩ x) p a len cap := by
  have hk : Kept p w0 (w.setCell ⟨q, i, none⟩ x) := ⟨h.kp.os, h.kp.tape, h.kp.output, by simpa [World.setCell] using h.kp.size, fun k hk hp => (Below.heap_setCell _ _ _ _ (by show k ≠ q; omega)).trans (h.kp.block k hk hp)⟩
  obtain ⟨i', hh, hi, hc, hr⟩ := h.cur
  have hpq : p ≠ q := by have := h.pN; omega
  refine ⟨hk, ⟨i', hh, hi, (Below.heap_setCell _ _ _ _ hpq).trans hc, hr.1, hr.2.imp id ?_⟩, h.pN⟩
  rintro ⟨b, off, e, hb, hcell⟩
  refine ⟨b, off, e, hb, fun j hj => ?_⟩
  obtain ⟨y, h0, h2, h3⟩ := hcell j hj
  refine ⟨y, h0, h2, ?_⟩
  rw [World.cell?_of_block (w := w) (Below.heap_setCell _ _ _ _ (by show b ≠ q; have := h.pN; omega))]
  exact h3
theorem put3_atD {t : TypeId} {w : World} {q : Nat} {x0 x1 x2 : Value} (h : At t w q #[x0, x1, x2]) (v0 v1 v2 : Value) : At t (((w.setCell ⟨q, 0, none⟩ v0).setCell ⟨q, 1, none⟩ v1).setCell ⟨q, 2, none⟩ v2) q #[v0, v1, v2] := by
  simpa using ((h.set 0 v0).set 1 v1).set 2 v2
/-- A reflection drawn: some three numbers. -/
def HkP (w1 : World) (p : Nat) (a : Option Addr) (len cap : Nat) (e : Ending) (w' : World) : Prop := ∃ x y z : Int, e = .returned (hV x y z) ∧ Dz w1 w' p a len cap
set_option maxRecDepth 100000 in
set_option maxHeartbeats 12800000 in
theorem drawHkl_any {w : World} {p : Nat} {a : Option Addr} {len cap : Nat} (hc : Cur w p a len cap) :
    Calls Try.prog 47 #[.pointer (some ⟨p, 0, none⟩)] w (HkP w p a len cap) := by
  have hpw : p < w.heap.size := hc.lt
  obtain ⟨V, hV, b2, bb, -⟩ := boxed w 33 #[.int .i64 0, .int .i64 0, .int .i64 0]
  have R : Dz w V p a len cap := ⟨Kept.of_below bb, hc.kept bb, hpw⟩
  obtain ⟨q2, hq2e⟩ : ∃ q, w.heap.size = q := ⟨_, rfl⟩
  have HQ : Hid (w.heap.size = q2) := hq2e
  rw [hq2e] at b2 hpw
  have hb4 : ∀ w, (Instr.buildSlice 78 4 #[(0, .int .i64 100), (1, .int .i64 101), (2, .int .i64 (-100)), (3, .int .i64 (-9223372036854775808))]).run Try.prog w = .ok (.slice (some ⟨w.heap.size, 0, none⟩) 4 4) (w.alloc (.cells #[.int .i64 100, .int .i64 101, .int .i64 (-100), .int .i64 (-9223372036854775808)] 2)) := fun _ => by kernel_rfl
  clear hc bb
  go_enter Try.func47, Try.ntmps47
  go_wp2_with fail
  refine (from_dr R.st (-5) 5 (by omega) (by omega) (by omega) (by omega)).mono ?_
  rintro e w1 ⟨x, rfl, x0, x1, hd⟩
  replace b2 := b2.keptP hd.1 (by omega)
  replace R := R.draw hd
  clear hd
  clear hV hq2e
  go_wp2_with fail
  refine (from_dr R.st (-5) 5 (by omega) (by omega) (by omega) (by omega)).mono ?_
  rintro e w2 ⟨y, rfl, y0, y1, hd⟩
  replace b2 := b2.keptP hd.1 (by omega)
  replace R := R.draw hd
  clear hd
  go_wp2_with fail
  refine (from_dr R.st (-5) 5 (by omega) (by omega) (by omega) (by omega)).mono ?_
  rintro e w3 ⟨z, rfl, z0, z1, hd⟩
  replace b2 := b2.keptP hd.1 (by omega)
  replace R := R.draw hd
  clear hd
  obtain ⟨V1, hV1, b3, bb1, -⟩ := boxed w3 33 #[.int .i64 x, .int .i64 y, .int .i64 z]
  have hs3 : q2 < w3.heap.size := b2.lt
  obtain ⟨q3, hq3⟩ : ∃ r, w3.heap.size = r := ⟨_, rfl⟩
  rw [hq3] at b3 hs3
  replace R := R.below bb1
  replace b2 := b2.below bb1
  clear bb1
  go_wp2_with fail
  refine (below_dr R.st 6 (by omega) (by omega)).mono ?_
  rintro e w4 ⟨c6, rfl, c60, c61, hd⟩
  replace b2 := b2.keptP hd.1 (by omega)
  replace b3 := b3.keptP hd.1 (by omega)
  replace R := R.draw hd
  clear hd
  clear hV1 hq3
  rcases (by omega : c6 = 0 ∨ c6 = 1 ∨ c6 = 2 ∨ (c6 ≠ 0 ∧ c6 ≠ 1 ∧ c6 ≠ 2)) with rfl | rfl | rfl | ⟨n0, n1, n2⟩
  · obtain ⟨t0, t1, t2, f0, f1, f2⟩ := b3.open3
    have R5 := ((R.fresh (q := q3) (by rw [HQ.out]; omega) 0 (.int .i64 0)).fresh (q := q3) (by rw [HQ.out]; omega) 1 (.int .i64 0))
    have a5 := ((b3.set 0 (.int .i64 0)).set 1 (.int .i64 0))
    have c5 := ((b2.setOther (p := q3) (i := 0) (by omega) (.int .i64 0)).setOther (p := q3) (i := 1) (by omega) (.int .i64 0))
    obtain ⟨W5, hW5⟩ : ∃ W, ((w4.setCell ⟨q3, 0, none⟩ (.int .i64 0)).setCell ⟨q3, 1, none⟩ (.int .i64 0)) = W := ⟨_, rfl⟩
    rw [hW5] at R5 a5 c5
    simp only [List.setIfInBounds_toArray, List.set_cons_zero, List.set_cons_succ] at a5
    replace R := R5
    replace b3 := a5
    replace b2 := c5
    clear R5 a5 c5
    go_wp2_with fail
    refine (once_dr R.st 20 (by omega) (by omega)).mono ?_
    rintro e w6 ⟨b9, rfl, hd⟩
    replace b2 := b2.keptP hd.1 (by omega)
    replace b3 := b3.keptP hd.1 (by omega)
    replace R := R.draw hd
    try clear t0 t1 t2 f0 f1 f2
    clear hd
    cases b9
    · skip
      obtain ⟨t0, t1, t2, f0, f1, f2⟩ := b3.open3
      obtain ⟨g0, g1, g2, h0, h1, h2⟩ := b2.open3
      have a9 := put3_atD b2 (.int .i64 (0)) (.int .i64 (0)) (.int .i64 (z))
      have R9 := ((R.fresh (q := q2) (by rw [HQ.out]; omega) 0 (.int .i64 (0))).fresh (q := q2) (by rw [HQ.out]; omega) 1 (.int .i64 (0))).fresh (q := q2) (by rw [HQ.out]; omega) 2 (.int .i64 (z))
      obtain ⟨p0, p1, p2, -⟩ := a9.open3
      go_wp2
      exact bodyPost_ret (v := hV ((0)) ((0)) ((z))) (by simp [results, Try.results47, go_sem, p0, p1, p2]) rfl ⟨_, _, _, rfl, R9⟩
    · obtain ⟨V4, hV4, b4, bb, -⟩ := boxed w6 2 #[.int .i64 100, .int .i64 101, .int .i64 (-100), .int .i64 (-9223372036854775808)]
      have hp6 : p < w6.heap.size := R.cur.lt
      have hs6 : q3 < w6.heap.size := b3.lt
      obtain ⟨q4, hq4⟩ : ∃ r, w6.heap.size = r := ⟨_, rfl⟩
      rw [hq4] at b4 hp6 hs6
      replace R := R.below bb
      replace b2 := b2.below bb
      replace b3 := b3.below bb
      clear bb
      go_wp2_with fail
      refine (below_dr R.st 4 (by omega) (by omega)).mono ?_
      rintro e w7 ⟨j, rfl, j0, j1, hd⟩
      replace b2 := b2.keptP hd.1 (by omega)
      replace b3 := b3.keptP hd.1 (by omega)
      replace b4 := b4.keptP hd.1 (by omega)
      replace R := R.draw hd
      clear hd
      clear hV4 hq4
      rcases (by omega : j = 0 ∨ j = 1 ∨ j = 2 ∨ j = 3) with rfl | rfl | rfl | rfl
      · obtain ⟨u0, u1, u2, u3, -⟩ := b4.open4
        obtain ⟨t0, t1, t2, f0, f1, f2⟩ := b3.open3
        have R5 := R.fresh (q := q3) (by rw [HQ.out]; omega) 2 (.int .i64 (100))
        have a5 := b3.set 2 (.int .i64 (100))
        have c5 := b2.setOther (p := q3) (i := 2) (by omega) (.int .i64 (100))
        obtain ⟨W8, hW8⟩ : ∃ W, w7.setCell ⟨q3, 2, none⟩ (.int .i64 (100)) = W := ⟨_, rfl⟩
        rw [hW8] at R5 a5 c5
        simp only [List.setIfInBounds_toArray, List.set_cons_zero, List.set_cons_succ] at a5
        replace R := R5
        replace b3 := a5
        replace b2 := c5
        clear R5 a5 c5
        go_upto_region 12 with (fail)
        clear t0 t1 t2 f0 f1 f2 u0 u1 u2 u3 hW8
        obtain ⟨t0, t1, t2, f0, f1, f2⟩ := b3.open3
        obtain ⟨g0, g1, g2, h0, h1, h2⟩ := b2.open3
        have a9 := put3_atD b2 (.int .i64 (0)) (.int .i64 (0)) (.int .i64 (100))
        have R9 := ((R.fresh (q := q2) (by rw [HQ.out]; omega) 0 (.int .i64 (0))).fresh (q := q2) (by rw [HQ.out]; omega) 1 (.int .i64 (0))).fresh (q := q2) (by rw [HQ.out]; omega) 2 (.int .i64 (100))
        obtain ⟨p0, p1, p2, -⟩ := a9.open3
        go_wp2
        exact bodyPost_ret (v := hV ((0)) ((0)) ((100))) (by simp [results, Try.results47, go_sem, p0, p1, p2]) rfl ⟨_, _, _, rfl, R9⟩
      · obtain ⟨u0, u1, u2, u3, -⟩ := b4.open4
        obtain ⟨t0, t1, t2, f0, f1, f2⟩ := b3.open3
        have R5 := R.fresh (q := q3) (by rw [HQ.out]; omega) 2 (.int .i64 (101))
        have a5 := b3.set 2 (.int .i64 (101))
        have c5 := b2.setOther (p := q3) (i := 2) (by omega) (.int .i64 (101))
        obtain ⟨W8, hW8⟩ : ∃ W, w7.setCell ⟨q3, 2, none⟩ (.int .i64 (101)) = W := ⟨_, rfl⟩
        rw [hW8] at R5 a5 c5
        simp only [List.setIfInBounds_toArray, List.set_cons_zero, List.set_cons_succ] at a5
        replace R := R5
        replace b3 := a5
        replace b2 := c5
        clear R5 a5 c5
        go_upto_region 12 with (fail)
        clear t0 t1 t2 f0 f1 f2 u0 u1 u2 u3 hW8
        obtain ⟨t0, t1, t2, f0, f1, f2⟩ := b3.open3
        obtain ⟨g0, g1, g2, h0, h1, h2⟩ := b2.open3
        have a9 := put3_atD b2 (.int .i64 (0)) (.int .i64 (0)) (.int .i64 (101))
        have R9 := ((R.fresh (q := q2) (by rw [HQ.out]; omega) 0 (.int .i64 (0))).fresh (q := q2) (by rw [HQ.out]; omega) 1 (.int .i64 (0))).fresh (q := q2) (by rw [HQ.out]; omega) 2 (.int .i64 (101))
        obtain ⟨p0, p1, p2, -⟩ := a9.open3
        go_wp2
        exact bodyPost_ret (v := hV ((0)) ((0)) ((101))) (by simp [results, Try.results47, go_sem, p0, p1, p2]) rfl ⟨_, _, _, rfl, R9⟩
      · obtain ⟨u0, u1, u2, u3, -⟩ := b4.open4
        obtain ⟨t0, t1, t2, f0, f1, f2⟩ := b3.open3
        have R5 := R.fresh (q := q3) (by rw [HQ.out]; omega) 2 (.int .i64 (-100))
        have a5 := b3.set 2 (.int .i64 (-100))
        have c5 := b2.setOther (p := q3) (i := 2) (by omega) (.int .i64 (-100))
        obtain ⟨W8, hW8⟩ : ∃ W, w7.setCell ⟨q3, 2, none⟩ (.int .i64 (-100)) = W := ⟨_, rfl⟩
        rw [hW8] at R5 a5 c5
        simp only [List.setIfInBounds_toArray, List.set_cons_zero, List.set_cons_succ] at a5
        replace R := R5
        replace b3 := a5
        replace b2 := c5
        clear R5 a5 c5
        go_upto_region 12 with (fail)
        clear t0 t1 t2 f0 f1 f2 u0 u1 u2 u3 hW8
        obtain ⟨t0, t1, t2, f0, f1, f2⟩ := b3.open3
        obtain ⟨g0, g1, g2, h0, h1, h2⟩ := b2.open3
        have a9 := put3_atD b2 (.int .i64 (0)) (.int .i64 (0)) (.int .i64 (-100))
        have R9 := ((R.fresh (q := q2) (by rw [HQ.out]; omega) 0 (.int .i64 (0))).fresh (q := q2) (by rw [HQ.out]; omega) 1 (.int .i64 (0))).fresh (q := q2) (by rw [HQ.out]; omega) 2 (.int .i64 (-100))
        obtain ⟨p0, p1, p2, -⟩ := a9.open3
        go_wp2
        exact bodyPost_ret (v := hV ((0)) ((0)) ((-100))) (by simp [results, Try.results47, go_sem, p0, p1, p2]) rfl ⟨_, _, _, rfl, R9⟩
      · obtain ⟨u0, u1, u2, u3, -⟩ := b4.open4
        obtain ⟨t0, t1, t2, f0, f1, f2⟩ := b3.open3
        have R5 := R.fresh (q := q3) (by rw [HQ.out]; omega) 2 (.int .i64 (-9223372036854775808))
        have a5 := b3.set 2 (.int .i64 (-9223372036854775808))
        have c5 := b2.setOther (p := q3) (i := 2) (by omega) (.int .i64 (-9223372036854775808))
        obtain ⟨W8, hW8⟩ : ∃ W, w7.setCell ⟨q3, 2, none⟩ (.int .i64 (-9223372036854775808)) = W := ⟨_, rfl⟩
        rw [hW8] at R5 a5 c5
        simp only [List.setIfInBounds_toArray, List.set_cons_zero, List.set_cons_succ] at a5
        replace R := R5
        replace b3 := a5
        replace b2 := c5
        clear R5 a5 c5
        go_upto_region 12 with (fail)
        clear t0 t1 t2 f0 f1 f2 u0 u1 u2 u3 hW8
        obtain ⟨t0, t1, t2, f0, f1, f2⟩ := b3.open3
        obtain ⟨g0, g1, g2, h0, h1, h2⟩ := b2.open3
        have a9 := put3_atD b2 (.int .i64 (0)) (.int .i64 (0)) (.int .i64 (-9223372036854775808))
        have R9 := ((R.fresh (q := q2) (by rw [HQ.out]; omega) 0 (.int .i64 (0))).fresh (q := q2) (by rw [HQ.out]; omega) 1 (.int .i64 (0))).fresh (q := q2) (by rw [HQ.out]; omega) 2 (.int .i64 (-9223372036854775808))
        obtain ⟨p0, p1, p2, -⟩ := a9.open3
        go_wp2
        exact bodyPost_ret (v := hV ((0)) ((0)) ((-9223372036854775808))) (by simp [results, Try.results47, go_sem, p0, p1, p2]) rfl ⟨_, _, _, rfl, R9⟩
  · obtain ⟨t0, t1, t2, f0, f1, f2⟩ := b3.open3
    have R5 := (R.fresh (q := q3) (by rw [HQ.out]; omega) 1 (.int .i64 0))
    have a5 := (b3.set 1 (.int .i64 0))
    have c5 := (b2.setOther (p := q3) (i := 1) (by omega) (.int .i64 0))
    obtain ⟨W5, hW5⟩ : ∃ W, (w4.setCell ⟨q3, 1, none⟩ (.int .i64 0)) = W := ⟨_, rfl⟩
    rw [hW5] at R5 a5 c5
    simp only [List.setIfInBounds_toArray, List.set_cons_zero, List.set_cons_succ] at a5
    replace R := R5
    replace b3 := a5
    replace b2 := c5
    clear R5 a5 c5
    go_wp2_with fail
    refine (once_dr R.st 20 (by omega) (by omega)).mono ?_
    rintro e w6 ⟨b9, rfl, hd⟩
    replace b2 := b2.keptP hd.1 (by omega)
    replace b3 := b3.keptP hd.1 (by omega)
    replace R := R.draw hd
    try clear t0 t1 t2 f0 f1 f2
    clear hd
    cases b9
    · skip
      obtain ⟨t0, t1, t2, f0, f1, f2⟩ := b3.open3
      obtain ⟨g0, g1, g2, h0, h1, h2⟩ := b2.open3
      have a9 := put3_atD b2 (.int .i64 (x)) (.int .i64 (0)) (.int .i64 (z))
      have R9 := ((R.fresh (q := q2) (by rw [HQ.out]; omega) 0 (.int .i64 (x))).fresh (q := q2) (by rw [HQ.out]; omega) 1 (.int .i64 (0))).fresh (q := q2) (by rw [HQ.out]; omega) 2 (.int .i64 (z))
      obtain ⟨p0, p1, p2, -⟩ := a9.open3
      go_wp2
      exact bodyPost_ret (v := hV ((x)) ((0)) ((z))) (by simp [results, Try.results47, go_sem, p0, p1, p2]) rfl ⟨_, _, _, rfl, R9⟩
    · obtain ⟨V4, hV4, b4, bb, -⟩ := boxed w6 2 #[.int .i64 100, .int .i64 101, .int .i64 (-100), .int .i64 (-9223372036854775808)]
      have hp6 : p < w6.heap.size := R.cur.lt
      have hs6 : q3 < w6.heap.size := b3.lt
      obtain ⟨q4, hq4⟩ : ∃ r, w6.heap.size = r := ⟨_, rfl⟩
      rw [hq4] at b4 hp6 hs6
      replace R := R.below bb
      replace b2 := b2.below bb
      replace b3 := b3.below bb
      clear bb
      go_wp2_with fail
      refine (below_dr R.st 4 (by omega) (by omega)).mono ?_
      rintro e w7 ⟨j, rfl, j0, j1, hd⟩
      replace b2 := b2.keptP hd.1 (by omega)
      replace b3 := b3.keptP hd.1 (by omega)
      replace b4 := b4.keptP hd.1 (by omega)
      replace R := R.draw hd
      clear hd
      clear hV4 hq4
      rcases (by omega : j = 0 ∨ j = 1 ∨ j = 2 ∨ j = 3) with rfl | rfl | rfl | rfl
      · obtain ⟨u0, u1, u2, u3, -⟩ := b4.open4
        obtain ⟨t0, t1, t2, f0, f1, f2⟩ := b3.open3
        have R5 := R.fresh (q := q3) (by rw [HQ.out]; omega) 2 (.int .i64 (100))
        have a5 := b3.set 2 (.int .i64 (100))
        have c5 := b2.setOther (p := q3) (i := 2) (by omega) (.int .i64 (100))
        obtain ⟨W8, hW8⟩ : ∃ W, w7.setCell ⟨q3, 2, none⟩ (.int .i64 (100)) = W := ⟨_, rfl⟩
        rw [hW8] at R5 a5 c5
        simp only [List.setIfInBounds_toArray, List.set_cons_zero, List.set_cons_succ] at a5
        replace R := R5
        replace b3 := a5
        replace b2 := c5
        clear R5 a5 c5
        go_upto_region 12 with (fail)
        clear t0 t1 t2 f0 f1 f2 u0 u1 u2 u3 hW8
        obtain ⟨t0, t1, t2, f0, f1, f2⟩ := b3.open3
        obtain ⟨g0, g1, g2, h0, h1, h2⟩ := b2.open3
        have a9 := put3_atD b2 (.int .i64 (x)) (.int .i64 (0)) (.int .i64 (100))
        have R9 := ((R.fresh (q := q2) (by rw [HQ.out]; omega) 0 (.int .i64 (x))).fresh (q := q2) (by rw [HQ.out]; omega) 1 (.int .i64 (0))).fresh (q := q2) (by rw [HQ.out]; omega) 2 (.int .i64 (100))
        obtain ⟨p0, p1, p2, -⟩ := a9.open3
        go_wp2
        exact bodyPost_ret (v := hV ((x)) ((0)) ((100))) (by simp [results, Try.results47, go_sem, p0, p1, p2]) rfl ⟨_, _, _, rfl, R9⟩
      · obtain ⟨u0, u1, u2, u3, -⟩ := b4.open4
        obtain ⟨t0, t1, t2, f0, f1, f2⟩ := b3.open3
        have R5 := R.fresh (q := q3) (by rw [HQ.out]; omega) 2 (.int .i64 (101))
        have a5 := b3.set 2 (.int .i64 (101))
        have c5 := b2.setOther (p := q3) (i := 2) (by omega) (.int .i64 (101))
        obtain ⟨W8, hW8⟩ : ∃ W, w7.setCell ⟨q3, 2, none⟩ (.int .i64 (101)) = W := ⟨_, rfl⟩
        rw [hW8] at R5 a5 c5
        simp only [List.setIfInBounds_toArray, List.set_cons_zero, List.set_cons_succ] at a5
        replace R := R5
        replace b3 := a5
        replace b2 := c5
        clear R5 a5 c5
        go_upto_region 12 with (fail)
        clear t0 t1 t2 f0 f1 f2 u0 u1 u2 u3 hW8
        obtain ⟨t0, t1, t2, f0, f1, f2⟩ := b3.open3
        obtain ⟨g0, g1, g2, h0, h1, h2⟩ := b2.open3
        have a9 := put3_atD b2 (.int .i64 (x)) (.int .i64 (0)) (.int .i64 (101))
        have R9 := ((R.fresh (q := q2) (by rw [HQ.out]; omega) 0 (.int .i64 (x))).fresh (q := q2) (by rw [HQ.out]; omega) 1 (.int .i64 (0))).fresh (q := q2) (by rw [HQ.out]; omega) 2 (.int .i64 (101))
        obtain ⟨p0, p1, p2, -⟩ := a9.open3
        go_wp2
        exact bodyPost_ret (v := hV ((x)) ((0)) ((101))) (by simp [results, Try.results47, go_sem, p0, p1, p2]) rfl ⟨_, _, _, rfl, R9⟩
      · obtain ⟨u0, u1, u2, u3, -⟩ := b4.open4
        obtain ⟨t0, t1, t2, f0, f1, f2⟩ := b3.open3
        have R5 := R.fresh (q := q3) (by rw [HQ.out]; omega) 2 (.int .i64 (-100))
        have a5 := b3.set 2 (.int .i64 (-100))
        have c5 := b2.setOther (p := q3) (i := 2) (by omega) (.int .i64 (-100))
        obtain ⟨W8, hW8⟩ : ∃ W, w7.setCell ⟨q3, 2, none⟩ (.int .i64 (-100)) = W := ⟨_, rfl⟩
        rw [hW8] at R5 a5 c5
        simp only [List.setIfInBounds_toArray, List.set_cons_zero, List.set_cons_succ] at a5
        replace R := R5
        replace b3 := a5
        replace b2 := c5
        clear R5 a5 c5
        go_upto_region 12 with (fail)
        clear t0 t1 t2 f0 f1 f2 u0 u1 u2 u3 hW8
        obtain ⟨t0, t1, t2, f0, f1, f2⟩ := b3.open3
        obtain ⟨g0, g1, g2, h0, h1, h2⟩ := b2.open3
        have a9 := put3_atD b2 (.int .i64 (x)) (.int .i64 (0)) (.int .i64 (-100))
        have R9 := ((R.fresh (q := q2) (by rw [HQ.out]; omega) 0 (.int .i64 (x))).fresh (q := q2) (by rw [HQ.out]; omega) 1 (.int .i64 (0))).fresh (q := q2) (by rw [HQ.out]; omega) 2 (.int .i64 (-100))
        obtain ⟨p0, p1, p2, -⟩ := a9.open3
        go_wp2
        exact bodyPost_ret (v := hV ((x)) ((0)) ((-100))) (by simp [results, Try.results47, go_sem, p0, p1, p2]) rfl ⟨_, _, _, rfl, R9⟩
      · obtain ⟨u0, u1, u2, u3, -⟩ := b4.open4
        obtain ⟨t0, t1, t2, f0, f1, f2⟩ := b3.open3
        have R5 := R.fresh (q := q3) (by rw [HQ.out]; omega) 2 (.int .i64 (-9223372036854775808))
        have a5 := b3.set 2 (.int .i64 (-9223372036854775808))
        have c5 := b2.setOther (p := q3) (i := 2) (by omega) (.int .i64 (-9223372036854775808))
        obtain ⟨W8, hW8⟩ : ∃ W, w7.setCell ⟨q3, 2, none⟩ (.int .i64 (-9223372036854775808)) = W := ⟨_, rfl⟩
        rw [hW8] at R5 a5 c5
        simp only [List.setIfInBounds_toArray, List.set_cons_zero, List.set_cons_succ] at a5
        replace R := R5
        replace b3 := a5
        replace b2 := c5
        clear R5 a5 c5
        go_upto_region 12 with (fail)
        clear t0 t1 t2 f0 f1 f2 u0 u1 u2 u3 hW8
        obtain ⟨t0, t1, t2, f0, f1, f2⟩ := b3.open3
        obtain ⟨g0, g1, g2, h0, h1, h2⟩ := b2.open3
        have a9 := put3_atD b2 (.int .i64 (x)) (.int .i64 (0)) (.int .i64 (-9223372036854775808))
        have R9 := ((R.fresh (q := q2) (by rw [HQ.out]; omega) 0 (.int .i64 (x))).fresh (q := q2) (by rw [HQ.out]; omega) 1 (.int .i64 (0))).fresh (q := q2) (by rw [HQ.out]; omega) 2 (.int .i64 (-9223372036854775808))
        obtain ⟨p0, p1, p2, -⟩ := a9.open3
        go_wp2
        exact bodyPost_ret (v := hV ((x)) ((0)) ((-9223372036854775808))) (by simp [results, Try.results47, go_sem, p0, p1, p2]) rfl ⟨_, _, _, rfl, R9⟩
  · obtain ⟨t0, t1, t2, f0, f1, f2⟩ := b3.open3
    have R5 := (R.fresh (q := q3) (by rw [HQ.out]; omega) 0 (.int .i64 y))
    have a5 := (b3.set 0 (.int .i64 y))
    have c5 := (b2.setOther (p := q3) (i := 0) (by omega) (.int .i64 y))
    obtain ⟨W5, hW5⟩ : ∃ W, (w4.setCell ⟨q3, 0, none⟩ (.int .i64 y)) = W := ⟨_, rfl⟩
    rw [hW5] at R5 a5 c5
    simp only [List.setIfInBounds_toArray, List.set_cons_zero] at a5
    replace R := R5
    replace b3 := a5
    replace b2 := c5
    clear R5 a5 c5
    go_wp2_with fail
    refine (once_dr R.st 20 (by omega) (by omega)).mono ?_
    rintro e w6 ⟨b9, rfl, hd⟩
    replace b2 := b2.keptP hd.1 (by omega)
    replace b3 := b3.keptP hd.1 (by omega)
    replace R := R.draw hd
    try clear t0 t1 t2 f0 f1 f2
    clear hd
    cases b9
    · skip
      obtain ⟨t0, t1, t2, f0, f1, f2⟩ := b3.open3
      obtain ⟨g0, g1, g2, h0, h1, h2⟩ := b2.open3
      have a9 := put3_atD b2 (.int .i64 (y)) (.int .i64 (y)) (.int .i64 (z))
      have R9 := ((R.fresh (q := q2) (by rw [HQ.out]; omega) 0 (.int .i64 (y))).fresh (q := q2) (by rw [HQ.out]; omega) 1 (.int .i64 (y))).fresh (q := q2) (by rw [HQ.out]; omega) 2 (.int .i64 (z))
      obtain ⟨p0, p1, p2, -⟩ := a9.open3
      go_wp2
      exact bodyPost_ret (v := hV ((y)) ((y)) ((z))) (by simp [results, Try.results47, go_sem, p0, p1, p2]) rfl ⟨_, _, _, rfl, R9⟩
    · obtain ⟨V4, hV4, b4, bb, -⟩ := boxed w6 2 #[.int .i64 100, .int .i64 101, .int .i64 (-100), .int .i64 (-9223372036854775808)]
      have hp6 : p < w6.heap.size := R.cur.lt
      have hs6 : q3 < w6.heap.size := b3.lt
      obtain ⟨q4, hq4⟩ : ∃ r, w6.heap.size = r := ⟨_, rfl⟩
      rw [hq4] at b4 hp6 hs6
      replace R := R.below bb
      replace b2 := b2.below bb
      replace b3 := b3.below bb
      clear bb
      go_wp2_with fail
      refine (below_dr R.st 4 (by omega) (by omega)).mono ?_
      rintro e w7 ⟨j, rfl, j0, j1, hd⟩
      replace b2 := b2.keptP hd.1 (by omega)
      replace b3 := b3.keptP hd.1 (by omega)
      replace b4 := b4.keptP hd.1 (by omega)
      replace R := R.draw hd
      clear hd
      clear hV4 hq4
      rcases (by omega : j = 0 ∨ j = 1 ∨ j = 2 ∨ j = 3) with rfl | rfl | rfl | rfl
      · obtain ⟨u0, u1, u2, u3, -⟩ := b4.open4
        obtain ⟨t0, t1, t2, f0, f1, f2⟩ := b3.open3
        have R5 := R.fresh (q := q3) (by rw [HQ.out]; omega) 2 (.int .i64 (100))
        have a5 := b3.set 2 (.int .i64 (100))
        have c5 := b2.setOther (p := q3) (i := 2) (by omega) (.int .i64 (100))
        obtain ⟨W8, hW8⟩ : ∃ W, w7.setCell ⟨q3, 2, none⟩ (.int .i64 (100)) = W := ⟨_, rfl⟩
        rw [hW8] at R5 a5 c5
        simp only [List.setIfInBounds_toArray, List.set_cons_zero, List.set_cons_succ] at a5
        replace R := R5
        replace b3 := a5
        replace b2 := c5
        clear R5 a5 c5
        go_upto_region 12 with (fail)
        clear t0 t1 t2 f0 f1 f2 u0 u1 u2 u3 hW8
        obtain ⟨t0, t1, t2, f0, f1, f2⟩ := b3.open3
        obtain ⟨g0, g1, g2, h0, h1, h2⟩ := b2.open3
        have a9 := put3_atD b2 (.int .i64 (y)) (.int .i64 (y)) (.int .i64 (100))
        have R9 := ((R.fresh (q := q2) (by rw [HQ.out]; omega) 0 (.int .i64 (y))).fresh (q := q2) (by rw [HQ.out]; omega) 1 (.int .i64 (y))).fresh (q := q2) (by rw [HQ.out]; omega) 2 (.int .i64 (100))
        obtain ⟨p0, p1, p2, -⟩ := a9.open3
        go_wp2
        exact bodyPost_ret (v := hV ((y)) ((y)) ((100))) (by simp [results, Try.results47, go_sem, p0, p1, p2]) rfl ⟨_, _, _, rfl, R9⟩
      · obtain ⟨u0, u1, u2, u3, -⟩ := b4.open4
        obtain ⟨t0, t1, t2, f0, f1, f2⟩ := b3.open3
        have R5 := R.fresh (q := q3) (by rw [HQ.out]; omega) 2 (.int .i64 (101))
        have a5 := b3.set 2 (.int .i64 (101))
        have c5 := b2.setOther (p := q3) (i := 2) (by omega) (.int .i64 (101))
        obtain ⟨W8, hW8⟩ : ∃ W, w7.setCell ⟨q3, 2, none⟩ (.int .i64 (101)) = W := ⟨_, rfl⟩
        rw [hW8] at R5 a5 c5
        simp only [List.setIfInBounds_toArray, List.set_cons_zero, List.set_cons_succ] at a5
        replace R := R5
        replace b3 := a5
        replace b2 := c5
        clear R5 a5 c5
        go_upto_region 12 with (fail)
        clear t0 t1 t2 f0 f1 f2 u0 u1 u2 u3 hW8
        obtain ⟨t0, t1, t2, f0, f1, f2⟩ := b3.open3
        obtain ⟨g0, g1, g2, h0, h1, h2⟩ := b2.open3
        have a9 := put3_atD b2 (.int .i64 (y)) (.int .i64 (y)) (.int .i64 (101))
        have R9 := ((R.fresh (q := q2) (by rw [HQ.out]; omega) 0 (.int .i64 (y))).fresh (q := q2) (by rw [HQ.out]; omega) 1 (.int .i64 (y))).fresh (q := q2) (by rw [HQ.out]; omega) 2 (.int .i64 (101))
        obtain ⟨p0, p1, p2, -⟩ := a9.open3
        go_wp2
        exact bodyPost_ret (v := hV ((y)) ((y)) ((101))) (by simp [results, Try.results47, go_sem, p0, p1, p2]) rfl ⟨_, _, _, rfl, R9⟩
      · obtain ⟨u0, u1, u2, u3, -⟩ := b4.open4
        obtain ⟨t0, t1, t2, f0, f1, f2⟩ := b3.open3
        have R5 := R.fresh (q := q3) (by rw [HQ.out]; omega) 2 (.int .i64 (-100))
        have a5 := b3.set 2 (.int .i64 (-100))
        have c5 := b2.setOther (p := q3) (i := 2) (by omega) (.int .i64 (-100))
        obtain ⟨W8, hW8⟩ : ∃ W, w7.setCell ⟨q3, 2, none⟩ (.int .i64 (-100)) = W := ⟨_, rfl⟩
        rw [hW8] at R5 a5 c5
        simp only [List.setIfInBounds_toArray, List.set_cons_zero, List.set_cons_succ] at a5
        replace R := R5
        replace b3 := a5
        replace b2 := c5
        clear R5 a5 c5
        go_upto_region 12 with (fail)
        clear t0 t1 t2 f0 f1 f2 u0 u1 u2 u3 hW8
        obtain ⟨t0, t1, t2, f0, f1, f2⟩ := b3.open3
        obtain ⟨g0, g1, g2, h0, h1, h2⟩ := b2.open3
        have a9 := put3_atD b2 (.int .i64 (y)) (.int .i64 (y)) (.int .i64 (-100))
        have R9 := ((R.fresh (q := q2) (by rw [HQ.out]; omega) 0 (.int .i64 (y))).fresh (q := q2) (by rw [HQ.out]; omega) 1 (.int .i64 (y))).fresh (q := q2) (by rw [HQ.out]; omega) 2 (.int .i64 (-100))
        obtain ⟨p0, p1, p2, -⟩ := a9.open3
        go_wp2
        exact bodyPost_ret (v := hV ((y)) ((y)) ((-100))) (by simp [results, Try.results47, go_sem, p0, p1, p2]) rfl ⟨_, _, _, rfl, R9⟩
      · obtain ⟨u0, u1, u2, u3, -⟩ := b4.open4
        obtain ⟨t0, t1, t2, f0, f1, f2⟩ := b3.open3
        have R5 := R.fresh (q := q3) (by rw [HQ.out]; omega) 2 (.int .i64 (-9223372036854775808))
        have a5 := b3.set 2 (.int .i64 (-9223372036854775808))
        have c5 := b2.setOther (p := q3) (i := 2) (by omega) (.int .i64 (-9223372036854775808))
        obtain ⟨W8, hW8⟩ : ∃ W, w7.setCell ⟨q3, 2, none⟩ (.int .i64 (-9223372036854775808)) = W := ⟨_, rfl⟩
        rw [hW8] at R5 a5 c5
        simp only [List.setIfInBounds_toArray, List.set_cons_zero, List.set_cons_succ] at a5
        replace R := R5
        replace b3 := a5
        replace b2 := c5
        clear R5 a5 c5
        go_upto_region 12 with (fail)
        clear t0 t1 t2 f0 f1 f2 u0 u1 u2 u3 hW8
        obtain ⟨t0, t1, t2, f0, f1, f2⟩ := b3.open3
        obtain ⟨g0, g1, g2, h0, h1, h2⟩ := b2.open3
        have a9 := put3_atD b2 (.int .i64 (y)) (.int .i64 (y)) (.int .i64 (-9223372036854775808))
        have R9 := ((R.fresh (q := q2) (by rw [HQ.out]; omega) 0 (.int .i64 (y))).fresh (q := q2) (by rw [HQ.out]; omega) 1 (.int .i64 (y))).fresh (q := q2) (by rw [HQ.out]; omega) 2 (.int .i64 (-9223372036854775808))
        obtain ⟨p0, p1, p2, -⟩ := a9.open3
        go_wp2
        exact bodyPost_ret (v := hV ((y)) ((y)) ((-9223372036854775808))) (by simp [results, Try.results47, go_sem, p0, p1, p2]) rfl ⟨_, _, _, rfl, R9⟩
  · have m0 : (c6 == 0) = false := by simpa using n0
    have m1 : (c6 == 1) = false := by simpa using n1
    have m2 : (c6 == 2) = false := by simpa using n2
    clear n0 n1 n2
    obtain ⟨W5, hW5⟩ : ∃ W, w4 = W := ⟨_, rfl⟩
    rw [hW5] at b2 b3 R ⊢
    clear hW5
    go_wp2_with fail
    refine (once_dr R.st 20 (by omega) (by omega)).mono ?_
    rintro e w6 ⟨b9, rfl, hd⟩
    replace b2 := b2.keptP hd.1 (by omega)
    replace b3 := b3.keptP hd.1 (by omega)
    replace R := R.draw hd
    try clear t0 t1 t2 f0 f1 f2
    clear hd
    cases b9
    · skip
      obtain ⟨t0, t1, t2, f0, f1, f2⟩ := b3.open3
      obtain ⟨g0, g1, g2, h0, h1, h2⟩ := b2.open3
      have a9 := put3_atD b2 (.int .i64 (x)) (.int .i64 (y)) (.int .i64 (z))
      have R9 := ((R.fresh (q := q2) (by rw [HQ.out]; omega) 0 (.int .i64 (x))).fresh (q := q2) (by rw [HQ.out]; omega) 1 (.int .i64 (y))).fresh (q := q2) (by rw [HQ.out]; omega) 2 (.int .i64 (z))
      obtain ⟨p0, p1, p2, -⟩ := a9.open3
      go_wp2
      exact bodyPost_ret (v := hV ((x)) ((y)) ((z))) (by simp [results, Try.results47, go_sem, p0, p1, p2]) rfl ⟨_, _, _, rfl, R9⟩
    · obtain ⟨V4, hV4, b4, bb, -⟩ := boxed w6 2 #[.int .i64 100, .int .i64 101, .int .i64 (-100), .int .i64 (-9223372036854775808)]
      have hp6 : p < w6.heap.size := R.cur.lt
      have hs6 : q3 < w6.heap.size := b3.lt
      obtain ⟨q4, hq4⟩ : ∃ r, w6.heap.size = r := ⟨_, rfl⟩
      rw [hq4] at b4 hp6 hs6
      replace R := R.below bb
      replace b2 := b2.below bb
      replace b3 := b3.below bb
      clear bb
      go_wp2_with fail
      refine (below_dr R.st 4 (by omega) (by omega)).mono ?_
      rintro e w7 ⟨j, rfl, j0, j1, hd⟩
      replace b2 := b2.keptP hd.1 (by omega)
      replace b3 := b3.keptP hd.1 (by omega)
      replace b4 := b4.keptP hd.1 (by omega)
      replace R := R.draw hd
      clear hd
      clear hV4 hq4
      rcases (by omega : j = 0 ∨ j = 1 ∨ j = 2 ∨ j = 3) with rfl | rfl | rfl | rfl
      · obtain ⟨u0, u1, u2, u3, -⟩ := b4.open4
        obtain ⟨t0, t1, t2, f0, f1, f2⟩ := b3.open3
        have R5 := R.fresh (q := q3) (by rw [HQ.out]; omega) 2 (.int .i64 (100))
        have a5 := b3.set 2 (.int .i64 (100))
        have c5 := b2.setOther (p := q3) (i := 2) (by omega) (.int .i64 (100))
        obtain ⟨W8, hW8⟩ : ∃ W, w7.setCell ⟨q3, 2, none⟩ (.int .i64 (100)) = W := ⟨_, rfl⟩
        rw [hW8] at R5 a5 c5
        simp only [List.setIfInBounds_toArray, List.set_cons_zero, List.set_cons_succ] at a5
        replace R := R5
        replace b3 := a5
        replace b2 := c5
        clear R5 a5 c5
        go_upto_region 12 with (fail)
        clear t0 t1 t2 f0 f1 f2 u0 u1 u2 u3 hW8
        obtain ⟨t0, t1, t2, f0, f1, f2⟩ := b3.open3
        obtain ⟨g0, g1, g2, h0, h1, h2⟩ := b2.open3
        have a9 := put3_atD b2 (.int .i64 (x)) (.int .i64 (y)) (.int .i64 (100))
        have R9 := ((R.fresh (q := q2) (by rw [HQ.out]; omega) 0 (.int .i64 (x))).fresh (q := q2) (by rw [HQ.out]; omega) 1 (.int .i64 (y))).fresh (q := q2) (by rw [HQ.out]; omega) 2 (.int .i64 (100))
        obtain ⟨p0, p1, p2, -⟩ := a9.open3
        go_wp2
        exact bodyPost_ret (v := hV ((x)) ((y)) ((100))) (by simp [results, Try.results47, go_sem, p0, p1, p2]) rfl ⟨_, _, _, rfl, R9⟩
      · obtain ⟨u0, u1, u2, u3, -⟩ := b4.open4
        obtain ⟨t0, t1, t2, f0, f1, f2⟩ := b3.open3
        have R5 := R.fresh (q := q3) (by rw [HQ.out]; omega) 2 (.int .i64 (101))
        have a5 := b3.set 2 (.int .i64 (101))
        have c5 := b2.setOther (p := q3) (i := 2) (by omega) (.int .i64 (101))
        obtain ⟨W8, hW8⟩ : ∃ W, w7.setCell ⟨q3, 2, none⟩ (.int .i64 (101)) = W := ⟨_, rfl⟩
        rw [hW8] at R5 a5 c5
        simp only [List.setIfInBounds_toArray, List.set_cons_zero, List.set_cons_succ] at a5
        replace R := R5
        replace b3 := a5
        replace b2 := c5
        clear R5 a5 c5
        go_upto_region 12 with (fail)
        clear t0 t1 t2 f0 f1 f2 u0 u1 u2 u3 hW8
        obtain ⟨t0, t1, t2, f0, f1, f2⟩ := b3.open3
        obtain ⟨g0, g1, g2, h0, h1, h2⟩ := b2.open3
        have a9 := put3_atD b2 (.int .i64 (x)) (.int .i64 (y)) (.int .i64 (101))
        have R9 := ((R.fresh (q := q2) (by rw [HQ.out]; omega) 0 (.int .i64 (x))).fresh (q := q2) (by rw [HQ.out]; omega) 1 (.int .i64 (y))).fresh (q := q2) (by rw [HQ.out]; omega) 2 (.int .i64 (101))
        obtain ⟨p0, p1, p2, -⟩ := a9.open3
        go_wp2
        exact bodyPost_ret (v := hV ((x)) ((y)) ((101))) (by simp [results, Try.results47, go_sem, p0, p1, p2]) rfl ⟨_, _, _, rfl, R9⟩
      · obtain ⟨u0, u1, u2, u3, -⟩ := b4.open4
        obtain ⟨t0, t1, t2, f0, f1, f2⟩ := b3.open3
        have R5 := R.fresh (q := q3) (by rw [HQ.out]; omega) 2 (.int .i64 (-100))
        have a5 := b3.set 2 (.int .i64 (-100))
        have c5 := b2.setOther (p := q3) (i := 2) (by omega) (.int .i64 (-100))
        obtain ⟨W8, hW8⟩ : ∃ W, w7.setCell ⟨q3, 2, none⟩ (.int .i64 (-100)) = W := ⟨_, rfl⟩
        rw [hW8] at R5 a5 c5
        simp only [List.setIfInBounds_toArray, List.set_cons_zero, List.set_cons_succ] at a5
        replace R := R5
        replace b3 := a5
        replace b2 := c5
        clear R5 a5 c5
        go_upto_region 12 with (fail)
        clear t0 t1 t2 f0 f1 f2 u0 u1 u2 u3 hW8
        obtain ⟨t0, t1, t2, f0, f1, f2⟩ := b3.open3
        obtain ⟨g0, g1, g2, h0, h1, h2⟩ := b2.open3
        have a9 := put3_atD b2 (.int .i64 (x)) (.int .i64 (y)) (.int .i64 (-100))
        have R9 := ((R.fresh (q := q2) (by rw [HQ.out]; omega) 0 (.int .i64 (x))).fresh (q := q2) (by rw [HQ.out]; omega) 1 (.int .i64 (y))).fresh (q := q2) (by rw [HQ.out]; omega) 2 (.int .i64 (-100))
        obtain ⟨p0, p1, p2, -⟩ := a9.open3
        go_wp2
        exact bodyPost_ret (v := hV ((x)) ((y)) ((-100))) (by simp [results, Try.results47, go_sem, p0, p1, p2]) rfl ⟨_, _, _, rfl, R9⟩
      · obtain ⟨u0, u1, u2, u3, -⟩ := b4.open4
        obtain ⟨t0, t1, t2, f0, f1, f2⟩ := b3.open3
        have R5 := R.fresh (q := q3) (by rw [HQ.out]; omega) 2 (.int .i64 (-9223372036854775808))
        have a5 := b3.set 2 (.int .i64 (-9223372036854775808))
        have c5 := b2.setOther (p := q3) (i := 2) (by omega) (.int .i64 (-9223372036854775808))
        obtain ⟨W8, hW8⟩ : ∃ W, w7.setCell ⟨q3, 2, none⟩ (.int .i64 (-9223372036854775808)) = W := ⟨_, rfl⟩
        rw [hW8] at R5 a5 c5
        simp only [List.setIfInBounds_toArray, List.set_cons_zero, List.set_cons_succ] at a5
        replace R := R5
        replace b3 := a5
        replace b2 := c5
        clear R5 a5 c5
        go_upto_region 12 with (fail)
        clear t0 t1 t2 f0 f1 f2 u0 u1 u2 u3 hW8
        obtain ⟨t0, t1, t2, f0, f1, f2⟩ := b3.open3
        obtain ⟨g0, g1, g2, h0, h1, h2⟩ := b2.open3
        have a9 := put3_atD b2 (.int .i64 (x)) (.int .i64 (y)) (.int .i64 (-9223372036854775808))
        have R9 := ((R.fresh (q := q2) (by rw [HQ.out]; omega) 0 (.int .i64 (x))).fresh (q := q2) (by rw [HQ.out]; omega) 1 (.int .i64 (y))).fresh (q := q2) (by rw [HQ.out]; omega) 2 (.int .i64 (-9223372036854775808))
        obtain ⟨p0, p1, p2, -⟩ := a9.open3
        go_wp2
        exact bodyPost_ret (v := hV ((x)) ((y)) ((-9223372036854775808))) (by simp [results, Try.results47, go_sem, p0, p1, p2]) rfl ⟨_, _, _, rfl, R9⟩
end Go.Proofs.Ytpelbbkkdmlmiaa
