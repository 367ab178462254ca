/-
  A point drawn, a group and a point drawn: walked.
-/
import Derived.Test.YtpolnkjmojofoaaGreatNL
import Derived.Test.YtpolnkjmojofoaaGreatMR
import Derived.Test.YtpolnkjmojofoaaGreatO3h
namespace Go.Proofs.YtpolnkjmojofoaaGreat
open Go.RowKit

theorem At.keptP {t : TypeId} {w w' : World} {p q : Nat} {vs : Array Value} (h : At t w q vs) (hk : Kept p w w') (hq : q ≠ p) : At t w' q vs := (hk.block q h.lt hq).trans h
/-- The cursor, and what has turned since w0: its own block alone. -/
structure Dz (w0 w : World) (p : Nat) (a : Option Addr) (len cap : Nat) : Prop where
  kp : Kept p w0 w
  cur : Cur w p a len cap
  pN : p < w0.heap.size
theorem Dz.st {w0 w : World} {p : Nat} {a : Option Addr} {len cap : Nat} (h : Dz w0 w p a len cap) : Dr w p a len cap w := Dr.start h.cur
theorem Dz.draw {w0 w w' : World} {p : Nat} {a : Option Addr} {len cap : Nat} (h : Dz w0 w p a len cap) (d : Dr w p a len cap w') : Dz w0 w' p a len cap := ⟨h.kp.trans d.1, d.2, h.pN⟩
theorem Dz.below {w0 w w' : World} {p : Nat} {a : Option Addr} {len cap : Nat} (h : Dz w0 w p a len cap) (hb : Below w.heap.size w w') : Dz w0 w' p a len cap := ⟨h.kp.trans (Kept.of_below hb), h.cur.kept hb, h.pN⟩
theorem Dz.fresh {w0 w : World} {p : Nat} {a : Option Addr} {len cap : Nat} (h : Dz w0 w p a len cap) {q : Nat} (hq : w0.heap.size ≤ q) (i : Nat) (x : Value) : Dz w0 (w.setCell ⟨q, i, none⟩ x) p a len cap := by
  have hk : Kept p w0 (w.setCell ⟨q, i, none⟩ x) := ⟨h.kp.os, h.kp.tape, h.kp.output, by simpa [World.setCell] using h.kp.size, fun k hk hp => (Below.heap_setCell _ _ _ _ (by show k ≠ q; omega)).trans (h.kp.block k hk hp)⟩
  obtain ⟨i', hh, hi, hc, hr⟩ := h.cur
  have hpq : p ≠ q := by have := h.pN; omega
  refine ⟨hk, ⟨i', hh, hi, (Below.heap_setCell _ _ _ _ hpq).trans hc, hr.1, hr.2.imp id ?_⟩, h.pN⟩
  rintro ⟨b, off, e, hb, hcell⟩
  refine ⟨b, off, e, hb, fun j hj => ?_⟩
  obtain ⟨y, h0, h2, h3⟩ := hcell j hj
  refine ⟨y, h0, h2, ?_⟩
  rw [World.cell?_of_block (w := w) (Below.heap_setCell _ _ _ _ (by show b ≠ q; have := h.pN; omega))]
  exact h3
theorem put3_atD {t : TypeId} {w : World} {q : Nat} {x0 x1 x2 : Value} (h : At t w q #[x0, x1, x2]) (v0 v1 v2 : Value) : At t (((w.setCell ⟨q, 0, none⟩ v0).setCell ⟨q, 1, none⟩ v1).setCell ⟨q, 2, none⟩ v2) q #[v0, v1, v2] := by
  simpa using ((h.set 0 v0).set 1 v1).set 2 v2
/-- A point drawn: some three numbers. -/
def PtP (w1 : World) (p : Nat) (a : Option Addr) (len cap : Nat) (e : Ending) (w' : World) : Prop := ∃ x y z : Int, e = .returned (pV x y z) ∧ Dz w1 w' p a len cap
set_option maxRecDepth 100000 in
set_option maxHeartbeats 12800000 in
theorem drawPt_any {w : World} {p : Nat} {a : Option Addr} {len cap : Nat} (hc : Cur w p a len cap) :
    Calls Tryz.prog 52 #[.pointer (some ⟨p, 0, none⟩)] w (PtP w p a len cap) := by
  have hpw : p < w.heap.size := hc.lt
  obtain ⟨V, hV, b2, bb, -⟩ := boxed w 46 #[.int .i64 0, .int .i64 0, .int .i64 0]
  have R : Dz w V p a len cap := ⟨Kept.of_below bb, hc.kept bb, hpw⟩
  obtain ⟨q2, hq2e⟩ : ∃ q, w.heap.size = q := ⟨_, rfl⟩
  have HQ : Hid (w.heap.size = q2) := hq2e
  rw [hq2e] at b2 hpw
  have hb4 : ∀ w, (Instr.buildSlice 29 4 #[(0, .int .i64 (-1)), (1, .int .i64 23), (2, .int .i64 24), (3, .int .i64 4611686018427387904)]).run Tryz.prog w = .ok (.slice (some ⟨w.heap.size, 0, none⟩) 4 4) (w.alloc (.cells #[.int .i64 (-1), .int .i64 23, .int .i64 24, .int .i64 4611686018427387904] 2)) := fun _ => by kernel_rfl
  clear hc bb
  go_enter Tryz.func52, Tryz.ntmps52
  go_wp2_with fail
  refine (below_dr R.st 24 (by omega) (by omega)).mono ?_
  rintro e w1 ⟨x, rfl, x0, x1, hd⟩
  replace b2 := b2.keptP hd.1 (by omega)
  replace R := R.draw hd
  clear hd
  clear hV hq2e
  go_wp2_with fail
  refine (below_dr R.st 24 (by omega) (by omega)).mono ?_
  rintro e w2 ⟨y, rfl, y0, y1, hd⟩
  replace b2 := b2.keptP hd.1 (by omega)
  replace R := R.draw hd
  clear hd
  go_wp2_with fail
  refine (below_dr R.st 24 (by omega) (by omega)).mono ?_
  rintro e w3 ⟨z, rfl, z0, z1, hd⟩
  replace b2 := b2.keptP hd.1 (by omega)
  replace R := R.draw hd
  clear hd
  obtain ⟨V1, hV1, b3, bb1, -⟩ := boxed w3 46 #[.int .i64 x, .int .i64 y, .int .i64 z]
  have hs3 : q2 < w3.heap.size := b2.lt
  obtain ⟨q3, hq3⟩ : ∃ r, w3.heap.size = r := ⟨_, rfl⟩
  rw [hq3] at b3 hs3
  replace R := R.below bb1
  replace b2 := b2.below bb1
  clear bb1
  go_wp2_with fail
  refine (below_dr R.st 4 (by omega) (by omega)).mono ?_
  rintro e w4 ⟨c6, rfl, c60, c61, hd⟩
  replace b2 := b2.keptP hd.1 (by omega)
  replace b3 := b3.keptP hd.1 (by omega)
  replace R := R.draw hd
  clear hd
  clear hV1 hq3
  rcases (by omega : c6 = 0 ∨ c6 = 1 ∨ (c6 ≠ 0 ∧ c6 ≠ 1)) with rfl | rfl | ⟨n0, n1⟩
  · skip
    go_wp2_with fail
    refine (below_dr R.st 4 (by omega) (by omega)).mono ?_
    rintro e w5 ⟨i, rfl, i0, i1, hd⟩
    replace b2 := b2.keptP hd.1 (by omega)
    replace b3 := b3.keptP hd.1 (by omega)
    replace R := R.draw hd
    clear hd
    go_wp2_with fail
    refine (below_dr R.st 4 (by omega) (by omega)).mono ?_
    rintro e w6 ⟨j, rfl, j0, j1, hd⟩
    replace b2 := b2.keptP hd.1 (by omega)
    replace b3 := b3.keptP hd.1 (by omega)
    replace R := R.draw hd
    clear hd
    go_wp2_with fail
    refine (below_dr R.st 6 (by omega) (by omega)).mono ?_
    rintro e w7 ⟨k, rfl, k0, k1, hd⟩
    replace b2 := b2.keptP hd.1 (by omega)
    replace b3 := b3.keptP hd.1 (by omega)
    replace R := R.draw hd
    clear hd
    obtain ⟨t0, t1, t2, f0, f1, f2⟩ := b3.open3
    have R5 := (((R.fresh (q := q3) (by rw [HQ.out]; omega) 0 (.int .i64 (6 * i))).fresh (q := q3) (by rw [HQ.out]; omega) 1 (.int .i64 (6 * j))).fresh (q := q3) (by rw [HQ.out]; omega) 2 (.int .i64 (4 * k)))
    have a5 := (((b3.set 0 (.int .i64 (6 * i))).set 1 (.int .i64 (6 * j))).set 2 (.int .i64 (4 * k)))
    have c5 := (((b2.setOther (p := q3) (i := 0) (by omega) (.int .i64 (6 * i))).setOther (p := q3) (i := 1) (by omega) (.int .i64 (6 * j))).setOther (p := q3) (i := 2) (by omega) (.int .i64 (4 * k)))
    obtain ⟨W5, hW5⟩ : ∃ W, (((w7.setCell ⟨q3, 0, none⟩ (.int .i64 (6 * i))).setCell ⟨q3, 1, none⟩ (.int .i64 (6 * j))).setCell ⟨q3, 2, none⟩ (.int .i64 (4 * k))) = W := ⟨_, rfl⟩
    rw [hW5] at R5 a5 c5
    simp only [List.setIfInBounds_toArray, List.set_cons_zero, List.set_cons_succ] at a5
    replace R := R5
    replace b3 := a5
    replace b2 := c5
    clear R5 a5 c5
    go_wp2_with fail
    refine (once_dr R.st 20 (by omega) (by omega)).mono ?_
    rintro e w9 ⟨b9, rfl, hd⟩
    replace b2 := b2.keptP hd.1 (by omega)
    replace b3 := b3.keptP hd.1 (by omega)
    replace R := R.draw hd
    try clear t0 t1 t2 f0 f1 f2
    clear hd
    cases b9
    · skip
      obtain ⟨t0, t1, t2, f0, f1, f2⟩ := b3.open3
      obtain ⟨g0, g1, g2, h0, h1, h2⟩ := b2.open3
      have a9 := put3_atD b2 (.int .i64 ((6*i))) (.int .i64 ((6*j))) (.int .i64 ((4*k)))
      have R9 := ((R.fresh (q := q2) (by rw [HQ.out]; omega) 0 (.int .i64 ((6*i)))).fresh (q := q2) (by rw [HQ.out]; omega) 1 (.int .i64 ((6*j)))).fresh (q := q2) (by rw [HQ.out]; omega) 2 (.int .i64 ((4*k)))
      obtain ⟨p0, p1, p2, -⟩ := a9.open3
      go_wp2
      exact bodyPost_ret (v := pV (((6*i))) (((6*j))) (((4*k)))) (by simp [results, Tryz.results52, go_sem, p0, p1, p2, pV]) rfl ⟨_, _, _, rfl, R9⟩
    · obtain ⟨V4, hV4, b4, bb, -⟩ := boxed w9 2 #[.int .i64 (-1), .int .i64 23, .int .i64 24, .int .i64 4611686018427387904]
      have hp6 : p < w9.heap.size := R.cur.lt
      have hs6 : q3 < w9.heap.size := b3.lt
      obtain ⟨q4, hq4⟩ : ∃ r, w9.heap.size = r := ⟨_, rfl⟩
      rw [hq4] at b4 hp6 hs6
      replace R := R.below bb
      replace b2 := b2.below bb
      replace b3 := b3.below bb
      clear bb
      go_wp2_with fail
      refine (below_dr R.st 4 (by omega) (by omega)).mono ?_
      rintro e w10 ⟨jj, rfl, jj0, jj1, hd⟩
      replace b2 := b2.keptP hd.1 (by omega)
      replace b3 := b3.keptP hd.1 (by omega)
      replace b4 := b4.keptP hd.1 (by omega)
      replace R := R.draw hd
      clear hd
      clear hV4 hq4
      obtain ⟨ij, rfl⟩ : ∃ i : Nat, jj = (i : Int) := ⟨jj.toNat, by omega⟩
      obtain ⟨vv, hvv⟩ : ∃ y : Int, w10.cell? ⟨q4, ij, none⟩ = some (.int .i64 y) := by
        rcases (by omega : ij = 0 ∨ ij = 1 ∨ ij = 2 ∨ ij = 3) with rfl | rfl | rfl | rfl
        · exact ⟨_, b4.cell 0 rfl⟩
        · exact ⟨_, b4.cell 1 rfl⟩
        · exact ⟨_, b4.cell 2 rfl⟩
        · exact ⟨_, b4.cell 3 rfl⟩
      obtain ⟨t0, t1, t2, f0, f1, f2⟩ := b3.open3
      have R5 := R.fresh (q := q3) (by rw [HQ.out]; omega) 2 (.int .i64 vv)
      have a5 := b3.set 2 (.int .i64 vv)
      have c5 := b2.setOther (p := q3) (i := 2) (by omega) (.int .i64 vv)
      obtain ⟨W8, hW8⟩ : ∃ W, w10.setCell ⟨q3, 2, none⟩ (.int .i64 vv) = W := ⟨_, rfl⟩
      rw [hW8] at R5 a5 c5
      simp only [List.setIfInBounds_toArray, List.set_cons_zero, List.set_cons_succ] at a5
      replace R := R5
      replace b3 := a5
      replace b2 := c5
      clear R5 a5 c5
      go_upto_region 9 with (fail)
      clear t0 t1 t2 f0 f1 f2 hvv hW8 b4
      obtain ⟨t0, t1, t2, f0, f1, f2⟩ := b3.open3
      obtain ⟨g0, g1, g2, h0, h1, h2⟩ := b2.open3
      have a9 := put3_atD b2 (.int .i64 ((6*i))) (.int .i64 ((6*j))) (.int .i64 (vv))
      have R9 := ((R.fresh (q := q2) (by rw [HQ.out]; omega) 0 (.int .i64 ((6*i)))).fresh (q := q2) (by rw [HQ.out]; omega) 1 (.int .i64 ((6*j)))).fresh (q := q2) (by rw [HQ.out]; omega) 2 (.int .i64 (vv))
      obtain ⟨p0, p1, p2, -⟩ := a9.open3
      go_wp2
      exact bodyPost_ret (v := pV (((6*i))) (((6*j))) ((vv))) (by simp [results, Tryz.results52, go_sem, p0, p1, p2, pV]) rfl ⟨_, _, _, rfl, R9⟩
  · obtain ⟨t0, t1, t2, f0, f1, f2⟩ := b3.open3
    have R5 := (R.fresh (q := q3) (by rw [HQ.out]; omega) 1 (.int .i64 x))
    have a5 := (b3.set 1 (.int .i64 x))
    have c5 := (b2.setOther (p := q3) (i := 1) (by omega) (.int .i64 x))
    obtain ⟨W5, hW5⟩ : ∃ W, (w4.setCell ⟨q3, 1, none⟩ (.int .i64 x)) = W := ⟨_, rfl⟩
    rw [hW5] at R5 a5 c5
    simp only [List.setIfInBounds_toArray, List.set_cons_zero, List.set_cons_succ] at a5
    replace R := R5
    replace b3 := a5
    replace b2 := c5
    clear R5 a5 c5
    go_wp2_with fail
    refine (once_dr R.st 20 (by omega) (by omega)).mono ?_
    rintro e w9 ⟨b9, rfl, hd⟩
    replace b2 := b2.keptP hd.1 (by omega)
    replace b3 := b3.keptP hd.1 (by omega)
    replace R := R.draw hd
    try clear t0 t1 t2 f0 f1 f2
    clear hd
    cases b9
    · skip
      obtain ⟨t0, t1, t2, f0, f1, f2⟩ := b3.open3
      obtain ⟨g0, g1, g2, h0, h1, h2⟩ := b2.open3
      have a9 := put3_atD b2 (.int .i64 (x)) (.int .i64 (x)) (.int .i64 (z))
      have R9 := ((R.fresh (q := q2) (by rw [HQ.out]; omega) 0 (.int .i64 (x))).fresh (q := q2) (by rw [HQ.out]; omega) 1 (.int .i64 (x))).fresh (q := q2) (by rw [HQ.out]; omega) 2 (.int .i64 (z))
      obtain ⟨p0, p1, p2, -⟩ := a9.open3
      go_wp2
      exact bodyPost_ret (v := pV ((x)) ((x)) ((z))) (by simp [results, Tryz.results52, go_sem, p0, p1, p2, pV]) rfl ⟨_, _, _, rfl, R9⟩
    · obtain ⟨V4, hV4, b4, bb, -⟩ := boxed w9 2 #[.int .i64 (-1), .int .i64 23, .int .i64 24, .int .i64 4611686018427387904]
      have hp6 : p < w9.heap.size := R.cur.lt
      have hs6 : q3 < w9.heap.size := b3.lt
      obtain ⟨q4, hq4⟩ : ∃ r, w9.heap.size = r := ⟨_, rfl⟩
      rw [hq4] at b4 hp6 hs6
      replace R := R.below bb
      replace b2 := b2.below bb
      replace b3 := b3.below bb
      clear bb
      go_wp2_with fail
      refine (below_dr R.st 4 (by omega) (by omega)).mono ?_
      rintro e w10 ⟨jj, rfl, jj0, jj1, hd⟩
      replace b2 := b2.keptP hd.1 (by omega)
      replace b3 := b3.keptP hd.1 (by omega)
      replace b4 := b4.keptP hd.1 (by omega)
      replace R := R.draw hd
      clear hd
      clear hV4 hq4
      obtain ⟨ij, rfl⟩ : ∃ i : Nat, jj = (i : Int) := ⟨jj.toNat, by omega⟩
      obtain ⟨vv, hvv⟩ : ∃ y : Int, w10.cell? ⟨q4, ij, none⟩ = some (.int .i64 y) := by
        rcases (by omega : ij = 0 ∨ ij = 1 ∨ ij = 2 ∨ ij = 3) with rfl | rfl | rfl | rfl
        · exact ⟨_, b4.cell 0 rfl⟩
        · exact ⟨_, b4.cell 1 rfl⟩
        · exact ⟨_, b4.cell 2 rfl⟩
        · exact ⟨_, b4.cell 3 rfl⟩
      obtain ⟨t0, t1, t2, f0, f1, f2⟩ := b3.open3
      have R5 := R.fresh (q := q3) (by rw [HQ.out]; omega) 2 (.int .i64 vv)
      have a5 := b3.set 2 (.int .i64 vv)
      have c5 := b2.setOther (p := q3) (i := 2) (by omega) (.int .i64 vv)
      obtain ⟨W8, hW8⟩ : ∃ W, w10.setCell ⟨q3, 2, none⟩ (.int .i64 vv) = W := ⟨_, rfl⟩
      rw [hW8] at R5 a5 c5
      simp only [List.setIfInBounds_toArray, List.set_cons_zero, List.set_cons_succ] at a5
      replace R := R5
      replace b3 := a5
      replace b2 := c5
      clear R5 a5 c5
      go_upto_region 9 with (fail)
      clear t0 t1 t2 f0 f1 f2 hvv hW8 b4
      obtain ⟨t0, t1, t2, f0, f1, f2⟩ := b3.open3
      obtain ⟨g0, g1, g2, h0, h1, h2⟩ := b2.open3
      have a9 := put3_atD b2 (.int .i64 (x)) (.int .i64 (x)) (.int .i64 (vv))
      have R9 := ((R.fresh (q := q2) (by rw [HQ.out]; omega) 0 (.int .i64 (x))).fresh (q := q2) (by rw [HQ.out]; omega) 1 (.int .i64 (x))).fresh (q := q2) (by rw [HQ.out]; omega) 2 (.int .i64 (vv))
      obtain ⟨p0, p1, p2, -⟩ := a9.open3
      go_wp2
      exact bodyPost_ret (v := pV ((x)) ((x)) ((vv))) (by simp [results, Tryz.results52, go_sem, p0, p1, p2, pV]) rfl ⟨_, _, _, rfl, R9⟩
  · have m0 : (c6 == 0) = false := by simpa using n0
    have m1 : (c6 == 1) = false := by simpa using n1
    clear n0 n1
    obtain ⟨W5, hW5⟩ : ∃ W, w4 = W := ⟨_, rfl⟩
    rw [hW5] at b2 b3 R ⊢
    clear hW5
    go_wp2_with fail
    refine (once_dr R.st 20 (by omega) (by omega)).mono ?_
    rintro e w9 ⟨b9, rfl, hd⟩
    replace b2 := b2.keptP hd.1 (by omega)
    replace b3 := b3.keptP hd.1 (by omega)
    replace R := R.draw hd
    try clear t0 t1 t2 f0 f1 f2
    clear hd
    cases b9
    · skip
      obtain ⟨t0, t1, t2, f0, f1, f2⟩ := b3.open3
      obtain ⟨g0, g1, g2, h0, h1, h2⟩ := b2.open3
      have a9 := put3_atD b2 (.int .i64 (x)) (.int .i64 (y)) (.int .i64 (z))
      have R9 := ((R.fresh (q := q2) (by rw [HQ.out]; omega) 0 (.int .i64 (x))).fresh (q := q2) (by rw [HQ.out]; omega) 1 (.int .i64 (y))).fresh (q := q2) (by rw [HQ.out]; omega) 2 (.int .i64 (z))
      obtain ⟨p0, p1, p2, -⟩ := a9.open3
      go_wp2
      exact bodyPost_ret (v := pV ((x)) ((y)) ((z))) (by simp [results, Tryz.results52, go_sem, p0, p1, p2, pV]) rfl ⟨_, _, _, rfl, R9⟩
    · obtain ⟨V4, hV4, b4, bb, -⟩ := boxed w9 2 #[.int .i64 (-1), .int .i64 23, .int .i64 24, .int .i64 4611686018427387904]
      have hp6 : p < w9.heap.size := R.cur.lt
      have hs6 : q3 < w9.heap.size := b3.lt
      obtain ⟨q4, hq4⟩ : ∃ r, w9.heap.size = r := ⟨_, rfl⟩
      rw [hq4] at b4 hp6 hs6
      replace R := R.below bb
      replace b2 := b2.below bb
      replace b3 := b3.below bb
      clear bb
      go_wp2_with fail
      refine (below_dr R.st 4 (by omega) (by omega)).mono ?_
      rintro e w10 ⟨jj, rfl, jj0, jj1, hd⟩
      replace b2 := b2.keptP hd.1 (by omega)
      replace b3 := b3.keptP hd.1 (by omega)
      replace b4 := b4.keptP hd.1 (by omega)
      replace R := R.draw hd
      clear hd
      clear hV4 hq4
      obtain ⟨ij, rfl⟩ : ∃ i : Nat, jj = (i : Int) := ⟨jj.toNat, by omega⟩
      obtain ⟨vv, hvv⟩ : ∃ y : Int, w10.cell? ⟨q4, ij, none⟩ = some (.int .i64 y) := by
        rcases (by omega : ij = 0 ∨ ij = 1 ∨ ij = 2 ∨ ij = 3) with rfl | rfl | rfl | rfl
        · exact ⟨_, b4.cell 0 rfl⟩
        · exact ⟨_, b4.cell 1 rfl⟩
        · exact ⟨_, b4.cell 2 rfl⟩
        · exact ⟨_, b4.cell 3 rfl⟩
      obtain ⟨t0, t1, t2, f0, f1, f2⟩ := b3.open3
      have R5 := R.fresh (q := q3) (by rw [HQ.out]; omega) 2 (.int .i64 vv)
      have a5 := b3.set 2 (.int .i64 vv)
      have c5 := b2.setOther (p := q3) (i := 2) (by omega) (.int .i64 vv)
      obtain ⟨W8, hW8⟩ : ∃ W, w10.setCell ⟨q3, 2, none⟩ (.int .i64 vv) = W := ⟨_, rfl⟩
      rw [hW8] at R5 a5 c5
      simp only [List.setIfInBounds_toArray, List.set_cons_zero, List.set_cons_succ] at a5
      replace R := R5
      replace b3 := a5
      replace b2 := c5
      clear R5 a5 c5
      go_upto_region 9 with (fail)
      clear t0 t1 t2 f0 f1 f2 hvv hW8 b4
      obtain ⟨t0, t1, t2, f0, f1, f2⟩ := b3.open3
      obtain ⟨g0, g1, g2, h0, h1, h2⟩ := b2.open3
      have a9 := put3_atD b2 (.int .i64 (x)) (.int .i64 (y)) (.int .i64 (vv))
      have R9 := ((R.fresh (q := q2) (by rw [HQ.out]; omega) 0 (.int .i64 (x))).fresh (q := q2) (by rw [HQ.out]; omega) 1 (.int .i64 (y))).fresh (q := q2) (by rw [HQ.out]; omega) 2 (.int .i64 (vv))
      obtain ⟨p0, p1, p2, -⟩ := a9.open3
      go_wp2
      exact bodyPost_ret (v := pV ((x)) ((y)) ((vv))) (by simp [results, Tryz.results52, go_sem, p0, p1, p2, pV]) rfl ⟨_, _, _, rfl, R9⟩
/-- A group and a point handed out. -/
def OrbG (w : World) (e : Ending) (w' : World) : Prop :=
  ∃ g n c A x y z, e = .returned (.tuple #[.slice (some ⟨g, 0, none⟩) n c, pV x y z]) ∧ n ≤ 193 ∧ OpsL w' g n A ∧ Below w.heap.size w w'
theorem Dz.upon {w0 w : World} {p : Nat} {a : Option Addr} {len cap : Nat} (h : Dz w0 w p a len cap) {lo : Nat} (hl : p < lo) : Upon lo w0 w := Upon.of_kept h.kp hl
set_option maxRecDepth 100000 in
set_option maxHeartbeats 3000000 in
theorem drawOrbit_any {w : World} {a : Option Addr} {len cap : Nat} (hr : Row w w.heap.size a len) :
    Calls Tryz.prog 21 #[.slice a len cap] w (OrbG w) := by
  obtain ⟨V, hV, b3, bb, -⟩ := boxed w 46 #[.int .i64 0, .int .i64 0, .int .i64 0]
  obtain ⟨q3, hq3⟩ : ∃ q, w.heap.size = q := ⟨_, rfl⟩
  have HQ : Hid (w.heap.size = q3) := hq3
  have HBB : Hid (Below w.heap.size w V) := bb
  rw [hq3] at b3
  have hr2 : Row V V.heap.size a len := hr.wide bb (Nat.le_refl _) bb.size
  clear hr bb
  go_enter Tryz.func21, Tryz.ntmps21
  go_wp2_with fail
  refine (new_any hr2).mono ?_
  rintro e w2 ⟨rfl, b2, hc⟩
  have hlt := b3.lt
  replace b3 := b3.below b2
  have HB2 : Hid (Below w.heap.size w w2) := HBB.out.trans (b2.mono HBB.out.size)
  obtain ⟨p, hp⟩ : ∃ q, V.heap.size = q := ⟨_, rfl⟩
  have HPP : Hid (w.heap.size ≤ p) := hp ▸ HBB.out.size
  rw [hp] at hc hlt ⊢
  have hpl : p < w2.heap.size := hc.lt
  clear hr2 b2 hV hq3 hp HBB
  go_wp2_with fail
  refine (draw4Any_dr hc).mono ?_
  rintro e w3 ⟨g, n, c, A, rfl, hn, L, D, K, -⟩
  have hK : Hid (∀ w'', Upon w2.heap.size w3 w'' → OpsL w'' g n A) := K
  have b3' := b3.keptP D.1 (by omega)
  have HB3 : Hid (Below w.heap.size w w3) := HB2.out.trans (D.1.below (N := w.heap.size) HPP.out HB2.out.size)
  have hc3 := D.2
  have hs3 : w2.heap.size ≤ w3.heap.size := D.1.size
  clear hc K b3 HB2 L D
  go_wp2_with fail
  refine (drawPt_any hc3).mono ?_
  rintro e w4 ⟨x, y, z, rfl, R⟩
  have b4 := b3'.keptP R.kp (by omega)
  have HB4 : Hid (Below w.heap.size w w4) := HB3.out.trans (R.kp.below (N := w.heap.size) HPP.out HB3.out.size)
  have hu4 : Upon w2.heap.size w3 w4 := R.upon hpl
  clear hc3 b3' HB3 R
  have a9 := put3_atD b4 (.int .i64 x) (.int .i64 y) (.int .i64 z)
  have hu5 : Upon w2.heap.size w3 (((w4.setCell ⟨q3, 0, none⟩ (.int .i64 x)).setCell ⟨q3, 1, none⟩ (.int .i64 y)).setCell ⟨q3, 2, none⟩ (.int .i64 z)) := ((hu4.trans (Upon.set (by omega) _)).trans (Upon.set (by omega) _)).trans (Upon.set (by omega) _)
  have L5 : Hid (OpsL (((w4.setCell ⟨q3, 0, none⟩ (.int .i64 x)).setCell ⟨q3, 1, none⟩ (.int .i64 y)).setCell ⟨q3, 2, none⟩ (.int .i64 z)) g n A) := hK.out _ hu5
  have HB5 : Hid (Below w.heap.size w (((w4.setCell ⟨q3, 0, none⟩ (.int .i64 x)).setCell ⟨q3, 1, none⟩ (.int .i64 y)).setCell ⟨q3, 2, none⟩ (.int .i64 z))) := ((HB4.out.setCell (p := ⟨q3, 0, none⟩) (by show w.heap.size ≤ q3; rw [HQ.out]; exact Nat.le_refl _) _).setCell (p := ⟨q3, 1, none⟩) (by show w.heap.size ≤ q3; rw [HQ.out]; exact Nat.le_refl _) _).setCell (p := ⟨q3, 2, none⟩) (by show w.heap.size ≤ q3; rw [HQ.out]; exact Nat.le_refl _) _
  obtain ⟨t0, t1, t2, f0, f1, f2⟩ := b4.open3
  obtain ⟨p0, p1, p2, -⟩ := a9.open3
  clear hu4 hu5 hK HB4 b4
  unfold pV
  go_wp2
  refine bodyPost_ret (v := .tuple #[.slice (some ⟨g, 0, none⟩) n c, pV x y z]) (by simp [results, Tryz.results21, go_sem, p0, p1, p2, pV]) rfl ?_
  exact ⟨g, n, c, A, x, y, z, rfl, hn, L5.out, HB5.out⟩
end Go.Proofs.YtpolnkjmojofoaaGreat
