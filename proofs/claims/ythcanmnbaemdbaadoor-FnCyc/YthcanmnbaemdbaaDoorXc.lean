/-
  Cyclotomic numbers, drawn: walked.
-/
import Derived.Test.YthcanmnbaemdbaaDoorDr
import Derived.Test.YthcanmnbaemdbaaDoorCk
import Derived.Test.YthcanmnbaemdbaaDoorCo
namespace Go.Proofs.YthcanmnbaemdbaaDoor
open Go.RowKit

theorem At.kept {t : TypeId} {w w' : World} {q p : Nat} {vs : Array Value} (h : At t w q vs) (hk : Kept p w w') (hq : q ≠ p) : At t w' q vs := (hk.block q h.lt hq).trans h
theorem Dr.setNew {w0 w : World} {p q i : Nat} {a : Option Addr} {len cap : Nat} (h : Dr w0 p a len cap w) (hq : p < q) (h0 : w0.heap.size ≤ q) (v : Value) : Dr w0 p a len cap (w.setCell ⟨q, i, none⟩ v) := by
  refine ⟨⟨h.1.os, h.1.tape, h.1.output, by simpa [World.setCell] using h.1.size, fun k hk hp => (Below.heap_setCell _ _ _ _ (by show k ≠ q; omega)).trans (h.1.block k hk hp)⟩, ?_⟩
  obtain ⟨j, x, hj, hh, hr⟩ := h.2
  refine ⟨j, x, hj, (Below.heap_setCell _ _ _ _ (by show p ≠ q; omega)).trans hh, hr.1, hr.2.imp id ?_⟩
  rintro ⟨b, off, e, hb, hc⟩
  refine ⟨b, off, e, hb, fun j hj => ?_⟩
  obtain ⟨n, n0, n1, n2⟩ := hc j hj
  exact ⟨n, n0, n1, (World.cell?_of_block (w := w) (Below.heap_setCell _ _ _ _ (by show b ≠ q; omega))).trans n2⟩
/-- The cursor, and two boxes that it leaves alone. -/
def Dz (w0 : World) (p : Nat) (a : Option Addr) (len cap : Nat) (r q : Nat) (us vs : Array Value) (w : World) : Prop := Dr w0 p a len cap w ∧ At 25 w r us ∧ At 25 w q vs ∧ (p < r ∧ p < q ∧ w0.heap.size ≤ r ∧ w0.heap.size ≤ q)
theorem Dz.below {w0 w w' : World} {p r q : Nat} {a : Option Addr} {len cap : Nat} {us vs : Array Value} (h : Dz w0 p a len cap r q us vs w) (hb : Below w.heap.size w w') : Dz w0 p a len cap r q us vs w' := ⟨h.1.below hb, h.2.1.below hb, h.2.2.1.below hb, h.2.2.2⟩
theorem Dz.kept {w0 w w' : World} {p r q : Nat} {a : Option Addr} {len cap : Nat} {us vs : Array Value} (h : Dz w0 p a len cap r q us vs w) (hk : Dr w p a len cap w') : Dz w0 p a len cap r q us vs w' := ⟨hk.from h.1.1, h.2.1.kept hk.1 (by have := h.2.2.2; omega), h.2.2.1.kept hk.1 (by have := h.2.2.2; omega), h.2.2.2⟩
/-- Four numbers are stored into the second box. -/
theorem Dz.fill {w0 w : World} {p r q : Nat} {a : Option Addr} {len cap : Nat} {us : Array Value} {v0 v1 v2 v3 : Value} (h : Dz w0 p a len cap r q us #[v0, v1, v2, v3] w) (hrq : r ≠ q) (y0 y1 y2 y3 : Value) :
    ∃ w', (((w.setCell ⟨q, 0, none⟩ y0).setCell ⟨q, 1, none⟩ y1).setCell ⟨q, 2, none⟩ y2).setCell ⟨q, 3, none⟩ y3 = w' ∧ Dz w0 p a len cap r q us #[y0, y1, y2, y3] w' := by
  obtain ⟨h1, h2, h3, h4⟩ := h
  exact ⟨_, rfl, (((h1.setNew h4.2.1 h4.2.2.2 _).setNew h4.2.1 h4.2.2.2 _).setNew h4.2.1 h4.2.2.2 _).setNew h4.2.1 h4.2.2.2 _, (((h2.setOther hrq _).setOther hrq _).setOther hrq _).setOther hrq _, put4_at h3 _ _ _ _, h4⟩
theorem Dz.fill2 {w0 w : World} {p r q : Nat} {a : Option Addr} {len cap : Nat} {us : Array Value} {v0 v1 v2 v3 : Value} (h : Dz w0 p a len cap r q us #[v0, v1, v2, v3] w) (hrq : r ≠ q) (y2 : Value) :
    ∃ w', w.setCell ⟨q, 2, none⟩ y2 = w' ∧ Dz w0 p a len cap r q us #[v0, v1, y2, v3] w' := by
  obtain ⟨h1, h2, h3, h4⟩ := h
  exact ⟨_, rfl, h1.setNew h4.2.1 h4.2.2.2 _, h2.setOther hrq _, by simpa using h3.set 2 y2, h4⟩
theorem below_dz {w0 w : World} {p r q : Nat} {a : Option Addr} {len cap : Nat} {us vs : Array Value} (hc : Dz w0 p a len cap r q us vs w) (n : Int) (hn0 : 0 < n) (hn : n ≤ 1073741824) :
    Calls Tryd.prog 51 #[.pointer (some ⟨p, 0, none⟩), .int .i64 n] w fun e w' => ∃ x : Int, e = .returned (.int .i64 x) ∧ 0 ≤ x ∧ x < n ∧ Dz w0 p a len cap r q us vs w' :=
  (below_dr (Dr.start hc.1.2) n hn0 hn).mono fun _ _ ⟨x, e, x0, x1, h⟩ => ⟨x, e, x0, x1, hc.kept h⟩
theorem once_dz {w0 w : World} {p r q : Nat} {a : Option Addr} {len cap : Nat} {us vs : Array Value} (hc : Dz w0 p a len cap r q us vs w) (n : Int) (hn0 : 0 < n) (hn : n ≤ 1073741824) :
    Calls Tryd.prog 49 #[.pointer (some ⟨p, 0, none⟩), .int .i64 n] w fun e w' => ∃ b : Bool, e = .returned (.bool b) ∧ Dz w0 p a len cap r q us vs w' :=
  (once_dr (Dr.start hc.1.2) n hn0 hn).mono fun _ _ ⟨x, e, h⟩ => ⟨x, e, hc.kept h⟩
theorem from_dz {w0 w : World} {p r q : Nat} {a : Option Addr} {len cap : Nat} {us vs : Array Value} (hc : Dz w0 p a len cap r q us vs w) (lo hi : Int) (h0 : lo ≤ hi) (h1 : -1000000000 ≤ lo) (h2 : hi ≤ 1000000000) (h3 : hi - lo < 1073741824) :
    Calls Tryd.prog 50 #[.pointer (some ⟨p, 0, none⟩), .int .i64 lo, .int .i64 hi] w fun e w' => ∃ x : Int, e = .returned (.int .i64 x) ∧ lo ≤ x ∧ x ≤ hi ∧ Dz w0 p a len cap r q us vs w' :=
  (from_dr (Dr.start hc.1.2) lo hi h0 h1 h2 h3).mono fun _ _ ⟨x, e, x0, x1, h⟩ => ⟨x, e, x0, x1, hc.kept h⟩
/-- A number picked out of a table that was just laid. -/
theorem pick_dz {w0 w : World} {p r q : Nat} {a : Option Addr} {len cap : Nat} {us vs : Array Value} (hc : Dz w0 p a len cap r q us vs w) (T : Array Value) (n : Nat) (hn : 0 < n ∧ n ≤ 256) (hT : ∀ i, i < n → ∃ v : Int, T[i]? = some (.int .i64 v)) :
    Calls Tryd.prog 51 #[.pointer (some ⟨p, 0, none⟩), .int .i64 (n : Int)] (w.alloc (.cells T 2)) fun e w' => ∃ (i : Nat) (v : Int), e = .returned (.int .i64 (i : Int)) ∧ (i : Int) < (n : Int) ∧ w'.cell? ⟨w.heap.size, i, none⟩ = some (.int .i64 v) ∧ Dz w0 p a len cap r q us vs w' := by
  have hlt := hc.1.2.lt
  have h1 := hc.below (below_alloc w (.cells T 2))
  refine (below_dr (Dr.start h1.1.2) (n : Int) (by omega) (by omega)).mono ?_
  rintro e w' ⟨x, rfl, x0, x1, h2⟩
  obtain ⟨v, hv⟩ := hT x.toNat (by omega)
  refine ⟨x.toNat, v, by rw [Int.toNat_of_nonneg x0], by omega, ?_, h1.kept h2⟩
  rw [h2.1.cell (by omega) (by simp)]
  exact (at_new 2 w T).cell x.toNat hv
theorem tab5 (a0 a1 a2 a3 a4 : Int) : ∀ i, i < 5 → ∃ v : Int, (#[.int .i64 a0, .int .i64 a1, .int .i64 a2, .int .i64 a3, .int .i64 a4] : Array Value)[i]? = some (.int .i64 v) := by
  intro i hi
  rcases (by omega : i = 0 ∨ i = 1 ∨ i = 2 ∨ i = 3 ∨ i = 4) with rfl | rfl | rfl | rfl | rfl <;> exact ⟨_, rfl⟩
set_option maxHeartbeats 1600000 in
theorem draw_any {w0 w : World} {p : Nat} {a : Option Addr} {len cap : Nat} (hc : Dr w0 p a len cap w) :
    Calls Tryd.prog 28 #[.pointer (some ⟨p, 0, none⟩)] w fun e w' => ∃ x y z u : Int, e = .returned (cV x y z u) ∧ Dr w0 p a len cap w' := by
  obtain ⟨W, hW, b0, bW, -⟩ := boxed w 25 #[.int .i64 0, .int .i64 0, .int .i64 0, .int .i64 0]
  have hp : p < w.heap.size := hc.2.lt
  have hs := hc.1.size
  have D : Dz w0 p a len cap w.heap.size w.heap.size #[.int .i64 0, .int .i64 0, .int .i64 0, .int .i64 0] #[.int .i64 0, .int .i64 0, .int .i64 0, .int .i64 0] W := ⟨hc.below bW, b0, b0, hp, hp, hs, hs⟩
  clear b0 bW hc
  go_enter Tryd.func28, Tryd.ntmps28
  go_wp2_with fail
  refine (from_dz D (-30) 30 (by decide) (by decide) (by decide) (by decide)).mono ?_
  clear D
  rintro e w1 ⟨x1, rfl, -, -, D⟩
  go_wp2_with fail
  refine (from_dz D (-30) 30 (by decide) (by decide) (by decide) (by decide)).mono ?_
  clear D
  rintro e w2 ⟨x2, rfl, -, -, D⟩
  go_wp2_with fail
  refine (from_dz D (-30) 30 (by decide) (by decide) (by decide) (by decide)).mono ?_
  clear D
  rintro e w3 ⟨x3, rfl, -, -, D⟩
  go_wp2_with fail
  refine (from_dz D (-30) 30 (by decide) (by decide) (by decide) (by decide)).mono ?_
  clear D
  rintro e w4 ⟨x4, rfl, -, -, D⟩
  go_wp2_with fail
  clear hW
  obtain ⟨V, hV, b1, bV, -⟩ := boxed w4 25 #[.int .i64 x1, .int .i64 x2, .int .i64 x3, .int .i64 x4]
  rw [hV]
  have lr : w.heap.size ≠ w4.heap.size := Nat.ne_of_lt D.2.1.lt
  have lp : p < w4.heap.size := D.1.2.lt
  have ls := D.1.1.size
  obtain ⟨q, hq⟩ : ∃ q, w4.heap.size = q := ⟨_, rfl⟩
  obtain ⟨r, hr⟩ : ∃ r, w.heap.size = r := ⟨_, rfl⟩
  rw [hq] at b1 lr lp ls ⊢
  rw [hr] at D lr ⊢
  replace D : Dz w0 p a len cap r q #[.int .i64 0, .int .i64 0, .int .i64 0, .int .i64 0] #[.int .i64 x1, .int .i64 x2, .int .i64 x3, .int .i64 x4] V := ⟨D.1.below bV, D.2.1.below bV, b1, D.2.2.2.1, lp, D.2.2.2.2.2.1, ls⟩
  clear hV b1 bV hq hr hp hs
  refine (below_dz D 6 (by decide) (by decide)).mono ?_
  clear D
  rintro e w5 ⟨k, rfl, k0, k1, D⟩
  rcases (by omega : k = 0 ∨ k = 1 ∨ k = 2 ∨ k = 3 ∨ k = 4 ∨ k = 5) with rfl | rfl | rfl | rfl | rfl | rfl
  · go_wp2_with fail
    refine (below_dz D 12 (by decide) (by decide)).mono ?_
    clear D
    rintro e wa ⟨k2, rfl, m0, m1, D⟩
    go_wp2_with fail
    refine (specRoot_any k2 ⟨by omega, by omega⟩ k2.toNat (by omega) (by omega) _).mono ?_
    rintro e wb ⟨rfl, bb⟩
    replace D := D.below bb
    clear bb
    obtain ⟨c0, c1, c2, c3, g0, g1, g2, g3⟩ := D.2.2.1.open4
    obtain ⟨V1, hV1, D1⟩ := D.fill lr (.int .i64 (rp (k2.toNat * 4))) (.int .i64 (rp (k2.toNat * 4 + 1))) (.int .i64 (rp (k2.toNat * 4 + 2))) (.int .i64 (rp (k2.toNat * 4 + 3)))
    clear D
    have D := D1
    clear D1
    go_wp2_with fail
    clear c0 c1 c2 c3 g0 g1 g2 g3
    refine (once_dz D 20 (by decide) (by decide)).mono ?_
    clear D
    rintro e wa6 ⟨b, rfl, D⟩
    cases b
    · obtain ⟨c0, c1, c2, c3, -⟩ := D.2.2.1.open4
      obtain ⟨d0, d1, d2, d3, f0, f1, f2, f3⟩ := D.2.1.open4
      go_wp2
      obtain ⟨z0, z1, z2, z3, -⟩ := (put4_at D.2.1 (.int .i64 (rp (k2.toNat * 4))) (.int .i64 (rp (k2.toNat * 4 + 1))) (.int .i64 (rp (k2.toNat * 4 + 2))) (.int .i64 (rp (k2.toNat * 4 + 3)))).open4
      exact bodyPost_ret (v := cV (rp (k2.toNat * 4)) (rp (k2.toNat * 4 + 1)) (rp (k2.toNat * 4 + 2)) (rp (k2.toNat * 4 + 3))) (by simp [results, Tryd.results28, go_sem, z0, z1, z2, z3]) rfl ⟨_, _, _, _, rfl, (((D.1.setNew D.2.2.2.1 D.2.2.2.2.2.1 _).setNew D.2.2.2.1 D.2.2.2.2.2.1 _).setNew D.2.2.2.1 D.2.2.2.2.2.1 _).setNew D.2.2.2.1 D.2.2.2.2.2.1 _⟩
    · go_wp2_with fail
      refine (pick_dz D _ 5 (by decide) (tab5 _ _ _ _ _)).mono ?_
      clear D
      rintro e wa7 ⟨i, v, rfl, i1, hv, D⟩
      obtain ⟨c0, c1, c2, c3, g0, g1, g2, g3⟩ := D.2.2.1.open4
      obtain ⟨V2, hV2, D2⟩ := D.fill2 lr (.int .i64 v)
      obtain ⟨d0, d1, d2, d3, f0, f1, f2, f3⟩ := D2.2.1.open4
      obtain ⟨n0, n1, n2, n3, -⟩ := D2.2.2.1.open4
      clear D
      go_wp2
      obtain ⟨z0, z1, z2, z3, -⟩ := (put4_at D2.2.1 (.int .i64 (rp (k2.toNat * 4))) (.int .i64 (rp (k2.toNat * 4 + 1))) (.int .i64 (v)) (.int .i64 (rp (k2.toNat * 4 + 3)))).open4
      exact bodyPost_ret (v := cV (rp (k2.toNat * 4)) (rp (k2.toNat * 4 + 1)) (v) (rp (k2.toNat * 4 + 3))) (by simp [results, Tryd.results28, go_sem, z0, z1, z2, z3]) rfl ⟨_, _, _, _, rfl, (((D2.1.setNew D2.2.2.2.1 D2.2.2.2.2.2.1 _).setNew D2.2.2.2.1 D2.2.2.2.2.2.1 _).setNew D2.2.2.2.1 D2.2.2.2.2.2.1 _).setNew D2.2.2.2.1 D2.2.2.2.2.2.1 _⟩
  · go_wp2_with fail
    refine (from_dz D (-9) 9 (by decide) (by decide) (by decide) (by decide)).mono ?_
    clear D
    rintro e wa ⟨k2, rfl, m0, m1, D⟩
    go_wp2_with fail
    refine (from_dz D (-20) 20 (by decide) (by decide) (by decide) (by decide)).mono ?_
    clear D
    rintro e wb ⟨k3, rfl, -, -, D⟩
    obtain ⟨c0, c1, c2, c3, g0, g1, g2, g3⟩ := D.2.2.1.open4
    obtain ⟨V1, hV1, D1⟩ := D.fill lr (.int .i64 k3) (.int .i64 (2 * k2)) (.int .i64 0) (.int .i64 (-k2))
    clear D
    have D := D1
    clear D1
    go_wp2_with fail
    clear c0 c1 c2 c3 g0 g1 g2 g3
    refine (once_dz D 20 (by decide) (by decide)).mono ?_
    clear D
    rintro e wa6 ⟨b, rfl, D⟩
    cases b
    · obtain ⟨c0, c1, c2, c3, -⟩ := D.2.2.1.open4
      obtain ⟨d0, d1, d2, d3, f0, f1, f2, f3⟩ := D.2.1.open4
      go_wp2
      obtain ⟨z0, z1, z2, z3, -⟩ := (put4_at D.2.1 (.int .i64 (k3)) (.int .i64 (2 * k2)) (.int .i64 (0)) (.int .i64 (-k2))).open4
      exact bodyPost_ret (v := cV (k3) (2 * k2) (0) (-k2)) (by simp [results, Tryd.results28, go_sem, z0, z1, z2, z3]) rfl ⟨_, _, _, _, rfl, (((D.1.setNew D.2.2.2.1 D.2.2.2.2.2.1 _).setNew D.2.2.2.1 D.2.2.2.2.2.1 _).setNew D.2.2.2.1 D.2.2.2.2.2.1 _).setNew D.2.2.2.1 D.2.2.2.2.2.1 _⟩
    · go_wp2_with fail
      refine (pick_dz D _ 5 (by decide) (tab5 _ _ _ _ _)).mono ?_
      clear D
      rintro e wa7 ⟨i, v, rfl, i1, hv, D⟩
      obtain ⟨c0, c1, c2, c3, g0, g1, g2, g3⟩ := D.2.2.1.open4
      obtain ⟨V2, hV2, D2⟩ := D.fill2 lr (.int .i64 v)
      obtain ⟨d0, d1, d2, d3, f0, f1, f2, f3⟩ := D2.2.1.open4
      obtain ⟨n0, n1, n2, n3, -⟩ := D2.2.2.1.open4
      clear D
      go_wp2
      obtain ⟨z0, z1, z2, z3, -⟩ := (put4_at D2.2.1 (.int .i64 (k3)) (.int .i64 (2 * k2)) (.int .i64 (v)) (.int .i64 (-k2))).open4
      exact bodyPost_ret (v := cV (k3) (2 * k2) (v) (-k2)) (by simp [results, Tryd.results28, go_sem, z0, z1, z2, z3]) rfl ⟨_, _, _, _, rfl, (((D2.1.setNew D2.2.2.2.1 D2.2.2.2.2.2.1 _).setNew D2.2.2.2.1 D2.2.2.2.2.2.1 _).setNew D2.2.2.2.1 D2.2.2.2.2.2.1 _).setNew D2.2.2.2.1 D2.2.2.2.2.2.1 _⟩
  · go_wp2_with fail
    refine (below_dz D 1073741824 (by decide) (by decide)).mono ?_
    clear D
    rintro e wa ⟨k2, rfl, m0, m1, D⟩
    go_wp2_with fail
    refine (below_dz D 1073741824 (by decide) (by decide)).mono ?_
    clear D
    rintro e wb ⟨k3, rfl, m2, m3, D⟩
    go_wp2_with fail
    refine (below_dz D 1048576 (by decide) (by decide)).mono ?_
    clear D
    rintro e wc ⟨k4, rfl, m4, m5, D⟩
    go_wp2_with fail
    refine (below_dz D 1073741824 (by decide) (by decide)).mono ?_
    clear D
    rintro e wd ⟨k5, rfl, m6, m7, D⟩
    obtain ⟨c0, c1, c2, c3, g0, g1, g2, g3⟩ := D.2.2.1.open4
    obtain ⟨V1, hV1, D1⟩ := D.fill lr (.int .i64 (k2 * 900)) (.int .i64 (-k3)) (.int .i64 k4) (.int .i64 (k5 * 500))
    clear D
    have D := D1
    clear D1
    go_wp2_with fail
    clear c0 c1 c2 c3 g0 g1 g2 g3
    refine (once_dz D 20 (by decide) (by decide)).mono ?_
    clear D
    rintro e wa6 ⟨b, rfl, D⟩
    cases b
    · obtain ⟨c0, c1, c2, c3, -⟩ := D.2.2.1.open4
      obtain ⟨d0, d1, d2, d3, f0, f1, f2, f3⟩ := D.2.1.open4
      go_wp2
      obtain ⟨z0, z1, z2, z3, -⟩ := (put4_at D.2.1 (.int .i64 (k2 * 900)) (.int .i64 (-k3)) (.int .i64 (k4)) (.int .i64 (k5 * 500))).open4
      exact bodyPost_ret (v := cV (k2 * 900) (-k3) (k4) (k5 * 500)) (by simp [results, Tryd.results28, go_sem, z0, z1, z2, z3]) rfl ⟨_, _, _, _, rfl, (((D.1.setNew D.2.2.2.1 D.2.2.2.2.2.1 _).setNew D.2.2.2.1 D.2.2.2.2.2.1 _).setNew D.2.2.2.1 D.2.2.2.2.2.1 _).setNew D.2.2.2.1 D.2.2.2.2.2.1 _⟩
    · go_wp2_with fail
      refine (pick_dz D _ 5 (by decide) (tab5 _ _ _ _ _)).mono ?_
      clear D
      rintro e wa7 ⟨i, v, rfl, i1, hv, D⟩
      obtain ⟨c0, c1, c2, c3, g0, g1, g2, g3⟩ := D.2.2.1.open4
      obtain ⟨V2, hV2, D2⟩ := D.fill2 lr (.int .i64 v)
      obtain ⟨d0, d1, d2, d3, f0, f1, f2, f3⟩ := D2.2.1.open4
      obtain ⟨n0, n1, n2, n3, -⟩ := D2.2.2.1.open4
      clear D
      go_wp2
      obtain ⟨z0, z1, z2, z3, -⟩ := (put4_at D2.2.1 (.int .i64 (k2 * 900)) (.int .i64 (-k3)) (.int .i64 (v)) (.int .i64 (k5 * 500))).open4
      exact bodyPost_ret (v := cV (k2 * 900) (-k3) (v) (k5 * 500)) (by simp [results, Tryd.results28, go_sem, z0, z1, z2, z3]) rfl ⟨_, _, _, _, rfl, (((D2.1.setNew D2.2.2.2.1 D2.2.2.2.2.2.1 _).setNew D2.2.2.2.1 D2.2.2.2.2.2.1 _).setNew D2.2.2.2.1 D2.2.2.2.2.2.1 _).setNew D2.2.2.2.1 D2.2.2.2.2.2.1 _⟩
  all_goals
    go_wp2_with fail
    refine (once_dz D 20 (by decide) (by decide)).mono ?_
    clear D
    rintro e wa6 ⟨b, rfl, D⟩
    cases b
    · obtain ⟨c0, c1, c2, c3, -⟩ := D.2.2.1.open4
      obtain ⟨d0, d1, d2, d3, f0, f1, f2, f3⟩ := D.2.1.open4
      go_wp2
      obtain ⟨z0, z1, z2, z3, -⟩ := (put4_at D.2.1 (.int .i64 (x1)) (.int .i64 (x2)) (.int .i64 (x3)) (.int .i64 (x4))).open4
      exact bodyPost_ret (v := cV (x1) (x2) (x3) (x4)) (by simp [results, Tryd.results28, go_sem, z0, z1, z2, z3]) rfl ⟨_, _, _, _, rfl, (((D.1.setNew D.2.2.2.1 D.2.2.2.2.2.1 _).setNew D.2.2.2.1 D.2.2.2.2.2.1 _).setNew D.2.2.2.1 D.2.2.2.2.2.1 _).setNew D.2.2.2.1 D.2.2.2.2.2.1 _⟩
    · go_wp2_with fail
      refine (pick_dz D _ 5 (by decide) (tab5 _ _ _ _ _)).mono ?_
      clear D
      rintro e wa7 ⟨i, v, rfl, i1, hv, D⟩
      obtain ⟨c0, c1, c2, c3, g0, g1, g2, g3⟩ := D.2.2.1.open4
      obtain ⟨V2, hV2, D2⟩ := D.fill2 lr (.int .i64 v)
      obtain ⟨d0, d1, d2, d3, f0, f1, f2, f3⟩ := D2.2.1.open4
      obtain ⟨n0, n1, n2, n3, -⟩ := D2.2.2.1.open4
      clear D
      go_wp2
      obtain ⟨z0, z1, z2, z3, -⟩ := (put4_at D2.2.1 (.int .i64 (x1)) (.int .i64 (x2)) (.int .i64 (v)) (.int .i64 (x4))).open4
      exact bodyPost_ret (v := cV (x1) (x2) (v) (x4)) (by simp [results, Tryd.results28, go_sem, z0, z1, z2, z3]) rfl ⟨_, _, _, _, rfl, (((D2.1.setNew D2.2.2.2.1 D2.2.2.2.2.2.1 _).setNew D2.2.2.2.1 D2.2.2.2.2.2.1 _).setNew D2.2.2.2.1 D2.2.2.2.2.2.1 _).setNew D2.2.2.2.1 D2.2.2.2.2.2.1 _⟩
theorem put4_other {t : TypeId} {w : World} {p q : Nat} {us : Array Value} (h : At t w p us) (hq : p ≠ q) (v0 v1 v2 v3 : Value) : At t ((((w.setCell ⟨q, 0, none⟩ v0).setCell ⟨q, 1, none⟩ v1).setCell ⟨q, 2, none⟩ v2).setCell ⟨q, 3, none⟩ v3) p us :=
  (((h.setOther hq _).setOther hq _).setOther hq _).setOther hq _
theorem put8_at {t s : TypeId} {w : World} {p q : Nat} {u0 u1 u2 u3 v0 v1 v2 v3 : Value} (h1 : At t w p #[u0, u1, u2, u3]) (h2 : At s w q #[v0, v1, v2, v3]) (hq : p ≠ q) (x0 x1 x2 x3 y0 y1 y2 y3 : Value) :
    At t ((((((((w.setCell ⟨p, 0, none⟩ x0).setCell ⟨p, 1, none⟩ x1).setCell ⟨p, 2, none⟩ x2).setCell ⟨p, 3, none⟩ x3).setCell ⟨q, 0, none⟩ y0).setCell ⟨q, 1, none⟩ y1).setCell ⟨q, 2, none⟩ y2).setCell ⟨q, 3, none⟩ y3) p #[x0, x1, x2, x3] ∧
    At s ((((((((w.setCell ⟨p, 0, none⟩ x0).setCell ⟨p, 1, none⟩ x1).setCell ⟨p, 2, none⟩ x2).setCell ⟨p, 3, none⟩ x3).setCell ⟨q, 0, none⟩ y0).setCell ⟨q, 1, none⟩ y1).setCell ⟨q, 2, none⟩ y2).setCell ⟨q, 3, none⟩ y3) q #[y0, y1, y2, y3] :=
  ⟨put4_other (put4_at h1 _ _ _ _) hq _ _ _ _, put4_at (put4_other h2 (Ne.symm hq) _ _ _ _) _ _ _ _⟩
/-- The numbers of two boxes. -/
def Ab8 (p q : Nat) (us vs : Array Value) (w : World) : Prop := (∀ i v, us[i]? = some v → w.cell? ⟨p, i, none⟩ = some v) ∧ ∀ i v, vs[i]? = some v → w.cell? ⟨q, i, none⟩ = some v
theorem ab8_of {s t : TypeId} {w : World} {p q : Nat} {us vs : Array Value} (h1 : At s w p us) (h2 : At t w q vs) : Ab8 p q us vs w := ⟨fun i _ h => h1.cell i h, fun i _ h => h2.cell i h⟩
theorem ab8_out {w : World} {p q : Nat} {u0 u1 u2 u3 v0 v1 v2 v3 : Value} (h : Ab8 p q #[u0, u1, u2, u3] #[v0, v1, v2, v3] w) : (w.cell? ⟨p, 0, none⟩ = some u0 ∧ w.cell? ⟨p, 1, none⟩ = some u1 ∧ w.cell? ⟨p, 2, none⟩ = some u2 ∧ w.cell? ⟨p, 3, none⟩ = some u3) ∧ w.cell? ⟨q, 0, none⟩ = some v0 ∧ w.cell? ⟨q, 1, none⟩ = some v1 ∧ w.cell? ⟨q, 2, none⟩ = some v2 ∧ w.cell? ⟨q, 3, none⟩ = some v3 :=
  ⟨⟨h.1 0 _ rfl, h.1 1 _ rfl, h.1 2 _ rfl, h.1 3 _ rfl⟩, h.2 0 _ rfl, h.2 1 _ rfl, h.2 2 _ rfl, h.2 3 _ rfl⟩
theorem Row.below {w W : World} {a : Option Addr} {len : Nat} (h : Row w w.heap.size a len) (hb : Below w.heap.size w W) : Row W W.heap.size a len := by
  refine ⟨h.1, h.2.imp id ?_⟩
  rintro ⟨b, off, e, hb1, hc⟩
  refine ⟨b, off, e, Nat.lt_of_lt_of_le hb1 hb.size, fun j hj => ?_⟩
  obtain ⟨n, h0, h1, h2⟩ := hc j hj
  exact ⟨n, h0, h1, (hb.cell (p := ⟨b, off + j, none⟩) hb1).trans h2⟩
theorem drawOk_any {w : World} {a : Option Addr} {len cap : Nat} (hr : Row w w.heap.size a len) :
    Calls Tryd.prog 8 #[.slice a len cap] w fun e w' => ∃ x y z u : Int, e = .returned (cV x y z u) ∧ Below w.heap.size w w' := by
  obtain ⟨W, hW, b0, bW, -⟩ := boxed w 25 #[.int .i64 0, .int .i64 0, .int .i64 0, .int .i64 0]
  go_enter Tryd.func8, Tryd.ntmps8
  go_wp2_with fail
  have l0 := b0.lt
  refine (new_any (hr.below bW)).mono ?_
  rintro e w1 ⟨rfl, hb1, hc⟩
  replace b0 := b0.below hb1
  replace bW := bW.trans (hb1.mono bW.size)
  have l1 := hb1.size
  clear hb1 hW
  replace hc := Dr.start hc
  go_wp2_with fail
  refine (draw_any hc).mono ?_
  clear hc
  rintro e w2 ⟨x, y, z, u, rfl, hc⟩
  replace b0 := b0.kept hc.1 (Nat.ne_of_lt l0)
  replace bW := bW.trans (hc.1.below (N := w.heap.size) (by omega) (by omega))
  obtain ⟨d0, d1, d2, d3, f0, f1, f2, f3⟩ := b0.open4
  go_wp2
  obtain ⟨z0, z1, z2, z3, -⟩ := (put4_at b0 (.int .i64 x) (.int .i64 y) (.int .i64 z) (.int .i64 u)).open4
  exact bodyPost_ret (v := cV x y z u) (by simp [results, Tryd.results8, go_sem, z0, z1, z2, z3]) rfl ⟨_, _, _, _, rfl, below_put4 bW (Nat.le_refl _) _ _ _ _⟩
theorem drawAdd_any {w : World} {a : Option Addr} {len cap : Nat} (hr : Row w w.heap.size a len) :
    Calls Tryd.prog 26 #[.slice a len cap] w fun e w' => ∃ x y z u x' y' z' u' : Int, e = .returned (.tuple #[cV x y z u, cV x' y' z' u']) ∧ Below w.heap.size w w' := by
  obtain ⟨W, hW, b0, b1, bW, sW⟩ := boxed2 w 25 25 #[.int .i64 0, .int .i64 0, .int .i64 0, .int .i64 0] #[.int .i64 0, .int .i64 0, .int .i64 0, .int .i64 0]
  go_enter Tryd.func26, Tryd.ntmps26
  go_wp2_with fail
  refine (new_any (hr.below bW)).mono ?_
  rintro e w1 ⟨rfl, hb1, hc⟩
  replace b0 := b0.below hb1
  replace b1 := b1.below hb1
  replace bW := bW.trans (hb1.mono bW.size)
  have l1 := hb1.size
  clear hb1 hW
  obtain ⟨p, hp⟩ : ∃ p, W.heap.size = p := ⟨_, rfl⟩
  rw [hp] at hc sW ⊢
  clear l1 hp
  replace hc := Dr.start hc
  go_wp2_with fail
  refine (draw_any hc).mono ?_
  clear hc
  rintro e w2 ⟨x, y, z, u, rfl, hc⟩
  replace b0 := b0.kept hc.1 (by omega)
  replace b1 := b1.kept hc.1 (by omega)
  replace bW := bW.trans (hc.1.below (N := w.heap.size) (by omega) bW.size)
  go_wp2_with fail
  obtain ⟨V, hV, ba, bV, -⟩ := boxed w2 25 #[.int .i64 x, .int .i64 y, .int .i64 z, .int .i64 u]
  rw [hV]
  have lp : p < w2.heap.size := hc.2.lt
  obtain ⟨qa, hqa⟩ : ∃ q, w2.heap.size = q := ⟨_, rfl⟩
  rw [hqa] at ba lp ⊢
  replace hc := Dr.start (hc.below bV).2
  replace b0 := b0.below bV
  replace b1 := b1.below bV
  replace bW := bW.trans (bV.mono bW.size)
  clear hV bV hqa
  refine (draw_any hc).mono ?_
  clear hc
  rintro e w3 ⟨x', y', z', u', rfl, hc⟩
  replace b0 := b0.kept hc.1 (by omega)
  replace b1 := b1.kept hc.1 (by omega)
  replace ba := ba.kept hc.1 (by omega)
  replace bW := bW.trans (hc.1.below (N := w.heap.size) (by omega) bW.size)
  go_wp2_with fail
  obtain ⟨V, hV, bb, bV, -⟩ := boxed w3 25 #[.int .i64 x', .int .i64 y', .int .i64 z', .int .i64 u']
  rw [hV]
  have lq : qa < w3.heap.size := ba.lt
  obtain ⟨qb, hqb⟩ : ∃ q, w3.heap.size = q := ⟨_, rfl⟩
  rw [hqb] at bb lq ⊢
  replace hc := Dr.start (hc.below bV).2
  replace b0 := b0.below bV
  replace b1 := b1.below bV
  replace ba := ba.below bV
  replace bW := bW.trans (bV.mono bW.size)
  clear hV bV hqb
  refine (once_dr hc 8 (by decide) (by decide)).mono ?_
  clear hc
  rintro e w4 ⟨k, rfl, hc⟩
  replace b0 := b0.kept hc.1 (by omega)
  replace b1 := b1.kept hc.1 (by omega)
  replace ba := ba.kept hc.1 (by omega)
  replace bb := bb.kept hc.1 (by omega)
  replace bW := bW.trans (hc.1.below (N := w.heap.size) (by omega) bW.size)
  clear hc
  cases k
  · go_wp2_with fail
    obtain ⟨u0, hu0, bb9⟩ : ∃ u0, w4.drew = u0 ∧ Below w4.heap.size w4 u0 := ⟨_, rfl, (Below.refl _ _).drew⟩
    replace b0 := b0.below bb9
    replace b1 := b1.below bb9
    replace ba := ba.below bb9
    replace bb := bb.below bb9
    replace bW := bW.trans (bb9.mono bW.size)
    clear bb9
    refine wp_region_held_drew (S := Ab8 qa qb #[.int .i64 x, .int .i64 y, .int .i64 z, .int .i64 u] #[.int .i64 x', .int .i64 y', .int .i64 z', .int .i64 u']) (by kernel_rfl) (by rw [hu0]; exact ab8_of ba bb) (fun hHeld => ?_)
    rw [hu0] at hHeld ⊢
    clear hu0
    change wpAnyH _ _ _ _ _ 4 #[false, false, false, false] _ _
    refine wpAnyH_take (i := 0) (v := .agg #[.int .i64 x, .int .i64 y, .int .i64 z, .int .i64 u]) rfl (by kernel_rfl) (by kernel_rfl) (by kernel_rfl) (fun _ _ _ h => h) (Or.inl ⟨by kernel_rfl, ?_⟩) hHeld ?_
    · intro w' hSw; obtain ⟨⟨z0, z1, z2, z3⟩, h1, h2, h3, h4⟩ := ab8_out hSw; go_simp
    try simp only [Act.put, List.setIfInBounds_toArray, List.set_cons_zero, List.set_cons_succ, List.getElem_toArray, List.getElem_cons_zero]
    refine wpAnyH_take (i := 1) (v := .agg #[.int .i64 x', .int .i64 y', .int .i64 z', .int .i64 u']) rfl (by kernel_rfl) (by kernel_rfl) (by kernel_rfl) (fun _ _ _ h => h) (Or.inl ⟨by kernel_rfl, ?_⟩) hHeld ?_
    · intro w' hSw; obtain ⟨⟨z0, z1, z2, z3⟩, h1, h2, h3, h4⟩ := ab8_out hSw; go_simp
    try simp only [Act.put, List.setIfInBounds_toArray, List.set_cons_zero, List.set_cons_succ, List.getElem_toArray, List.getElem_cons_succ, List.getElem_cons_zero]
    obtain ⟨d0, d1, d2, d3, f0, f1, f2, f3⟩ := b0.open4
    refine wpAnyH_ready (rs := [2]) (by kernel_rfl) (by simp) ?_
    refine AllReadyH.cons rfl (fun KK hK' => ?_) AllReadyH.nil
    go_simp
    obtain ⟨u1, hu1, b0', b1', ba', bb', bW'⟩ : ∃ u1, (((u0.setCell ⟨w.heap.size, 0, none⟩ (.int .i64 x)).setCell ⟨w.heap.size, 1, none⟩ (.int .i64 y)).setCell ⟨w.heap.size, 2, none⟩ (.int .i64 z)).setCell ⟨w.heap.size, 3, none⟩ (.int .i64 u) = u1 ∧ At 25 u1 w.heap.size #[.int .i64 x, .int .i64 y, .int .i64 z, .int .i64 u] ∧ At 25 u1 (w.heap.size + 1) #[.int .i64 0, .int .i64 0, .int .i64 0, .int .i64 0] ∧ At 25 u1 qa #[.int .i64 x, .int .i64 y, .int .i64 z, .int .i64 u] ∧ At 25 u1 qb #[.int .i64 x', .int .i64 y', .int .i64 z', .int .i64 u'] ∧ Below w.heap.size w u1 := ⟨_, rfl, put4_at b0 _ _ _ _, put4_other b1 (by omega) _ _ _ _, put4_other ba (by omega) _ _ _ _, put4_other bb (by omega) _ _ _ _, below_put4 bW (Nat.le_refl _) _ _ _ _⟩
    rw [hu1]
    clear hu1 b0 b1 ba bb bW d0 d1 d2 d3 f0 f1 f2 f3
    clear hHeld
    refine hK'.out _ _ (ab8_of ba' bb') (fun hHeld => ?_)
    clear hK' KK
    try simp only [List.setIfInBounds_toArray, List.set_cons_zero, List.set_cons_succ]
    obtain ⟨d0, d1, d2, d3, f0, f1, f2, f3⟩ := b1'.open4
    refine wpAnyH_ready (rs := [3]) (by kernel_rfl) (by simp) ?_
    refine AllReadyH.cons rfl (fun KK hK' => ?_) AllReadyH.nil
    go_simp
    obtain ⟨u2, hu2, b0, b1, ba, bb, bW⟩ : ∃ u2, (((u1.setCell ⟨(w.heap.size + 1), 0, none⟩ (.int .i64 x')).setCell ⟨(w.heap.size + 1), 1, none⟩ (.int .i64 y')).setCell ⟨(w.heap.size + 1), 2, none⟩ (.int .i64 z')).setCell ⟨(w.heap.size + 1), 3, none⟩ (.int .i64 u') = u2 ∧ At 25 u2 w.heap.size #[.int .i64 x, .int .i64 y, .int .i64 z, .int .i64 u] ∧ At 25 u2 (w.heap.size + 1) #[.int .i64 x', .int .i64 y', .int .i64 z', .int .i64 u'] ∧ At 25 u2 qa #[.int .i64 x, .int .i64 y, .int .i64 z, .int .i64 u] ∧ At 25 u2 qb #[.int .i64 x', .int .i64 y', .int .i64 z', .int .i64 u'] ∧ Below w.heap.size w u2 := ⟨_, rfl, put4_other b0' (by omega) _ _ _ _, put4_at b1' _ _ _ _, put4_other ba' (by omega) _ _ _ _, put4_other bb' (by omega) _ _ _ _, below_put4 bW' (by omega) _ _ _ _⟩
    rw [hu2]
    clear hu2 b0' b1' ba' bb' bW' d0 d1 d2 d3 f0 f1 f2 f3
    clear hHeld
    refine hK'.out _ _ (ab8_of ba bb) (fun hHeld => ?_)
    clear hK' KK
    try simp only [List.setIfInBounds_toArray, List.set_cons_zero, List.set_cons_succ]
    refine wpAnyH_done (by kernel_rfl) ?_ _
    clear hHeld
    go_wp2
    obtain ⟨m0, m1, m2, m3, -⟩ := b0.open4
    obtain ⟨n0, n1, n2, n3, -⟩ := b1.open4
    exact bodyPost_ret (v := .tuple #[cV x y z u, cV x' y' z' u']) (by simp [results, Tryd.results26, go_sem, m0, m1, m2, m3, n0, n1, n2, n3]) rfl ⟨_, _, _, _, _, _, _, _, rfl, bW⟩
  · obtain ⟨x0, x1, x2, x3, -⟩ := ba.open4
    go_wp2_with fail
    obtain ⟨p0, q0, r0, s0, hcj⟩ := conjT_parts x y z u
    refine (specConj_any x y z u _).mono ?_
    rintro e w5 ⟨rfl, b5⟩
    rw [hcj]
    replace b0 := b0.below b5
    replace b1 := b1.below b5
    replace ba := ba.below b5
    replace bb := bb.below b5
    replace bW := bW.trans (b5.mono bW.size)
    clear b5 x0 x1 x2 x3
    obtain ⟨y0, y1, y2, y3, j0, j1, j2, j3⟩ := bb.open4
    obtain ⟨V, hV, bb2, ba2, b02, b12, bV⟩ : ∃ V, (((w5.setCell ⟨qb, 0, none⟩ (.int .i64 p0)).setCell ⟨qb, 1, none⟩ (.int .i64 q0)).setCell ⟨qb, 2, none⟩ (.int .i64 r0)).setCell ⟨qb, 3, none⟩ (.int .i64 s0) = V ∧ At 25 V qb #[.int .i64 p0, .int .i64 q0, .int .i64 r0, .int .i64 s0] ∧ At 25 V qa #[.int .i64 x, .int .i64 y, .int .i64 z, .int .i64 u] ∧ At 25 V w.heap.size #[.int .i64 0, .int .i64 0, .int .i64 0, .int .i64 0] ∧ At 25 V (w.heap.size + 1) #[.int .i64 0, .int .i64 0, .int .i64 0, .int .i64 0] ∧ Below w.heap.size w V :=
      ⟨_, rfl, put4_at bb _ _ _ _, put4_other ba (by omega) _ _ _ _, put4_other b0 (by omega) _ _ _ _, put4_other b1 (by omega) _ _ _ _, below_put4 bW (by omega) _ _ _ _⟩
    clear ba b0 b1 bW
    have b0 := b02
    have b1 := b12
    have bW := bV
    clear b02 b12 bV
    go_wp2_with fail
    clear hV y0 y1 y2 y3 j0 j1 j2 j3 bb
    obtain ⟨u0, hu0, bb9⟩ : ∃ u0, V.drew = u0 ∧ Below V.heap.size V u0 := ⟨_, rfl, (Below.refl _ _).drew⟩
    replace b0 := b0.below bb9
    replace b1 := b1.below bb9
    replace ba2 := ba2.below bb9
    replace bb2 := bb2.below bb9
    replace bW := bW.trans (bb9.mono bW.size)
    clear bb9
    refine wp_region_held_drew (S := Ab8 qa qb #[.int .i64 x, .int .i64 y, .int .i64 z, .int .i64 u] #[.int .i64 p0, .int .i64 q0, .int .i64 r0, .int .i64 s0]) (by kernel_rfl) (by rw [hu0]; exact ab8_of ba2 bb2) (fun hHeld => ?_)
    rw [hu0] at hHeld ⊢
    clear hu0
    change wpAnyH _ _ _ _ _ 4 #[false, false, false, false] _ _
    refine wpAnyH_take (i := 0) (v := .agg #[.int .i64 x, .int .i64 y, .int .i64 z, .int .i64 u]) rfl (by kernel_rfl) (by kernel_rfl) (by kernel_rfl) (fun _ _ _ h => h) (Or.inl ⟨by kernel_rfl, ?_⟩) hHeld ?_
    · intro w' hSw; obtain ⟨⟨z0, z1, z2, z3⟩, h1, h2, h3, h4⟩ := ab8_out hSw; go_simp
    try simp only [Act.put, List.setIfInBounds_toArray, List.set_cons_zero, List.set_cons_succ, List.getElem_toArray, List.getElem_cons_zero]
    refine wpAnyH_take (i := 1) (v := .agg #[.int .i64 p0, .int .i64 q0, .int .i64 r0, .int .i64 s0]) rfl (by kernel_rfl) (by kernel_rfl) (by kernel_rfl) (fun _ _ _ h => h) (Or.inl ⟨by kernel_rfl, ?_⟩) hHeld ?_
    · intro w' hSw; obtain ⟨⟨z0, z1, z2, z3⟩, h1, h2, h3, h4⟩ := ab8_out hSw; go_simp
    try simp only [Act.put, List.setIfInBounds_toArray, List.set_cons_zero, List.set_cons_succ, List.getElem_toArray, List.getElem_cons_succ, List.getElem_cons_zero]
    obtain ⟨d0, d1, d2, d3, f0, f1, f2, f3⟩ := b0.open4
    refine wpAnyH_ready (rs := [2]) (by kernel_rfl) (by simp) ?_
    refine AllReadyH.cons rfl (fun KK hK' => ?_) AllReadyH.nil
    go_simp
    obtain ⟨u1, hu1, b0', b1', ba', bb', bW'⟩ : ∃ u1, (((u0.setCell ⟨w.heap.size, 0, none⟩ (.int .i64 x)).setCell ⟨w.heap.size, 1, none⟩ (.int .i64 y)).setCell ⟨w.heap.size, 2, none⟩ (.int .i64 z)).setCell ⟨w.heap.size, 3, none⟩ (.int .i64 u) = u1 ∧ At 25 u1 w.heap.size #[.int .i64 x, .int .i64 y, .int .i64 z, .int .i64 u] ∧ At 25 u1 (w.heap.size + 1) #[.int .i64 0, .int .i64 0, .int .i64 0, .int .i64 0] ∧ At 25 u1 qa #[.int .i64 x, .int .i64 y, .int .i64 z, .int .i64 u] ∧ At 25 u1 qb #[.int .i64 p0, .int .i64 q0, .int .i64 r0, .int .i64 s0] ∧ Below w.heap.size w u1 := ⟨_, rfl, put4_at b0 _ _ _ _, put4_other b1 (by omega) _ _ _ _, put4_other ba2 (by omega) _ _ _ _, put4_other bb2 (by omega) _ _ _ _, below_put4 bW (Nat.le_refl _) _ _ _ _⟩
    rw [hu1]
    clear hu1 b0 b1 ba2 bb2 bW d0 d1 d2 d3 f0 f1 f2 f3
    clear hHeld
    refine hK'.out _ _ (ab8_of ba' bb') (fun hHeld => ?_)
    clear hK' KK
    try simp only [List.setIfInBounds_toArray, List.set_cons_zero, List.set_cons_succ]
    obtain ⟨d0, d1, d2, d3, f0, f1, f2, f3⟩ := b1'.open4
    refine wpAnyH_ready (rs := [3]) (by kernel_rfl) (by simp) ?_
    refine AllReadyH.cons rfl (fun KK hK' => ?_) AllReadyH.nil
    go_simp
    obtain ⟨u2, hu2, b0, b1, ba, bb, bW⟩ : ∃ u2, (((u1.setCell ⟨(w.heap.size + 1), 0, none⟩ (.int .i64 p0)).setCell ⟨(w.heap.size + 1), 1, none⟩ (.int .i64 q0)).setCell ⟨(w.heap.size + 1), 2, none⟩ (.int .i64 r0)).setCell ⟨(w.heap.size + 1), 3, none⟩ (.int .i64 s0) = u2 ∧ At 25 u2 w.heap.size #[.int .i64 x, .int .i64 y, .int .i64 z, .int .i64 u] ∧ At 25 u2 (w.heap.size + 1) #[.int .i64 p0, .int .i64 q0, .int .i64 r0, .int .i64 s0] ∧ At 25 u2 qa #[.int .i64 x, .int .i64 y, .int .i64 z, .int .i64 u] ∧ At 25 u2 qb #[.int .i64 p0, .int .i64 q0, .int .i64 r0, .int .i64 s0] ∧ Below w.heap.size w u2 := ⟨_, rfl, put4_other b0' (by omega) _ _ _ _, put4_at b1' _ _ _ _, put4_other ba' (by omega) _ _ _ _, put4_other bb' (by omega) _ _ _ _, below_put4 bW' (by omega) _ _ _ _⟩
    rw [hu2]
    clear hu2 b0' b1' ba' bb' bW' d0 d1 d2 d3 f0 f1 f2 f3
    clear hHeld
    refine hK'.out _ _ (ab8_of ba bb) (fun hHeld => ?_)
    clear hK' KK
    try simp only [List.setIfInBounds_toArray, List.set_cons_zero, List.set_cons_succ]
    refine wpAnyH_done (by kernel_rfl) ?_ _
    clear hHeld
    go_wp2
    obtain ⟨m0, m1, m2, m3, -⟩ := b0.open4
    obtain ⟨n0, n1, n2, n3, -⟩ := b1.open4
    exact bodyPost_ret (v := .tuple #[cV x y z u, cV p0 q0 r0 s0]) (by simp [results, Tryd.results26, go_sem, m0, m1, m2, m3, n0, n1, n2, n3]) rfl ⟨_, _, _, _, _, _, _, _, rfl, bW⟩
theorem drawMul_any {w : World} {a : Option Addr} {len cap : Nat} (hr : Row w w.heap.size a len) :
    Calls Tryd.prog 7 #[.slice a len cap] w fun e w' => ∃ x y z u x' y' z' u' : Int, e = .returned (.tuple #[cV x y z u, cV x' y' z' u']) ∧ Below w.heap.size w w' := by
  obtain ⟨W, hW, b0, b1, bW, sW⟩ := boxed2 w 25 25 #[.int .i64 0, .int .i64 0, .int .i64 0, .int .i64 0] #[.int .i64 0, .int .i64 0, .int .i64 0, .int .i64 0]
  go_enter Tryd.func7, Tryd.ntmps7
  go_wp2_with fail
  refine (drawAdd_any (hr.below bW)).mono ?_
  rintro e w1 ⟨x, y, z, u, x', y', z', u', rfl, hb1⟩
  replace b0 := b0.below hb1
  replace b1 := b1.below hb1
  replace bW := bW.trans (hb1.mono bW.size)
  clear hb1 hW
  obtain ⟨d0, d1, d2, d3, f0, f1, f2, f3⟩ := b0.open4
  obtain ⟨g0, g1, g2, g3, k0, k1, k2, k3⟩ := b1.open4
  go_wp2
  obtain ⟨m0, m1, m2, m3, -⟩ := (put8_at b0 b1 (by omega) (.int .i64 x) (.int .i64 y) (.int .i64 z) (.int .i64 u) (.int .i64 x') (.int .i64 y') (.int .i64 z') (.int .i64 u')).1.open4
  obtain ⟨n0, n1, n2, n3, -⟩ := (put8_at b0 b1 (by omega) (.int .i64 x) (.int .i64 y) (.int .i64 z) (.int .i64 u) (.int .i64 x') (.int .i64 y') (.int .i64 z') (.int .i64 u')).2.open4
  exact bodyPost_ret (v := .tuple #[cV x y z u, cV x' y' z' u']) (by simp [results, Tryd.results7, go_sem, m0, m1, m2, m3, n0, n1, n2, n3]) rfl ⟨_, _, _, _, _, _, _, _, rfl, below_put4 (below_put4 bW (Nat.le_refl _) _ _ _ _) (by omega) _ _ _ _⟩
end Go.Proofs.YthcanmnbaemdbaaDoor
