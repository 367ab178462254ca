/-
  Nets and more are drawn: walked.
-/
import Derived.Test.YtlmgdcoknpakcaaDe
import Derived.Test.YtlmgdcoknpakcaaNl
namespace Go.Proofs.Ytlmgdcoknpakcaa
open Go.RowKit

theorem Row.below {w W : World} {a : Option Addr} {len : Nat} (h : Row w w.heap.size a len) (hb : Below w.heap.size w W) : Row W W.heap.size a len := by
  refine ⟨h.1, h.2.imp id ?_⟩
  rintro ⟨b, off, e, hlt, hc⟩
  refine ⟨b, off, e, Nat.lt_of_lt_of_le hlt hb.size, fun j hj => ?_⟩
  obtain ⟨n, n0, n1, n2⟩ := hc j hj
  exact ⟨n, n0, n1, (hb.cell (p := ⟨b, off + j, none⟩) hlt).trans n2⟩
/-- The cursor, the answer's box, a drawn net's box and lists that are only read. -/
structure Dq (w1 : World) (p : Nat) (a : Option Addr) (len cap r q : Nat) (us : Array Value) (W H : Int) (v1 v2 : Value) (n1 : Nat) (f1 : Nat → Int) (n2 : Nat) (f2 : Nat → Int) (w : World) : Prop where
  d : Dr w1 p a len cap w
  ar : At 32 w r us
  aq : At 32 w q #[.int .i64 W, .int .i64 H, v1, v2]
  o1 : Rw w (p + 1) v1 n1 f1
  o2 : Rw w (p + 1) v2 n2 f2
  ap : Apart v1 v2
  x1 : r < p
  x2 : p < q
theorem Dq.below {w1 w w' : World} {p : Nat} {a : Option Addr} {len cap r q : Nat} {us : Array Value} {W H : Int} {v1 v2 : Value} {n1 n2 : Nat} {f1 f2 : Nat → Int} (h : Dq w1 p a len cap r q us W H v1 v2 n1 f1 n2 f2 w) (hb : Below w.heap.size w w') : Dq w1 p a len cap r q us W H v1 v2 n1 f1 n2 f2 w' := ⟨h.d.below hb, h.ar.below hb, h.aq.below hb, h.o1.below hb, h.o2.below hb, h.ap, h.x1, h.x2⟩
theorem Dq.kept {w1 w w' : World} {p : Nat} {a : Option Addr} {len cap r q : Nat} {us : Array Value} {W H : Int} {v1 v2 : Value} {n1 n2 : Nat} {f1 f2 : Nat → Int} (h : Dq w1 p a len cap r q us W H v1 v2 n1 f1 n2 f2 w) (hk : Dr w p a len cap w') : Dq w1 p a len cap r q us W H v1 v2 n1 f1 n2 f2 w' := by
  have x1 := h.x1
  have x2 := h.x2
  exact ⟨hk.from h.d.1, h.ar.kept hk.1 (by omega), h.aq.kept hk.1 (by omega), h.o1.kept hk.1 (by omega), h.o2.kept hk.1 (by omega), h.ap, h.x1, h.x2⟩
theorem below_dq {w1 w : World} {p : Nat} {a : Option Addr} {len cap r q : Nat} {us : Array Value} {W H : Int} {v1 v2 : Value} {n1 n2 : Nat} {f1 f2 : Nat → Int} (h : Dq w1 p a len cap r q us W H v1 v2 n1 f1 n2 f2 w) (n : Int) (hn0 : 0 < n) (hn : n ≤ 1073741824) :
    Calls Try.prog 38 #[.pointer (some ⟨p, 0, none⟩), .int .i64 n] w fun e w' => ∃ x : Int, e = .returned (.int .i64 x) ∧ 0 ≤ x ∧ x < n ∧ Dq w1 p a len cap r q us W H v1 v2 n1 f1 n2 f2 w' :=
  (below_dr (Dr.start h.d.2) n hn0 hn).mono fun _ _ ⟨x, e, x0, x1, k⟩ => ⟨x, e, x0, x1, h.kept k⟩
theorem from_dq {w1 w : World} {p : Nat} {a : Option Addr} {len cap r q : Nat} {us : Array Value} {W H : Int} {v1 v2 : Value} {n1 n2 : Nat} {f1 f2 : Nat → Int} (h : Dq w1 p a len cap r q us W H v1 v2 n1 f1 n2 f2 w) (lo hi : Int) (h0 : lo ≤ hi) (h1 : -1000000000 ≤ lo) (h2 : hi ≤ 1000000000) (h3 : hi - lo < 1073741824) :
    Calls Try.prog 57 #[.pointer (some ⟨p, 0, none⟩), .int .i64 lo, .int .i64 hi] w fun e w' => ∃ x : Int, e = .returned (.int .i64 x) ∧ lo ≤ x ∧ x ≤ hi ∧ Dq w1 p a len cap r q us W H v1 v2 n1 f1 n2 f2 w' :=
  (from_dr (Dr.start h.d.2) lo hi h0 h1 h2 h3).mono fun _ _ ⟨x, e, x0, x1, k⟩ => ⟨x, e, x0, x1, h.kept k⟩
theorem once_dq {w1 w : World} {p : Nat} {a : Option Addr} {len cap r q : Nat} {us : Array Value} {W H : Int} {v1 v2 : Value} {n1 n2 : Nat} {f1 f2 : Nat → Int} (h : Dq w1 p a len cap r q us W H v1 v2 n1 f1 n2 f2 w) (n : Int) (hn0 : 0 < n) (hn : n ≤ 1073741824) :
    Calls Try.prog 39 #[.pointer (some ⟨p, 0, none⟩), .int .i64 n] w fun e w' => ∃ b : Bool, e = .returned (.bool b) ∧ Dq w1 p a len cap r q us W H v1 v2 n1 f1 n2 f2 w' :=
  (once_dr (Dr.start h.d.2) n hn0 hn).mono fun _ _ ⟨x, e, k⟩ => ⟨x, e, h.kept k⟩
/-- The net is stored into the answer's box. -/
theorem Dq.fin {w0 w1 w : World} {p : Nat} {a : Option Addr} {len cap r q : Nat} {u0 u1 u2 u3 : Value} {W H : Int} {v1 v2 : Value} {n1 n2 : Nat} {f1 f2 : Nat → Int} (h : Dq w1 p a len cap r q #[u0, u1, u2, u3] W H v1 v2 n1 f1 n2 f2 w) (hw : Below w0.heap.size w0 w1) (hr : w0.heap.size = r) (hn1 : n1 ≤ 100) (hn2 : n2 ≤ 100) :
    At 32 (put4 w r (.int .i64 W) (.int .i64 H) v1 v2) r #[.int .i64 W, .int .i64 H, v1, v2] ∧ NetE (put4 w r (.int .i64 W) (.int .i64 H) v1 v2) w0.heap.size (nV W H v1 v2) ∧ Below w0.heap.size w0 (put4 w r (.int .i64 W) (.int .i64 H) v1 v2) := by
  have x1 := h.x1
  have k := h.d.1
  have B : Below w0.heap.size w0 w := hw.trans ⟨k.os, k.tape, k.output, k.size, fun i hi => k.block i (by have := hw.size; omega) (by omega)⟩
  have e1 : v1.ownBlock ≠ some r := fun e => by have := (h.o1.lt e).1; omega
  have e2 : v2.ownBlock ≠ some r := fun e => by have := (h.o2.lt e).1; omega
  refine ⟨put4_at h.ar _ _ _ _, ⟨W, H, n1, f1, n2, f2, ⟨_, _, rfl, ?_, ?_, h.ap⟩, hn1, hn2⟩, below_put4 B (by omega) _ _ _ _⟩
  · exact ((((h.o1.setOther e1 _).setOther e1 _).setOther e1 _).setOther e1 _).arr.wide (by omega) (Nat.le_refl _)
  · exact ((((h.o2.setOther e2 _).setOther e2 _).setOther e2 _).setOther e2 _).arr.wide (by omega) (Nat.le_refl _)
set_option maxRecDepth 100000 in
set_option maxHeartbeats 3200000 in
theorem drawAround_any {w : World} {a : Option Addr} {len cap : Nat} (hr : Row w w.heap.size a len) :
    Calls Try.prog 13 #[.slice a len cap] w fun e w' => ∃ (v : Value) (x y x' y' : Int), e = .returned (.tuple #[v, .int .i64 x, .int .i64 y, .int .i64 x', .int .i64 y']) ∧ NetE w' w.heap.size v ∧ Below w.heap.size w w' := by
  obtain ⟨V, hV, a0, bV, -⟩ := boxed w 32 #[.int .i64 0, .int .i64 0, .slice none 0 0, .slice none 0 0]
  obtain ⟨r, hrr⟩ : ∃ r, w.heap.size = r := ⟨_, rfl⟩
  have lV : w.heap.size < V.heap.size := a0.lt
  go_enter Try.func13, Try.ntmps13
  go_wp2_with fail
  refine (new_any (hr.below bV)).mono ?_
  rintro e w1 ⟨rfl, b1, hcur⟩
  obtain ⟨p, hp⟩ : ∃ p, V.heap.size = p := ⟨_, rfl⟩
  replace a0 := a0.below b1
  have B1 : Below w.heap.size w w1 := bV.trans (b1.mono bV.size)
  rw [hp] at hcur lV ⊢
  rw [hrr] at a0 lV
  clear hV b1 bV hp
  have lp := hcur.lt
  go_wp2_with fail
  refine (drawAny_any (Dr.start hcur)).mono ?_
  rintro e w2 ⟨v, rfl, ⟨W, H, n1, f1, n2, f2, N, hn1, hn2⟩, hc⟩
  replace a0 := a0.kept hc.1 (by omega)
  obtain ⟨v1, v2, rfl, A1, A2, ap⟩ := N
  have R1 := Rw.of_arr (B := p + 1) A1 (by omega)
  have R2 := Rw.of_arr (B := p + 1) A2 (by omega)
  clear A1 A2 hcur
  obtain ⟨za1, zc1, hz1⟩ := R1.shape
  obtain ⟨za2, zc2, hz2⟩ := R2.shape
  subst hz1 hz2
  have lp2 := hc.2.lt
  obtain ⟨V3, hV3, aq, b3, -⟩ := boxed w2 32 #[.int .i64 W, .int .i64 H, .slice za1 n1 zc1, .slice za2 n2 zc2]
  go_wp2_with fail
  obtain ⟨q, hq⟩ : ∃ q, w2.heap.size = q := ⟨_, rfl⟩
  rw [hq] at aq lp2
  have D : Dq w1 p a len cap r q #[.int .i64 0, .int .i64 0, .slice none 0 0, .slice none 0 0] W H (.slice za1 n1 zc1) (.slice za2 n2 zc2) n1 f1 n2 f2 V3 := ⟨hc.below b3, a0.below b3, aq, R1.below b3, R2.below b3, ap, lV, lp2⟩
  clear hV3 a0 aq b3 hc R1 R2 ap
  refine (below_dq D 3 (by decide) (by decide)).mono ?_
  rintro e w4 ⟨x, rfl, x0, x1, k9⟩
  replace D := k9
  clear k9
  go_wp2_with fail
  refine (below_dq D 3 (by decide) (by decide)).mono ?_
  rintro e w5 ⟨y, rfl, y0, y1, k9⟩
  replace D := k9
  clear k9
  go_wp2_with fail
  refine (below_dq D 3 (by decide) (by decide)).mono ?_
  rintro e w6 ⟨s, rfl, s0, s1, k9⟩
  replace D := k9
  clear k9
  go_wp2_with fail
  refine (below_dq D 3 (by decide) (by decide)).mono ?_
  rintro e w7 ⟨z, rfl, z0, z1, k9⟩
  replace D := k9
  clear k9
  go_wp2_with fail
  refine (once_dq D 12 (by decide) (by decide)).mono ?_
  rintro e w8 ⟨bo, rfl, k9⟩
  replace D := k9
  clear k9
  go_upto_if 32 with (fail)
  go_cut [11] from 32 to 40 (fun s9 wc => (∃ X : Int, s9 = .int .i64 X) ∧ Dq w1 p a len cap r q #[.int .i64 0, .int .i64 0, .slice none 0 0, .slice none 0 0] W H (.slice za1 n1 zc1) (.slice za2 n2 zc2) n1 f1 n2 f2 wc)
  case first =>
    rcases bo with _ | _
    · go_wp2_with fail
      go_meet
      case rel => exact ⟨⟨_, rfl⟩, D⟩
    · go_wp2_with fail
      obtain ⟨V9, hV9, at9, b9, -⟩ := boxed w8 2 #[.int .i64 x, .int .i64 (-1), .int .i64 4611686018427387904]
      rw [hV9]
      have hpt : p < w8.heap.size := D.d.2.lt
      replace D := D.below b9
      obtain ⟨tb, htb⟩ : ∃ s, w8.heap.size = s := ⟨_, rfl⟩
      rw [htb] at at9 hpt ⊢
      clear b9 hV9 htb
      refine (below_dr (Dr.start D.d.2) 3 (by decide) (by decide)).mono ?_
      rintro e w9 ⟨i9, rfl, i0, i1, k9⟩
      obtain ⟨m, rfl⟩ : ∃ m : Nat, i9 = m := ⟨i9.toNat, by omega⟩
      replace at9 := at9.kept k9.1 (by omega)
      replace D := D.kept k9
      obtain ⟨X9, hX9⟩ := tabI [x, -1, 4611686018427387904] (m := m) (by simp; omega)
      have cV := at9.cell m hX9
      go_wp2_with fail
      go_meet
      case rel => exact ⟨⟨_, rfl⟩, D⟩
  case rest =>
    clear D
    obtain ⟨⟨X, rfl⟩, D⟩ := hcut
    have lq := D.aq.lt
    obtain ⟨c0, c1, c2, c3, -⟩ := D.aq.open4
    obtain ⟨d0, d1, d2, d3, g0, g1, g2, g3⟩ := D.ar.open4
    have hF := D.fin B1 hrr hn1 hn2
    go_wp2
    obtain ⟨A8, N8, B8⟩ := hF
    obtain ⟨r0, r1, r2, r3, -⟩ := A8.open4
    exact bodyPost_ret (v := .tuple #[nV W H (.slice za1 n1 zc1) (.slice za2 n2 zc2), .int .i64 x, .int .i64 y, .int .i64 X, .int .i64 (y + 1 + z)]) (by simp [results, Try.results13, go_sem, r0, r1, r2, r3]) rfl ⟨_, _, _, _, _, rfl, N8, B8⟩
end Go.Proofs.Ytlmgdcoknpakcaa
