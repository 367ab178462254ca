/-
  Nets with squares, slips and fields are drawn: walked.
-/
import Derived.Test.YtlmgdcoknpakcaaDf
namespace Go.Proofs.Ytlmgdcoknpakcaa
open Go.RowKit

set_option maxRecDepth 100000 in
set_option maxHeartbeats 3200000 in
theorem drawBurgers_any {w : World} {a : Option Addr} {len cap : Nat} (hr : Row w w.heap.size a len) :
    Calls Try.prog 56 #[.slice a len cap] w fun e w' => ∃ (v : Value) (x y : Int), e = .returned (.tuple #[v, .int .i64 x, .int .i64 y]) ∧ NetE w' w.heap.size v ∧ Below w.heap.size w w' := by
  obtain ⟨V, hV, a0, bV, -⟩ := boxed w 32 #[.int .i64 0, .int .i64 0, .slice none 0 0, .slice none 0 0]
  obtain ⟨r, hrr⟩ : ∃ r, w.heap.size = r := ⟨_, rfl⟩
  have lV : w.heap.size < V.heap.size := a0.lt
  go_enter Try.func56, Try.ntmps56
  go_wp2_with fail
  refine (new_any (hr.below bV)).mono ?_
  rintro e w1 ⟨rfl, b1, hcur⟩
  obtain ⟨p, hp⟩ : ∃ p, V.heap.size = p := ⟨_, rfl⟩
  replace a0 := a0.below b1
  have B1 : Below w.heap.size w w1 := bV.trans (b1.mono bV.size)
  rw [hp] at hcur lV ⊢
  rw [hrr] at a0 lV
  clear hV b1 bV hp
  have lp := hcur.lt
  go_wp2_with fail
  refine (drawAny_any (Dr.start hcur)).mono ?_
  rintro e w2 ⟨v, rfl, ⟨W, H, n1, f1, n2, f2, N, hn1, hn2⟩, hc⟩
  replace a0 := a0.kept hc.1 (by omega)
  obtain ⟨v1, v2, rfl, A1, A2, ap⟩ := N
  have R1 := Rw.of_arr (B := p + 1) A1 (by omega)
  have R2 := Rw.of_arr (B := p + 1) A2 (by omega)
  clear A1 A2 hcur
  obtain ⟨za1, zc1, hz1⟩ := R1.shape
  obtain ⟨za2, zc2, hz2⟩ := R2.shape
  subst hz1 hz2
  have lp2 := hc.2.lt
  obtain ⟨V3, hV3, aq, b3, -⟩ := boxed w2 32 #[.int .i64 W, .int .i64 H, .slice za1 n1 zc1, .slice za2 n2 zc2]
  go_wp2_with fail
  obtain ⟨q, hq⟩ : ∃ q, w2.heap.size = q := ⟨_, rfl⟩
  rw [hq] at aq lp2
  have D : Dq w1 p a len cap r q #[.int .i64 0, .int .i64 0, .slice none 0 0, .slice none 0 0] W H (.slice za1 n1 zc1) (.slice za2 n2 zc2) n1 f1 n2 f2 V3 := ⟨hc.below b3, a0.below b3, aq, R1.below b3, R2.below b3, ap, lV, lp2⟩
  clear hV3 a0 aq b3 hc R1 R2 ap
  refine (from_dq D 0 3 (by decide) (by decide) (by decide) (by decide)).mono ?_
  rintro e w4 ⟨x, rfl, x0, x1, k9⟩
  replace D := k9
  clear k9
  go_wp2_with fail
  refine (from_dq D 0 3 (by decide) (by decide) (by decide) (by decide)).mono ?_
  rintro e w5 ⟨y, rfl, y0, y1, k9⟩
  replace D := k9
  clear k9
  go_wp2_with fail
  refine (once_dq D 12 (by decide) (by decide)).mono ?_
  rintro e w8 ⟨bo, rfl, k9⟩
  replace D := k9
  clear k9
  go_upto_if 18 with (fail)
  go_cut [7] from 18 to 23 (fun s9 wc => (∃ X : Int, s9 = .int .i64 X) ∧ Dq w1 p a len cap r q #[.int .i64 0, .int .i64 0, .slice none 0 0, .slice none 0 0] W H (.slice za1 n1 zc1) (.slice za2 n2 zc2) n1 f1 n2 f2 wc)
  case first =>
    rcases bo with _ | _
    · go_wp2_with fail
      go_meet
      case rel => exact ⟨⟨_, rfl⟩, D⟩
    · go_wp2_with fail
      obtain ⟨V9, hV9, at9, b9, -⟩ := boxed w8 2 #[.int .i64 (-1), .int .i64 4611686018427387904]
      rw [hV9]
      have hpt : p < w8.heap.size := D.d.2.lt
      replace D := D.below b9
      obtain ⟨tb, htb⟩ : ∃ s, w8.heap.size = s := ⟨_, rfl⟩
      rw [htb] at at9 hpt ⊢
      clear b9 hV9 htb
      refine (below_dr (Dr.start D.d.2) 2 (by decide) (by decide)).mono ?_
      rintro e w9 ⟨i9, rfl, i0, i1, k9⟩
      obtain ⟨m, rfl⟩ : ∃ m : Nat, i9 = m := ⟨i9.toNat, by omega⟩
      replace at9 := at9.kept k9.1 (by omega)
      replace D := D.kept k9
      obtain ⟨X9, hX9⟩ := tabI [-1, 4611686018427387904] (m := m) (by simp; omega)
      have cV := at9.cell m hX9
      go_wp2_with fail
      go_meet
      case rel => exact ⟨⟨_, rfl⟩, D⟩
  case rest =>
    clear D
    obtain ⟨⟨X, rfl⟩, D⟩ := hcut
    have lq := D.aq.lt
    obtain ⟨c0, c1, c2, c3, -⟩ := D.aq.open4
    obtain ⟨d0, d1, d2, d3, g0, g1, g2, g3⟩ := D.ar.open4
    have hF := D.fin B1 hrr hn1 hn2
    go_wp2
    obtain ⟨A8, N8, B8⟩ := hF
    obtain ⟨r0, r1, r2, r3, -⟩ := A8.open4
    exact bodyPost_ret (v := .tuple #[nV W H (.slice za1 n1 zc1) (.slice za2 n2 zc2), .int .i64 X, .int .i64 y]) (by simp [results, Try.results56, go_sem, r0, r1, r2, r3]) rfl ⟨_, _, _, rfl, N8, B8⟩
theorem Rw.keptNe {w w' : World} {B p : Nat} {v : Value} {n : Nat} {f : Nat → Int} (h : Rw w B v n f) (hk : Kept p w w') (hp : v.ownBlock ≠ some p) : Rw w' B v n f := by
  rcases h with h | ⟨g, c, rfl, h1, h2, cur, h3, h4⟩
  · exact .inl h
  · exact .inr ⟨g, c, rfl, h1, h2, cur, (hk.block g h3.lt (fun e => hp (by rw [e]; rfl))).trans h3, h4⟩
theorem netE_put {w0 w : World} {r : Nat} {u0 u1 u2 u3 : Value} {W H : Int} {v1 v2 : Value} {n1 n2 : Nat} {f1 f2 : Nat → Int} (hr : w0.heap.size = r) (B : Below w0.heap.size w0 w) (A0 : At 32 w r #[u0, u1, u2, u3]) (r1 : Rw w (r + 1) v1 n1 f1) (r2 : Rw w (r + 1) v2 n2 f2) (ap : Apart v1 v2) (hn1 : n1 ≤ 100) (hn2 : n2 ≤ 100) :
    At 32 (put4 w r (.int .i64 W) (.int .i64 H) v1 v2) r #[.int .i64 W, .int .i64 H, v1, v2] ∧ NetE (put4 w r (.int .i64 W) (.int .i64 H) v1 v2) w0.heap.size (nV W H v1 v2) ∧ Below w0.heap.size w0 (put4 w r (.int .i64 W) (.int .i64 H) v1 v2) := by
  have e1 : v1.ownBlock ≠ some r := fun e => by have := (r1.lt e).1; omega
  have e2 : v2.ownBlock ≠ some r := fun e => by have := (r2.lt e).1; omega
  refine ⟨put4_at A0 _ _ _ _, ⟨W, H, n1, f1, n2, f2, ⟨_, _, rfl, ?_, ?_, ap⟩, hn1, hn2⟩, below_put4 B (by omega) _ _ _ _⟩
  · exact ((((r1.setOther e1 _).setOther e1 _).setOther e1 _).setOther e1 _).arr.wide (by omega) (Nat.le_refl _)
  · exact ((((r2.setOther e2 _).setOther e2 _).setOther e2 _).setOther e2 _).arr.wide (by omega) (Nat.le_refl _)
set_option maxRecDepth 100000 in
set_option maxHeartbeats 3200000 in
theorem drawSlip_any {w : World} {a : Option Addr} {len cap : Nat} (hr : Row w w.heap.size a len) :
    Calls Try.prog 21 #[.slice a len cap] w fun e w' => ∃ (v : Value) (x y b : Int), e = .returned (.tuple #[v, .int .i64 x, .int .i64 y, .int .i64 b]) ∧ NetE w' w.heap.size v ∧ Below w.heap.size w w' := by
  obtain ⟨V, hV, a0, bV, -⟩ := boxed w 32 #[.int .i64 0, .int .i64 0, .slice none 0 0, .slice none 0 0]
  obtain ⟨r, hrr⟩ : ∃ r, w.heap.size = r := ⟨_, rfl⟩
  have lV : w.heap.size < V.heap.size := a0.lt
  go_enter Try.func21, Try.ntmps21
  go_wp2_with fail
  refine (drawBurgers_any (hr.below bV)).mono ?_
  rintro e w1 ⟨v, x, y, rfl, ⟨W, H, n1, f1, n2, f2, N, hn1, hn2⟩, b1⟩
  replace a0 := a0.below b1
  have B1 : Below w.heap.size w w1 := bV.trans (b1.mono bV.size)
  obtain ⟨v1, v2, rfl, A1, A2, ap⟩ := N
  have R1 := Rw.of_arr (B := w.heap.size + 1) A1 (by omega)
  have R2 := Rw.of_arr (B := w.heap.size + 1) A2 (by omega)
  clear A1 A2 b1 bV
  obtain ⟨za1, zc1, hz1⟩ := R1.shape
  obtain ⟨za2, zc2, hz2⟩ := R2.shape
  subst hz1 hz2
  obtain ⟨V3, hV3, aq, b3, -⟩ := boxed w1 32 #[.int .i64 W, .int .i64 H, .slice za1 n1 zc1, .slice za2 n2 zc2]
  go_wp2_with fail
  obtain ⟨q, hq⟩ : ∃ q, w1.heap.size = q := ⟨_, rfl⟩
  rw [hq] at aq
  rw [hrr] at a0 R1 R2
  replace a0 := a0.below b3
  replace R1 := R1.below b3
  replace R2 := R2.below b3
  replace B1 := B1.trans (b3.mono B1.size)
  clear hV hV3 b3
  refine (new_any (hr.below B1)).mono ?_
  rintro e w2 ⟨rfl, b2, hcur⟩
  have e1 : (Value.slice za1 n1 zc1).ownBlock ≠ some V3.heap.size := fun e => Nat.lt_irrefl _ (R1.lt e).2
  have e2 : (Value.slice za2 n2 zc2).ownBlock ≠ some V3.heap.size := fun e => Nat.lt_irrefl _ (R2.lt e).2
  have lr3 := a0.lt
  have lq3 := aq.lt
  obtain ⟨p, hp⟩ : ∃ p, V3.heap.size = p := ⟨_, rfl⟩
  replace a0 := a0.below b2
  replace aq := aq.below b2
  replace R1 := R1.below b2
  replace R2 := R2.below b2
  replace B1 := B1.trans (b2.mono B1.size)
  rw [hp] at hcur e1 e2 lr3 lq3 ⊢
  clear b2 hp
  have hc := Dr.start hcur
  clear hcur
  go_wp2_with fail
  refine (from_dr hc (-4) 4 (by decide) (by decide) (by decide) (by decide)).mono ?_
  clear hc
  rintro e w4 ⟨by0, rfl, -, -, hc⟩
  go_wp2_with fail
  refine (once_dr hc 12 (by decide) (by decide)).mono ?_
  clear hc
  rintro e w8 ⟨bo, rfl, hc⟩
  go_upto_if 22 with (fail)
  go_cut [10] from 22 to 27 (fun s9 wc => (∃ X : Int, s9 = .int .i64 X) ∧ Dr w2 p a len cap wc)
  case first =>
    rcases bo with _ | _
    · go_wp2_with fail
      go_meet
      case rel => exact ⟨⟨_, rfl⟩, hc⟩
    · go_wp2_with fail
      obtain ⟨V9, hV9, at9, b9, -⟩ := boxed w8 2 #[.int .i64 2000000, .int .i64 2000001, .int .i64 4611686018427387904, .int .i64 (-1000000)]
      rw [hV9]
      have hpt : p < w8.heap.size := hc.2.lt
      replace hc := hc.below b9
      obtain ⟨tb, htb⟩ : ∃ s, w8.heap.size = s := ⟨_, rfl⟩
      rw [htb] at at9 hpt ⊢
      clear b9 hV9 htb
      refine (below_dr (Dr.start hc.2) 4 (by decide) (by decide)).mono ?_
      rintro e w9 ⟨i9, rfl, i0, i1, k9⟩
      obtain ⟨m, rfl⟩ : ∃ m : Nat, i9 = m := ⟨i9.toNat, by omega⟩
      replace at9 := at9.kept k9.1 (by omega)
      replace hc := k9.from hc.1
      obtain ⟨X9, hX9⟩ := tabI [2000000, 2000001, 4611686018427387904, -1000000] (m := m) (by simp; omega)
      have cV := at9.cell m hX9
      go_wp2_with fail
      go_meet
      case rel => exact ⟨⟨_, rfl⟩, hc⟩
  case rest =>
    clear hc
    obtain ⟨⟨X, rfl⟩, hc⟩ := hcut
    have k := hc.1
    have A0 := a0.kept k (by omega)
    have AQ := aq.kept k (by omega)
    have r1 := R1.keptNe k e1
    have r2 := R2.keptNe k e2
    have B := B1.trans ⟨k.os, k.tape, k.output, k.size, fun i hi => k.block i (by have := B1.size; omega) (by omega)⟩
    have hF := netE_put (W := W) (H := H) hrr B A0 r1 r2 ap hn1 hn2
    have lq := AQ.lt
    obtain ⟨c0, c1, c2, c3, -⟩ := AQ.open4
    obtain ⟨d0, d1, d2, d3, g0, g1, g2, g3⟩ := A0.open4
    clear r1 r2 B k A0 AQ
    go_wp2
    obtain ⟨A8, N8, B8⟩ := hF
    obtain ⟨r0, r1, r2, r3, -⟩ := A8.open4
    exact bodyPost_ret (v := .tuple #[nV W H (.slice za1 n1 zc1) (.slice za2 n2 zc2), .int .i64 x, .int .i64 y, .int .i64 X]) (by simp [results, Try.results21, go_sem, r0, r1, r2, r3]) rfl ⟨_, _, _, _, rfl, N8, B8⟩
end Go.Proofs.Ytlmgdcoknpakcaa
