/-
  Masked, by the program, walked.
-/
import Derived.Test.YtlofbgkefalpoaaVd
namespace Go.Proofs.Ytlofbgkefalpoaa
open Go.RowKit

/-- The pixels with 0 at the first k numbers. -/
def mk0 (f d : Nat → Int) : Nat → Nat → Int
  | 0 => f
  | k + 1 => fun i => if d k = i then 0 else mk0 f d k i
def mOk (W H : Int) (len : Nat) (f : Nat → Int) (dl : Nat) (d : Nat → Int) : Prop := frOk W H len f ∧ dl ≤ 4096 ∧ ∀ j, j < dl → 0 ≤ d j ∧ d j < len
/-- What Masked tells. -/
def Msk (W H : Int) (len : Nat) (f : Nat → Int) (dl : Nat) (d : Nat → Int) (b : Bool) (W' H' : Int) (len' : Nat) (f' : Nat → Int) : Prop :=
  (mOk W H len f dl d ∧ b = true ∧ W' = W ∧ H' = H ∧ len' = len ∧ f' = mk0 f d dl) ∨ (¬ mOk W H len f dl d ∧ b = false ∧ W' = 0 ∧ H' = 0 ∧ len' = 0 ∧ f' = fun _ => 0)
theorem Msk.same {W H : Int} {len : Nat} {f : Nat → Int} {dl : Nat} {d : Nat → Int} {b b2 : Bool} {W' H' W2 H2 : Int} {len' l2 : Nat} {f' f2 : Nat → Int} (h : Msk W H len f dl d b W' H' len' f') (k : Msk W H len f dl d b2 W2 H2 l2 f2) : b2 = b ∧ W2 = W' ∧ H2 = H' ∧ l2 = len' ∧ f2 = f' := by
  rcases h with ⟨h0, rfl, rfl, rfl, rfl, rfl⟩ | ⟨h0, rfl, rfl, rfl, rfl, rfl⟩ <;> rcases k with ⟨k0, rfl, rfl, rfl, rfl, rfl⟩ | ⟨k0, rfl, rfl, rfl, rfl, rfl⟩
  · exact ⟨rfl, rfl, rfl, rfl, rfl⟩
  · exact absurd h0 k0
  · exact absurd k0 h0
  · exact ⟨rfl, rfl, rfl, rfl, rfl⟩
theorem Msk.le {W H : Int} {len : Nat} {f : Nat → Int} {dl : Nat} {d : Nat → Int} {b : Bool} {W' H' : Int} {len' : Nat} {f' : Nat → Int} (h : Msk W H len f dl d b W' H' len' f') : len' ≤ len := by
  rcases h with ⟨h0, rfl, rfl, rfl, rfl, rfl⟩ | ⟨h0, rfl, rfl, rfl, rfl, rfl⟩ <;> omega
theorem mk0_set {f d : Nat → Int} {k q n : Nat} {w : World} {g : Nat} (hq : d k = (q : Int)) (hqn : q < n) (h : Own w g n (mk0 f d k)) : Own (w.setCell ⟨g, q, none⟩ (.int .i64 0)) g n (mk0 f d (k + 1)) := by
  obtain ⟨cur, h1, h2, h3⟩ := h
  refine ⟨_, h1.set q _, by simpa using h2, fun i hi => ?_⟩
  by_cases e : i = q
  · subst e
    have l0 : i < cur.size := by omega
    simp [l0, mk0, hq]
  · have e1 : ¬ d k = (i : Int) := by omega
    have := h3 i hi
    rw [Array.getElem?_setIfInBounds, if_neg (by omega)]
    simp only [mk0, if_neg e1]
    exact this
theorem Own.open {w : World} {g n q : Nat} {f : Nat → Int} (h : Own w g n f) (hq : q < n) : w.cell? ⟨g, q, none⟩ = some (.int .i64 (f q)) ∧ w.frozen? ⟨g, q, none⟩ = false := by
  obtain ⟨cur, h1, h2, h3⟩ := h
  exact ⟨h1.cell q (h3 q hq), h1.frozen q⟩
/-- The zero frame. -/
theorem zero_fr (w : World) (lo hi : Nat) : FrAt w lo hi (fV 0 0 (.slice none 0 0)) 0 0 0 (fun _ => 0) := ⟨_, rfl, .inl ⟨rfl, rfl⟩⟩
/-- What a call of Masked ends in. -/
def MskP (W H : Int) (len : Nat) (f : Nat → Int) (dl : Nat) (d : Nat → Int) (w : World) (e : Ending) (w' : World) : Prop := ∃ m b W' H' len' f', e = .returned (.tuple #[m, .bool b]) ∧ Msk W H len f dl d b W' H' len' f' ∧ FrAt w' w.heap.size w'.heap.size m W' H' len' f' ∧ Below w.heap.size w w'
set_option maxHeartbeats 4000000 in
theorem implMasked_any {w : World} {a a' : Option Addr} {len c dl dc : Nat} {f d : Nat → Int} (W H : Int) (hs : Src w a len f) (hd : Src w a' dl d) (hlen : len ≤ 1048576) (hdl : dl ≤ 1048576) :
    Calls Try.prog 27 #[fV W H (.slice a len c), .slice a' dl dc] w (MskP W H len f dl d w) := by
  have hdl' : (dl : Int) ≤ 1048576 := by omega
  obtain ⟨V, hV, b0, bV, -⟩ := boxed w 28 #[.int .i64 W, .int .i64 H, .slice a len c]
  obtain ⟨V2, hV2, b2, bV2, -⟩ := boxed V 28 #[.int .i64 0, .int .i64 0, .slice none 0 0]
  have s0 := b0.lt
  have s2 := b2.lt
  replace b0 := b0.below bV2
  replace bV := bV.trans (bV2.mono bV.size)
  replace hs := hs.below bV
  clear bV2
  obtain ⟨c0, c1, c2, -⟩ := b0.open3
  go_enter Try.func27, Try.ntmps27
  go_wp2_with fail
  refine (implFrameOk_any W H hs hlen).mono ?_
  rintro e w3 ⟨rfl, b3⟩
  replace b0 := b0.below b3
  replace b2 := b2.below b3
  replace hs := hs.below b3
  replace bV := bV.trans (b3.mono bV.size)
  have s3 := b3.size
  clear c0 c1 c2 b3 hV hV2
  rcases hfr : frB W H len f with _ | _
  · have hno := frB_not hfr
    obtain ⟨d0, d1, d2, f0, f1, f2⟩ := b2.open3
    go_wp2
    have a7 := put3_at b2 (.int .i64 0) (.int .i64 0) (.slice none 0 0)
    obtain ⟨p0, p1, p2, -⟩ := a7.open3
    refine bodyPost_ret (v := .tuple #[fV 0 0 (.slice none 0 0), .bool false]) (by simp [results, Try.results27, go_sem, p0, p1, p2]) rfl ?_
    exact ⟨_, _, _, _, _, _, rfl, .inr ⟨fun h => hno h.1, rfl, rfl, rfl, rfl, rfl⟩, zero_fr _ _ _, below_put3 bV (by omega) _ _ _⟩
  · have hok := frB_of hfr
    by_cases hm : 4096 < dl
    · have hm' : (4096 : Int) < (dl : Int) := by omega
      obtain ⟨d0, d1, d2, f0, f1, f2⟩ := b2.open3
      go_wp2
      have a7 := put3_at b2 (.int .i64 0) (.int .i64 0) (.slice none 0 0)
      obtain ⟨p0, p1, p2, -⟩ := a7.open3
      refine bodyPost_ret (v := .tuple #[fV 0 0 (.slice none 0 0), .bool false]) (by simp [results, Try.results27, go_sem, p0, p1, p2]) rfl ?_
      exact ⟨_, _, _, _, _, _, rfl, .inr ⟨fun h => by have := h.2.1; omega, rfl, rfl, rfl, rfl, rfl⟩, zero_fr _ _ _, below_put3 bV (by omega) _ _ _⟩
    · have hm' : ¬ (4096 : Int) < (dl : Int) := by omega
      obtain ⟨hW, hH, hl, -⟩ := hok
      have p1 := mul_in (a := W) (b := H) (x := 64) (y := 64) (by omega) (by omega)
      obtain ⟨c0, c1, c2, -⟩ := b0.open3
      go_wp2_with fail
      refine (detectorOf_any W H a len c _).mono ?_
      rintro e w4 ⟨rfl, b4⟩
      replace b2 := b2.below b4
      replace hs := hs.below b4
      replace bV := bV.trans (b4.mono bV.size)
      have s4 := b4.size
      clear c0 c1 c2 b4 b0
      go_wp2_with fail
      refine (copied_any W H hW hH hl hs).mono ?_
      rintro e w5 ⟨g, rfl, hg, o5, b5⟩
      replace b2 := b2.below b5
      replace bV := bV.trans (b5.mono bV.size)
      have s5 := b5.size
      clear b5 hs
      obtain ⟨V6, hV6, x0, bV6, -⟩ := boxed w5 62 #[.int .i64 W, .int .i64 H, .slice (some ⟨g, 0, none⟩) len len]
      have s6 := o5.lt
      have s7 := x0.lt
      replace b2 := b2.below bV6
      replace o5 := o5.below bV6
      replace bV := bV.trans (bV6.mono bV.size)
      go_wp2_with fail
      clear hV6 bV6
      have r0 : Below w.heap.size w V6 ∧ At 28 V6 V.heap.size #[.int .i64 0, .int .i64 0, .slice none 0 0] ∧ At 62 V6 w5.heap.size #[.int .i64 W, .int .i64 H, .slice (some ⟨g, 0, none⟩) len len] ∧ Own V6 g len (mk0 f d 0) ∧ w5.heap.size ≤ V6.heap.size := ⟨bV, b2, x0, o5, by omega⟩
      clear bV b2 x0 o5 s7
      go_loopw [23] (fun s wr => ∃ k : Nat, k ≤ dl ∧ s = .int .i64 k ∧ (∀ j, j < k → 0 ≤ d j ∧ d j < len) ∧ Below w.heap.size w wr ∧ At 28 wr V.heap.size #[.int .i64 0, .int .i64 0, .slice none 0 0] ∧ At 62 wr w5.heap.size #[.int .i64 W, .int .i64 H, .slice (some ⟨g, 0, none⟩) len len] ∧ Own wr g len (mk0 f d k) ∧ w5.heap.size ≤ wr.heap.size) (fun s _ => dl - (intOf s).toNat)
      case atStart => exact ⟨0, Nat.zero_le _, rfl, fun j hj => absurd hj (Nat.not_lt_zero _), r0⟩
      case round =>
        clear r0
        obtain ⟨k, hk, rfl, hall, bW, b2, x0, o5, s7⟩ := hrel
        by_cases hlt : k < dl
        · have hlt' : (k : Int) < (dl : Int) := by omega
          obtain ⟨c0, c1, c2, -⟩ := x0.open3
          rcases hd.below bW with h0 | ⟨b, off, rfl, hb, hr⟩
          · omega
          have g0 := hr k hlt
          by_cases q1 : d k < 0
          · have hbad : ¬ mOk W H len f dl d := fun h => by have := h.2.2 k hlt; omega
            obtain ⟨d0, d1, d2, f0, f1, f2⟩ := b2.open3
            go_wp2
            have a7 := put3_at b2 (.int .i64 0) (.int .i64 0) (.slice none 0 0)
            obtain ⟨p0, p1, p2, -⟩ := a7.open3
            refine bodyPost_ret (v := .tuple #[fV 0 0 (.slice none 0 0), .bool false]) (by simp [results, Try.results27, go_sem, p0, p1, p2]) rfl ?_
            exact ⟨_, _, _, _, _, _, rfl, .inr ⟨hbad, rfl, rfl, rfl, rfl, rfl⟩, zero_fr _ _ _, below_put3 bW (by omega) _ _ _⟩
          · by_cases q2 : W * H ≤ d k
            · have hbad : ¬ mOk W H len f dl d := fun h => by have := h.2.2 k hlt; omega
              go_wp2_with fail
              refine (size_any W H _ hW hH).mono ?_
              rintro e w8 ⟨rfl, b8⟩
              replace b2 := b2.below b8
              replace bW := bW.trans (b8.mono bW.size)
              clear c0 c1 c2 g0 b8
              obtain ⟨d0, d1, d2, f0, f1, f2⟩ := b2.open3
              go_wp2
              have a7 := put3_at b2 (.int .i64 0) (.int .i64 0) (.slice none 0 0)
              obtain ⟨p0, p1, p2, -⟩ := a7.open3
              refine bodyPost_ret (v := .tuple #[fV 0 0 (.slice none 0 0), .bool false]) (by simp [results, Try.results27, go_sem, p0, p1, p2]) rfl ?_
              exact ⟨_, _, _, _, _, _, rfl, .inr ⟨hbad, rfl, rfl, rfl, rfl, rfl⟩, zero_fr _ _ _, below_put3 bW (by omega) _ _ _⟩
            · obtain ⟨q, hq⟩ : ∃ q : Nat, d k = (q : Int) := ⟨(d k).toNat, by omega⟩
              have hqn : q < len := by omega
              have hq1 : (q : Int) < W * H := by omega
              have hq2 : ¬ (W * H ≤ (q : Int)) := by omega
              have hq3 : ¬ (q : Int) < 0 := by omega
              rw [hq] at g0
              go_wp2_with fail
              refine (size_any W H _ hW hH).mono ?_
              rintro e w8 ⟨rfl, b8⟩
              replace b2 := b2.below b8
              replace x0 := x0.below b8
              replace o5 := o5.below b8
              replace bW := bW.trans (b8.mono bW.size)
              have s8 := b8.size
              clear c0 c1 c2 g0 b8 hb hr
              obtain ⟨c0, c1, c2, -⟩ := x0.open3
              obtain ⟨z0, y0⟩ := o5.open hqn
              have HM : Hid (Own w8 g len (mk0 f d k)) := o5
              clear o5
              go_wp2
              refine ⟨⟨k + 1, by omega, by go_num, fun j hj => ?_, bW.setCell (show w.heap.size ≤ g by omega) _, b2.setOther (by omega) _, x0.setOther (by omega) _, mk0_set hq hqn HM.out, by simp [World.setCell]; omega⟩, by simp [intOf]; omega⟩
              by_cases e : j = k
              · subst e; omega
              · exact hall j (by omega)
        · have hlt' : ¬ (k : Int) < (dl : Int) := by omega
          obtain rfl : k = dl := by omega
          obtain ⟨c0, c1, c2, -⟩ := x0.open3
          go_wp2_with fail
          refine (frame_any W H _ len len _).mono ?_
          rintro e w8 ⟨rfl, b8⟩
          replace b2 := b2.below b8
          replace o5 := o5.below b8
          replace bW := bW.trans (b8.mono bW.size)
          have s8 := b8.size
          clear c0 c1 c2
          obtain ⟨d0, d1, d2, f0, f1, f2⟩ := b2.open3
          go_wp2
          have a7 := put3_at b2 (.int .i64 W) (.int .i64 H) (.slice (some ⟨g, 0, none⟩) len len)
          obtain ⟨p0, p1, p2, -⟩ := a7.open3
          refine bodyPost_ret (v := .tuple #[fV W H (.slice (some ⟨g, 0, none⟩) len len), .bool true]) (by simp [results, Try.results27, go_sem, p0, p1, p2]) rfl ?_
          have oo := Made.setOther (Made.setOther (Made.setOther (q := V.heap.size) (i := 0) o5 (by omega) (.int .i64 W)) (q := V.heap.size) (i := 1) (by omega) (.int .i64 H)) (q := V.heap.size) (i := 2) (by omega) (.slice (some ⟨g, 0, none⟩) len len)
          exact ⟨_, _, _, _, _, _, rfl, .inl ⟨⟨frB_of hfr, by omega, hall⟩, rfl, rfl, rfl, rfl, rfl⟩, ⟨_, rfl, arr_of_own oo (by omega)⟩, below_put3 bW (by omega) _ _ _⟩
end Go.Proofs.Ytlofbgkefalpoaa
