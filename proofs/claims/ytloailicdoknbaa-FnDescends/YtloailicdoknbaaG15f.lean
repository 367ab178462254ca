/-
  The law that descents never rise: walked.
-/
import Derived.Test.YtloailicdoknbaaG15b
import Derived.Test.YtloailicdoknbaaG15e
namespace Go.Proofs.Ytloailicdoknbaa
open Go.RowKit

theorem arr_sl {w : World} {lo hi m : Nat} {v : Value} {F : Nat → Int} (h : Arr w lo hi v m F) : ∃ a c, v = .slice a m c ∧ (0 < m → ∃ g, a = some ⟨g, 0, none⟩ ∧ Ints w g 0 m F ∧ g < w.heap.size) := by
  rcases h with ⟨rfl, rfl⟩ | ⟨g, c, rfl, -, -, -, hM⟩
  · exact ⟨none, 0, rfl, fun h => by omega⟩
  · exact ⟨_, c, rfl, fun _ => ⟨g, rfl, made_ints hM, hM.lt⟩⟩
set_option maxRecDepth 100000 in
set_option maxHeartbeats 12800000 in
theorem descends_walk {w : World} {a : Option Addr} {len cap : Nat} (hr : Row w w.heap.size a len) :
    Calls Try.prog 8 #[.slice a len cap] w fun e w' => e = .returned (.bool true) ∧ Below w.heap.size w w' := by
  have hbig := fun w => big_any a len cap w hr.1
  by_cases hb : 1048576 < len
  · rw [decide_eq_true hb] at hbig
    go_enter Try.func8, Try.ntmps8
    go_wp2_with (go_at_call 25; refine (hbig _).mono ?_; rintro e w2 ⟨rfl, rfl⟩)
    go_ret
    exact ⟨rfl, Below.refl _ _⟩
  rw [decide_eq_false hb] at hbig
  go_enter Try.func8, Try.ntmps8
  go_wp2_with fail
  refine (hbig _).mono ?_
  rintro e w0 ⟨rfl, rfl⟩
  go_wp2_with fail
  refine (drawDescent_any hr).mono ?_
  rintro e w1 ⟨g, n, c, b, inp, c2, f, x, r, rfl, r0, r1, D⟩
  clear hbig hr hb
  have hn2 := D.m2
  have hi3 := D.i3
  obtain ⟨m, F, hans⟩ := ans_is n inp f x r
  have HA : Hid (Ans n inp f x r m F) := hans
  have hm3 : m ≤ 3 := by
    rcases hans with ⟨-, e, -⟩ | ⟨-, e⟩ <;> omega
  clear hans
  go_wp2_with fail
  refine (specDescent_any D.t D.x D.lt (by omega) (by omega) HA).mono ?_
  rintro e w2 ⟨v0, rfl, A0, b2⟩
  replace D := D.below b2
  clear b2
  go_wp2_with fail
  refine (lsteps_any D.t (by omega)).mono ?_
  rintro e w3 ⟨g3, c3, rfl, S3, b3⟩
  replace D := D.below b3
  replace A0 := A0.below b3
  clear b3
  go_wp2_with fail
  refine (lints_any D.x D.lt (by omega)).mono ?_
  rintro e w4 ⟨v, rfl, G⟩
  obtain ⟨g4, c4, rfl, -, -, o4, I4⟩ := G.ints
  have b4 := G.b
  replace S3 := S3.below b4
  replace D := D.below b4
  replace A0 := A0.below b4
  clear b4 G
  go_wp2_with fail
  refine (implDescent_any S3 I4 o4 (by omega) (by omega) HA).mono ?_
  rintro e w5 ⟨v1, rfl, A1, b5⟩
  replace D := D.below b5
  replace A0 := A0.below b5
  clear b5 S3 I4 o4
  obtain ⟨a0, e0, rfl, P0⟩ := arr_sl A0
  obtain ⟨a1, e1, rfl, P1⟩ := arr_sl A1
  clear A0 A1
  by_cases hm0 : m = 0
  · subst hm0
    have B := D.b
    clear D P0 P1 HA
    go_wp2
    go_ret
    exact ⟨rfl, B⟩
  obtain ⟨g0, rfl, -, -⟩ := P0 (by omega)
  obtain ⟨g1, rfl, X1, l1⟩ := P1 (by omega)
  clear P0 P1
  obtain ⟨ok, rfl, d, hrn⟩ : DcOk n inp f x r ∧ m = inp ∧ ∃ d, rn n f inp (st0 n f x) r.toNat = some (F, d) := by
    rcases HA.out with h | ⟨-, h⟩
    · exact h
    · exact absurd h hm0
  obtain ⟨q1, q2, q3⟩ := rn_sd _ _ _ hrn
  have HX : Hid (wOk n f x) := (okB_iff _ _ _).1 q1
  have HF : Hid (wOk n f F) := (okB_iff _ _ _).1 q2.1
  have HR : Hid (rn n f m (st0 n f x) r.toNat = some (F, d)) := hrn
  have HD : Hid (d = wv f F (n - 1)) := q2.2
  have HA0 : Hid (Ans n m f x 0 m x) := .inl ⟨⟨ok.1, ok.2.1, by omega, by omega⟩, rfl, _, by show st0 n f x = _; unfold st0; rw [if_pos q1]⟩
  have hT := ok.1
  have hr0 : 0 ≤ r := ok.2.2.1
  have hr20 : r ≤ 20 := ok.2.2.2
  have hle : ¬ wv f x (n - 1) < wv f F (n - 1) := by rw [← q2.2]; omega
  clear hrn q1 q2 q3 ok
  obtain ⟨Y0, hY0⟩ : ∃ Y, wv f x (n - 1) = Y := ⟨_, rfl⟩
  obtain ⟨Y1, hY1⟩ : ∃ Y, wv f F (n - 1) = Y := ⟨_, rfl⟩
  have W1 := fun w (h : Recs 3 w g n f) (hx : Ints w g1 0 m F) (hb : g1 < w.heap.size) => whole_any (cap := c) (c := e1) h hx hb hT HF
  have W0 := fun w (h : Recs 3 w g n f) (hx : Ints w b 0 m x) (hb : b < w.heap.size) => whole_any (cap := c) (c := c2) h hx hb hT HX
  rw [hY1] at W1
  rw [hY0] at W0
  rw [hY0, hY1] at hle
  have HD1 : Hid (d = Y1) := by show d = Y1; rw [HD.out, hY1]
  clear HD hY0 hY1
  have hm0' : ((m : Int) == 0) = false := by simp; omega
  have hmm : ((m : Int) != (m : Int)) = false := bne_self_eq_false _
  go_wp2_with fail
  refine (W1 _ D.t X1 l1).mono ?_
  rintro e w6 ⟨rfl, b6⟩
  replace D := D.below b6
  replace X1 := X1.below l1 b6
  replace l1 := Nat.lt_of_lt_of_le l1 b6.size
  clear b6
  go_wp2_with fail
  refine (W0 _ D.t D.x D.lt).mono ?_
  rintro e w7 ⟨rfl, b7⟩
  replace D := D.below b7
  replace X1 := X1.below l1 b7
  replace l1 := Nat.lt_of_lt_of_le l1 b7.size
  clear b7
  go_wp2_with fail
  refine (lsteps_any D.t (by omega)).mono ?_
  rintro e w8 ⟨g8, c8, rfl, S3, b3⟩
  replace D := D.below b3
  replace X1 := X1.below l1 b3
  replace l1 := Nat.lt_of_lt_of_le l1 b3.size
  clear b3
  go_wp2_with fail
  refine (lints_any D.x D.lt (by omega)).mono ?_
  rintro e w9 ⟨v, rfl, G⟩
  obtain ⟨g9, c9, rfl, -, -, o4, I4⟩ := G.ints
  have b4 := G.b
  replace S3 := S3.below b4
  replace D := D.below b4
  replace X1 := X1.below l1 b4
  replace l1 := Nat.lt_of_lt_of_le l1 b4.size
  clear b4 G
  go_wp2_with fail
  refine (implDescent_any S3 I4 o4 (by omega) (by omega) HA0).mono ?_
  rintro e w10 ⟨v2, rfl, A2, b10⟩
  replace D := D.below b10
  replace X1 := X1.below l1 b10
  replace l1 := Nat.lt_of_lt_of_le l1 b10.size
  clear b10 S3 I4 o4
  obtain ⟨a2, e2, rfl, P2⟩ := arr_sl A2
  obtain ⟨g2, rfl, X2, l2⟩ := P2 (by omega)
  clear A2 P2 HA0
  go_wp2_with fail
  refine (sameInts_any X2 l2 D.x D.lt (by omega)).mono ?_
  rintro e w11 ⟨rfl, b11⟩
  replace D := D.below b11
  replace X1 := X1.below l1 b11
  replace l1 := Nat.lt_of_lt_of_le l1 b11.size
  clear b11 X2 l2
  obtain ⟨m', F', hans'⟩ := ans_is n m f x (r + 1)
  have HA' : Hid (Ans n m f x (r + 1) m' F') := hans'
  have hm' : m' ≤ 3 := by
    rcases hans' with ⟨-, e, -⟩ | ⟨-, e⟩ <;> omega
  clear hans'
  go_wp2_with fail
  refine (specDescent_any D.t D.x D.lt (by omega) (by omega) HA').mono ?_
  rintro e w12 ⟨v3, rfl, A3, b12⟩
  replace D := D.below b12
  replace X1 := X1.below l1 b12
  replace l1 := Nat.lt_of_lt_of_le l1 b12.size
  clear b12
  obtain ⟨a3, e3, rfl, -⟩ := arr_sl A3
  clear A3
  by_cases hm0 : m' = 0
  · subst hm0
    have B := D.b
    clear D HA HA' X1 W1 W0
    go_wp2
    go_ret
    exact ⟨rfl, B⟩
  obtain ⟨rfl, d', hrn'⟩ : m' = m ∧ ∃ d', rn n f m (st0 n f x) (r + 1).toNat = some (F', d') := by
    rcases HA'.out with h | ⟨-, h⟩
    · exact h.2
    · exact absurd h hm0
  obtain ⟨-, q2, -⟩ := rn_sd _ _ _ hrn'
  have HF' : Hid (wOk n f F') := (okB_iff _ _ _).1 q2.1
  have hle2 : wv f F' (n - 1) ≤ Y1 := by
    rw [← q2.2, ← HD1.out]
    rw [show (r + 1).toNat = r.toNat + 1 by omega] at hrn'
    exact rn_next HR.out hrn'
  clear hrn' q2
  go_wp2_with fail
  refine (lsteps_any D.t (by omega)).mono ?_
  rintro e w13 ⟨g13, c13, rfl, S3, b3⟩
  replace D := D.below b3
  replace X1 := X1.below l1 b3
  replace l1 := Nat.lt_of_lt_of_le l1 b3.size
  clear b3
  go_wp2_with fail
  refine (lints_any D.x D.lt (by omega)).mono ?_
  rintro e w14 ⟨v, rfl, G⟩
  obtain ⟨g14, c14, rfl, -, -, o4, I4⟩ := G.ints
  have b4 := G.b
  replace S3 := S3.below b4
  replace D := D.below b4
  replace X1 := X1.below l1 b4
  replace l1 := Nat.lt_of_lt_of_le l1 b4.size
  clear b4 G
  go_wp2_with fail
  refine (implDescent_any S3 I4 o4 (by omega) (by omega) HA').mono ?_
  rintro e w15 ⟨v4, rfl, A4, b15⟩
  replace D := D.below b15
  replace X1 := X1.below l1 b15
  replace l1 := Nat.lt_of_lt_of_le l1 b15.size
  clear b15 S3 I4 o4
  obtain ⟨a4, e4, rfl, P4⟩ := arr_sl A4
  obtain ⟨g4, rfl, X4, l4⟩ := P4 (by omega)
  clear A4 P4 HA' HA
  have W4 := fun w (h : Recs 3 w g n f) (hx : Ints w g4 0 m' F') (hb : g4 < w.heap.size) => whole_any (cap := c) (c := e4) h hx hb hT HF'
  obtain ⟨Y4, hY4⟩ : ∃ Y, wv f F' (n - 1) = Y := ⟨_, rfl⟩
  rw [hY4] at W4 hle2
  clear hY4
  have hmm2 : ((m' : Int) == (m' : Int)) = true := beq_self_eq_true _
  go_wp2_with fail
  refine (W4 _ D.t X4 l4).mono ?_
  rintro e w16 ⟨rfl, b16⟩
  replace D := D.below b16
  replace X1 := X1.below l1 b16
  replace l1 := Nat.lt_of_lt_of_le l1 b16.size
  clear b16
  go_wp2_with fail
  refine (W1 _ D.t X1 l1).mono ?_
  rintro e w17 ⟨rfl, b17⟩
  replace D := D.below b17
  have B := D.b
  clear b17 D X1 X4 W1 W0 W4
  go_wp2
  go_ret
  exact ⟨rfl, B⟩
end Go.Proofs.Ytloailicdoknbaa
