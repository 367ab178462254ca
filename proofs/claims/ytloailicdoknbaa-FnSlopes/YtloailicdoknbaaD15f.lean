/-
  The law of descents: walked.
-/
import Derived.Test.YtloailicdoknbaaD15e
namespace Go.Proofs.Ytloailicdoknbaa
open Go.RowKit

theorem turnK {w w' : World} {b : Nat} (h : Kept b w w') : Turn b (b + 1) w w' := ⟨h.os, h.tape, h.output, h.size, fun k hk hd => h.block k hk (by omega)⟩
set_option maxHeartbeats 6400000 in
theorem exactDescent_walk {w : World} {a a2 : Option Addr} {n cap inp c2 : Nat} {f x : Nat → Int} (r : Int) (hS : Src w a (n * 3) f) (hn : n ≤ maxLen) (hX : Src w a2 inp x) (hi : inp ≤ maxLen) :
    Calls Try.prog 6 #[.slice a n cap, .slice a2 inp c2, .int .i64 r] w fun e w' => e = .returned (.bool true) ∧ Below w.heap.size w w' := by
  by_cases hi20 : inp ≤ 1048576
  case neg =>
    have hi' : (1048576 : Int) < (inp : Int) := by omega
    have hi2 : (inp : Int) ≤ 9223372036854775807 := by unfold maxLen at hi; omega
    go_enter Try.func6, Try.ntmps6
    go_wp2
    go_ret
    exact ⟨rfl, Below.refl _ _⟩
  have hi' : ¬ (1048576 : Int) < (inp : Int) := by omega
  have hi2 : (inp : Int) ≤ 1048576 := by omega
  obtain ⟨m, F, hans⟩ := ans_is n inp f x r
  have HA : Hid (Ans n inp f x r m F) := hans
  have hm20 : m ≤ 1048576 := by
    rcases hans with ⟨-, e, -⟩ | ⟨-, e⟩ <;> omega
  clear hans
  go_enter Try.func6, Try.ntmps6
  go_wp2_with fail
  refine (szStep_any 1048576 (by omega) _ hn).mono ?_
  rintro e w1 ⟨⟨r5, rfl, hr⟩, rfl⟩
  rcases hr with rfl | ⟨r0, r1, hn20⟩
  · go_wp2
    go_ret
    exact ⟨rfl, Below.refl _ _⟩
  have hr0 : ¬ r5 < 0 := by omega
  go_wp2_with fail
  refine (toStepS_any hS hn20).mono ?_
  rintro e w2 ⟨g2, rfl, hg2, L2, b2⟩
  have R2 := L2.recs
  have X2 := hX.below b2
  go_wp2_with fail
  refine (toInts_any X2 hi20).mono ?_
  rintro e w3 ⟨x3, rfl, hx3, O3, b3⟩
  have B3 := b2.trans (b3.mono b2.size)
  replace R2 := R2.below b3
  clear L2 b2 b3 X2
  go_wp2_with fail
  refine (specDescent_any R2 O3.row O3.lt hn20 hi20 HA).mono ?_
  rintro e w4 ⟨v0, rfl, A0, b4⟩
  have B4 := B3.trans (b4.mono B3.size)
  have z4 := b4.size
  have zw3 := B3.size
  have S4 := hS.below B4
  clear R2 O3 b4
  go_wp2_with fail
  refine (toStepS_any S4 hn20).mono ?_
  rintro e w5 ⟨g5, rfl, hg5, L5, b5⟩
  have B5 := B4.trans (b5.mono B4.size)
  have z5 := b5.size
  replace A0 := A0.below b5
  have X5 := hX.below B5
  have hg5l : g5 < w5.heap.size := L5.room.choose_spec.1.lt
  clear S4 b5 B4
  go_wp2_with fail
  refine (toInts_any X5 hi20).mono ?_
  rintro e w6 ⟨x6, rfl, hx6, O6, b6⟩
  have B6 := B5.trans (b6.mono B5.size)
  have z6 := b6.size
  have hx6l := O6.lt
  replace A0 := A0.below b6
  replace L5 := L5.below b6
  clear X5 b6 B5
  go_wp2_with fail
  refine (implDescent_any L5.recs O6.row O6.lt hn20 hi20 HA).mono ?_
  rintro e w7 ⟨v1, rfl, A1, b7⟩
  have B7 := B6.trans (b7.mono B6.size)
  have z7 := b7.size
  replace A0 := A0.below b7
  replace L5 := L5.below b7
  replace O6 := O6.below b7
  clear b7 B6
  go_wp2_with fail
  refine (eqArr_true A1 A0 hm20).mono ?_
  rintro e w8 ⟨rfl, b8⟩
  have B8 := B7.trans (b8.mono B7.size)
  have z8 := b8.size
  replace A0 := A0.below b8
  replace A1 := A1.below b8
  replace L5 := L5.below b8
  replace O6 := O6.below b8
  have S8 := hS.below B8
  clear b8 B7
  go_wp2_with fail
  refine (toStepS_any S8 hn20).mono ?_
  rintro e w9 ⟨g9, rfl, hg9, L9, b9⟩
  have B9 := B8.trans (b9.mono B8.size)
  have z9 := b9.size
  replace A0 := A0.below b9
  replace A1 := A1.below b9
  replace L5 := L5.below b9
  replace O6 := O6.below b9
  clear b9 B8 S8
  go_wp2_with fail
  refine (eqStepS_true L5.recs L9.recs hn20).mono ?_
  rintro e w10 ⟨rfl, b10⟩
  have B10 := B9.trans (b10.mono B9.size)
  have z10 := b10.size
  replace A0 := A0.below b10
  replace A1 := A1.below b10
  replace L5 := L5.below b10
  replace O6 := O6.below b10
  have X10 := hX.below B10
  clear b10 B9 L9
  go_wp2_with fail
  refine (toInts_any X10 hi20).mono ?_
  rintro e w11 ⟨x11, rfl, hx11, O11, b11⟩
  have B11 := B10.trans (b11.mono B10.size)
  have z11 := b11.size
  replace A0 := A0.below b11
  replace A1 := A1.below b11
  replace L5 := L5.below b11
  replace O6 := O6.below b11
  clear b11 B10 X10
  go_wp2_with fail
  refine (eqInts_true O6.row O11.row O6.lt O11.lt hi20).mono ?_
  rintro e w12 ⟨rfl, b12⟩
  have B12 := B11.trans (b12.mono B11.size)
  have z12 := b12.size
  replace A0 := A0.below b12
  replace A1 := A1.below b12
  replace L5 := L5.below b12
  replace O6 := O6.below b12
  clear b12 B11 O11
  go_wp2_with fail
  refine (markStepS_any 1 (by omega) L5.room hn20).mono ?_
  rintro e w13 ⟨rfl, kp⟩
  have tt := turnK kp
  have z13 := kp.size
  have AX : Arr w12 x6 (x6 + 1) (.slice (some ⟨x6, 0, none⟩) inp inp) inp x := .inr ⟨x6, inp, rfl, Nat.le_refl _, by omega, Nat.le_refl _, O6⟩
  replace AX := AX.turn tt (by omega)
  replace A0 := A0.turn tt (by omega)
  replace A1 := A1.turn tt (by omega)
  have B13 := tt.below B12 (by omega) (by omega)
  clear kp tt B12 L5 O6
  obtain ⟨K1, hK1⟩ : ∃ K1 : Nat, 1 + 3 * n = K1 := ⟨_, rfl⟩
  rw [show (1 : Int) + 3 * (n : Int) = (K1 : Int) by omega]
  have hK1b : K1 ≤ 10000000 := by omega
  clear hK1
  go_wp2_with fail
  refine (markArr_any AX hi20 K1 hK1b).mono ?_
  rintro e w14 ⟨rfl, -, on⟩
  have tt := Turn.of_only on AX
  have z14 := tt.size
  replace A0 := A0.turn tt (by omega)
  replace A1 := A1.turn tt (by omega)
  have B14 := tt.below B13 (by omega) (by omega)
  clear on tt B13 AX
  have hk0 : ¬ ((K1 + inp : Nat) : Int) < 0 := by omega
  go_wp2_with fail
  refine (eqArr_true A1 A0 hm20).mono ?_
  rintro e w15 ⟨rfl, b15⟩
  have B15 := B14.trans (b15.mono B14.size)
  have z15 := b15.size
  replace A0 := A0.below b15
  replace A1 := A1.below b15
  clear b15 B14
  go_wp2_with fail
  refine (markArr_any A1 hm20 1 (by omega)).mono ?_
  rintro e w16 ⟨rfl, A2, on⟩
  have tt := Turn.of_only on A1
  have z16 := tt.size
  replace A0 := A0.turn tt (by omega)
  have B16 := tt.below B15 (by omega) (by omega)
  clear on tt B15 A1
  go_wp2_with fail
  refine (heldArr_any 1 A2 hm20 (by omega)).mono ?_
  rintro e w17 ⟨rfl, b17⟩
  have B17 := B16.trans (b17.mono B16.size)
  have z17 := b17.size
  replace A0 := A0.below b17
  replace A2 := A2.below b17
  have S17 := hS.below B17
  clear b17 B16
  have hq0 : ¬ (1 + (m : Int)) < 0 := by omega
  have hq1 : ((1 + (m : Int)) != (1 + (m : Int))) = false := bne_self_eq_false _
  go_wp2_with fail
  refine (toStepS_any S17 hn20).mono ?_
  rintro e w18 ⟨g18, rfl, hg18, L18, b18⟩
  have B18 := B17.trans (b18.mono B17.size)
  have z18 := b18.size
  replace A0 := A0.below b18
  replace A2 := A2.below b18
  have X18 := hX.below B18
  clear b18 B17 S17
  go_wp2_with fail
  refine (toInts_any X18 hi20).mono ?_
  rintro e w19 ⟨x19, rfl, hx19, O19, b19⟩
  have B19 := B18.trans (b19.mono B18.size)
  have z19 := b19.size
  replace A0 := A0.below b19
  replace A2 := A2.below b19
  replace L18 := L18.below b19
  clear b19 B18 X18
  go_wp2_with fail
  refine (implDescent_any L18.recs O19.row O19.lt hn20 hi20 HA).mono ?_
  rintro e w20 ⟨v2, rfl, A3, b20⟩
  have B20 := B19.trans (b20.mono B19.size)
  have z20 := b20.size
  replace A0 := A0.below b20
  replace A2 := A2.below b20
  clear b20 B19 L18 O19
  go_wp2_with fail
  refine (eqArr_true A3 A0 hm20).mono ?_
  rintro e w21 ⟨rfl, b21⟩
  have B21 := B20.trans (b21.mono B20.size)
  replace A2 := A2.below b21
  clear b21 B20 A3 A0
  have HL := heldArr_any 1 A2 hm20 (by omega)
  go_wp2_with fail
  refine HL.mono ?_
  rintro e w22 ⟨rfl, b22⟩
  go_wp2
  go_ret
  exact ⟨rfl, B21.trans (b22.mono B21.size)⟩
theorem exactDescent_law {w : World} {a a2 : Option Addr} {n cap inp c2 : Nat} {f : Nat → Int} {zs : List Int} (r : Int) (hS : Src w a (n * 3) f) (hn : n ≤ maxLen) (hr : IsRow .i64 w a2 inp c2 zs) :
    Calls Try.prog 6 #[.slice a n cap, .slice a2 inp c2, .int .i64 r] w fun e w' => e = .returned (.bool true) ∧ Below w.heap.size w w' := by
  obtain ⟨x, h1, h2, -⟩ := src_of hr
  exact exactDescent_walk r hS hn h1 h2
end Go.Proofs.Ytloailicdoknbaa
