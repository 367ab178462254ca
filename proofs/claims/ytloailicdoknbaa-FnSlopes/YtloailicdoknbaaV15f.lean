/-
  The law of a tape's value: walked.
-/
import Derived.Test.YtloailicdoknbaaV15e
namespace Go.Proofs.Ytloailicdoknbaa
open Go.RowKit

theorem tpN_bool (n inp : Nat) (f : Nat → Int) : ∃ R : Bool, Hid (R = true ↔ TpN n inp f) := by
  by_cases ok : TpN n inp f
  · exact ⟨true, show (true = true ↔ _) from ⟨fun _ => ok, fun _ => rfl⟩⟩
  · exact ⟨false, show (false = true ↔ _) from ⟨fun h => by simp at h, fun h => absurd h ok⟩⟩
set_option maxHeartbeats 3200000 in
theorem exactValue_walk {w : World} {a a2 : Option Addr} {n cap inp c2 : Nat} {f x : Nat → Int} (hS : Src w a (n * 3) f) (hn : n ≤ maxLen) (hX : Src w a2 inp x) (hi : inp ≤ maxLen) (hf64 : ∀ i, i < n * 3 → is64 (f i)) (hx64 : ∀ i, i < inp → is64 (x i)) :
    Calls Try.prog 3 #[.slice a n cap, .slice a2 inp c2] w fun e w' => e = .returned (.bool true) ∧ Below w.heap.size w w' := by
  by_cases hi20 : inp ≤ 1048576
  case neg =>
    have hi' : (1048576 : Int) < (inp : Int) := by omega
    have hi2 : (inp : Int) ≤ 9223372036854775807 := by unfold maxLen at hi; omega
    go_enter Try.func3, Try.ntmps3
    go_wp2
    go_ret
    exact ⟨rfl, Below.refl _ _⟩
  have hi' : ¬ (1048576 : Int) < (inp : Int) := by omega
  have hi2 : (inp : Int) ≤ 1048576 := by omega
  obtain ⟨R, hR⟩ := tpN_bool n inp f
  go_enter Try.func3, Try.ntmps3
  go_wp2_with fail
  refine (szStep_any 1048576 (by omega) _ hn).mono ?_
  rintro e w1 ⟨⟨r, rfl, hr⟩, rfl⟩
  rcases hr with rfl | ⟨r0, r1, hn20⟩
  · go_wp2
    go_ret
    exact ⟨rfl, Below.refl _ _⟩
  have hr0 : ¬ r < 0 := by omega
  go_wp2_with fail
  refine (toStepS_any hS hn20).mono ?_
  rintro e w2 ⟨g2, rfl, hg2, L2, b2⟩
  have R2 := L2.recs
  have X2 := hX.below b2
  go_wp2_with fail
  refine (toInts_any X2 hi20).mono ?_
  rintro e w3 ⟨x3, rfl, hx3, O3, b3⟩
  have B3 := b2.trans (b3.mono b2.size)
  replace R2 := R2.below b3
  clear L2 b2 b3
  go_wp2_with fail
  refine (specValue_any R2 O3.row O3.lt hn20 hi20 hx64 hf64 R hR).mono ?_
  rintro e w4 ⟨rfl, b4⟩
  have B4 := B3.trans (b4.mono B3.size)
  have S4 := hS.below B4
  have X4 := hX.below B4
  obtain ⟨Z, hZ⟩ : ∃ Z, (if R = true then lastV n f x else 0) = Z := ⟨_, rfl⟩
  have HZ : Hid ((if R = true then lastV n f x else 0) = Z) := hZ
  rw [hZ]
  clear R2 O3 B3 b4 X2 hZ
  go_wp2_with fail
  refine (toStepS_any S4 hn20).mono ?_
  rintro e w5 ⟨g5, rfl, hg5, L5, b5⟩
  have B5 := B4.trans (b5.mono B4.size)
  have R5 := L5.recs
  have X5 := X4.below b5
  clear B4 S4 X4 b5 L5
  go_wp2_with fail
  refine (toInts_any X5 hi20).mono ?_
  rintro e w6 ⟨x6, rfl, hx6, O6, b6⟩
  have B6 := B5.trans (b6.mono B5.size)
  have R6 := R5.below b6
  clear B5 X5 R5 b6
  have V := implValue_any (cap := n) (c := inp) R6 O6.row O6.lt hn20 hi20 hx64 hf64 R hR
  rw [HZ.out] at V
  go_wp2_with fail
  refine V.mono ?_
  rintro e w7 ⟨rfl, b7⟩
  have B7 := B6.trans (b7.mono B6.size)
  have R7 := R6.below b7
  have O7 := O6.below b7
  have S7 := hS.below B7
  clear V B6 R6 O6 b7 HZ
  go_wp2_with fail
  refine (toStepS_any S7 hn20).mono ?_
  rintro e w8 ⟨g8, rfl, hg8, L8, b8⟩
  have B8 := B7.trans (b8.mono B7.size)
  have R8 := R7.below b8
  have O8 := O7.below b8
  have T8 := L8.recs
  clear b8 R7 O7 B7 S7 L8
  go_wp2_with fail
  refine (eqStepS_true R8 T8 hn20).mono ?_
  rintro e w9 ⟨rfl, b9⟩
  have B9 := B8.trans (b9.mono B8.size)
  have O9 := O8.below b9
  have X9 := hX.below B9
  clear b9 B8 O8 R8 T8
  go_wp2_with fail
  refine (toInts_any X9 hi20).mono ?_
  rintro e w10 ⟨x10, rfl, hx10, O10, b10⟩
  have B10 := B9.trans (b10.mono B9.size)
  have P10 := O9.below b10
  clear b10 B9 O9 X9
  go_wp2_with fail
  refine (eqInts_true P10.row O10.row P10.lt O10.lt hi20).mono ?_
  rintro e w11 ⟨rfl, b11⟩
  go_wp2
  go_ret
  exact ⟨rfl, B10.trans (b11.mono B10.size)⟩
theorem exactValue_law {w : World} {a a2 : Option Addr} {n cap inp c2 : Nat} {f : Nat → Int} {zs : List Int} (hS : Src w a (n * 3) f) (hn : n ≤ maxLen) (hf64 : ∀ i, i < n * 3 → -9223372036854775808 ≤ f i ∧ f i ≤ 9223372036854775807) (hr : IsRow .i64 w a2 inp c2 zs) :
    Calls Try.prog 3 #[.slice a n cap, .slice a2 inp c2] w fun e w' => e = .returned (.bool true) ∧ Below w.heap.size w w' := by
  obtain ⟨x, h1, h2, h3⟩ := src_of hr
  exact exactValue_walk hS hn h1 h2 hf64 h3
end Go.Proofs.Ytloailicdoknbaa
