/-
  The law of Signed: walked.
-/
import Derived.Test.YtohboecnhneolaaSg4
namespace Go.Proofs.Ytohboecnhneolaa
open Go.RowKit

theorem exactSigned_walk {w : World} {a : Option Addr} {n cap : Nat} {f : Nat → Int} (hS : Src w a (n * 4) f) (hn : n ≤ maxLen) :
    Calls Try.prog 3 #[.slice a n cap] w fun e w' => e = .returned (.bool true) ∧ Below w.heap.size w w' := by
  obtain ⟨b, hb⟩ : ∃ b : Bool, b = true ↔ SgT n f := by
    by_cases h : SgT n f
    · exact ⟨true, by simp [h]⟩
    · exact ⟨false, by simp [h]⟩
  go_enter Try.func3, Try.ntmps3
  go_wp2_with fail
  refine (sz_any _ hn).mono ?_
  rintro e w1 ⟨⟨r, rfl, hr⟩, rfl⟩
  rcases hr with rfl | ⟨h0, hsh⟩
  · go_wp2
    go_ret
    exact ⟨rfl, Below.refl _ _⟩
  · have h1 : ¬ r < 0 := by omega
    go_wp2_with fail
    refine (toAtomS_any hS hsh).mono ?_
    rintro e w2 ⟨g2, rfl, L2, b2⟩
    go_wp2_with fail
    refine (specSigned_any L2 hsh b hb).mono ?_
    rintro e w3 ⟨rfl, b3⟩
    have B3 := b2.trans (b3.mono b2.size)
    go_wp2_with fail
    refine (toAtomS_any (hS.below B3) hsh).mono ?_
    rintro e w4 ⟨g4, rfl, L4, b4⟩
    have B4 := B3.trans (b4.mono B3.size)
    go_wp2_with fail
    refine (implSigned_any L4 hsh b hb).mono ?_
    rintro e w5 ⟨rfl, b5⟩
    have L5 := L4.below b5
    have B5 := B4.trans (b5.mono B4.size)
    go_wp2_with fail
    refine (toAtomS_any (hS.below B5) hsh).mono ?_
    rintro e w6 ⟨g6, rfl, L6, b6⟩
    have B6 := B5.trans (b6.mono B5.size)
    go_wp2_with fail
    refine (eqAtomS_true (L5.below b6) L6 hsh).mono ?_
    rintro e w7 ⟨rfl, b7⟩
    have B7 := B6.trans (b7.mono B6.size)
    go_wp2
    go_ret
    exact ⟨rfl, B7⟩
end Go.Proofs.Ytohboecnhneolaa
