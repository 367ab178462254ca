/-
  The law of Covered: walked.
-/
import Derived.Test.YtoijklicdjoeaaaFn
namespace Go.Proofs.Ytoijklicdjoeaaa
open Go.RowKit

theorem exactCovered_walk {w : World} {a : Option Addr} {n cap : Nat} {f : Nat → Int} (hS : Src w a (n * 3) f) (hn : n ≤ maxLen) (i j k : Int) :
    Calls Try.prog 5 #[.slice a n cap, .int .i64 i, .int .i64 j, .int .i64 k] w fun e w' => e = .returned (.bool true) ∧ Below w.heap.size w w' := by
  obtain ⟨b, hb⟩ := tells_of (CovP f n i j k)
  go_enter Try.func5, Try.ntmps5
  go_wp2_with fail
  refine (sz_any _ hn).mono ?_
  rintro e w1 ⟨⟨r, rfl, hr⟩, rfl⟩
  rcases hr with rfl | ⟨h0, hsh⟩
  · go_wp2
    go_ret
    exact ⟨rfl, Below.refl _ _⟩
  · have h1 : ¬ r < 0 := by omega
    go_wp2_with fail
    refine (toFacetS_any hS hsh).mono ?_
    rintro e w2 ⟨g2, rfl, -, L2, b2⟩
    go_wp2_with fail
    refine (specCov_any L2.trips hsh i j k b hb).mono ?_
    rintro e w3 ⟨rfl, b3⟩
    have B3 := b2.trans (b3.mono b2.size)
    go_wp2_with fail
    refine (toFacetS_any (hS.below B3) hsh).mono ?_
    rintro e w4 ⟨g4, rfl, -, L4, b4⟩
    have B4 := B3.trans (b4.mono B3.size)
    go_wp2_with fail
    refine (implCov_any L4.trips hsh i j k b hb).mono ?_
    rintro e w5 ⟨rfl, b5⟩
    have L5 := L4.below b5
    have B5 := B4.trans (b5.mono B4.size)
    clear hb
    go_wp2_with fail
    refine (toFacetS_any (hS.below B5) hsh).mono ?_
    rintro e w6 ⟨g6, rfl, -, L6, b6⟩
    have B6 := B5.trans (b6.mono B5.size)
    go_wp2_with fail
    refine (eqFacetS_true (L5.below b6).trips L6.trips hsh).mono ?_
    rintro e w7 ⟨rfl, b7⟩
    have B7 := B6.trans (b7.mono B6.size)
    go_wp2
    go_ret
    exact ⟨rfl, B7⟩
end Go.Proofs.Ytoijklicdjoeaaa
