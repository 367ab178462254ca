/-
  The law FnExactFigure: walked.
-/
import Derived.Test.YtnlbnjdfkbhkhaaMb
import Derived.Test.YtnlbnjdfkbhkhaaMc
namespace Go.Proofs.Ytnlbnjdfkbhkhaa
open Go.RowKit

theorem FigT.shape {f : Nat → Int} {n : Nat} {v : Value} (h : FigT f n v) : ∃ a b c, v = .tuple #[.int .i64 a, .int .i64 b, .bool c] := by
  rcases h with ⟨h1, h2, h3, rfl⟩ | ⟨h1, rfl⟩
  · exact ⟨_, _, _, rfl⟩
  · exact ⟨_, _, _, rfl⟩
set_option maxRecDepth 100000 in
set_option maxHeartbeats 3200000 in
theorem exactFigure_walk {w : World} {a : Option Addr} {n cap : Nat} {f : Nat → Int} (hS : Src w a (n * 8) f) (hn : n ≤ maxLen) :
    Calls Try.prog 3 #[.slice a n cap] w fun e w' => e = .returned (.bool true) ∧ Below w.heap.size w w' := by
  go_enter Try.func3, Try.ntmps3
  go_wp2_with fail
  refine (szMerged_any 1048576 (by omega) _ hn).mono ?_
  rintro e w1 ⟨⟨r, rfl, hr⟩, rfl⟩
  rcases hr with rfl | ⟨h0, -, hsh⟩
  · go_wp2
    go_ret
    exact ⟨rfl, Below.refl _ _⟩
  · have h1 : ¬ r < 0 := by omega
    go_wp2_with fail
    refine (toMergedS_any hS hsh).mono ?_
    rintro e w2 ⟨g2, rfl, -, L2, b2⟩
    go_wp2_with fail
    refine (specFig_any L2.recs hsh).mono ?_
    rintro e w3 ⟨v, rfl, T3, b3⟩
    obtain ⟨x, y, z, rfl⟩ := T3.shape
    have B3 := b2.trans (b3.mono b2.size)
    go_wp2_with fail
    refine (toMergedS_any (hS.below B3) hsh).mono ?_
    rintro e w4 ⟨g4, rfl, -, L4, b4⟩
    have B4 := B3.trans (b4.mono B3.size)
    go_wp2_with fail
    refine (implFig_any L4.recs hsh).mono ?_
    rintro e w5 ⟨v5, rfl, T5, b5⟩
    obtain rfl := T3.same T5
    have L5 := L4.below b5
    have B5 := B4.trans (b5.mono B4.size)
    clear T3 T5
    have e1 : (x != x) = false := bne_self_eq_false _
    have e2 : (y != y) = false := bne_self_eq_false _
    have e3 : (z != z) = false := bne_self_eq_false _
    go_wp2_with fail
    refine (toMergedS_any (hS.below B5) hsh).mono ?_
    rintro e w6 ⟨g6, rfl, -, L6, b6⟩
    have B6 := B5.trans (b6.mono B5.size)
    go_wp2_with fail
    refine (eqMergedS_true (L5.below b6).recs L6.recs hsh).mono ?_
    rintro e w7 ⟨rfl, b7⟩
    have B7 := B6.trans (b7.mono B6.size)
    go_wp2
    go_ret
    exact ⟨rfl, B7⟩
end Go.Proofs.Ytnlbnjdfkbhkhaa
