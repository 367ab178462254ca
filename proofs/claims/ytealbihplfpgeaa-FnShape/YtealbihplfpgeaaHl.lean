/-
  Support, by the program; its law: walked.
-/
import Derived.Test.YtealbihplfpgeaaHk
namespace Go.Proofs.Ytealbihplfpgeaa
open Go.RowKit

set_option maxRecDepth 100000 in
theorem implSupport_any {w : World} {g n c : Nat} {f : Nat → Int} (h : Trips w g n f) (hc : n ≤ c) (hn : n ≤ 1048576) (x y : Int) :
    Calls Try.prog 18 #[.slice (some ⟨g, 0, none⟩) n c, .int .i64 x, .int .i64 y] w fun e w' => (∃ a b : Int, e = .returned (.tuple #[.int .i64 a, .int .i64 b]) ∧ SupA f n x y a b) ∧ Below w.heap.size w w' := by
  by_cases S : SOk n f
  · by_cases hx : -50 ≤ x ∧ x ≤ 50
    · by_cases hy : -50 ≤ y ∧ y ≤ 50
      · exact implSupport_yes S h hc x y hx hy
      · have HA : SupA f n x y 0 0 := .no (fun h => hy h.2.2)
        go_enter Try.func18, Try.ntmps18
        go_wp2_with fail
        refine (implShape_any h hc hn true ⟨fun _ => S, fun _ => rfl⟩).mono ?_
        rintro e w1 ⟨rfl, b1⟩
        go_wp2_with (go_at_call 51; refine (within_any _ _ _ (by decide) (by decide)).mono ?_; rintro e w3 ⟨rfl, rfl⟩)
        exact bodyPost_ret (v := .tuple #[.int .i64 0, .int .i64 0]) (by simp [results, Try.results18, go_sem]) rfl ⟨⟨_, _, rfl, HA⟩, b1⟩
    · have HA : SupA f n x y 0 0 := .no (fun h => hx h.2.1)
      go_enter Try.func18, Try.ntmps18
      go_wp2_with fail
      refine (implShape_any h hc hn true ⟨fun _ => S, fun _ => rfl⟩).mono ?_
      rintro e w1 ⟨rfl, b1⟩
      go_wp2_with (go_at_call 51; refine (within_any _ _ _ (by decide) (by decide)).mono ?_; rintro e w3 ⟨rfl, rfl⟩)
      exact bodyPost_ret (v := .tuple #[.int .i64 0, .int .i64 0]) (by simp [results, Try.results18, go_sem]) rfl ⟨⟨_, _, rfl, HA⟩, b1⟩
  · have HA : SupA f n x y 0 0 := .no (fun h => S h.1)
    go_enter Try.func18, Try.ntmps18
    go_wp2_with fail
    refine (implShape_any h hc hn false ⟨fun h => Bool.noConfusion h, fun h => absurd h S⟩).mono ?_
    rintro e w1 ⟨rfl, b1⟩
    go_wp2
    exact bodyPost_ret (v := .tuple #[.int .i64 0, .int .i64 0]) (by simp [results, Try.results18, go_sem]) rfl ⟨⟨_, _, rfl, HA⟩, b1⟩
theorem exactSupport_walk {w : World} {a : Option Addr} {n cap : Nat} {f : Nat → Int} (hS : Src w a (n * 3) f) (hn : n ≤ maxLen) (x y : Int) :
    Calls Try.prog 7 #[.slice a n cap, .int .i64 x, .int .i64 y] w fun e w' => e = .returned (.bool true) ∧ Below w.heap.size w w' := by
  go_enter Try.func7, Try.ntmps7
  go_wp2_with fail
  refine (sz_any _ hn).mono ?_
  rintro e w1 ⟨⟨r, rfl, hr⟩, rfl⟩
  rcases hr with rfl | ⟨h0, hsh⟩
  · go_wp2
    go_ret
    exact ⟨rfl, Below.refl _ _⟩
  · have h1 : ¬ r < 0 := by omega
    go_wp2_with fail
    refine (toFacetS_any hS hsh).mono ?_
    rintro e w2 ⟨g2, rfl, -, L2, b2⟩
    go_wp2_with fail
    refine (specSupport_any L2.trips hsh x y).mono ?_
    rintro e w3 ⟨⟨p, q, rfl, hR⟩, b3⟩
    have B3 := b2.trans (b3.mono b2.size)
    go_wp2_with fail
    refine (toFacetS_any (hS.below B3) hsh).mono ?_
    rintro e w4 ⟨g4, rfl, -, L4, b4⟩
    have B4 := B3.trans (b4.mono B3.size)
    go_wp2_with fail
    refine (implSupport_any L4.trips (Nat.le_refl _) hsh x y).mono ?_
    rintro e w5 ⟨⟨p', q', rfl, hR'⟩, b5⟩
    obtain ⟨rfl, rfl⟩ := hR.one hR'
    have L5 := L4.below b5
    have B5 := B4.trans (b5.mono B4.size)
    clear hR hR'
    have e1 : (p' != p') = false := bne_self_eq_false p'
    have e2 : (q' != q') = false := bne_self_eq_false q'
    go_wp2_with fail
    refine (toFacetS_any (hS.below B5) hsh).mono ?_
    rintro e w6 ⟨g6, rfl, -, L6, b6⟩
    have B6 := B5.trans (b6.mono B5.size)
    go_wp2_with fail
    refine (eqFacetS_true (L5.below b6).trips L6.trips hsh).mono ?_
    rintro e w7 ⟨rfl, b7⟩
    have B7 := B6.trans (b7.mono B6.size)
    go_wp2
    go_ret
    exact ⟨rfl, B7⟩
end Go.Proofs.Ytealbihplfpgeaa
