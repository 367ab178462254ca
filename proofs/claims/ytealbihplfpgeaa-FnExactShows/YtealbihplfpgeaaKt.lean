/-
  The law FnExactShows: walked whole.
-/
import Derived.Test.YtealbihplfpgeaaKs
namespace Go.Proofs.Ytealbihplfpgeaa
open Go.RowKit

set_option maxRecDepth 100000 in
set_option maxHeartbeats 4000000 in
theorem exactShows_walk {w : World} {a : Option Addr} {n cap : Nat} {f : Nat → Int} (hS : Src w a (n * 3) f) (hn : n ≤ maxLen) :
    Calls Try.prog 5 #[.slice a n cap] w fun e w' => e = .returned (.bool true) ∧ Below w.heap.size w w' := by
  go_enter Try.func5, Try.ntmps5
  go_wp2_with fail
  refine (sz_any _ hn).mono ?_
  rintro e w1 ⟨⟨r, rfl, hr⟩, rfl⟩
  rcases hr with rfl | ⟨h0, hsh⟩
  · go_wp2
    go_ret
    exact ⟨rfl, Below.refl _ _⟩
  · have h1 : ¬ r < 0 := by omega
    have sl := so_le f n
    obtain ⟨m, hm⟩ : ∃ m, (so f n).length = m := ⟨_, rfl⟩
    have SP := fun (w : World) (g c : Nat) (h : Trips w g n f) => specShows_any (c := c) h hsh
    have IP := fun (w : World) (g : Nat) (h : Trips w g n f) => implShows_any h (Nat.le_refl n) hsh
    rw [hm] at sl SP IP
    clear hm
    have hmm : m ≤ 1048576 := by omega
    go_wp2_with fail
    refine (toFacetS_any hS hsh).mono ?_
    rintro e w2 ⟨g2, rfl, -, L2, b2⟩
    go_wp2_with fail
    refine (SP _ _ _ L2.trips).mono ?_
    rintro e w3 ⟨v0, rfl, G3⟩
    have A0 := G3.arr
    have B3 := b2.trans (G3.b.mono b2.size)
    have b3s := G3.b.size
    clear G3
    go_wp2_with fail
    refine (toFacetS_any (hS.below B3) hsh).mono ?_
    rintro e w4 ⟨g4, rfl, hg4, L4, b4⟩
    have B4 := B3.trans (b4.mono B3.size)
    have l4 : g4 < w4.heap.size := L4.trips.1
    go_wp2_with fail
    refine (IP _ _ L4.trips).mono ?_
    rintro e w5 ⟨v1, rfl, G5⟩
    have A1 := G5.arr
    have B5 := B4.trans (G5.b.mono B4.size)
    have A05 := (A0.below b4).below G5.b
    have L5 := L4.below G5.b
    have s5 := G5.b.size
    clear G5 A0
    go_wp2_with fail
    refine (eqArr_true A1 A05 hmm).mono ?_
    rintro e w6 ⟨rfl, b6⟩
    have A06 := A05.below b6
    have A16 := A1.below b6
    have L6 := L5.below b6
    have B6 := B5.trans (b6.mono B5.size)
    clear A05 A1
    go_wp2_with fail
    refine (toFacetS_any (hS.below B6) hsh).mono ?_
    rintro e w7 ⟨g7, rfl, -, L7, b7⟩
    have B7 := B6.trans (b7.mono B6.size)
    go_wp2_with fail
    refine (eqFacetS_true (L6.below b7).trips L7.trips hsh).mono ?_
    rintro e w8 ⟨rfl, b8⟩
    have B8 := B7.trans (b8.mono B7.size)
    have L8 := (L6.below b7).below b8
    have A08 := (A06.below b7).below b8
    have A18 := (A16.below b7).below b8
    clear A06 A16
    have F8 : F3 w8 g4 n := by
      obtain ⟨cur, q1, q2, -⟩ := L8
      exact ⟨cur, q1, q2⟩
    go_wp2_with fail
    refine (markF_any F8 hsh).mono ?_
    rintro e w9 ⟨rfl, K9⟩
    have O9 : Only (.slice (some ⟨g4, 0, none⟩) n n) w8 w9 := .of_kept K9
    have A09 := A08.only O9 (fun k hk hk' => by
      have := A08.lt hk'
      have e : g4 = k := by simpa [Value.ownBlock] using hk
      omega)
    have A19 := A18.only O9 (fun k hk hk' => by
      have := A18.lt hk'
      have e : g4 = k := by simpa [Value.ownBlock] using hk
      omega)
    have B9 : Below w.heap.size w w9 := B8.trans (K9.below (Nat.le_trans B3.size hg4) B8.size)
    clear A08 A18 O9 K9
    have kn : ¬ ((1 + 3 * n : Nat) : Int) < 0 := by omega
    go_wp2_with fail
    refine (eqArr_true A19 A09 hmm).mono ?_
    rintro e w10 ⟨rfl, b10⟩
    have A010 := A09.below b10
    have A110 := A19.below b10
    have B10 := B9.trans (b10.mono B9.size)
    clear A09 A19 kn
    go_wp2_with fail
    refine (markArr_any A110 hmm 1 (by omega)).mono ?_
    rintro e w11 ⟨rfl, A111, O11⟩
    have A011 := A010.only O11 (A110.apart A010 (.inr (by omega)))
    have B11 : Below w.heap.size w w11 := O11.below A110 B4.size B10 B10.size
    clear A010 A110 O11
    go_wp2_with fail
    refine (heldArr_any 1 A111 hmm (by omega)).mono ?_
    rintro e w12 ⟨rfl, b12⟩
    have A012 := A011.below b12
    have A112 := A111.below b12
    have B12 := B11.trans (b12.mono B11.size)
    clear A011 A111
    have kn : ¬ ((1 + m : Nat) : Int) < 0 := by omega
    have e1 : (((1 + m : Nat) : Int) != ((1 + m : Nat) : Int)) = false := bne_self_eq_false _
    go_wp2_with fail
    refine (toFacetS_any (hS.below B12) hsh).mono ?_
    rintro e w13 ⟨g13, rfl, -, L13, b13⟩
    have B13 := B12.trans (b13.mono B12.size)
    go_wp2_with fail
    refine (IP _ _ L13.trips).mono ?_
    rintro e w14 ⟨v2, rfl, G14⟩
    have A2 := G14.arr
    have B14 := B13.trans (G14.b.mono B13.size)
    have A014 := (A012.below b13).below G14.b
    have A114 := (A112.below b13).below G14.b
    clear G14 A012 A112
    go_wp2_with fail
    refine (eqArr_true A2 A014 hmm).mono ?_
    rintro e w15 ⟨rfl, b15⟩
    have A115 := A114.below b15
    have B15 := B14.trans (b15.mono B14.size)
    clear A2 A014 A114
    go_wp2_with fail
    refine (heldArr_any 1 A115 hmm (by omega)).mono ?_
    rintro e w16 ⟨rfl, b16⟩
    have B16 := B15.trans (b16.mono B15.size)
    go_wp2
    go_ret
    exact ⟨rfl, B16⟩
end Go.Proofs.Ytealbihplfpgeaa
