/-
  The law FnExactCorners: walked whole.
-/
import Derived.Test.YtealbihplfpgeaaKu
namespace Go.Proofs.Ytealbihplfpgeaa
open Go.RowKit

theorem ark_lt {K : Nat} {t : TypeId} {w : World} {lo hi : Nat} {v : Value} {n k : Nat} {f : Nat → Int} (h : ArK K t w lo hi v n f) (hk : v.ownBlock = some k) : lo ≤ k ∧ k < hi := by
  rcases h with ⟨rfl, -⟩ | ⟨g, c, rfl, h1, h2, -⟩
  · cases hk
  · have e : g = k := by simpa [Value.ownBlock] using hk
    omega
theorem ark_apart {K : Nat} {t : TypeId} {w w' : World} {lo hi lo' hi' : Nat} {v u : Value} {n k : Nat} {f h : Nat → Int} (a : ArK K t w lo hi v n f) (b : ArK K t w' lo' hi' u k h) (hd : hi ≤ lo' ∨ hi' ≤ lo) : Apart v u := fun j h1 h2 => by
  have := ark_lt a h1
  have := ark_lt b h2
  omega
theorem ark_below {K : Nat} {t : TypeId} {w0 w w' : World} {lo hi : Nat} {v : Value} {n N : Nat} {f : Nat → Int} (a : ArK K t w lo hi v n f) (h : Only v w w') (hl : N ≤ lo) (hb : Below N w0 w) (hN : N ≤ w.heap.size) : Below N w0 w' :=
  { os := h.os.trans hb.os, tape := h.tape.trans hb.tape, output := h.output.trans hb.output, size := Nat.le_trans hb.size h.size, block := fun k hk => (h.block k (Nat.lt_of_lt_of_le hk hN) (fun e => by have := ark_lt a e; omega)).trans (hb.block k hk) }
theorem eqCornerA_true {w : World} {lo1 hi1 lo2 hi2 : Nat} {v1 v2 : Value} {n : Nat} {f : Nat → Int} (h1 : ArK 3 33 w lo1 hi1 v1 n f) (h2 : ArK 3 33 w lo2 hi2 v2 n f) (hn : n ≤ 1048576) :
    Calls Try.prog 28 #[v1, v2] w fun e w' => e = .returned (.bool true) ∧ Below w.heap.size w w' := by
  obtain ⟨a1, c1, rfl, -, l1⟩ := h1.ls
  obtain ⟨a2, c2, rfl, -, l2⟩ := h2.ls
  exact eqCornerL_true l1 l2 hn
set_option maxRecDepth 100000 in
set_option maxHeartbeats 4000000 in
theorem exactCorners_walk {w : World} {a : Option Addr} {n cap : Nat} {f : Nat → Int} (hS : Src w a (n * 3) f) (hn : n ≤ maxLen) :
    Calls Try.prog 6 #[.slice a n cap] w fun e w' => e = .returned (.bool true) ∧ Below w.heap.size w w' := by
  go_enter Try.func6, Try.ntmps6
  go_wp2_with fail
  refine (sz_any _ hn).mono ?_
  rintro e w1 ⟨⟨r, rfl, hr⟩, rfl⟩
  rcases hr with rfl | ⟨h0, hsh⟩
  · go_wp2
    go_ret
    exact ⟨rfl, Below.refl _ _⟩
  · have h1 : ¬ r < 0 := by omega
    go_wp2_with fail
    refine (toFacetS_any hS hsh).mono ?_
    rintro e w2 ⟨g2, rfl, -, L2, b2⟩
    go_wp2_with fail
    refine (specCorners_any L2.trips hsh).mono ?_
    rintro e w3 ⟨v0, m, F, rfl, hT, hmn, A0, b3⟩
    have HT : Hid (CorT f n m F) := hT
    have hmm : m ≤ 1048576 := by omega
    have B3 := b2.trans (b3.mono b2.size)
    have b3s := b3.size
    clear b3 hT
    go_wp2_with fail
    refine (toFacetS_any (hS.below B3) hsh).mono ?_
    rintro e w4 ⟨g4, rfl, hg4, L4, b4⟩
    have B4 := B3.trans (b4.mono B3.size)
    have l4 : g4 < w4.heap.size := L4.trips.1
    go_wp2_with fail
    refine (implCorners_any L4.trips (Nat.le_refl n) hsh HT).mono ?_
    rintro e w5 ⟨v1, rfl, A1, b5⟩
    have B5 := B4.trans (b5.mono B4.size)
    have A05 := (A0.below b4).below b5
    have L5 := L4.below b5
    have s5 := b5.size
    clear b5 A0
    go_wp2_with fail
    refine (eqCornerA_true A1 A05 hmm).mono ?_
    rintro e w6 ⟨rfl, b6⟩
    have A06 := A05.below b6
    have A16 := A1.below b6
    have L6 := L5.below b6
    have B6 := B5.trans (b6.mono B5.size)
    clear A05 A1
    go_wp2_with fail
    refine (toFacetS_any (hS.below B6) hsh).mono ?_
    rintro e w7 ⟨g7, rfl, -, L7, b7⟩
    have B7 := B6.trans (b7.mono B6.size)
    go_wp2_with fail
    refine (eqFacetS_true (L6.below b7).trips L7.trips hsh).mono ?_
    rintro e w8 ⟨rfl, b8⟩
    have B8 := B7.trans (b8.mono B7.size)
    have L8 := (L6.below b7).below b8
    have A08 := (A06.below b7).below b8
    have A18 := (A16.below b7).below b8
    clear A06 A16
    have F8 : F3 w8 g4 n := by
      obtain ⟨cur, q1, q2, -⟩ := L8
      exact ⟨cur, q1, q2⟩
    go_wp2_with fail
    refine (markF_any F8 hsh).mono ?_
    rintro e w9 ⟨rfl, K9⟩
    have O9 : Only (.slice (some ⟨g4, 0, none⟩) n n) w8 w9 := .of_kept K9
    have A09 := A08.only O9 (fun k hk hk' => by
      have := ark_lt A08 hk'
      have e : g4 = k := by simpa [Value.ownBlock] using hk
      omega)
    have A19 := A18.only O9 (fun k hk hk' => by
      have := ark_lt A18 hk'
      have e : g4 = k := by simpa [Value.ownBlock] using hk
      omega)
    have B9 : Below w.heap.size w w9 := B8.trans (K9.below (Nat.le_trans B3.size hg4) B8.size)
    clear A08 A18 O9 K9
    have kn : ¬ ((1 + 3 * n : Nat) : Int) < 0 := by omega
    go_wp2_with fail
    refine (eqCornerA_true A19 A09 hmm).mono ?_
    rintro e w10 ⟨rfl, b10⟩
    have A010 := A09.below b10
    have A110 := A19.below b10
    have B10 := B9.trans (b10.mono B9.size)
    clear A09 A19 kn
    go_wp2_with fail
    refine (markCornerK_any A110 hmm 1 (by omega)).mono ?_
    rintro e w11 ⟨rfl, A111, O11⟩
    have A011 := A010.only O11 (ark_apart A110 A010 (.inr (by omega)))
    have B11 : Below w.heap.size w w11 := ark_below A110 O11 B4.size B10 B10.size
    clear A010 A110 O11
    go_wp2_with fail
    refine (heldCornerK_any 1 A111 hmm (by omega)).mono ?_
    rintro e w12 ⟨rfl, b12⟩
    have A012 := A011.below b12
    have A112 := A111.below b12
    have B12 := B11.trans (b12.mono B11.size)
    clear A011 A111
    have kn : ¬ ((1 + m * 3 : Nat) : Int) < 0 := by omega
    have e1 : (((1 + m * 3 : Nat) : Int) != ((1 + m * 3 : Nat) : Int)) = false := bne_self_eq_false _
    go_wp2_with fail
    refine (toFacetS_any (hS.below B12) hsh).mono ?_
    rintro e w13 ⟨g13, rfl, -, L13, b13⟩
    have B13 := B12.trans (b13.mono B12.size)
    go_wp2_with fail
    refine (implCorners_any L13.trips (Nat.le_refl n) hsh HT).mono ?_
    rintro e w14 ⟨v2, rfl, A2, b14⟩
    have B14 := B13.trans (b14.mono B13.size)
    have A014 := (A012.below b13).below b14
    have A114 := (A112.below b13).below b14
    clear b14 A012 A112
    go_wp2_with fail
    refine (eqCornerA_true A2 A014 hmm).mono ?_
    rintro e w15 ⟨rfl, b15⟩
    have A115 := A114.below b15
    have B15 := B14.trans (b15.mono B14.size)
    clear A2 A014 A114
    go_wp2_with fail
    refine (heldCornerK_any 1 A115 hmm (by omega)).mono ?_
    rintro e w16 ⟨rfl, b16⟩
    have B16 := B15.trans (b16.mono B15.size)
    go_wp2
    go_ret
    exact ⟨rfl, B16⟩
end Go.Proofs.Ytealbihplfpgeaa
