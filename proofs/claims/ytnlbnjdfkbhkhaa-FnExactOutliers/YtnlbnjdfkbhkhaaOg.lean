/-
  The law FnExactOutliers: walked whole.
-/
import Derived.Test.YtnlbnjdfkbhkhaaOf
namespace Go.Proofs.Ytnlbnjdfkbhkhaa
open Go.RowKit

theorem OutA.len {f : Nat → Int} {n : Nat} {M : Int} {ok : Prop} {A : List Int} (h : OutA f n M ok A) : A.length ≤ n := by
  rcases h with ⟨-, l, G, -, -, rfl⟩ | ⟨-, rfl⟩
  · have := List.length_filter_le G (List.range n)
    simpa [toI, gl] using this
  · exact Nat.zero_le _
set_option maxRecDepth 100000 in
set_option maxHeartbeats 4000000 in
theorem exactOutliers_walk {w : World} {a : Option Addr} {n cap : Nat} {f : Nat → Int} (M : Int) (hS : Src w a (n * 4) f) (hn : n ≤ maxLen) :
    Calls Try.prog 4 #[.slice a n cap, .int .i64 M] w fun e w' => e = .returned (.bool true) ∧ Below w.heap.size w w' := by
  go_enter Try.func4, Try.ntmps4
  go_wp2_with fail
  refine (szObs_any 1048576 (by omega) _ hn).mono ?_
  rintro e w1 ⟨⟨r, rfl, hr⟩, rfl⟩
  rcases hr with rfl | ⟨h0, -, hsh⟩
  · go_wp2
    go_ret
    exact ⟨rfl, Below.refl _ _⟩
  · have h1 : ¬ r < 0 := by omega
    go_wp2_with fail
    refine (toObsS_any hS hsh).mono ?_
    rintro e w2 ⟨g2, rfl, -, L2, b2⟩
    go_wp2_with fail
    refine (specOut_any L2.recs hsh).mono ?_
    rintro e w3 ⟨v0, Z, rfl, G3, hZ, b3⟩
    have A0 := G3.arr
    have B3 := b2.trans (b3.mono b2.size)
    have b3s := b3.size
    have hmm0 : Z.length ≤ n := OutA.len hZ
    obtain ⟨m, hm⟩ : ∃ m, Z.length = m := ⟨_, rfl⟩
    rw [hm] at A0 hmm0
    have hmm : m ≤ 1048576 := by omega
    have IP : ∀ (w : World) (g : Nat), Recs 4 w g n f → Calls Try.prog 13 #[.slice (some ⟨g, 0, none⟩) n n, .int .i64 M] w fun e w' => ∃ v, e = .returned v ∧ Arr w' w.heap.size w'.heap.size v m (fun i => Z.getD i 0) ∧ Below w.heap.size w w' := fun w g hr => (implOut_any hr hsh).mono (by
      rintro e w' ⟨v, Z', rfl, G, hZ', b⟩
      obtain rfl := hZ.same hZ'
      have := G.arr
      rw [hm] at this
      exact ⟨v, rfl, this, b⟩)
    clear G3 hZ hm
    go_wp2_with fail
    refine (toObsS_any (hS.below B3) hsh).mono ?_
    rintro e w4 ⟨g4, rfl, hg4, L4, b4⟩
    have B4 := B3.trans (b4.mono B3.size)
    have l4 : g4 < w4.heap.size := L4.recs.1
    go_wp2_with fail
    refine (IP _ _ L4.recs).mono ?_
    rintro e w5 ⟨v1, rfl, A1, b5⟩
    have B5 := B4.trans (b5.mono B4.size)
    have A05 := (A0.below b4).below b5
    have L5 := L4.below b5
    have s5 := b5.size
    clear A0
    go_wp2_with fail
    refine (eqArr_true A1 A05 hmm).mono ?_
    rintro e w6 ⟨rfl, b6⟩
    have A06 := A05.below b6
    have A16 := A1.below b6
    have L6 := L5.below b6
    have B6 := B5.trans (b6.mono B5.size)
    clear A05 A1
    go_wp2_with fail
    refine (toObsS_any (hS.below B6) hsh).mono ?_
    rintro e w7 ⟨g7, rfl, -, L7, b7⟩
    have B7 := B6.trans (b7.mono B6.size)
    go_wp2_with fail
    refine (eqObsS_true (L6.below b7).recs L7.recs hsh).mono ?_
    rintro e w8 ⟨rfl, b8⟩
    have B8 := B7.trans (b8.mono B7.size)
    have L8 := (L6.below b7).below b8
    have A08 := (A06.below b7).below b8
    have A18 := (A16.below b7).below b8
    clear A06 A16
    go_wp2_with fail
    refine (markObsS_any 1 (by omega) L8.room hsh).mono ?_
    rintro e w9 ⟨rfl, K9⟩
    have O9 : Only (.slice (some ⟨g4, 0, none⟩) n n) w8 w9 := .of_kept K9
    have A09 := A08.only O9 (fun k hk hk' => by
      have := A08.lt hk'
      have e : g4 = k := by simpa [Value.ownBlock] using hk
      omega)
    have A19 := A18.only O9 (fun k hk hk' => by
      have := A18.lt hk'
      have e : g4 = k := by simpa [Value.ownBlock] using hk
      omega)
    have B9 : Below w.heap.size w w9 := B8.trans (K9.below (Nat.le_trans B3.size hg4) B8.size)
    clear A08 A18 O9 K9
    have kn : ¬ (1 + 4 * (n : Int)) < 0 := by omega
    go_wp2_with fail
    refine (eqArr_true A19 A09 hmm).mono ?_
    rintro e w10 ⟨rfl, b10⟩
    have A010 := A09.below b10
    have A110 := A19.below b10
    have B10 := B9.trans (b10.mono B9.size)
    clear A09 A19 kn
    go_wp2_with fail
    refine (markArr_any A110 hmm 1 (by omega)).mono ?_
    rintro e w11 ⟨rfl, A111, O11⟩
    have A011 := A010.only O11 (A110.apart A010 (.inr (by omega)))
    have B11 : Below w.heap.size w w11 := O11.below A110 B4.size B10 B10.size
    clear A010 A110 O11
    go_wp2_with fail
    refine (heldArr_any 1 A111 hmm (by omega)).mono ?_
    rintro e w12 ⟨rfl, b12⟩
    have A012 := A011.below b12
    have A112 := A111.below b12
    have B12 := B11.trans (b12.mono B11.size)
    clear A011 A111
    have kn : ¬ ((1 + m : Nat) : Int) < 0 := by omega
    have e1 : (((1 + m : Nat) : Int) != ((1 + m : Nat) : Int)) = false := bne_self_eq_false _
    go_wp2_with fail
    refine (toObsS_any (hS.below B12) hsh).mono ?_
    rintro e w13 ⟨g13, rfl, -, L13, b13⟩
    have B13 := B12.trans (b13.mono B12.size)
    go_wp2_with fail
    refine (IP _ _ L13.recs).mono ?_
    rintro e w14 ⟨v2, rfl, A2, b14⟩
    have B14 := B13.trans (b14.mono B13.size)
    have A014 := (A012.below b13).below b14
    have A114 := (A112.below b13).below b14
    clear A012 A112
    go_wp2_with fail
    refine (eqArr_true A2 A014 hmm).mono ?_
    rintro e w15 ⟨rfl, b15⟩
    have A115 := A114.below b15
    have B15 := B14.trans (b15.mono B14.size)
    clear A2 A014 A114
    go_wp2_with fail
    refine (heldArr_any 1 A115 hmm (by omega)).mono ?_
    rintro e w16 ⟨rfl, b16⟩
    have B16 := B15.trans (b16.mono B15.size)
    go_wp2
    go_ret
    exact ⟨rfl, B16⟩
end Go.Proofs.Ytnlbnjdfkbhkhaa
