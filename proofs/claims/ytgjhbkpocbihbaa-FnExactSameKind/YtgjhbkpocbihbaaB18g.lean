/-
  The law of SameKind: walked.
-/
import Derived.Test.YtgjhbkpocbihbaaB18f
import Derived.Test.YtgjhbkpocbihbaaMO
namespace Go.Proofs.Ytgjhbkpocbihbaa
open Go.RowKit

set_option maxRecDepth 100000 in
set_option maxHeartbeats 1600000 in
/-- How much is left. -/
theorem szOpS_from {w : World} {a : Option Addr} {n cap : Nat} {A : Nat → OpD} (l : Int) (hl : 0 ≤ l ∧ l ≤ 1048576) (hS : OpsS w a n A) (hn : n ≤ maxLen) :
    Calls Try.prog 4 #[.slice a n cap, .int .i64 l] w fun e w' => ∃ r : Int, e = .returned (.int .i64 r) ∧ (r = -1 ∨ (0 ≤ r ∧ r ≤ 1048576 ∧ Short n A ∧ totN A n ≤ 1048576)) ∧ Below w.heap.size w w' := by
  unfold maxLen at hn
  obtain ⟨hl0, hl1⟩ := hl
  by_cases hb : l < n
  · have h1 : l - (n : Int) < 0 := by omega
    go_enter Try.func4, Try.ntmps4
    go_wp2
    go_ret
    exact ⟨_, rfl, .inl rfl, Below.refl _ _⟩
  · have h1 : ¬ l - (n : Int) < 0 := by omega
    go_enter Try.func4, Try.ntmps4
    go_wp2
    go_loopw [1, 5] (fun l s wr => ∃ (k : Nat) (r : Int), k ≤ n ∧ s = .int .i64 k ∧ l = .int .i64 r ∧ 0 ≤ r ∧ r + (totN A k : Int) ≤ 1048576 ∧ Hid (∀ i, i < k → (A i).n ≤ 1048576 ∧ (A i).k ≤ 1048576) ∧ Below w.heap.size w wr) (fun _ s _ => n - (intOf s).toNat)
    case atStart => exact ⟨0, _, Nat.zero_le _, rfl, rfl, by omega, by simp [totN]; omega, fun i hi => by omega, Below.refl _ _⟩
    case round =>
      obtain ⟨k, r, hk, rfl, rfl, hr0, hr1, hok, B⟩ := hrel
      by_cases hlt : k < n
      · have hlt' : (k : Int) < (n : Int) := by omega
        rcases hS.below B with h0 | ⟨g, off, rfl, hg, rr⟩
        · omega
        obtain ⟨x, c, y, d, e1, e2, s1, s2, m1, m2⟩ := rr k hlt
        obtain ⟨N, hN⟩ : ∃ N, (A k).n = N := ⟨_, rfl⟩
        obtain ⟨K, hK⟩ : ∃ N, (A k).k = N := ⟨_, rfl⟩
        rw [hN] at e1 m1
        rw [hK] at e2 m2
        clear rr s1 s2
        go_wp2_with fail
        refine (szOp_any x y N c K d r wr m1 m2 (by omega)).mono ?_
        rintro e w3 ⟨r', rfl, hr', b3⟩
        replace B := B.trans (b3.mono B.size)
        clear b3 e1 e2 m1 m2
        rcases hr' with rfl | ⟨he, hr'⟩
        · go_wp2
          go_ret
          exact ⟨_, rfl, .inl rfl, B⟩
        · have hr2 : ¬ r' < 0 := by omega
          have HO : Hid (∀ i, i < k + 1 → (A i).n ≤ 1048576 ∧ (A i).k ≤ 1048576) := fun i hi => by
            by_cases e : i = k
            · rw [e, hN, hK]; omega
            · exact hok.out i (by omega)
          have hr3 : r' + (totN A (k + 1) : Int) ≤ 1048576 := by simp only [totN]; rw [hN, hK]; omega
          clear hok he
          go_wp2
          exact ⟨⟨k + 1, r', by omega, by go_num, rfl, hr', hr3, HO, B⟩, by simp [intOf]; omega⟩
      · have hlt' : ¬ (k : Int) < (n : Int) := by omega
        obtain rfl : k = n := by omega
        go_wp2
        go_ret
        exact ⟨_, rfl, .inr ⟨hr0, by omega, ⟨by omega, hok.out⟩, by omega⟩, B⟩
set_option maxRecDepth 100000 in
set_option maxHeartbeats 3000000 in
theorem exactSK_walk {w : World} {a b : Option Addr} {n m cap cap' : Nat} {A C : Nat → OpD} (hS : OpsS w a n A) (hn : n ≤ maxLen) (hS2 : OpsS w b m C) (hm : m ≤ maxLen) :
    Calls Try.prog 3 #[.slice a n cap, .slice b m cap'] w fun e w' => e = .returned (.bool true) ∧ Below w.heap.size w w' := by
  have HS := hid_of hS
  have HS2 := hid_of hS2
  clear hS hS2
  go_enter Try.func3, Try.ntmps3
  go_wp2_with fail
  refine (szOpS_from 1048576 ⟨by omega, by omega⟩ HS.out hn).mono ?_
  rintro e w1 ⟨rr, rfl, hr, b1⟩
  have HB := hid_of b1
  clear b1
  rcases hr with rfl | ⟨h0, h0', hsh, htot⟩
  · go_wp2
    go_ret
    exact ⟨rfl, HB.out⟩
  have h1 : ¬ rr < 0 := by omega
  have HSH := hid_of hsh
  clear hsh htot
  go_wp2_with fail
  refine (szOpS_from rr ⟨h0, h0'⟩ (HS2.out.below HB.out) hm).mono ?_
  rintro e w2 ⟨r2, rfl, hr, b2⟩
  replace HB := hid_of (HB.out.trans (b2.mono HB.out.size))
  clear b2
  rcases hr with rfl | ⟨g0, -, hsh, htot⟩
  · go_wp2
    go_ret
    exact ⟨rfl, HB.out⟩
  have h2 : ¬ r2 < 0 := by omega
  have HSH2 := hid_of hsh
  clear hsh htot h0 h0'
  go_wp2_with fail
  refine (toOpS_any (HS.out.below HB.out) HSH.out).mono ?_
  rintro e w3 ⟨g3, rfl, L3, b3⟩
  have HL3 := hid_of L3
  replace HB := hid_of (HB.out.trans (b3.mono HB.out.size))
  clear L3 b3
  go_wp2_with fail
  refine (toOpS_any (HS2.out.below HB.out) HSH2.out).mono ?_
  rintro e w4 ⟨g4, rfl, L4, b4⟩
  have HL4 := hid_of L4
  replace HL3 := hid_of (HL3.out.below b4)
  replace HB := hid_of (HB.out.trans (b4.mono HB.out.size))
  clear L4 b4
  go_wp2_with fail
  refine (specSK_any HL3.out HL4.out HSH.out.1 HSH2.out.1).mono ?_
  rintro e w5 ⟨⟨r5, rfl, hr5⟩, b5⟩
  have HR5 := hid_of hr5
  replace HB := hid_of (HB.out.trans (b5.mono HB.out.size))
  clear b5 hr5 HL3 HL4
  go_wp2_with fail
  refine (toOpS_any (HS.out.below HB.out) HSH.out).mono ?_
  rintro e w6 ⟨g6, rfl, L6, b6⟩
  have HL6 := hid_of L6
  replace HB := hid_of (HB.out.trans (b6.mono HB.out.size))
  clear L6 b6
  go_wp2_with fail
  refine (toOpS_any (HS2.out.below HB.out) HSH2.out).mono ?_
  rintro e w7 ⟨g7, rfl, L7, b7⟩
  have HL7 := hid_of L7
  replace HL6 := hid_of (HL6.out.below b7)
  replace HB := hid_of (HB.out.trans (b7.mono HB.out.size))
  clear L7 b7
  go_wp2_with fail
  refine (implSK_any HL6.out HL7.out HSH.out.1 HSH2.out.1).mono ?_
  rintro e w8 ⟨⟨r8, rfl, hr8⟩, b8⟩
  obtain rfl : r8 = r5 := by
    rw [Bool.eq_iff_iff]
    exact hr8.trans HR5.out.symm
  replace HL6 := hid_of (HL6.out.below b8)
  replace HL7 := hid_of (HL7.out.below b8)
  replace HB := hid_of (HB.out.trans (b8.mono HB.out.size))
  have hrr : (r8 != r8) = false := by cases r8 <;> rfl
  clear b8 hr8 HR5
  go_wp2_with fail
  refine (toOpS_any (HS.out.below HB.out) HSH.out).mono ?_
  rintro e w9 ⟨g9, rfl, L9, b9⟩
  have HL9 := hid_of L9
  replace HL6 := hid_of (HL6.out.below b9)
  replace HL7 := hid_of (HL7.out.below b9)
  replace HB := hid_of (HB.out.trans (b9.mono HB.out.size))
  clear b9 L9
  go_wp2_with fail
  refine (eqOpS_true HL6.out HL9.out HSH.out).mono ?_
  rintro e w10 ⟨rfl, b10⟩
  replace HL7 := hid_of (HL7.out.below b10)
  replace HB := hid_of (HB.out.trans (b10.mono HB.out.size))
  clear b10 HL6 HL9
  go_wp2_with fail
  refine (toOpS_any (HS2.out.below HB.out) HSH2.out).mono ?_
  rintro e w11 ⟨g11, rfl, L11, b11⟩
  have HL11 := hid_of L11
  replace HL7 := hid_of (HL7.out.below b11)
  replace HB := hid_of (HB.out.trans (b11.mono HB.out.size))
  clear b11 L11
  go_wp2_with fail
  refine (eqOpS_true HL7.out HL11.out HSH2.out).mono ?_
  rintro e w12 ⟨rfl, b12⟩
  replace HB := hid_of (HB.out.trans (b12.mono HB.out.size))
  clear b12 HL7 HL11
  go_wp2
  go_ret
  exact ⟨rfl, HB.out⟩
end Go.Proofs.Ytgjhbkpocbihbaa
