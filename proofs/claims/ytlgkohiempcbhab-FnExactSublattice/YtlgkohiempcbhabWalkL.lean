/-
  Sublattice by the specification, and the law on it, walked.
-/
import Derived.Test.YtlgkohiempcbhabWalkJ
import Derived.Test.YtlgkohiempcbhabWalkK
namespace Go.Proofs.Ytlgkohiempcbhab
open Go.RowKit

theorem within_rows {n k : Nat} {f h : Nat → Int} (h1 : detOf n f ≠ 0) (h2 : isM k h) : within n f h = rowsIn f h := by
  have hix : ∀ i, i < 9 → inIx (h i) := fun i hi => by have := h2.2 i hi; unfold inIx; omega
  unfold within rowsIn
  simp [contains, h1, hix]
set_option maxHeartbeats 1600000 in
theorem specSub_any {w : World} {a b : Option Addr} {n k cap cap' : Nat} {f h : Nat → Int} (hs : Src w a n f) (ht : Src w b k h) :
    Calls Try.prog 19 #[.slice a n cap, .slice b k cap'] w fun e w' => e = .returned (.int .i64 (subOf n f k h)) ∧ Below w.heap.size w w' := by
  by_cases h1 : detOf n f = 0
  · have hr : subOf n f k h = 0 := if_pos (.inl h1)
    rw [hr]
    go_enter Try.func19, Try.ntmps19
    go_wp2_with fail
    refine (specDet_any hs).mono ?_
    rw [h1]
    rintro e w1 ⟨rfl, b1⟩
    go_wp2
    go_ret
    exact ⟨rfl, b1⟩
  by_cases h2 : detOf k h = 0
  · have hr : subOf n f k h = 0 := if_pos (.inr (.inl h2))
    rw [hr]
    go_enter Try.func19, Try.ntmps19
    go_wp2_with fail
    refine (specDet_any hs).mono ?_
    rintro e w1 ⟨rfl, b1⟩
    go_wp2_with fail
    refine (specDet_any (ht.below b1)).mono ?_
    rw [h2]
    rintro e w2 ⟨rfl, b2⟩
    go_wp2
    go_ret
    exact ⟨rfl, b1.trans (b2.mono b1.size)⟩
  have hM := isM_of_det h1
  have hN := isM_of_det h2
  obtain ⟨p, po, rfl, plt, pr⟩ := hs.ints9 hM
  obtain ⟨q, qo, rfl, qlt, qr⟩ := ht.ints9 hN
  obtain rfl := hM.1
  obtain rfl := hN.1
  have hwi : within 9 f h = rowsIn f h := within_rows h1 hN
  have hd1 : detOf 9 f = det3 f := by rw [detOf, if_pos hM]
  have hd2 : detOf 9 h = det3 h := by rw [detOf, if_pos hN]
  have hb1 := det_bound hM.2
  have hb2 := det_bound hN.2
  have hbe1 : (det3 f == 0) = false := by rw [hd1] at h1; simpa using h1
  have hbe2 : (det3 h == 0) = false := by rw [hd2] at h2; simpa using h2
  obtain ⟨c, hc⟩ : ∃ c, rowsIn f h = c := ⟨_, rfl⟩
  have hsub : subOf 9 f 9 h = if c = false then 0 else mag ((det3 h).tdiv (det3 f)) := by
    unfold subOf
    rw [hc]
    simp [h1, h2]
  rw [hsub]
  go_enter Try.func19, Try.ntmps19
  go_wp2_with fail
  refine (specDet_any hs).mono ?_
  rintro e w1 ⟨rfl, b1⟩
  go_wp2_with fail
  refine (specDet_any (ht.below b1)).mono ?_
  rintro e w2 ⟨rfl, b2⟩
  replace b1 := b1.trans (b2.mono b1.size)
  clear b2
  go_wp2_with fail
  refine (specWithin_any (hs.below b1) (qr.below qlt b1) (Nat.lt_of_lt_of_le qlt b1.size)).mono ?_
  rw [hwi, hc]
  rintro e w3 ⟨rfl, b3⟩
  replace b1 := b1.trans (b3.mono b1.size)
  clear b3
  cases c
  · go_wp2
    go_ret
    exact ⟨rfl, b1⟩
  · have hd0 : det3 f ≠ 0 := by rw [← hd1]; exact h1
    have hqr : -1000000000000000 ≤ (det3 h).tdiv (det3 f) ∧ (det3 h).tdiv (det3 f) ≤ 1000000000000000 := by
      have : ((det3 h).tdiv (det3 f)).natAbs ≤ (det3 h).natAbs := by rw [Int.natAbs_tdiv]; exact Nat.div_le_self _ _
      omega
    have hwq : IntKind.i64.wrap ((det3 h).tdiv (det3 f)) = (det3 h).tdiv (det3 f) := IntWalk.i64_in _ (by omega)
    go_wp2_with fail
    refine (specDet0_any (qr.below qlt b1) hN.2).mono ?_
    rintro e w4 ⟨rfl, b4⟩
    replace b1 := b1.trans (b4.mono b1.size)
    go_wp2_with fail
    refine (specDet0_any (pr.below plt b1) hM.2).mono ?_
    rintro e w5 ⟨rfl, b5⟩
    replace b1 := b1.trans (b5.mono b1.size)
    go_wp2_with fail
    refine (abs_any _ _ hqr).mono ?_
    rintro e w6 ⟨rfl, rfl⟩
    go_wp2
    go_ret
    exact ⟨rfl, b1⟩
set_option maxHeartbeats 1600000 in
theorem exactSub_walk {w : World} {a b : Option Addr} {n k cap cap' : Nat} {f h : Nat → Int} (hs : Src w a n f) (ht : Src w b k h) (hn : n ≤ maxLen) (hk : k ≤ maxLen) :
    Calls Try.prog 6 #[.slice a n cap, .slice b k cap'] w fun e w' => e = .returned (.bool true) ∧ Below w.heap.size w w' := by
  have hn2 : (n : Int) ≤ 9223372036854775807 := by unfold maxLen at hn; omega
  have hk2 : (k : Int) ≤ 9223372036854775807 := by unfold maxLen at hk; omega
  by_cases hbig : 1048576 < n
  · have hb' : (1048576 : Int) < (n : Int) := by omega
    go_enter Try.func6, Try.ntmps6
    go_wp2
    go_ret
    exact ⟨rfl, Below.refl _ _⟩
  have hb' : ¬ (1048576 : Int) < (n : Int) := by omega
  have hn1 : n ≤ 1048576 := by omega
  by_cases hbig2 : 1048576 < k
  · have hb2' : (1048576 : Int) < (k : Int) := by omega
    go_enter Try.func6, Try.ntmps6
    go_wp2
    go_ret
    exact ⟨rfl, Below.refl _ _⟩
  have hb2' : ¬ (1048576 : Int) < (k : Int) := by omega
  have hk1 : k ≤ 1048576 := by omega
  obtain ⟨R, hR⟩ : ∃ R, subOf n f k h = R := ⟨_, rfl⟩
  go_enter Try.func6, Try.ntmps6
  go_wp2_with fail
  refine (toInts_any hs hn1).mono ?_
  rintro e w1 ⟨g1, rfl, -, o1, b1⟩
  go_wp2_with fail
  refine (toInts_any (ht.below b1) hk1).mono ?_
  rintro e w2 ⟨g2, rfl, -, o2, b2⟩
  replace o1 := o1.below b2
  replace b1 := b1.trans (b2.mono b1.size)
  go_wp2_with fail
  refine (specSub_any o1.src o2.src).mono ?_
  rw [hR]
  rintro e w3 ⟨rfl, b3⟩
  replace b1 := b1.trans (b3.mono b1.size)
  clear o1 o2 b2 b3
  go_wp2_with fail
  refine (toInts_any (hs.below b1) hn1).mono ?_
  rintro e w4 ⟨g4, rfl, -, o4, b4⟩
  replace b1 := b1.trans (b4.mono b1.size)
  go_wp2_with fail
  refine (toInts_any (ht.below b1) hk1).mono ?_
  rintro e w5 ⟨g5, rfl, -, o5, b5⟩
  replace o4 := o4.below b5
  replace b1 := b1.trans (b5.mono b1.size)
  go_wp2_with fail
  refine (implSub_any o4.src o5.src).mono ?_
  rw [hR]
  rintro e w6 ⟨rfl, b6⟩
  replace o4 := o4.below b6
  replace o5 := o5.below b6
  replace b1 := b1.trans (b6.mono b1.size)
  clear b4 b5 b6
  go_wp2_with fail
  refine (toInts_any (hs.below b1) hn1).mono ?_
  rintro e w7 ⟨g7, rfl, -, o7, b7⟩
  replace o4 := o4.below b7
  replace o5 := o5.below b7
  replace b1 := b1.trans (b7.mono b1.size)
  go_wp2_with fail
  refine (eqInts_true o4.row o7.row o4.lt o7.lt hn1).mono ?_
  rintro e w8 ⟨rfl, b8⟩
  replace o5 := o5.below b8
  replace b1 := b1.trans (b8.mono b1.size)
  clear o4 o7 b7 b8
  go_wp2_with fail
  refine (toInts_any (ht.below b1) hk1).mono ?_
  rintro e w9 ⟨g9, rfl, -, o9, b9⟩
  replace o5 := o5.below b9
  replace b1 := b1.trans (b9.mono b1.size)
  go_wp2_with fail
  refine (eqInts_true o5.row o9.row o5.lt o9.lt hk1).mono ?_
  rintro e w10 ⟨rfl, b10⟩
  replace b1 := b1.trans (b10.mono b1.size)
  go_wp2
  go_ret
  exact ⟨rfl, b1⟩
theorem sub_of {w : World} {a b : Option Addr} {n k cap cap' : Nat} {zs ys : List Int} (h1 : IsRow .i64 w a n cap zs) (h2 : IsRow .i64 w b k cap' ys) :
    Calls Try.prog 6 #[.slice a n cap, .slice b k cap'] w fun e w' => e = .returned (.bool true) ∧ Below w.heap.size w w' := by
  obtain ⟨f, hs, hn, -⟩ := src_of h1
  obtain ⟨h, ht, hk, -⟩ := src_of h2
  exact exactSub_walk hs ht hn hk
end Go.Proofs.Ytlgkohiempcbhab
