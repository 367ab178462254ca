/-
  The law that Factors answers as the specification: walked.
-/
import Derived.Test.YtnkmiljnilmicaaFc3
import Derived.Test.YtnkmiljnilmicaaFd3
import Derived.Test.YtnkmiljnilmicaaFs
namespace Go.Proofs.Ytnkmiljnilmicaa
open Go.RowKit Go.Shelf

/-- How both sides end. -/
def TelE (D : List ByteArray) (w : World) (e : Ending) (w' : World) : Prop := (∃ v, e = .returned v ∧ TxL w' w.heap.size v D) ∧ Below w.heap.size w w'
theorem fac_one (s : ByteArray) (n : Int) : ∃ D : List ByteArray, D.length ≤ 1001 ∧ (∀ w, Calls Try.prog 10 #[.string s, .int .i64 n] w (TelE D w)) ∧ ∀ w, Calls Try.prog 8 #[.string s, .int .i64 n] w (TelE D w) := by
  by_cases h : rowOk s 1000 = true ∧ 1 ≤ n ∧ n ≤ 40
  · obtain ⟨h1, h2, h3⟩ := h
    obtain ⟨k, rfl⟩ := Int.eq_ofNat_of_zero_le (show 0 ≤ n by omega)
    have hk : 1 ≤ k ∧ k ≤ 40 := by omega
    obtain ⟨hsz, -⟩ := rowOk_iff.1 h1
    have hF := sort_facD (s := s) (n := k) (m := s.size + 1 - k) rfl (L := (List.range (s.size + 1 - k)).map (sx s k)) rfl
    generalize hE : List.map lb _ = E at hF
    refine ⟨E, ?_, fun w => ?_, fun w => ?_⟩
    · rw [← hE, List.length_map, List.length_mergeSort, List.length_map]
      have := dd_len ((List.range (s.size + 1 - k)).map (sx s k))
      rw [List.length_map, List.length_range] at this
      omega
    · refine (specFactors_yes (w := w) s k h1 hk).mono ?_
      rintro e w' ⟨⟨D, v, hD, rfl, hT⟩, hb⟩
      rw [(hD.fac rfl).same hF] at hT
      exact ⟨⟨v, rfl, hT⟩, hb⟩
    · refine (implFactors_yes (w := w) s k h1 hk).mono ?_
      rintro e w' ⟨⟨D, g, c, hD, rfl, -, -, -, -, hT⟩, hb⟩
      refine ⟨⟨_, rfl, ?_⟩, hb⟩
      have e := hD.same hF
      rw [← e]
      exact hT
  · exact ⟨[], Nat.zero_le _, fun w => specFactors_no s n h, fun w => implFactors_no s n h⟩
theorem TxL.strs {w : World} {B : Nat} {v : Value} {l : List ByteArray} (h : TxL w B v l) : ∃ g c, v = .slice (some ⟨g, 0, none⟩) l.length c ∧ Strs w g 0 l.length (fun i => l.getD i ⟨#[]⟩) ∧ g < w.heap.size ∧ B ≤ g := by
  obtain ⟨g, c, e, hc, h1, h2, -⟩ := h.open
  refine ⟨g, c, e, fun i hi => ?_, h1, h2⟩
  rw [Nat.zero_add]
  exact hc i _ (by
    show l[i]? = some (l.getD i ⟨#[]⟩)
    rw [List.getD_eq_getElem?_getD, List.getElem?_eq_getElem hi]
    rfl)
theorem strs_below {w w' : World} {g n : Nat} {f : Nat → ByteArray} (h : Strs w g 0 n f) (hg : g < w.heap.size) (hb : Below w.heap.size w w') : Strs w' g 0 n f := fun i hi => (hb.cell (p := ⟨g, 0 + i, none⟩) hg).trans (h i hi)
theorem TxL.made {w : World} {B g c : Nat} {l : List ByteArray} {f : Nat → ByteArray} (h : TxL w B (.slice (some ⟨g, 0, none⟩) l.length c) l) : MadeS w g c 0 f ∧ l.length ≤ c := by
  obtain ⟨cur, -, hh, h1, -, h2, -⟩ := h.parts
  exact ⟨⟨cur, hh, by omega, fun i hi => by omega⟩, h1⟩
set_option maxRecDepth 100000 in
set_option maxHeartbeats 4000000 in
theorem exactFactors_walk {w : World} (s : ByteArray) (n : Int) :
    Calls Try.prog 4 #[.string s, .int .i64 n] w fun e w' => e = .returned (.bool true) ∧ Below w.heap.size w w' := by
  obtain ⟨D, hDl, CS, CM⟩ := fac_one s n
  obtain ⟨f, hf⟩ : ∃ f : Nat → ByteArray, (fun i => D.getD i ⟨#[]⟩) = f := ⟨_, rfl⟩
  go_enter Try.func4, Try.ntmps4
  by_cases hb : 1048576 < (s.size : Int)
  · go_wp2
    go_ret
    exact ⟨rfl, Below.refl _ _⟩
  go_wp2_with fail
  refine (CS _).mono ?_
  rintro e w1 ⟨⟨v1, rfl, T1⟩, b1⟩
  obtain ⟨g1, c1, rfl, S1, l1, -⟩ := T1.strs
  go_wp2_with fail
  refine (CM _).mono ?_
  rintro e w2 ⟨⟨v2, rfl, T2⟩, b2⟩
  obtain ⟨g2, c2, rfl, S2, l2, k2⟩ := T2.strs
  obtain ⟨M2, hc2⟩ := T2.made (f := f)
  rw [hf] at S1 S2
  obtain ⟨L, hL⟩ : ∃ L, D.length = L := ⟨_, rfl⟩
  rw [hL] at S1 S2 hc2 hDl ⊢
  have HL := hid_of hL
  have HF := hid_of hf
  have l12 := Nat.lt_of_lt_of_le l1 b2.size
  have B2 := b1.trans (b2.mono b1.size)
  have hz1 := b1.size
  have hz2 := b2.size
  replace S1 := strs_below S1 l1 b2
  clear b1 b2 T1 T2 hL hf
  go_wp2_with fail
  refine (eqStringS_true S2 S1 l2 l12 (by omega)).mono ?_
  rintro e w3 ⟨rfl, b3⟩
  replace S1 := strs_below S1 l12 b3
  replace M2 := M2.below b3
  have B3 := B2.trans (b3.mono B2.size)
  have l13 := Nat.lt_of_lt_of_le l12 b3.size
  have l23 := Nat.lt_of_lt_of_le l2 b3.size
  have hz3 := b3.size
  have CK := markS_any M2 hc2 (by omega) k2 l23 1 (by omega) (by omega)
  clear b3 S2 B2
  go_wp2_with fail
  refine CK.mono ?_
  rintro e w4 ⟨rfl, M4, t4⟩
  have S14 : Strs w4 g1 0 L f := fun i hi => (World.cell?_of_block (t4.block g1 l13 (.inl l1))).trans (S1 i hi)
  have B4 : Below w.heap.size w w4 := t4.below B3 hz1 (by omega)
  have l14 := Nat.lt_of_lt_of_le l13 t4.size
  have l24 := Nat.lt_of_lt_of_le l23 t4.size
  obtain ⟨r, hr⟩ : ∃ r, ((1 + L : Nat) : Int) = r := ⟨_, rfl⟩
  have hr0 : ¬ r < 0 := by omega
  have HR := hid_of hr
  have K4 := M4.strsN
  rw [hr]
  clear CK M2 S1 t4 M4 B3 hr
  go_wp2_with fail
  refine (heldS_any K4 l24 (by omega)).mono ?_
  rintro e w5 ⟨rfl, b5⟩
  rw [HR.out]
  replace S14 := strs_below S14 l14 b5
  replace K4 := strs_below K4 l24 b5
  replace l14 := Nat.lt_of_lt_of_le l14 b5.size
  replace l24 := Nat.lt_of_lt_of_le l24 b5.size
  replace B4 := B4.trans (b5.mono B4.size)
  clear b5
  go_wp2_with fail
  refine (CM _).mono ?_
  rintro e w6 ⟨⟨v9, rfl, T9⟩, b6⟩
  obtain ⟨g9, c9, rfl, S9, l9, -⟩ := T9.strs
  rw [HF.out, HL.out] at S9
  rw [HL.out]
  replace S14 := strs_below S14 l14 b6
  replace K4 := strs_below K4 l24 b6
  replace l14 := Nat.lt_of_lt_of_le l14 b6.size
  replace l24 := Nat.lt_of_lt_of_le l24 b6.size
  replace B4 := B4.trans (b6.mono B4.size)
  clear b6 T9
  go_wp2_with fail
  refine (eqStringS_true S9 S14 l9 l14 (by omega)).mono ?_
  rintro e w7 ⟨rfl, b7⟩
  replace K4 := strs_below K4 l24 b7
  replace l24 := Nat.lt_of_lt_of_le l24 b7.size
  replace B4 := B4.trans (b7.mono B4.size)
  clear b7 S9 S14
  go_wp2_with fail
  refine (heldS_any K4 l24 (by omega)).mono ?_
  rintro e w8 ⟨rfl, b8⟩
  rw [HR.out]
  replace B4 := B4.trans (b8.mono B4.size)
  clear b8 K4
  go_wp2
  go_ret
  exact ⟨rfl, B4⟩
end Go.Proofs.Ytnkmiljnilmicaa
