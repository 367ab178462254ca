/-
  SameKind by the program: walked.
-/
import Derived.Test.YtgjhbkpocbihbaaB18c
import Derived.Test.YtgjhbkpocbihbaaB18e
import Derived.Test.YtgjhbkpocbihbaaNS
namespace Go.Proofs.Ytgjhbkpocbihbaa
open Go.RowKit

set_option maxRecDepth 100000 in
set_option maxHeartbeats 3000000 in
theorem implSK_any {w : World} {g n c h m d : Nat} {A C : Nat → OpD} (hL : OpsL w g n A) (hH : OpsL w h m C) (hn : n ≤ 1048576) (hm : m ≤ 1048576) :
    Calls Try.prog 7 #[.slice (some ⟨g, 0, none⟩) n c, .slice (some ⟨h, 0, none⟩) m d] w fun e w' => Tells e (SkT n A m C) ∧ Below w.heap.size w w' := by
  have HL := hid_of hL
  have HH := hid_of hH
  clear hL hH
  go_enter Try.func7, Try.ntmps7
  go_wp2_with fail
  refine (groupOf_any HL.out hn).mono ?_
  rintro e w2 ⟨⟨v2, rfl, hG⟩, b2⟩
  obtain ⟨g2, n2, c2, rfl, hO, hn2, -, hGm⟩ := grp_one hG
  have HO := hid_of hO
  have HGm := hid_of hGm
  clear hG hO hGm
  go_wp2_with fail
  refine (groupOf_any (HH.out.below b2) hm).mono ?_
  rintro e w3 ⟨⟨v3, rfl, hG⟩, b3⟩
  obtain ⟨g3, m2, c3, rfl, hO, hm2, -, hGm⟩ := grp_one hG
  have HO3 := hid_of hO
  have HGm3 := hid_of hGm
  replace HO := hid_of (HO.out.below b3)
  have B3 := b2.trans (b3.mono b2.size)
  clear hG hO hGm
  have hnn : (n2 : Int) ≤ 192 := by omega
  have hmm : (m2 : Int) ≤ 192 := by omega
  by_cases h0 : n2 = 0
  · have T : Hid (Tells (.returned (.bool false)) (SkT n A m C)) := tells_no (fun h => by
      rcases HGm.out with ⟨hg, e⟩ | ⟨hg, -⟩
      · obtain ⟨j, hj, -⟩ := hg.2.2.2.1
        omega
      · exact hg h.1)
    have hz : ((n2 : Int) == 0) = true := by simp; omega
    clear HGm HGm3 HO HO3 b2 b3
    go_wp2
    go_ret
    exact ⟨T.out, B3⟩
  have hz : ((n2 : Int) == 0) = false := by simp; omega
  by_cases hne : n2 = m2
  rotate_left
  · have T : Hid (Tells (.returned (.bool false)) (SkT n A m C)) := tells_no (fun h => by
      rcases HGm.out with ⟨-, e⟩ | ⟨hg, -⟩
      · rcases HGm3.out with ⟨-, e3⟩ | ⟨hg, -⟩
        · exact hne (by rw [e, e3]; exact h.2.2.1)
        · exact hg h.2.1
      · exact hg h.1)
    have hz2 : ((n2 : Int) != (m2 : Int)) = true := by simp; omega
    clear HGm HGm3 HO HO3 b2 b3
    go_wp2
    go_ret
    exact ⟨T.out, B3⟩
  have hz2 : ((n2 : Int) != (m2 : Int)) = false := by simp; omega
  obtain ⟨hgA, e2⟩ : isG n A ∧ n2 = n := by
    rcases HGm.out with h | ⟨-, e⟩
    · exact h
    · exact absurd e h0
  obtain ⟨hgC, e3⟩ : isG m C ∧ m2 = m := by
    rcases HGm3.out with h | ⟨-, e⟩
    · exact h
    · exact absurd (hne.trans e) h0
  have HG := hid_of hgA
  have HC := hid_of hgC
  subst hne
  subst e2
  subst e3
  have HR : Hid (∀ i, i < n2 → kR (A i).key) := fun i hi => ok_R (HG.out.2.1 i hi)
  clear hgA hgC HGm HGm3 b2 b3
  go_wp2_with fail
  refine (frameGroup_any _).mono ?_
  rintro e w4 ⟨⟨v4, M, ix, rfl, hF, hM, hix, hix2⟩, b4⟩
  obtain ⟨gf, cf, rfl⟩ := oprs_open hF
  have HF := hid_of hF
  have HIX := hid_of hix
  have HIX2 : Hid (∀ i, i ∈ vlF → ∃ j, j < M ∧ fr (ix j) = fr i) := fun i hi => by
    obtain ⟨j, hj, e⟩ := hix2 i hi
    exact ⟨j, hj, by rw [e]⟩
  have B4 := B3.trans (b4.mono B3.size)
  have b34 := b4
  have hM' : (M : Int) ≤ 192 := by omega
  clear hF hix hix2
  go_wp2
  go_loopw [25] (fun s wr => ∃ i : Nat, i ≤ M ∧ s = .int .i64 (i : Int) ∧ Hid (∀ j, j < i → ¬ SkP n2 A n2 C (fr (ix j))) ∧ Below w4.heap.size w4 wr ∧ Below w3.heap.size w3 wr ∧ Below w.heap.size w wr) (fun s _ => M - (intOf s).toNat)
  case atStart => exact ⟨0, Nat.zero_le _, rfl, fun j hj => by omega, Below.refl _ _, b34, B4⟩
  case round =>
    clear B4 b4 b34 B3
    obtain ⟨i, hi, rfl, D, b, b', B⟩ := hrel
    by_cases hin : i < M
    rotate_left
    · obtain rfl : i = M := by omega
      have hin' : ¬ (i : Int) < (i : Int) := by omega
      have T : Hid (Tells (.returned (.bool false)) (SkT n2 A n2 C)) := tells_no (sk_no HIX2.out D.out)
      clear D
      go_wp2
      go_ret
      exact ⟨T.out, B⟩
    have hin' : (i : Int) < (M : Int) := by omega
    obtain ⟨e0, e1, e2, e3, e4, e5, e6, e7, e8, e9, e10, e11⟩ := (HF.out.below b).open i hin
    have HV := hid_of (HIX.out i hin)
    obtain ⟨K, hK⟩ : ∃ K, frK (ix i) = K := ⟨_, rfl⟩
    have HK : Hid (frK (ix i) = K) := hK
    have HKR : Hid (kR K) := by rw [← hK]; exact fr_R _ HV.out
    simp only [hK] at e0 e1 e2 e3 e4 e5 e6 e7 e8 e9 e10 e11
    obtain ⟨W7, hW7, a7, b7, -⟩ := boxed wr 46 (kc K).toArray
    obtain ⟨p7, hp7⟩ : ∃ p, wr.heap.size = p := ⟨_, rfl⟩
    rw [hp7] at a7
    have A7 : At 46 W7 p7 (kc K).toArray := a7
    replace b := b.trans (b7.mono b.size)
    replace b' := b'.trans (b7.mono b'.size)
    replace B := B.trans (b7.mono B.size)
    have CT : Hid (Calls Try.prog 18 #[.slice (some ⟨g2, 0, none⟩) n2 c2, .agg #[.int .i64 (K 0), .int .i64 (K 1), .int .i64 (K 2), .int .i64 (K 3), .int .i64 (K 4), .int .i64 (K 5), .int .i64 (K 6), .int .i64 (K 7), .int .i64 (K 8), .int .i64 (K 9), .int .i64 (K 10), .int .i64 (K 11)]] W7 fun e w' => TbE W7 n2 (fun i => (A i).key) K e w') := turnedBy_any (HO.out.below b') HR.out HKR.out hn2
    obtain ⟨d0, d1, d2, d3, d4, d5, d6, d7, d8, d9, d10, d11⟩ := At.openk (x := K) A7
    clear hK a7 b7 A7
    unfold kc at hW7
    go_wp2_with fail
    clear d0 d1 d2 d3 d4 d5 d6 d7 d8 d9 d10 d11 e0 e1 e2 e3 e4 e5 e6 e7 e8 e9 e10 e11 hW7 hp7
    refine CT.out.mono ?_
    rintro e w8 ⟨⟨v8, m8, G8, rfl, hO8, hcase⟩, bb⟩
    replace b := b.trans (bb.mono b.size)
    replace b' := b'.trans (bb.mono b'.size)
    replace B := B.trans (bb.mono B.size)
    have HKK : Hid ((m8 = n2 ∧ ∀ t, t < m8 → lexC 12 (G8 t) (C t).key = 0) ↔ SkP n2 A n2 C (fr (ix i))) := by
      have h1 : (TbOk n2 (fun i => (A i).key) (fr (ix i)).key ∧ m8 = n2 ∧ SortOf n2 (wholeK (fr (ix i)).key (fun i => (A i).key)) G8) ∨ (¬ TbOk n2 (fun i => (A i).key) (fr (ix i)).key ∧ m8 = 0) := by
        have e : (fr (ix i)).key = K := HK.out
        rw [e]; exact hcase
      exact skT HG.out HC.out HV.out (turT_of (.inl ⟨HG.out, rfl⟩) (fr_okD HV.out) h1)
    have hm8 : m8 ≤ 192 := by rcases hcase with ⟨-, rfl, -⟩ | ⟨-, rfl⟩ <;> omega
    have HO8 := hid_of hO8
    clear bb hO8 hcase CT HK HKR
    obtain ⟨g8, c8, rfl⟩ := oprs_open HO8.out
    go_wp2_with fail
    refine (equal_any HO8.out (HO3.out.below b') (by omega) (by omega)).mono ?_
    rintro e w9 ⟨⟨r, rfl, hr⟩, bb⟩
    replace b := b.trans (bb.mono b.size)
    replace b' := b'.trans (bb.mono b'.size)
    replace B := B.trans (bb.mono B.size)
    have HRR := hid_of (hr.trans HKK.out)
    clear hr bb HKK HO8
    cases r
    · have D2 : Hid (∀ j, j < i + 1 → ¬ SkP n2 A n2 C (fr (ix j))) := fun j hj hp => by
        by_cases e : j = i
        · rw [e] at hp
          exact absurd (HRR.out.2 hp) (by decide)
        · exact D.out j (by omega) hp
      clear D HRR
      go_wp2
      exact ⟨⟨i + 1, by omega, by go_num, D2, b, b', B⟩, by simp [intOf]; omega⟩
    · have T : Hid (Tells (.returned (.bool true)) (SkT n2 A n2 C)) := tells_yes (sk_yes HG.out HC.out HV.out (HRR.out.1 rfl))
      clear D HRR
      go_wp2
      go_ret
      exact ⟨T.out, B⟩
end Go.Proofs.Ytgjhbkpocbihbaa
