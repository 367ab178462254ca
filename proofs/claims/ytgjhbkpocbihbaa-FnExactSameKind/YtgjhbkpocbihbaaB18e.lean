/-
  SameKind by the specification: walked.
-/
import Derived.Test.YtgjhbkpocbihbaaB18d
namespace Go.Proofs.Ytgjhbkpocbihbaa
open Go.RowKit

theorem FrI.ix {m : Nat} {A : Nat → OpD} (h : FrI 512 m A) : ∃ ix : Nat → Nat, (∀ j, j < m → ix j ∈ vlF ∧ A j = fr (ix j)) ∧ ∀ i, i ∈ vlF → ∃ j, j < m ∧ fr (ix j) = fr i := by
  have H : ∀ j, ∃ i, j < m → i ∈ vlF ∧ A j = fr i := fun j => by
    by_cases hj : j < m
    · obtain ⟨i, hi, hv, e⟩ := h.1 j hj
      exact ⟨i, fun _ => ⟨(vl_all i hi).1 hv, e⟩⟩
    · exact ⟨0, fun h => absurd h hj⟩
  refine ⟨fun j => Classical.choose (H j), fun j hj => Classical.choose_spec (H j) hj, fun i hi => ?_⟩
  obtain ⟨j, hj, e⟩ := h.2 i (vlF_lt i hi) ((vl_all i (vlF_lt i hi)).2 hi)
  exact ⟨j, hj, (Classical.choose_spec (H j) hj).2.symm.trans e⟩
/-- One frame does it. -/
def SkP (n : Nat) (A : Nat → OpD) (m : Nat) (C : Nat → OpD) (o : OpD) : Prop :=
  n = m ∧ TurOk n A o ∧ ((List.range n).map (fun t => kV (wholeD o A t).key)).Perm ((List.range n).map (fun t => kV (C t).key))
theorem sk_yes {n m i : Nat} {A C : Nat → OpD} (hA : isG n A) (hC : isG m C) (hi : i ∈ vlF) (h : SkP n A m C (fr i)) : SkT n A m C := ⟨hA, hC, h.1, i, hi, h.2.1, h.2.2⟩
theorem sk_no {n m M : Nat} {A C : Nat → OpD} {ix : Nat → Nat} (hI : ∀ i, i ∈ vlF → ∃ j, j < M ∧ fr (ix j) = fr i) (h : ∀ j, j < M → ¬ SkP n A m C (fr (ix j))) : ¬ SkT n A m C := by
  rintro ⟨-, -, h1, i, hi, h2, h3⟩
  obtain ⟨j, hj, e⟩ := hI i hi
  exact h j hj (by rw [e]; exact ⟨h1, h2, h3⟩)
theorem TurS.shape {n m : Nat} {A H : Nat → OpD} {o : OpD} {b : Bool} (h : TurS n A o m H b) : m ≤ 192 ∧ ∀ i, i < m → (H i).n = 9 ∧ (H i).k = 3 := by
  rcases h with ⟨-, rfl, h1, -, h2⟩ | ⟨-, rfl, -⟩
  · exact ⟨h1, fun i hi => ⟨(h2.ok i hi).1, (h2.ok i hi).2.1⟩⟩
  · exact ⟨by omega, fun i hi => by omega⟩
set_option maxRecDepth 100000 in
set_option maxHeartbeats 3000000 in
theorem specSK_any {w : World} {g n c h m d : Nat} {A C : Nat → OpD} (hL : OpsL w g n A) (hH : OpsL w h m C) (hn : n ≤ 1048576) (hm : m ≤ 1048576) :
    Calls Try.prog 5 #[.slice (some ⟨g, 0, none⟩) n c, .slice (some ⟨h, 0, none⟩) m d] w fun e w' => Tells e (SkT n A m C) ∧ Below w.heap.size w w' := by
  have HL := hid_of hL
  have HH := hid_of hH
  clear hL hH
  go_enter Try.func5, Try.ntmps5
  go_wp2_with fail
  refine (groupOk_any HL.out hn).mono ?_
  rintro e w2 ⟨⟨r, rfl, hr⟩, b2⟩
  cases r
  · have T : Hid (Tells (.returned (.bool false)) (SkT n A m C)) := tells_no (fun h => absurd (hr.2 h.1) (by decide))
    clear hr
    go_wp2
    go_ret
    exact ⟨T.out, b2⟩
  have HG := hid_of (hr.1 rfl)
  clear hr
  go_wp2_with fail
  refine (groupOk_any (HH.out.below b2) hm).mono ?_
  rintro e w3 ⟨⟨r, rfl, hr⟩, b3⟩
  have B3 := b2.trans (b3.mono b2.size)
  cases r
  · have T : Hid (Tells (.returned (.bool false)) (SkT n A m C)) := tells_no (fun h => absurd (hr.2 h.2.1) (by decide))
    clear hr
    go_wp2
    go_ret
    exact ⟨T.out, B3⟩
  have HC := hid_of (hr.1 rfl)
  clear hr b2 b3
  go_wp2_with fail
  refine (frames_any _).mono ?_
  rintro e w4 ⟨gf, M, cf, X, Y, AF, rfl, P, hM, FI, b4⟩
  have B4 := B3.trans (b4.mono B3.size)
  obtain ⟨ix, hix, hix2⟩ := FI.ix
  obtain ⟨g', c', e', -, LF⟩ := P.opsL
  cases e'
  have HNK := hid_of P.nk
  have HLF := hid_of LF
  have HIX := hid_of hix
  have HIX2 := hid_of hix2
  have hn2 : n ≤ 192 := HG.out.1
  have hm2 : m ≤ 192 := HC.out.1
  have hM' : (M : Int) ≤ 512 := by omega
  clear P FI LF hix hix2 B3 hn hm
  go_wp2
  go_loopw [6] (fun s wr => ∃ i : Nat, i ≤ M ∧ s = .int .i64 (i : Int) ∧ Hid (∀ j, j < i → ¬ SkP n A m C (fr (ix j))) ∧ Below w4.heap.size w4 wr ∧ Below w.heap.size w wr) (fun s _ => M - (intOf s).toNat)
  case atStart => exact ⟨0, Nat.zero_le _, rfl, fun j hj => by omega, Below.refl _ _, B4⟩
  case round =>
    clear B4 b4
    obtain ⟨i, hi, rfl, D, b, B⟩ := hrel
    by_cases hin : i < M
    rotate_left
    · obtain rfl : i = M := by omega
      have hin' : ¬ (i : Int) < (i : Int) := by omega
      have T : Hid (Tells (.returned (.bool false)) (SkT n A m C)) := tells_no (sk_no HIX2.out D.out)
      clear D
      go_wp2
      go_ret
      exact ⟨T.out, B⟩
    have hin' : (i : Int) < (M : Int) := by omega
    obtain ⟨x1, y1, x2, y2, e1, e2, s1, s2⟩ := (HLF.out.below b).2 i hin
    have hnk := HNK.out i hin
    obtain ⟨hv, hA⟩ := HIX.out i hin
    rw [hnk.1] at e1 s1
    rw [hnk.2] at e2 s2
    rw [hA] at s1 s2
    have HV := hid_of hv
    clear hnk hA hv
    go_wp2_with fail
    refine (l4Turned_any (HL.out.below B) HG.out s1 s2 (fr_okD HV.out)).mono ?_
    rintro e w6 ⟨⟨g6, m6, c6, b6, H6, rfl, R6, T6⟩, bb⟩
    replace b := b.trans (bb.mono b.size)
    replace B := B.trans (bb.mono B.size)
    have HR := hid_of R6
    have HT := hid_of T6
    have HK := hid_of (skS HG.out HC.out HV.out T6)
    obtain ⟨hm6, -⟩ := T6.shape
    clear R6 T6 bb e1 e2 s1 s2
    cases b6
    · have D2 : Hid (∀ j, j < i + 1 → ¬ SkP n A m C (fr (ix j))) := fun j hj hp => by
        by_cases e : j = i
        · rw [e] at hp
          exact absurd (HK.out.2 hp).1 (by decide)
        · exact D.out j (by omega) hp
      clear D HK HR HT
      go_wp2
      exact ⟨⟨i + 1, by omega, by go_num, D2, b, B⟩, by simp [intOf]; omega⟩
    go_wp2_with fail
    refine (l4Same_any HR.out.opsL (HH.out.below B) (by omega) (by omega) HT.out.shape.2 (fun i hi => ⟨(HC.out.2.1 i hi).1, (HC.out.2.1 i hi).2.1⟩)).mono ?_
    rintro e w7 ⟨⟨r, rfl, hr⟩, bb⟩
    replace b := b.trans (bb.mono b.size)
    replace B := B.trans (bb.mono B.size)
    have HRR := hid_of hr
    clear hr bb
    cases r
    · have D2 : Hid (∀ j, j < i + 1 → ¬ SkP n A m C (fr (ix j))) := fun j hj hp => by
        by_cases e : j = i
        · rw [e] at hp
          exact absurd (HRR.out.2 (HK.out.2 hp).2) (by decide)
        · exact D.out j (by omega) hp
      clear D HK HR HT HRR
      go_wp2
      exact ⟨⟨i + 1, by omega, by go_num, D2, b, B⟩, by simp [intOf]; omega⟩
    · have T : Hid (Tells (.returned (.bool true)) (SkT n A m C)) := tells_yes (sk_yes HG.out HC.out HV.out (HK.out.1 ⟨by trivial, HRR.out.1 (by trivial)⟩))
      clear D HK HR HT HRR
      go_wp2
      go_ret
      exact ⟨T.out, B⟩
end Go.Proofs.Ytgjhbkpocbihbaa
