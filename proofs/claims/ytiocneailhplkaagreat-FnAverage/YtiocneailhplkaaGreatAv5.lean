/-
  Average by the specification: walked.
-/
import Derived.Test.YtiocneailhplkaaGreatAv4
import Derived.Test.YtiocneailhplkaaGreatQd
import Derived.Test.YtiocneailhplkaaGreatMH
namespace Go.Proofs.YtiocneailhplkaaGreat
open Go.RowKit

theorem mod_small {x : Int} (hx : 0 ≤ x ∧ x < 12289) (w : World) : Calls Tryz.prog 60 #[.int .i64 x, .int .i64 12289] w fun e w' => e = .returned (.int .i64 x) ∧ w = w' := by
  obtain ⟨h0, h1⟩ := hx
  have t1 : Int.tmod x 12289 = x := by rw [Int.tmod_eq_emod_of_nonneg h0]; omega
  have t2 : ¬ x < 0 := by omega
  have t3 : x % 12289 = x := by omega
  have t4 : Int.tmod (x + 12289) 12289 = x := by rw [Int.tmod_eq_emod_of_nonneg (by omega)]; omega
  have t5 : (x + 12289) % 12289 = x := by omega
  go_enter Tryz.func60, Tryz.ntmps60
  go_wp2
  go_ret
  exact ⟨rfl, rfl⟩
theorem spower_any {b : Int} (hb : 0 ≤ b ∧ b < 12289) (w : World) : Calls Tryz.prog 28 #[.int .i64 b, .int .i64 12287] w fun e w' => e = .returned (.int .i64 (pwF 14 1 b 12287)) ∧ Below w.heap.size w w' := by
  obtain ⟨R, hR⟩ : ∃ R, pwF 14 1 b 12287 = R := ⟨_, rfl⟩
  rw [hR]
  have HR0 := hid_of hR
  clear hR
  go_enter Tryz.func28, Tryz.ntmps28
  go_wp2_with fail
  refine (mod_small hb _).mono ?_
  rintro e w' ⟨rfl, rfl⟩
  go_wp2
  go_loopw [0, 1, 5] (fun u v s wr => ∃ (T : Nat) (b e o : Int), T ≤ 14 ∧ u = .int .i64 b ∧ v = .int .i64 e ∧ s = .int .i64 o ∧ (0 ≤ b ∧ b < 12289) ∧ (0 ≤ e ∧ e < 2 ^ T) ∧ (0 ≤ o ∧ o < 12289) ∧ Hid (pwF T o b e = R) ∧ w = wr) (fun _ v _ _ => (intOf v).toNat)
  case atStart => exact ⟨14, b, 12287, 1, Nat.le_refl _, rfl, rfl, rfl, hb, by omega, by omega, HR0, rfl⟩
  case round =>
    clear HR0 hb
    obtain ⟨T, b, e, o, hT, rfl, rfl, rfl, ⟨hb0, hb1⟩, ⟨he0, he1⟩, ⟨ho0, ho1⟩, HR, rfl⟩ := hrel
    by_cases h : 0 < e
    · obtain ⟨T, rfl⟩ : ∃ t, T = t + 1 := by
        cases T with
        | zero => simp at he1; omega
        | succ t => exact ⟨t, rfl⟩
      have hp : (2 : Int) ^ (T + 1) = 2 * 2 ^ T := by rw [Int.pow_succ]; omega
      rw [hp] at he1
      have he2 : e / 2 < 2 ^ T := by omega
      have hm := HR.out
      unfold pwF at hm
      rw [if_neg (by omega)] at hm
      have bb : 0 ≤ b * b ∧ b * b ≤ 12288 * 12288 := ⟨Int.mul_nonneg hb0 hb0, Int.mul_le_mul (by omega) (by omega) hb0 (by omega)⟩
      have ob : 0 ≤ o * b ∧ o * b ≤ 12288 * 12288 := ⟨Int.mul_nonneg ho0 hb0, Int.mul_le_mul (by omega) (by omega) hb0 (by omega)⟩
      have t1 : Int.tmod (b * b) 12289 = b * b % 12289 := Int.tmod_eq_emod_of_nonneg bb.1
      have t2 : Int.tmod (o * b) 12289 = o * b % 12289 := Int.tmod_eq_emod_of_nonneg ob.1
      have t3 : Int.tmod e 2 = e % 2 := Int.tmod_eq_emod_of_nonneg he0
      have t4 : Int.tdiv e 2 = e / 2 := Int.tdiv_eq_ediv_of_nonneg he0
      have w1 : IntKind.i64.wrap (b * b) = b * b := by rw [IntKind.wrap_i64]; omega
      have w2 : IntKind.i64.wrap (o * b) = o * b := by rw [IntKind.wrap_i64]; omega
      obtain ⟨B, hB⟩ : ∃ B, b * b % 12289 = B := ⟨_, rfl⟩
      obtain ⟨O, hO⟩ : ∃ B, o * b % 12289 = B := ⟨_, rfl⟩
      have hBr : 0 ≤ B ∧ B < 12289 := by omega
      have hOr : 0 ≤ O ∧ O < 12289 := by omega
      rw [hB] at t1 hm
      rw [hO] at t2 hm
      have he3 : 0 ≤ e / 2 := by omega
      have heq : (e / 2).toNat < e.toNat := by omega
      have w3 : IntKind.i64.wrap (e / 2) = e / 2 := by
        have : e < 2 * 2 ^ 13 := Int.lt_of_lt_of_le he1 (by
          have : (2 : Int) ^ T ≤ 2 ^ 13 := by
            rcases (by omega : T = 0 ∨ T = 1 ∨ T = 2 ∨ T = 3 ∨ T = 4 ∨ T = 5 ∨ T = 6 ∨ T = 7 ∨ T = 8 ∨ T = 9 ∨ T = 10 ∨ T = 11 ∨ T = 12 ∨ T = 13) with rfl | rfl | rfl | rfl | rfl | rfl | rfl | rfl | rfl | rfl | rfl | rfl | rfl | rfl <;> decide
          omega)
        rw [IntKind.wrap_i64]; omega
      by_cases hodd : e % 2 = 1
      · have ho : (e % 2 == 1) = true := by simp [hodd]
        rw [if_pos hodd] at hm
        have HM := hid_of hm
        obtain ⟨E, hE⟩ : ∃ E, e / 2 = E := ⟨_, rfl⟩
        rw [hE] at t4 he2 he3 heq w3 HM
        clear hm HR hp bb ob hB hO hodd hE
        go_wp2
        exact ⟨⟨T, B, E, O, by omega, rfl, rfl, rfl, hBr, ⟨he3, he2⟩, hOr, HM, trivial⟩, by simpa [intOf] using heq⟩
      · have ho : (e % 2 == 1) = false := by simp [hodd]
        rw [if_neg hodd] at hm
        have HM := hid_of hm
        obtain ⟨E, hE⟩ : ∃ E, e / 2 = E := ⟨_, rfl⟩
        rw [hE] at t4 he2 he3 heq w3 HM
        clear hm HR hp bb ob hB hO hodd hE
        go_wp2
        exact ⟨⟨T, B, E, o, by omega, rfl, rfl, rfl, hBr, ⟨he3, he2⟩, ⟨ho0, ho1⟩, HM, trivial⟩, by simpa [intOf] using heq⟩
    · have he : e = 0 := by omega
      subst he
      have hm : o = R := by
        have h1 := HR.out
        cases T with
        | zero => exact h1
        | succ t => unfold pwF at h1; rwa [if_pos (by omega)] at h1
      subst hm
      clear HR
      go_wp2
      go_ret
      exact ⟨rfl, Below.refl _ _⟩
theorem sback_any {n : Nat} (hn : n ≤ 192) (w : World) : Calls Tryz.prog 28 #[.int .i64 (n : Int), .int .i64 12287] w fun e w' => e = .returned (.int .i64 (shN n)) ∧ Below w.heap.size w w' := spower_any (b := (n : Int)) (by omega) w
theorem tmod_of {a b c : Int} (ha : 0 ≤ a) (h : a % b = c) : Int.tmod a b = c := (Int.tmod_eq_emod_of_nonneg ha).trans h
theorem tdiv_of {a b c : Int} (ha : 0 ≤ a) (h : a / b = c) : Int.tdiv a b = c := (Int.tdiv_eq_ediv_of_nonneg ha).trans h
/-- Behind an operator's deed. -/
def CutV (wl : World) (y0 y1 y2 : Int) (v : Value) (wc : World) : Prop := ∃ g6, v = .pointer (some ⟨g6, 0, none⟩) ∧ wl.heap.size ≤ g6 ∧ At 54 wc g6 #[.int .i64 y0, .int .i64 y1, .int .i64 y2] ∧ Below wl.heap.size wl wc
set_option maxRecDepth 100000 in
set_option maxHeartbeats 20000000 in
theorem specAverage_any {w : World} {N : Int} {v : Value} {lo hi len g n c : Nat} {A : Nat → OpD} {f : Nat → Int} (hM : Arr w lo hi v len f) (hlen : len ≤ 1048576) (hL : OpsL w g n A) (hn : n ≤ 1048576) :
    Calls Tryz.prog 7 #[mV N v, .slice (some ⟨g, 0, none⟩) n c] w (AvE w N len n A f) := by
  have HL := hid_of hL
  have HM := hid_of hM
  obtain ⟨a0, cf, rfl, hS⟩ := hM.src
  have HSR := hid_of hS
  clear hL hM hS
  obtain ⟨q2, hq2⟩ : ∃ q, w.heap.size = q := ⟨_, rfl⟩
  obtain ⟨W1, hW1, a1, b1, -⟩ := boxed w 26 #[.int .i64 N, .slice a0 len cf]
  rw [hq2] at a1
  obtain ⟨q4, hq4⟩ : ∃ q, W1.heap.size = q := ⟨_, rfl⟩
  obtain ⟨W2, hW2, a2, b2, -⟩ := boxed W1 26 #[.int .i64 0, .slice none 0 0]
  rw [hq4] at a2
  have l24 : q2 < q4 := by have := a1.lt; omega
  have hwq : w.heap.size ≤ q4 := by omega
  have B2 := b1.trans (b2.mono b1.size)
  have A1 := hid_of (a1.below b2)
  have A2 := hid_of a2
  have HB := hid_of B2
  clear a1 a2 b1 b2 B2
  obtain ⟨m0, m1, -⟩ := A1.out.open2
  go_enter Tryz.func7, Tryz.ntmps7
  go_wp2_with fail
  clear hW1 hW2 hq4
  refine (specMapOk_any N (HSR.out.below HB.out) hlen).mono ?_
  rintro e w5 ⟨rfl, b5⟩
  replace A1 := hid_of (A1.out.below b5)
  replace A2 := hid_of (A2.out.below b5)
  replace HB := hid_of (HB.out.trans (b5.mono HB.out.size))
  clear b5 m0 m1
  by_cases hmo : mapOk N len f
  rotate_left
  · rw [decide_eq_false hmo]
    have HNO : Hid (¬ avO N len n A f) := fun h => hmo h.1
    obtain ⟨d0, d1, f0, f1⟩ := A2.out.open2
    clear hmo
    go_wp2
    have a9 : At 26 ((w5.setCell ⟨q4, 0, none⟩ (.int .i64 0)).setCell ⟨q4, 1, none⟩ (.slice none 0 0)) q4 #[.int .i64 0, .slice none 0 0] := by simpa using (A2.out.set 0 (.int .i64 0)).set 1 (.slice none 0 0)
    obtain ⟨p0, p1, -⟩ := a9.open2
    exact bodyPost_ret (v := mV 0 (.slice none 0 0)) (by simp [results, Tryz.results7, go_sem, p0, p1]) rfl ⟨⟨_, rfl, .inr ⟨HNO.out, rfl⟩⟩, (HB.out.setCell (p := ⟨q4, 0, none⟩) hwq _).setCell (p := ⟨q4, 1, none⟩) hwq _⟩
  rw [decide_eq_true hmo]
  have HMO := hid_of hmo
  clear hmo
  go_wp2_with fail
  refine (groupOk_any (HL.out.below HB.out) hn).mono ?_
  rintro e w6 ⟨⟨r, rfl, hr⟩, b6⟩
  replace A1 := hid_of (A1.out.below b6)
  replace A2 := hid_of (A2.out.below b6)
  replace HB := hid_of (HB.out.trans (b6.mono HB.out.size))
  clear b6
  cases r
  · have HNO : Hid (¬ avO N len n A f) := fun h => absurd (hr.2 h.2.1) (by decide)
    obtain ⟨d0, d1, f0, f1⟩ := A2.out.open2
    clear hr
    go_wp2
    have a9 : At 26 ((w6.setCell ⟨q4, 0, none⟩ (.int .i64 0)).setCell ⟨q4, 1, none⟩ (.slice none 0 0)) q4 #[.int .i64 0, .slice none 0 0] := by simpa using (A2.out.set 0 (.int .i64 0)).set 1 (.slice none 0 0)
    obtain ⟨p0, p1, -⟩ := a9.open2
    exact bodyPost_ret (v := mV 0 (.slice none 0 0)) (by simp [results, Tryz.results7, go_sem, p0, p1]) rfl ⟨⟨_, rfl, .inr ⟨HNO.out, rfl⟩⟩, (HB.out.setCell (p := ⟨q4, 0, none⟩) hwq _).setCell (p := ⟨q4, 1, none⟩) hwq _⟩
  have HG : Hid (isG n A) := hr.1 rfl
  clear hr
  have hm6 : n ≤ 192 := HG.out.1
  have hside : side N := HMO.out.1
  obtain ⟨gf, cf', egf, hgf, hF⟩ := arr_gf HM.out HMO.out
  cases egf
  have hcl : cube N = len := by have := cube_is hside; have := HMO.out.2.1; omega
  have hlen2 : (len : Int) ≤ 1728 := by have := cube_is hside; have := HMO.out.2.1; omega
  have HF := hid_of hF
  have BM : ∀ w, Calls Tryz.prog 27 #[.int .i64 N] w fun e w' => ∃ g, e = .returned (.agg #[.int .i64 N, .slice (some ⟨g, 0, none⟩) len len]) ∧ w.heap.size ≤ g ∧ Made w' g len len (fun _ => 0) ∧ Below w.heap.size w w' := fun w => by
    have h := new_map N hside w
    rw [hcl] at h
    exact h
  have HBM := hid_of BM
  have HSD := hid_of hside
  obtain ⟨N1, N2, N3⟩ := side_by hside
  have hstep := step_by hside
  obtain ⟨s, hsd⟩ : ∃ s, byN N = s := ⟨_, rfl⟩
  have hs := byN_is hside
  rw [hsd] at hstep hs
  have HS := hid_of hsd
  obtain ⟨-, hs2, hs24⟩ := hs
  have hn0 : ¬ N = 0 := by omega
  have hn1 : (N == 0) = false := by simp; omega
  have hs0 : ¬ s = 0 := by omega
  have hs1 : (s == 0) = false := by simp; omega
  have hni : (n : Int) ≤ 192 := by omega
  clear hF hcl BM HSR hside hn hsd
  obtain ⟨m0, m1, -⟩ := A1.out.open2
  go_wp2_with fail
  refine (HBM.out _).mono ?_
  rintro e w7 ⟨go, rfl, hgo, hM0, b7⟩
  have z67 := HB.out.size
  have lA2 := A2.out.lt
  have hq4o : q4 < go := by omega
  have hgfo : gf < go := by omega
  have hwgo : w.heap.size ≤ go := by omega
  have HL7 := hid_of (HL.out.below HB.out)
  have hglo : g < go := by have := HL7.out.1; omega
  replace A1 := hid_of (A1.out.below b7)
  replace A2 := hid_of (A2.out.below b7)
  replace HB := hid_of (HB.out.trans (b7.mono HB.out.size))
  obtain ⟨q7, hq7⟩ : ∃ q, w7.heap.size = q := ⟨_, rfl⟩
  obtain ⟨W7, hW7, a7, b8, -⟩ := boxed w7 26 #[.int .i64 N, .slice (some ⟨go, 0, none⟩) len len]
  rw [hq7] at a7
  have hgo7 : go < q7 := by have := hM0.lt; omega
  have M7 : Hid (Made W7 go len 0 (avF N n A f)) := by
    obtain ⟨cur, a, h1, -⟩ := hM0
    exact ⟨cur, a.below b8, h1, fun i hi => by omega⟩
  replace A1 := hid_of (A1.out.below b8)
  replace A2 := hid_of (A2.out.below b8)
  replace HB := hid_of (HB.out.trans (b8.mono HB.out.size))
  have A7 := hid_of a7
  clear b7 b8 m0 m1 hM0 z67 lA2 hgo HBM a7 HL7
  go_wp2_with fail
  clear hW7 hq7
  refine (sback_any hm6 _).mono ?_
  rintro e w8 ⟨rfl, b8⟩
  have hsh := shN_lt n
  obtain ⟨sh, hshd⟩ : ∃ x, shN n = x := ⟨_, rfl⟩
  rw [hshd] at hsh ⊢
  have HSH := hid_of hshd
  replace A1 := hid_of (A1.out.below b8)
  replace A2 := hid_of (A2.out.below b8)
  replace A7 := hid_of (A7.out.below b8)
  replace HB := hid_of (HB.out.trans (b8.mono HB.out.size))
  replace M7 : Hid (Made w8 go len 0 (avF N n A f)) := by
    obtain ⟨cur, a, h1⟩ := M7.out
    exact ⟨cur, a.below b8, h1⟩
  clear b8 hshd
  have hw1 : IntKind.i64.wrap (N * N) = N * N := by rw [IntKind.wrap_i64]; omega
  have hw2 : IntKind.i64.wrap (N * N * N) = N * N * N := by rw [IntKind.wrap_i64]; omega
  have hcube : N * N * N = (len : Int) := HMO.out.2.1.symm
  rw [hcube] at hw2
  go_wp2
  have HKr := hid_of (Kept.refl go w8)
  go_loopw [9] (fun v wr => ∃ i : Nat, i ≤ len ∧ v = .int .i64 (i : Int) ∧ Hid (Made wr go len i (avF N n A f)) ∧ Hid (Kept go w8 wr) ∧ Hid (∀ k, k < i → ∀ j, j < n → fitN N (goN N A k j))) (fun v _ => len - (intOf v).toNat)
  case atStart => exact ⟨0, Nat.zero_le _, rfl, M7, HKr, fun k hk => by omega⟩
  case round =>
    clear M7 HKr
    obtain ⟨k, hk, rfl, M, K, HGD⟩ := hrel
    rename World => wk
    have A1r := hid_of (atKp A1.out K.out (by omega))
    have A2r := hid_of (atKp A2.out K.out (by omega))
    have A7r := hid_of (atKp A7.out K.out (by omega))
    have HBr : Hid (Below w.heap.size w wk) := HB.out.trans (K.out.below hwgo HB.out.size)
    by_cases hlt : k < len
    · have hlt' : (k : Int) < (len : Int) := by omega
      have hkN : (k : Int) < N * N * N := by omega
      have hpn : pnN N k = (byN N * ((k : Int) % N), byN N * ((k : Int) / N % N), byN N * ((k : Int) / N / N)) := rfl
      have hpi := pnN_in HSD.out hkN
      have hb : (0 ≤ (k : Int) % N ∧ (k : Int) % N < 12) ∧ (0 ≤ (k : Int) / N ∧ (k : Int) / N ≤ 1728) ∧ (0 ≤ (k : Int) / N % N ∧ (k : Int) / N % N < 12) ∧ (0 ≤ (k : Int) / N / N ∧ (k : Int) / N / N < 12) := by
        rcases HSD.out with h | h | h | h | h | h <;> subst h <;> omega
      rw [HS.out] at hpn
      obtain ⟨kd, hkd⟩ : ∃ x, (k : Int) / N = x := ⟨_, rfl⟩
      have u1 : Int.tmod (k : Int) N = (k : Int) % N := tmod_of (by omega) rfl
      have u2 : Int.tdiv (k : Int) N = kd := tdiv_of (by omega) hkd
      rw [hkd] at hpn hb
      obtain ⟨⟨x0, x1⟩, ⟨d0', d1'⟩, ⟨y0', y1'⟩, z0', z1'⟩ := hb
      have u3 : Int.tmod kd N = kd % N := tmod_of d0' rfl
      have u4 : Int.tdiv kd N = kd / N := tdiv_of d0' rfl
      obtain ⟨kx, hkx⟩ : ∃ x, (k : Int) % N = x := ⟨_, rfl⟩
      obtain ⟨ky, hky⟩ : ∃ x, kd % N = x := ⟨_, rfl⟩
      obtain ⟨kz, hkz⟩ : ∃ x, kd / N = x := ⟨_, rfl⟩
      rw [hkx] at u1 hpn x0 x1
      rw [hky] at u3 hpn y0' y1'
      rw [hkz] at u4 hpn z0' z1'
      have e1 : kx * s = s * kx := Int.mul_comm _ _
      have e2 : ky * s = s * ky := Int.mul_comm _ _
      have e3 : kz * s = s * kz := Int.mul_comm _ _
      obtain ⟨px, hpx⟩ : ∃ x, s * kx = x := ⟨_, rfl⟩
      obtain ⟨py, hpy⟩ : ∃ x, s * ky = x := ⟨_, rfl⟩
      obtain ⟨pz, hpz⟩ : ∃ x, s * kz = x := ⟨_, rfl⟩
      rw [hpx] at e1 hpn
      rw [hpy] at e2 hpn
      rw [hpz] at e3 hpn
      rw [hpn] at hpi
      have hpi' : inP px py pz := hpi
      have hpr := hpi'
      unfold inP at hpr
      obtain ⟨⟨pa, pb⟩, ⟨pc, pd⟩, pe, pf'⟩ := hpr
      have w1 : IntKind.i64.wrap kd = kd := by rw [IntKind.wrap_i64]; omega
      have w2 : IntKind.i64.wrap kz = kz := by rw [IntKind.wrap_i64]; omega
      have w3 : IntKind.i64.wrap px = px := by rw [IntKind.wrap_i64]; omega
      have w4 : IntKind.i64.wrap py = py := by rw [IntKind.wrap_i64]; omega
      have w5' : IntKind.i64.wrap pz = pz := by rw [IntKind.wrap_i64]; omega
      have HPN := hid_of hpn
      have HPI := hid_of hpi'
      clear hkN hkd hkx hky hkz hpx hpy hpz hpn hpi hpi' pa pb pc pd pe pf' x0 x1 d0' d1' y0' y1' z0' z1'
      have Br := Below.refl wk.heap.size wk
      go_wp2
      go_loopw [10, 11] (fun v u wr => ∃ i : Nat, i ≤ n ∧ v = .int .i64 (avL N A f k (List.range i)) ∧ u = .int .i64 (i : Int) ∧ Hid (∀ j, j < i → fitN N (goN N A k j)) ∧ Below wk.heap.size wk wr) (fun _ u _ => n - (intOf u).toNat)
      case atStart => exact ⟨0, Nat.zero_le _, rfl, rfl, fun j hj => by omega, Br⟩
      case round =>
        clear Br
        obtain ⟨i, hi, rfl, rfl, HGI, B⟩ := hrel
        rename World => wr
        by_cases hlt2 : i < n
        · have hlt2' : (i : Int) < (n : Int) := by omega
          --{Q
          have ok := HG.out.2.1 i hlt2
          have hL2 := HL.out.below (HBr.out.trans (B.mono HBr.out.size))
          obtain ⟨av, c1, bv, d1, e1', e2', s1, s2⟩ := hL2.2 i hlt2
          rw [ok.1] at e1' s1
          rw [ok.2.1] at e2' s2
          rcases s1 with s1 | ⟨bmm, om, rfl, lm, Im⟩
          · omega
          rcases s2 with s2 | ⟨bt, ot, rfl, lt, It⟩
          · omega
          have hgl := hL2.1
          have HQ : Hid (∀ wq, Kb wr wq → wq.cell? ⟨g, i * 2, none⟩ = some (.slice (some ⟨bmm, om, none⟩) 9 c1) ∧ wq.cell? ⟨g, i * 2 + 1, none⟩ = some (.slice (some ⟨bt, ot, none⟩) 3 d1)) := fun wq hq => ⟨(hq.cell (p := ⟨g, i * 2, none⟩) hgl).trans e1', (hq.cell (p := ⟨g, i * 2 + 1, none⟩) hgl).trans e2'⟩
          have TU : ∀ wq, Kb wr wq → Calls Tryz.prog 29 #[.agg #[.slice (some ⟨bmm, om, none⟩) 9 c1, .slice (some ⟨bt, ot, none⟩) 3 d1], .agg #[.int .i64 px, .int .i64 py, .int .i64 pz]] wq fun e w' => e = .returned (.agg #[.int .i64 (actV (A i).f (A i).h (p3 px py pz) 0), .int .i64 (actV (A i).f (A i).h (p3 px py pz) 1), .int .i64 (actV (A i).f (A i).h (p3 px py pz) 2)]) ∧ Below wq.heap.size wq w' := fun wq hq => l5Act_any c1 d1 (Im.below lm hq) (It.below lt hq) (Nat.lt_of_lt_of_le lm hq.size) (Nat.lt_of_lt_of_le lt hq.size) ok.2.2 HPI.out
          have hgo : goN N A k i = (actV (A i).f (A i).h (p3 px py pz) 0, actV (A i).f (A i).h (p3 px py pz) 1, actV (A i).f (A i).h (p3 px py pz) 2) := by unfold goN; rw [HPN.out]; unfold aK tO; rw [key_act (A i) _ 0 (by omega), key_act (A i) _ 1 (by omega), key_act (A i) _ 2 (by omega)]
          generalize actV (A i).f (A i).h (p3 px py pz) 0 = y0 at TU hgo
          generalize actV (A i).f (A i).h (p3 px py pz) 1 = y1 at TU hgo
          generalize actV (A i).f (A i).h (p3 px py pz) 2 = y2 at TU hgo
          have hyT : inT (y0, y1, y2) := by rw [← hgo]; exact aK_in _ _
          have hyr : inP y0 y1 y2 := hyT
          unfold inP at hyr
          obtain ⟨⟨ya0, ya1⟩, ⟨yb0, yb1⟩, yc0, yc1⟩ := hyr
          have HGO := hid_of hgo
          have hlt3 := nmN_lt HSD.out hyT
          have hnm : nmN N (y0, y1, y2) = (y2 / byN N * N + y1 / byN N) * N + y0 / byN N := rfl
          rw [HS.out] at hlt3 hnm
          simp only at hlt3
          have v1 : Int.tmod y0 s = y0 % s := tmod_of ya0 rfl
          have v2 : Int.tmod y1 s = y1 % s := tmod_of yb0 rfl
          have v3 : Int.tmod y2 s = y2 % s := tmod_of yc0 rfl
          have v4 : Int.tdiv y0 s = y0 / s := tdiv_of ya0 rfl
          have v5 : Int.tdiv y1 s = y1 / s := tdiv_of yb0 rfl
          have v6 : Int.tdiv y2 s = y2 / s := tdiv_of yc0 rfl
          have hfit : fitN N (y0, y1, y2) ↔ (y0 % s = 0 ∧ y1 % s = 0 ∧ y2 % s = 0) := by unfold fitN; rw [HS.out]
          have HFI := hid_of hfit
          have A1v := A1r.out.below B
          obtain ⟨S0, hS0⟩ : ∃ s, avL N A f k (List.range i) = s := ⟨_, rfl⟩
          have hS0b := avL_le HSD.out HMO.out.2.1 HMO.out.2.2 (A := A) (k := k) (List.range i)
          rw [hS0, List.length_range] at hS0b
          have HS0 := hid_of hS0
          rw [hS0]
          clear hgo hyT hfit hS0 Im It e1' e2' lm lt ok hgl hL2
          go_wp2_with fail
          go_cut [12] from 46 to 70 (fun v wc => CutV wr y0 y1 y2 v wc)
          case first =>
            obtain ⟨u0, hu0, bb⟩ : ∃ uu, wr.drew = uu ∧ Below wr.heap.size wr uu := ⟨_, rfl, (Below.refl _ _).drew⟩
            have bk0 : Kb wr u0 := bb
            clear bb
            refine wp_region_held_drew (S := Kb u0) (by kernel_rfl) (by rw [hu0]; exact Below.refl _ _) (fun hHeld => ?_)
            rw [hu0] at hHeld ⊢
            clear hu0
            have bu : Kb u0 u0 := Below.refl _ _
            change wpAnyH _ _ _ _ _ 27 #[false, false, false, false, false, false, false, false, false, false, false, false, false, false, false, false, false, false, false, false, false, false, false, false, false, false, false] _ _
            refine wpAnyH_take (i := 0) (v := .slice ((some ⟨g, 0, none⟩)) n c) rfl (by kernel_rfl) (by kernel_rfl) (by kernel_rfl) (fun _ _ _ h => h) (Or.inl ⟨by kernel_rfl, ?_⟩) hHeld ?_
            · intro w' hSw; go_simp
            try simp only [Act.put, List.setIfInBounds_toArray, List.set_cons_zero, List.set_cons_succ, List.getElem_toArray, List.getElem_cons_zero]
            refine wpAnyH_take (i := 1) (v := .int .i64 ((i : Int))) rfl (by kernel_rfl) (by kernel_rfl) (by kernel_rfl) (fun _ _ _ h => h) (Or.inl ⟨by kernel_rfl, ?_⟩) hHeld ?_
            · intro w' hSw; go_simp
            try simp only [Act.put, List.setIfInBounds_toArray, List.set_cons_zero, List.set_cons_succ, List.getElem_toArray, List.getElem_cons_succ, List.getElem_cons_zero]
            refine wpAnyH_take (i := 2) (v := .pointer (some ⟨g, i * 2, none⟩)) rfl (by kernel_rfl) (by kernel_rfl) (by kernel_rfl) (fun _ _ _ h => h) (Or.inl ⟨by kernel_rfl, ?_⟩) hHeld ?_
            · intro w' hSw; go_simp
            try simp only [Act.put, List.setIfInBounds_toArray, List.set_cons_zero, List.set_cons_succ, List.getElem_toArray, List.getElem_cons_succ, List.getElem_cons_zero]
            refine wpAnyH_take (i := 3) (v := .agg #[.slice (some ⟨bmm, om, none⟩) 9 c1, .slice (some ⟨bt, ot, none⟩) 3 d1]) rfl (by kernel_rfl) (by kernel_rfl) (by kernel_rfl) (fun _ _ _ h => h) (Or.inl ⟨by kernel_rfl, ?_⟩) hHeld ?_
            · intro w' hSw; obtain ⟨z0, z1⟩ := HQ.out _ (bk0.trans (Below.mono hSw bk0.size)); go_simp
            try simp only [Act.put, List.setIfInBounds_toArray, List.set_cons_zero, List.set_cons_succ, List.getElem_toArray, List.getElem_cons_succ, List.getElem_cons_zero]
            refine wpAnyH_take (i := 4) (v := .int .i64 ((k : Int))) rfl (by kernel_rfl) (by kernel_rfl) (by kernel_rfl) (fun _ _ _ h => h) (Or.inl ⟨by kernel_rfl, ?_⟩) hHeld ?_
            · intro w' hSw; go_simp
            try simp only [Act.put, List.setIfInBounds_toArray, List.set_cons_zero, List.set_cons_succ, List.getElem_toArray, List.getElem_cons_succ, List.getElem_cons_zero]
            refine wpAnyH_take (i := 5) (v := .int .i64 (N)) rfl (by kernel_rfl) (by kernel_rfl) (by kernel_rfl) (fun _ _ _ h => h) (Or.inl ⟨by kernel_rfl, ?_⟩) hHeld ?_
            · intro w' hSw; go_simp
            try simp only [Act.put, List.setIfInBounds_toArray, List.set_cons_zero, List.set_cons_succ, List.getElem_toArray, List.getElem_cons_succ, List.getElem_cons_zero]
            refine wpAnyH_take (i := 6) (v := .int .i64 (kx)) rfl (by kernel_rfl) (by kernel_rfl) (by kernel_rfl) (fun _ _ _ h => h) (Or.inl ⟨by kernel_rfl, ?_⟩) hHeld ?_
            · intro w' hSw; go_simp
            try simp only [Act.put, List.setIfInBounds_toArray, List.set_cons_zero, List.set_cons_succ, List.getElem_toArray, List.getElem_cons_succ, List.getElem_cons_zero]
            refine wpAnyH_take (i := 7) (v := .int .i64 (s)) rfl (by kernel_rfl) (by kernel_rfl) (by kernel_rfl) (fun _ _ _ h => h) (Or.inl ⟨by kernel_rfl, ?_⟩) hHeld ?_
            · intro w' hSw; go_simp
            try simp only [Act.put, List.setIfInBounds_toArray, List.set_cons_zero, List.set_cons_succ, List.getElem_toArray, List.getElem_cons_succ, List.getElem_cons_zero]
            refine wpAnyH_take (i := 8) (v := .int .i64 (px)) rfl (by kernel_rfl) (by kernel_rfl) (by kernel_rfl) (fun _ _ _ h => h) (Or.inl ⟨by kernel_rfl, ?_⟩) hHeld ?_
            · intro w' hSw; go_simp
            try simp only [Act.put, List.setIfInBounds_toArray, List.set_cons_zero, List.set_cons_succ, List.getElem_toArray, List.getElem_cons_succ, List.getElem_cons_zero]
            refine wpAnyH_take (i := 9) (v := .int .i64 ((k : Int))) rfl (by kernel_rfl) (by kernel_rfl) (by kernel_rfl) (fun _ _ _ h => h) (Or.inl ⟨by kernel_rfl, ?_⟩) hHeld ?_
            · intro w' hSw; go_simp
            try simp only [Act.put, List.setIfInBounds_toArray, List.set_cons_zero, List.set_cons_succ, List.getElem_toArray, List.getElem_cons_succ, List.getElem_cons_zero]
            refine wpAnyH_take (i := 10) (v := .int .i64 (N)) rfl (by kernel_rfl) (by kernel_rfl) (by kernel_rfl) (fun _ _ _ h => h) (Or.inl ⟨by kernel_rfl, ?_⟩) hHeld ?_
            · intro w' hSw; go_simp
            try simp only [Act.put, List.setIfInBounds_toArray, List.set_cons_zero, List.set_cons_succ, List.getElem_toArray, List.getElem_cons_succ, List.getElem_cons_zero]
            refine wpAnyH_take (i := 11) (v := .int .i64 (kd)) rfl (by kernel_rfl) (by kernel_rfl) (by kernel_rfl) (fun _ _ _ h => h) (Or.inl ⟨by kernel_rfl, ?_⟩) hHeld ?_
            · intro w' hSw; go_simp
            try simp only [Act.put, List.setIfInBounds_toArray, List.set_cons_zero, List.set_cons_succ, List.getElem_toArray, List.getElem_cons_succ, List.getElem_cons_zero]
            refine wpAnyH_take (i := 12) (v := .int .i64 (N)) rfl (by kernel_rfl) (by kernel_rfl) (by kernel_rfl) (fun _ _ _ h => h) (Or.inl ⟨by kernel_rfl, ?_⟩) hHeld ?_
            · intro w' hSw; go_simp
            try simp only [Act.put, List.setIfInBounds_toArray, List.set_cons_zero, List.set_cons_succ, List.getElem_toArray, List.getElem_cons_succ, List.getElem_cons_zero]
            refine wpAnyH_take (i := 13) (v := .int .i64 (ky)) rfl (by kernel_rfl) (by kernel_rfl) (by kernel_rfl) (fun _ _ _ h => h) (Or.inl ⟨by kernel_rfl, ?_⟩) hHeld ?_
            · intro w' hSw; go_simp
            try simp only [Act.put, List.setIfInBounds_toArray, List.set_cons_zero, List.set_cons_succ, List.getElem_toArray, List.getElem_cons_succ, List.getElem_cons_zero]
            refine wpAnyH_take (i := 14) (v := .int .i64 (s)) rfl (by kernel_rfl) (by kernel_rfl) (by kernel_rfl) (fun _ _ _ h => h) (Or.inl ⟨by kernel_rfl, ?_⟩) hHeld ?_
            · intro w' hSw; go_simp
            try simp only [Act.put, List.setIfInBounds_toArray, List.set_cons_zero, List.set_cons_succ, List.getElem_toArray, List.getElem_cons_succ, List.getElem_cons_zero]
            refine wpAnyH_take (i := 15) (v := .int .i64 (py)) rfl (by kernel_rfl) (by kernel_rfl) (by kernel_rfl) (fun _ _ _ h => h) (Or.inl ⟨by kernel_rfl, ?_⟩) hHeld ?_
            · intro w' hSw; go_simp
            try simp only [Act.put, List.setIfInBounds_toArray, List.set_cons_zero, List.set_cons_succ, List.getElem_toArray, List.getElem_cons_succ, List.getElem_cons_zero]
            refine wpAnyH_take (i := 16) (v := .int .i64 ((k : Int))) rfl (by kernel_rfl) (by kernel_rfl) (by kernel_rfl) (fun _ _ _ h => h) (Or.inl ⟨by kernel_rfl, ?_⟩) hHeld ?_
            · intro w' hSw; go_simp
            try simp only [Act.put, List.setIfInBounds_toArray, List.set_cons_zero, List.set_cons_succ, List.getElem_toArray, List.getElem_cons_succ, List.getElem_cons_zero]
            refine wpAnyH_take (i := 17) (v := .int .i64 (N)) rfl (by kernel_rfl) (by kernel_rfl) (by kernel_rfl) (fun _ _ _ h => h) (Or.inl ⟨by kernel_rfl, ?_⟩) hHeld ?_
            · intro w' hSw; go_simp
            try simp only [Act.put, List.setIfInBounds_toArray, List.set_cons_zero, List.set_cons_succ, List.getElem_toArray, List.getElem_cons_succ, List.getElem_cons_zero]
            refine wpAnyH_take (i := 18) (v := .int .i64 (kd)) rfl (by kernel_rfl) (by kernel_rfl) (by kernel_rfl) (fun _ _ _ h => h) (Or.inl ⟨by kernel_rfl, ?_⟩) hHeld ?_
            · intro w' hSw; go_simp
            try simp only [Act.put, List.setIfInBounds_toArray, List.set_cons_zero, List.set_cons_succ, List.getElem_toArray, List.getElem_cons_succ, List.getElem_cons_zero]
            refine wpAnyH_take (i := 19) (v := .int .i64 (N)) rfl (by kernel_rfl) (by kernel_rfl) (by kernel_rfl) (fun _ _ _ h => h) (Or.inl ⟨by kernel_rfl, ?_⟩) hHeld ?_
            · intro w' hSw; go_simp
            try simp only [Act.put, List.setIfInBounds_toArray, List.set_cons_zero, List.set_cons_succ, List.getElem_toArray, List.getElem_cons_succ, List.getElem_cons_zero]
            refine wpAnyH_take (i := 20) (v := .int .i64 (kz)) rfl (by kernel_rfl) (by kernel_rfl) (by kernel_rfl) (fun _ _ _ h => h) (Or.inl ⟨by kernel_rfl, ?_⟩) hHeld ?_
            · intro w' hSw; go_simp
            try simp only [Act.put, List.setIfInBounds_toArray, List.set_cons_zero, List.set_cons_succ, List.getElem_toArray, List.getElem_cons_succ, List.getElem_cons_zero]
            refine wpAnyH_take (i := 21) (v := .int .i64 (s)) rfl (by kernel_rfl) (by kernel_rfl) (by kernel_rfl) (fun _ _ _ h => h) (Or.inl ⟨by kernel_rfl, ?_⟩) hHeld ?_
            · intro w' hSw; go_simp
            try simp only [Act.put, List.setIfInBounds_toArray, List.set_cons_zero, List.set_cons_succ, List.getElem_toArray, List.getElem_cons_succ, List.getElem_cons_zero]
            refine wpAnyH_take (i := 22) (v := .int .i64 (pz)) rfl (by kernel_rfl) (by kernel_rfl) (by kernel_rfl) (fun _ _ _ h => h) (Or.inl ⟨by kernel_rfl, ?_⟩) hHeld ?_
            · intro w' hSw; go_simp
            try simp only [Act.put, List.setIfInBounds_toArray, List.set_cons_zero, List.set_cons_succ, List.getElem_toArray, List.getElem_cons_succ, List.getElem_cons_zero]
            refine wpAnyH_take (i := 23) (v := .agg #[.int .i64 px, .int .i64 py, .int .i64 pz]) rfl (by kernel_rfl) (by kernel_rfl) (by kernel_rfl) (fun _ _ _ h => h) (Or.inl ⟨by kernel_rfl, ?_⟩) hHeld ?_
            · intro w' hSw; go_simp
            try simp only [Act.put, List.setIfInBounds_toArray, List.set_cons_zero, List.set_cons_succ, List.getElem_toArray, List.getElem_cons_succ, List.getElem_cons_zero]
            refine wpAnyH_ready (rs := [24, 25]) (by kernel_rfl) (by simp) ?_
            refine AllReadyH.cons rfl (fun KK hK' => ?_) (AllReadyH.cons rfl (fun KK hK' => ?_) AllReadyH.nil)
            · go_simp
              refine (TU _ (bk0.trans (Below.mono bu bk0.size))).mono ?_
              rintro e u1 ⟨rfl, bb⟩
              replace bu : Kb u0 u1 := bu.trans (bb.mono bu.size)
              clear bb
              try go_wp2_with fail
              clear hHeld
              refine hK'.out _ _ (bu) (fun hHeld => ?_)
              clear hK' KK
              try simp only [List.setIfInBounds_toArray, List.set_cons_zero, List.set_cons_succ]
              refine wpAnyH_ready (rs := [25]) (by kernel_rfl) (by simp) ?_
              refine AllReadyH.cons rfl (fun KK hK' => ?_) AllReadyH.nil
              go_simp
              obtain ⟨u2, h6, G6, bb, -⟩ := boxed u1 54 #[.int .i64 0, .int .i64 0, .int .i64 0]
              rw [h6]
              clear h6
              obtain ⟨g6, hg6⟩ : ∃ q, u1.heap.size = q := ⟨_, rfl⟩
              rw [hg6] at G6 ⊢
              have hgu : u0.heap.size ≤ g6 := by have := bu.size; omega
              clear hg6
              replace bu : Kb u0 u2 := bu.trans (bb.mono bu.size)
              clear bb
              clear hHeld
              refine hK'.out _ _ (bu) (fun hHeld => ?_)
              clear hK' KK
              try simp only [List.setIfInBounds_toArray, List.set_cons_zero, List.set_cons_succ]
              refine wpAnyH_ready (rs := [26]) (by kernel_rfl) (by simp) ?_
              refine AllReadyH.cons rfl (fun KK hK' => ?_) AllReadyH.nil
              obtain ⟨x0, x1, x2, x3, x4, x5⟩ := G6.open3
              go_simp
              have G7 := put3_at G6 (.int .i64 y0) (.int .i64 y1) (.int .i64 y2)
              replace bu : Kb u0 (((u2.setCell ⟨g6, 0, none⟩ (.int .i64 y0)).setCell ⟨g6, 1, none⟩ (.int .i64 y1)).setCell ⟨g6, 2, none⟩ (.int .i64 y2)) := below_put3 bu hgu _ _ _
              obtain ⟨u3, hv⟩ : ∃ V, ((u2.setCell ⟨g6, 0, none⟩ (.int .i64 y0)).setCell ⟨g6, 1, none⟩ (.int .i64 y1)).setCell ⟨g6, 2, none⟩ (.int .i64 y2) = V := ⟨_, rfl⟩
              rw [hv] at G7 bu ⊢
              clear hv G6 x0 x1 x2 x3 x4 x5
              clear hHeld
              refine hK'.out _ _ (bu) (fun hHeld => ?_)
              clear hK' KK
              try simp only [List.setIfInBounds_toArray, List.set_cons_zero, List.set_cons_succ]
              refine wpAnyH_done (by kernel_rfl) ?_ _
              clear hHeld
              have bz := bk0.trans (Below.mono bu bk0.size)
              have hg7 : wr.heap.size ≤ g6 := by have := bk0.size; omega
              go_wp2_with fail
              go_meet
              case rel => exact ⟨g6, rfl, hg7, G7, bz⟩
            · go_simp
              obtain ⟨u1, h6, G6, bb, -⟩ := boxed u0 54 #[.int .i64 0, .int .i64 0, .int .i64 0]
              rw [h6]
              clear h6
              obtain ⟨g6, hg6⟩ : ∃ q, u0.heap.size = q := ⟨_, rfl⟩
              rw [hg6] at G6 ⊢
              have hgu : u0.heap.size ≤ g6 := by have := bu.size; omega
              clear hg6
              replace bu : Kb u0 u1 := bu.trans (bb.mono bu.size)
              clear bb
              clear hHeld
              refine hK'.out _ _ (bu) (fun hHeld => ?_)
              clear hK' KK
              try simp only [List.setIfInBounds_toArray, List.set_cons_zero, List.set_cons_succ]
              refine wpAnyH_ready (rs := [24]) (by kernel_rfl) (by simp) ?_
              refine AllReadyH.cons rfl (fun KK hK' => ?_) AllReadyH.nil
              go_simp
              refine (TU _ (bk0.trans (Below.mono bu bk0.size))).mono ?_
              rintro e u2 ⟨rfl, bb⟩
              replace G6 := G6.below bb
              replace bu : Kb u0 u2 := bu.trans (bb.mono bu.size)
              clear bb
              try go_wp2_with fail
              clear hHeld
              refine hK'.out _ _ (bu) (fun hHeld => ?_)
              clear hK' KK
              try simp only [List.setIfInBounds_toArray, List.set_cons_zero, List.set_cons_succ]
              refine wpAnyH_ready (rs := [26]) (by kernel_rfl) (by simp) ?_
              refine AllReadyH.cons rfl (fun KK hK' => ?_) AllReadyH.nil
              obtain ⟨x0, x1, x2, x3, x4, x5⟩ := G6.open3
              go_simp
              have G7 := put3_at G6 (.int .i64 y0) (.int .i64 y1) (.int .i64 y2)
              replace bu : Kb u0 (((u2.setCell ⟨g6, 0, none⟩ (.int .i64 y0)).setCell ⟨g6, 1, none⟩ (.int .i64 y1)).setCell ⟨g6, 2, none⟩ (.int .i64 y2)) := below_put3 bu hgu _ _ _
              obtain ⟨u3, hv⟩ : ∃ V, ((u2.setCell ⟨g6, 0, none⟩ (.int .i64 y0)).setCell ⟨g6, 1, none⟩ (.int .i64 y1)).setCell ⟨g6, 2, none⟩ (.int .i64 y2) = V := ⟨_, rfl⟩
              rw [hv] at G7 bu ⊢
              clear hv G6 x0 x1 x2 x3 x4 x5
              clear hHeld
              refine hK'.out _ _ (bu) (fun hHeld => ?_)
              clear hK' KK
              try simp only [List.setIfInBounds_toArray, List.set_cons_zero, List.set_cons_succ]
              refine wpAnyH_done (by kernel_rfl) ?_ _
              clear hHeld
              have bz := bk0.trans (Below.mono bu bk0.size)
              have hg7 : wr.heap.size ≤ g6 := by have := bk0.size; omega
              go_wp2_with fail
              go_meet
              case rel => exact ⟨g6, rfl, hg7, G7, bz⟩
          case rest =>
            obtain ⟨q12, rfl, hq12, Q12, b12⟩ := hcut
            rename World => wz
            have BZ := B.trans (b12.mono B.size)
            have A2 := hid_of (A2r.out.below BZ)
            have HB := hid_of (HBr.out.trans (BZ.mono HBr.out.size))
            obtain ⟨z0, z1, z2, -⟩ := Q12.open3
            clear TU HQ A1v b12
            by_cases h1 : y0 % s = 0
            rotate_left
            · have g1 : (y0 % s != 0) = true := by simp [h1]
              have HNO : Hid (¬ avO N len n A f) := hid_of (fun h => h1 (HFI.out.1 (by rw [← HGO.out]; exact h.2.2 k hlt i hlt2)).1)
              obtain ⟨d0, d1, f0, f1⟩ := A2.out.open2
              clear h1 hnm
              as_aux_lemma =>
                go_wp2
                have a9 : At 26 ((wz.setCell ⟨q4, 0, none⟩ (.int .i64 0)).setCell ⟨q4, 1, none⟩ (.slice none 0 0)) q4 #[.int .i64 0, .slice none 0 0] := by simpa using (A2.out.set 0 (.int .i64 0)).set 1 (.slice none 0 0)
                obtain ⟨p0, p1, -⟩ := a9.open2
                exact bodyPost_ret (v := mV 0 (.slice none 0 0)) (by simp [results, Tryz.results7, go_sem, p0, p1]) rfl ⟨⟨_, rfl, .inr ⟨HNO.out, rfl⟩⟩, (HB.out.setCell (p := ⟨q4, 0, none⟩) hwq _).setCell (p := ⟨q4, 1, none⟩) hwq _⟩
            have g1 : (y0 % s != 0) = false := by simp [h1]
            by_cases h2 : y1 % s = 0
            rotate_left
            · have g2 : (y1 % s != 0) = true := by simp [h2]
              have HNO : Hid (¬ avO N len n A f) := hid_of (fun h => h2 (HFI.out.1 (by rw [← HGO.out]; exact h.2.2 k hlt i hlt2)).2.1)
              obtain ⟨d0, d1, f0, f1⟩ := A2.out.open2
              clear h2 hnm
              as_aux_lemma =>
                go_wp2
                have a9 : At 26 ((wz.setCell ⟨q4, 0, none⟩ (.int .i64 0)).setCell ⟨q4, 1, none⟩ (.slice none 0 0)) q4 #[.int .i64 0, .slice none 0 0] := by simpa using (A2.out.set 0 (.int .i64 0)).set 1 (.slice none 0 0)
                obtain ⟨p0, p1, -⟩ := a9.open2
                exact bodyPost_ret (v := mV 0 (.slice none 0 0)) (by simp [results, Tryz.results7, go_sem, p0, p1]) rfl ⟨⟨_, rfl, .inr ⟨HNO.out, rfl⟩⟩, (HB.out.setCell (p := ⟨q4, 0, none⟩) hwq _).setCell (p := ⟨q4, 1, none⟩) hwq _⟩
            have g2 : (y1 % s != 0) = false := by simp [h2]
            by_cases h3 : y2 % s = 0
            rotate_left
            · have g3 : (y2 % s != 0) = true := by simp [h3]
              have HNO : Hid (¬ avO N len n A f) := hid_of (fun h => h3 (HFI.out.1 (by rw [← HGO.out]; exact h.2.2 k hlt i hlt2)).2.2)
              obtain ⟨d0, d1, f0, f1⟩ := A2.out.open2
              clear h3 hnm
              as_aux_lemma =>
                go_wp2
                have a9 : At 26 ((wz.setCell ⟨q4, 0, none⟩ (.int .i64 0)).setCell ⟨q4, 1, none⟩ (.slice none 0 0)) q4 #[.int .i64 0, .slice none 0 0] := by simpa using (A2.out.set 0 (.int .i64 0)).set 1 (.slice none 0 0)
                obtain ⟨p0, p1, -⟩ := a9.open2
                exact bodyPost_ret (v := mV 0 (.slice none 0 0)) (by simp [results, Tryz.results7, go_sem, p0, p1]) rfl ⟨⟨_, rfl, .inr ⟨HNO.out, rfl⟩⟩, (HB.out.setCell (p := ⟨q4, 0, none⟩) hwq _).setCell (p := ⟨q4, 1, none⟩) hwq _⟩
            have g3 : (y2 % s != 0) = false := by simp [h3]
            have hft : fitN N (goN N A k i) := by rw [HGO.out]; exact HFI.out.2 ⟨h1, h2, h3⟩
            have HFT := hid_of hft
            clear h1 h2 h3 hft
            generalize y0 / s = X at hlt3 hnm v4
            generalize y1 / s = Y at hlt3 hnm v5
            generalize y2 / s = Z at hlt3 hnm v6
            obtain ⟨rX, rY, rZ, n0, n1⟩ := hlt3
            obtain ⟨k1, k2, k3⟩ := place_by HSD.out rX rY rZ
            obtain ⟨M0, hM0⟩ : ∃ M : Nat, (nmN N (y0, y1, y2)).toNat = M := ⟨_, rfl⟩
            have hMe : (Z * N + Y) * N + X = (M0 : Int) := by omega
            have hMl : M0 < len := by have := HMO.out.2.1; omega
            have hMi : (M0 : Int) < (len : Int) := by omega
            have hfm := HMO.out.2.2 M0 hMl
            obtain ⟨FM, hFM⟩ : ∃ s, f M0 = s := ⟨_, rfl⟩
            rw [hFM] at hfm
            have wX : IntKind.i64.wrap X = X := by rw [IntKind.wrap_i64]; omega
            have wY : IntKind.i64.wrap Y = Y := by rw [IntKind.wrap_i64]; omega
            have wZ : IntKind.i64.wrap Z = Z := by rw [IntKind.wrap_i64]; omega
            have wa : IntKind.i64.wrap (Z * N) = Z * N := by rw [IntKind.wrap_i64]; omega
            have wb : IntKind.i64.wrap (Z * N + Y) = Z * N + Y := by rw [IntKind.wrap_i64]; omega
            have wc : IntKind.i64.wrap ((Z * N + Y) * N) = (Z * N + Y) * N := by rw [IntKind.wrap_i64]; omega
            have wd : IntKind.i64.wrap ((Z * N + Y) * N + X) = (M0 : Int) := by rw [hMe, IntKind.wrap_i64]; omega
            have wm : IntKind.i64.wrap (M0 : Int) = (M0 : Int) := by rw [IntKind.wrap_i64]; omega
            have we : IntKind.i64.wrap (S0 + FM) = S0 + FM := IntWalk.i64_in _ (by omega)
            have HNX : Hid (avL N A f k (List.range (i + 1)) = S0 + FM) := hid_of (by rw [avL_range, HS0.out, HGO.out, hM0, hFM])
            have cFz : wz.cell? ⟨gf, M0, none⟩ = some (.int .i64 FM) := by
              have h := (HB.out.cell (p := ⟨gf, 0 + M0, none⟩) hgf).trans (HF.out M0 hMl)
              rw [hFM] at h
              simpa using h
            have hgfz : gf < wz.heap.size := by have := HB.out.size; omega
            have A1w := A1r.out.below BZ
            have G7u := Q12
            have HBZ := hid_of BZ
            clear hnm hM0 hFM n0 n1 hfm hS0b BZ Q12 A2 k1 k2 k3 rX rY rZ
            go_wp2_with fail
            clear z0 z1 z2
            obtain ⟨u0, hu0, bb⟩ : ∃ uu, wz.drew = uu ∧ Below wz.heap.size wz uu := ⟨_, rfl, (Below.refl _ _).drew⟩
            replace A1w := A1w.below bb
            replace G7u := G7u.below bb
            have bk0 : Kb wz u0 := bb
            have CFk : ∀ w', Below u0.heap.size u0 w' → w'.cell? ⟨gf, M0, none⟩ = some (.int .i64 FM) := fun w' h => (h.cell (p := ⟨gf, M0, none⟩) (by have := bb.size; show gf < u0.heap.size; omega)).trans ((bb.cell (p := ⟨gf, M0, none⟩) hgfz).trans cFz)
            clear bb
            refine wp_region_held_drew (S := Kb u0) (by kernel_rfl) (by rw [hu0]; exact Below.refl _ _) (fun hHeld => ?_)
            rw [hu0] at hHeld ⊢
            clear hu0
            have bu : Kb u0 u0 := Below.refl _ _
            change wpAnyH _ _ _ _ _ 25 #[false, false, false, false, false, false, false, false, false, false, false, false, false, false, false, false, false, false, false, false, false, false, false, false, false] _ _
            refine wpAnyH_take (i := 0) (v := .int .i64 (S0)) rfl (by kernel_rfl) (by kernel_rfl) (by kernel_rfl) (fun _ _ _ h => h) (Or.inl ⟨by kernel_rfl, ?_⟩) hHeld ?_
            · intro w' hSw; go_simp
            try simp only [Act.put, List.setIfInBounds_toArray, List.set_cons_zero, List.set_cons_succ, List.getElem_toArray, List.getElem_cons_zero]
            refine wpAnyH_take (i := 1) (v := .pointer (some ⟨q2, 1, none⟩)) rfl (by kernel_rfl) (by kernel_rfl) (by kernel_rfl) (fun _ _ _ h => h) (Or.inl ⟨by kernel_rfl, ?_⟩) hHeld ?_
            · intro w' hSw; go_simp
            try simp only [Act.put, List.setIfInBounds_toArray, List.set_cons_zero, List.set_cons_succ, List.getElem_toArray, List.getElem_cons_succ, List.getElem_cons_zero]
            refine wpAnyH_take (i := 2) (v := .slice ((some ⟨gf, 0, none⟩)) len cf) rfl (by kernel_rfl) (by kernel_rfl) (by kernel_rfl) (fun _ _ _ h => h) (Or.inl ⟨by kernel_rfl, ?_⟩) hHeld ?_
            · intro w' hSw; obtain ⟨z0, z1, -⟩ := (A1w.below hSw).open2; go_simp
            try simp only [Act.put, List.setIfInBounds_toArray, List.set_cons_zero, List.set_cons_succ, List.getElem_toArray, List.getElem_cons_succ, List.getElem_cons_zero]
            refine wpAnyH_take (i := 3) (v := .pointer (some ⟨q12, 2, none⟩)) rfl (by kernel_rfl) (by kernel_rfl) (by kernel_rfl) (fun _ _ _ h => h) (Or.inl ⟨by kernel_rfl, ?_⟩) hHeld ?_
            · intro w' hSw; go_simp
            try simp only [Act.put, List.setIfInBounds_toArray, List.set_cons_zero, List.set_cons_succ, List.getElem_toArray, List.getElem_cons_succ, List.getElem_cons_zero]
            refine wpAnyH_take (i := 4) (v := .int .i64 (y2)) rfl (by kernel_rfl) (by kernel_rfl) (by kernel_rfl) (fun _ _ _ h => h) (Or.inl ⟨by kernel_rfl, ?_⟩) hHeld ?_
            · intro w' hSw; obtain ⟨z0, z1, z2, -⟩ := (G7u.below hSw).open3; go_simp
            try simp only [Act.put, List.setIfInBounds_toArray, List.set_cons_zero, List.set_cons_succ, List.getElem_toArray, List.getElem_cons_succ, List.getElem_cons_zero]
            refine wpAnyH_take (i := 5) (v := .int .i64 (s)) rfl (by kernel_rfl) (by kernel_rfl) (by kernel_rfl) (fun _ _ _ h => h) (Or.inl ⟨by kernel_rfl, ?_⟩) hHeld ?_
            · intro w' hSw; go_simp
            try simp only [Act.put, List.setIfInBounds_toArray, List.set_cons_zero, List.set_cons_succ, List.getElem_toArray, List.getElem_cons_succ, List.getElem_cons_zero]
            refine wpAnyH_take (i := 6) (v := .int .i64 (Z)) rfl (by kernel_rfl) (by kernel_rfl) (by kernel_rfl) (fun _ _ _ h => h) (Or.inl ⟨by kernel_rfl, ?_⟩) hHeld ?_
            · intro w' hSw; go_simp
            try simp only [Act.put, List.setIfInBounds_toArray, List.set_cons_zero, List.set_cons_succ, List.getElem_toArray, List.getElem_cons_succ, List.getElem_cons_zero]
            refine wpAnyH_take (i := 7) (v := .int .i64 (N)) rfl (by kernel_rfl) (by kernel_rfl) (by kernel_rfl) (fun _ _ _ h => h) (Or.inl ⟨by kernel_rfl, ?_⟩) hHeld ?_
            · intro w' hSw; go_simp
            try simp only [Act.put, List.setIfInBounds_toArray, List.set_cons_zero, List.set_cons_succ, List.getElem_toArray, List.getElem_cons_succ, List.getElem_cons_zero]
            refine wpAnyH_take (i := 8) (v := .int .i64 (Z * N)) rfl (by kernel_rfl) (by kernel_rfl) (by kernel_rfl) (fun _ _ _ h => h) (Or.inl ⟨by kernel_rfl, ?_⟩) hHeld ?_
            · intro w' hSw; go_simp
            try simp only [Act.put, List.setIfInBounds_toArray, List.set_cons_zero, List.set_cons_succ, List.getElem_toArray, List.getElem_cons_succ, List.getElem_cons_zero]
            refine wpAnyH_take (i := 9) (v := .pointer (some ⟨q12, 1, none⟩)) rfl (by kernel_rfl) (by kernel_rfl) (by kernel_rfl) (fun _ _ _ h => h) (Or.inl ⟨by kernel_rfl, ?_⟩) hHeld ?_
            · intro w' hSw; go_simp
            try simp only [Act.put, List.setIfInBounds_toArray, List.set_cons_zero, List.set_cons_succ, List.getElem_toArray, List.getElem_cons_succ, List.getElem_cons_zero]
            refine wpAnyH_take (i := 10) (v := .int .i64 (y1)) rfl (by kernel_rfl) (by kernel_rfl) (by kernel_rfl) (fun _ _ _ h => h) (Or.inl ⟨by kernel_rfl, ?_⟩) hHeld ?_
            · intro w' hSw; obtain ⟨z0, z1, z2, -⟩ := (G7u.below hSw).open3; go_simp
            try simp only [Act.put, List.setIfInBounds_toArray, List.set_cons_zero, List.set_cons_succ, List.getElem_toArray, List.getElem_cons_succ, List.getElem_cons_zero]
            refine wpAnyH_take (i := 11) (v := .int .i64 (s)) rfl (by kernel_rfl) (by kernel_rfl) (by kernel_rfl) (fun _ _ _ h => h) (Or.inl ⟨by kernel_rfl, ?_⟩) hHeld ?_
            · intro w' hSw; go_simp
            try simp only [Act.put, List.setIfInBounds_toArray, List.set_cons_zero, List.set_cons_succ, List.getElem_toArray, List.getElem_cons_succ, List.getElem_cons_zero]
            refine wpAnyH_take (i := 12) (v := .int .i64 (Y)) rfl (by kernel_rfl) (by kernel_rfl) (by kernel_rfl) (fun _ _ _ h => h) (Or.inl ⟨by kernel_rfl, ?_⟩) hHeld ?_
            · intro w' hSw; go_simp
            try simp only [Act.put, List.setIfInBounds_toArray, List.set_cons_zero, List.set_cons_succ, List.getElem_toArray, List.getElem_cons_succ, List.getElem_cons_zero]
            refine wpAnyH_take (i := 13) (v := .int .i64 (Z * N + Y)) rfl (by kernel_rfl) (by kernel_rfl) (by kernel_rfl) (fun _ _ _ h => h) (Or.inl ⟨by kernel_rfl, ?_⟩) hHeld ?_
            · intro w' hSw; go_simp
            try simp only [Act.put, List.setIfInBounds_toArray, List.set_cons_zero, List.set_cons_succ, List.getElem_toArray, List.getElem_cons_succ, List.getElem_cons_zero]
            refine wpAnyH_take (i := 14) (v := .int .i64 (N)) rfl (by kernel_rfl) (by kernel_rfl) (by kernel_rfl) (fun _ _ _ h => h) (Or.inl ⟨by kernel_rfl, ?_⟩) hHeld ?_
            · intro w' hSw; go_simp
            try simp only [Act.put, List.setIfInBounds_toArray, List.set_cons_zero, List.set_cons_succ, List.getElem_toArray, List.getElem_cons_succ, List.getElem_cons_zero]
            refine wpAnyH_take (i := 15) (v := .int .i64 ((Z * N + Y) * N)) rfl (by kernel_rfl) (by kernel_rfl) (by kernel_rfl) (fun _ _ _ h => h) (Or.inl ⟨by kernel_rfl, ?_⟩) hHeld ?_
            · intro w' hSw; go_simp
            try simp only [Act.put, List.setIfInBounds_toArray, List.set_cons_zero, List.set_cons_succ, List.getElem_toArray, List.getElem_cons_succ, List.getElem_cons_zero]
            refine wpAnyH_take (i := 16) (v := .pointer (some ⟨q12, 0, none⟩)) rfl (by kernel_rfl) (by kernel_rfl) (by kernel_rfl) (fun _ _ _ h => h) (Or.inl ⟨by kernel_rfl, ?_⟩) hHeld ?_
            · intro w' hSw; go_simp
            try simp only [Act.put, List.setIfInBounds_toArray, List.set_cons_zero, List.set_cons_succ, List.getElem_toArray, List.getElem_cons_succ, List.getElem_cons_zero]
            refine wpAnyH_take (i := 17) (v := .int .i64 (y0)) rfl (by kernel_rfl) (by kernel_rfl) (by kernel_rfl) (fun _ _ _ h => h) (Or.inl ⟨by kernel_rfl, ?_⟩) hHeld ?_
            · intro w' hSw; obtain ⟨z0, z1, z2, -⟩ := (G7u.below hSw).open3; go_simp
            try simp only [Act.put, List.setIfInBounds_toArray, List.set_cons_zero, List.set_cons_succ, List.getElem_toArray, List.getElem_cons_succ, List.getElem_cons_zero]
            refine wpAnyH_take (i := 18) (v := .int .i64 (s)) rfl (by kernel_rfl) (by kernel_rfl) (by kernel_rfl) (fun _ _ _ h => h) (Or.inl ⟨by kernel_rfl, ?_⟩) hHeld ?_
            · intro w' hSw; go_simp
            try simp only [Act.put, List.setIfInBounds_toArray, List.set_cons_zero, List.set_cons_succ, List.getElem_toArray, List.getElem_cons_succ, List.getElem_cons_zero]
            refine wpAnyH_take (i := 19) (v := .int .i64 (X)) rfl (by kernel_rfl) (by kernel_rfl) (by kernel_rfl) (fun _ _ _ h => h) (Or.inl ⟨by kernel_rfl, ?_⟩) hHeld ?_
            · intro w' hSw; go_simp
            try simp only [Act.put, List.setIfInBounds_toArray, List.set_cons_zero, List.set_cons_succ, List.getElem_toArray, List.getElem_cons_succ, List.getElem_cons_zero]
            refine wpAnyH_take (i := 20) (v := .int .i64 ((M0 : Int))) rfl (by kernel_rfl) (by kernel_rfl) (by kernel_rfl) (fun _ _ _ h => h) (Or.inl ⟨by kernel_rfl, ?_⟩) hHeld ?_
            · intro w' hSw; go_simp
            try simp only [Act.put, List.setIfInBounds_toArray, List.set_cons_zero, List.set_cons_succ, List.getElem_toArray, List.getElem_cons_succ, List.getElem_cons_zero]
            refine wpAnyH_take (i := 21) (v := .pointer (some ⟨gf, M0, none⟩)) rfl (by kernel_rfl) (by kernel_rfl) (by kernel_rfl) (fun _ _ _ h => h) (Or.inl ⟨by kernel_rfl, ?_⟩) hHeld ?_
            · intro w' hSw; go_simp
            try simp only [Act.put, List.setIfInBounds_toArray, List.set_cons_zero, List.set_cons_succ, List.getElem_toArray, List.getElem_cons_succ, List.getElem_cons_zero]
            refine wpAnyH_take (i := 22) (v := .int .i64 (FM)) rfl (by kernel_rfl) (by kernel_rfl) (by kernel_rfl) (fun _ _ _ h => h) (Or.inl ⟨by kernel_rfl, ?_⟩) hHeld ?_
            · intro w' hSw; have z0 := CFk _ hSw; go_simp
            try simp only [Act.put, List.setIfInBounds_toArray, List.set_cons_zero, List.set_cons_succ, List.getElem_toArray, List.getElem_cons_succ, List.getElem_cons_zero]
            refine wpAnyH_take (i := 23) (v := .int .i64 (S0 + FM)) rfl (by kernel_rfl) (by kernel_rfl) (by kernel_rfl) (fun _ _ _ h => h) (Or.inl ⟨by kernel_rfl, ?_⟩) hHeld ?_
            · intro w' hSw; go_simp
            try simp only [Act.put, List.setIfInBounds_toArray, List.set_cons_zero, List.set_cons_succ, List.getElem_toArray, List.getElem_cons_succ, List.getElem_cons_zero]
            refine wpAnyH_take (i := 24) (v := .int .i64 (S0 + FM)) rfl (by kernel_rfl) (by kernel_rfl) (by kernel_rfl) (fun _ _ _ h => h) (Or.inl ⟨by kernel_rfl, ?_⟩) hHeld ?_
            · intro w' hSw; go_simp
            try simp only [Act.put, List.setIfInBounds_toArray, List.set_cons_zero, List.set_cons_succ, List.getElem_toArray, List.getElem_cons_succ, List.getElem_cons_zero]
            refine wpAnyH_done (by kernel_rfl) ?_ _
            clear hHeld
            have bz2 := bk0.trans (Below.mono bu bk0.size)
            clear bu
            have FB : Hid (Below wk.heap.size wk u0) := HBZ.out.trans (bz2.mono HBZ.out.size)
            have HG2 : Hid (∀ j, j < i + 1 → fitN N (goN N A k j)) := fun j hj => by
              by_cases e : j = i
              · subst e; exact HFT.out
              · exact HGI.out j (by omega)
            clear bz2 bk0 A1w G7u CFk cFz
            go_wp2
            exact ⟨⟨i + 1, by omega, by rw [HNX.out], by go_num, HG2, FB.out⟩, by simp [intOf]; omega⟩
          --}Q
        · obtain rfl : i = n := by omega
          have hlt2' : ¬ (i : Int) < (i : Int) := by omega
          obtain ⟨S, hSd⟩ : ∃ s, avL N A f k (List.range i) = s := ⟨_, rfl⟩
          have hSb := avL_le HSD.out HMO.out.2.1 HMO.out.2.2 (A := A) (k := k) (List.range i)
          rw [hSd, List.length_range] at hSb
          rw [hSd]
          have hS0 : 0 ≤ S := hSb.1
          have t1 : Int.tmod S 12289 = S % 12289 := tmod_of hS0 rfl
          have hav : S % 12289 * sh % 12289 = avF N i A f k := by
            unfold avF
            rw [hSd, HSH.out, Int.mul_emod (S % 12289) sh, Int.emod_emod, ← Int.mul_emod]
          obtain ⟨SP, hSP⟩ : ∃ x, S % 12289 = x := ⟨_, rfl⟩
          have hSPr : 0 ≤ SP ∧ SP ≤ 12288 := by omega
          rw [hSP] at t1 hav
          have hp1 : 0 ≤ SP * sh ∧ SP * sh ≤ 12288 * 12288 := ⟨Int.mul_nonneg hSPr.1 hsh.1, Int.mul_le_mul hSPr.2 (by omega) hsh.1 (by omega)⟩
          have hwp : IntKind.i64.wrap (SP * sh) = SP * sh := by rw [IntKind.wrap_i64]; omega
          have ht1 : Int.tmod (SP * sh) 12289 = SP * sh % 12289 := tmod_of hp1.1 rfl
          obtain ⟨o0, o1, -⟩ := (A7r.out.below B).open2
          have M9 : Made wr go len k (avF N i A f) := by
            obtain ⟨cur, a, h1⟩ := M.out
            exact ⟨cur, a.below B, h1⟩
          obtain ⟨kO, fO⟩ := M9.open hlt
          have HM9 := hid_of (M9.set hlt)
          obtain ⟨av, hav2⟩ : ∃ x, avF N i A f k = x := ⟨_, rfl⟩
          rw [hav2] at HM9 hav
          rw [hav] at ht1
          have HK9 : Hid (Kept go w8 (wr.setCell ⟨go, k, none⟩ (.int .i64 av))) := (K.out.trans (Kept.of_below B)).set _
          have HG9 : Hid (∀ k', k' < k + 1 → ∀ j, j < i → fitN N (goN N A k' j)) := fun k' hk' j hj => by
            by_cases e : k' = k
            · subst e; exact HGI.out j hj
            · exact HGD.out k' (by omega) j hj
          clear hSd hSb hp1 hav hav2 M9 hSP B
          as_aux_lemma =>
            go_wp2
            exact ⟨⟨k + 1, by omega, by go_num, HM9, HK9, HG9⟩, by simp [intOf]; omega⟩
    · obtain rfl : k = len := by omega
      have hlt' : ¬ (k : Int) < (k : Int) := by omega
      obtain ⟨o0, o1, -⟩ := A7r.out.open2
      obtain ⟨d0, d1, f0, f1⟩ := A2r.out.open2
      as_aux_lemma =>
        go_wp2
        have a9 : At 26 ((wk.setCell ⟨q4, 0, none⟩ (.int .i64 N)).setCell ⟨q4, 1, none⟩ (.slice (some ⟨go, 0, none⟩) k k)) q4 #[.int .i64 N, .slice (some ⟨go, 0, none⟩) k k] := by simpa using (A2r.out.set 0 (.int .i64 N)).set 1 (.slice (some ⟨go, 0, none⟩) k k)
        obtain ⟨p0, p1, -⟩ := a9.open2
        have hk4 : Kept q4 wk ((wk.setCell ⟨q4, 0, none⟩ (.int .i64 N)).setCell ⟨q4, 1, none⟩ (.slice (some ⟨go, 0, none⟩) k k)) := ((Kept.refl _ _).set _).set _
        have hMf := M.out.kp hk4 (by omega)
        exact bodyPost_ret (v := mV N (.slice (some ⟨go, 0, none⟩) k k)) (by simp [results, Tryz.results7, go_sem, p0, p1]) rfl ⟨⟨_, rfl, .inl ⟨⟨HMO.out, HG.out, HGD.out⟩, _, rfl, .inr ⟨go, k, rfl, hwgo, hMf.lt, ⟨Nat.le_refl _, by unfold maxLen; omega⟩, hMf⟩⟩⟩, HBr.out.trans (hk4.below hwq HBr.out.size)⟩
end Go.Proofs.YtiocneailhplkaaGreat
