/-
  Spread by the specification: walked.
-/
import Derived.Test.YtgjhbkpocbihbaaGreatSd4
import Derived.Test.YtgjhbkpocbihbaaGreatMH
namespace Go.Proofs.YtgjhbkpocbihbaaGreat
open Go.RowKit

theorem put4A {t : TypeId} {w : World} {q : Nat} {u0 u1 u2 u3 : Value} (h : At t w q #[u0, u1, u2, u3]) (v0 v1 v2 v3 : Value) : At t ((((w.setCell ⟨q, 0, none⟩ v0).setCell ⟨q, 1, none⟩ v1).setCell ⟨q, 2, none⟩ v2).setCell ⟨q, 3, none⟩ v3) q #[v0, v1, v2, v3] := by
  have := (((h.set 0 v0).set 1 v1).set 2 v2).set 3 v3
  simpa using this
theorem below4A {N q : Nat} {w w2 : World} (h : Below N w w2) (hq : N ≤ q) (v0 v1 v2 v3 : Value) : Below N w ((((w2.setCell ⟨q, 0, none⟩ v0).setCell ⟨q, 1, none⟩ v1).setCell ⟨q, 2, none⟩ v2).setCell ⟨q, 3, none⟩ v3) :=
  (((h.setCell hq v0).setCell hq v1).setCell hq v2).setCell hq v3
/-- The atom in its box. -/
def CutA (wr : World) (s0 s1 s2 s3 : Int) (s12 : Value) (wc : World) : Prop := ∃ q, s12 = .pointer (some ⟨q, 0, none⟩) ∧ wr.heap.size ≤ q ∧ At 81 wc q #[.int .i64 s0, .int .i64 s1, .int .i64 s2, .int .i64 s3] ∧ Below wr.heap.size wr wc
theorem getD_mem {l : List A4} {x : A4} {L : Nat} (hl : l.length = L) : (∃ k, k < L ∧ l.getD k (0, 0, 0, 0) = x) ↔ x ∈ l := by
  constructor
  · rintro ⟨k, hk, rfl⟩
    rw [List.getD_eq_getElem?_getD, List.getElem?_eq_getElem (by omega)]
    exact List.getElem_mem _
  · intro h
    obtain ⟨k, hk, e⟩ := List.getElem_of_mem h
    exact ⟨k, by omega, by rw [List.getD_eq_getElem?_getD, List.getElem?_eq_getElem hk, e]; rfl⟩
theorem getD_pre {l r : List A4} {k : Nat} (hk : k < l.length) : (l ++ r).getD k (0, 0, 0, 0) = l.getD k (0, 0, 0, 0) := by
  rw [List.getD_eq_getElem?_getD, List.getD_eq_getElem?_getD, List.getElem?_append_left hk]
/-- The list so far: as it was, or with the first t of the orbit. -/
def lsS (mm : Bool) (l : List A4) (F : Nat → T3) (s : Int) (t : Nat) : List A4 := if mm = true then l else l ++ orL F s t
theorem lsS_get {mm : Bool} {l : List A4} {F : Nat → T3} {s : Int} {t k : Nat} (hk : k < l.length) : (lsS mm l F s t).getD k (0, 0, 0, 0) = l.getD k (0, 0, 0, 0) := by
  unfold lsS
  split
  · rfl
  · exact getD_pre hk
theorem lsS_len {mm : Bool} {l : List A4} {F : Nat → T3} {s : Int} {t : Nat} : l.length ≤ (lsS mm l F s t).length := by
  unfold lsS
  split
  · exact Nat.le_refl _
  · rw [List.length_append]; omega
set_option maxRecDepth 100000 in
set_option maxHeartbeats 6000000 in
theorem specSpread_any {w : World} {g n c ga N ca : Nat} {A : Nat → OpD} {f : Nat → Int} (hL : OpsL w g n A) (hn : n ≤ 1048576) (hQ : Quads w ga N f) (hN : N ≤ 1048576) :
    Calls Tryz.prog 20 #[.slice (some ⟨g, 0, none⟩) n c, .slice (some ⟨ga, 0, none⟩) N ca] w (SprE w n A N f) := by
  have hbs : ∀ w, (Instr.buildSlice 42 0 #[]).run Tryz.prog w = .ok (.slice (some ⟨w.heap.size, 0, none⟩) 0 0) (w.alloc (.cells #[] 81)) := fun _ => by kernel_rfl
  have hbs1 : ∀ (x0 x1 x2 x3 : Int) w, (Instr.buildSlice 42 1 #[(0, .agg #[.int .i64 x0, .int .i64 x1, .int .i64 x2, .int .i64 x3])]).run Tryz.prog w = .ok (.slice (some ⟨w.heap.size, 0, none⟩) 1 1) (w.alloc (.cells #[.int .i64 x0, .int .i64 x1, .int .i64 x2, .int .i64 x3] 81)) := fun _ _ _ _ _ => by kernel_rfl
  have HL := hid_of hL
  have HQ := hid_of hQ
  clear hL hQ
  go_enter Tryz.func20, Tryz.ntmps20
  go_wp2_with fail
  refine (groupOk_any HL.out hn).mono ?_
  rintro e w1 ⟨⟨r1, rfl, hr1⟩, b1⟩
  have HL1 := hid_of (HL.out.below b1)
  have HQ1 := hid_of (HQ.out.below b1)
  have HB1 := hid_of b1
  clear b1 HL HQ
  cases r1
  · have HNO : Hid (¬ okS n A N f) := fun h => absurd (hr1.2 h.1) (by decide)
    clear hr1 HL1 HQ1
    obtain ⟨W4, hW4, a4, b4, -⟩ := boxed w1 81 #[]
    have G4 := hid_of (arkA_new a4 HB1.out.size)
    have HB4 := hid_of (HB1.out.trans (b4.mono HB1.out.size))
    clear a4 b4 HB1
    go_wp2
    exact bodyPost_ret (v := .tuple #[.slice (some ⟨_, 0, none⟩) 0 0, .bool false]) (by simp [results, Tryz.results20, go_sem]) rfl ⟨⟨[], false, _, 0, rfl, G4.out, .inr (.inr ⟨HNO.out, rfl, rfl⟩)⟩, HB4.out⟩
  have HG : Hid (isG n A) := hr1.1 rfl
  have hn2 : n ≤ 192 := HG.out.1
  have hn2' : (n : Int) ≤ 192 := by omega
  clear hr1 hn
  obtain ⟨r3, hr3⟩ : ∃ b : Bool, b = true ↔ AOk N f := by
    by_cases h : AOk N f
    · exact ⟨true, ⟨fun _ => h, fun _ => rfl⟩⟩
    · exact ⟨false, ⟨fun x => absurd x (by decide), fun x => absurd x h⟩⟩
  have HR3 := hid_of hr3
  clear hr3
  go_wp2_with fail
  refine (specAtoms_any HQ1.out hN r3 HR3.out).mono ?_
  rintro e w2 ⟨rfl, b2⟩
  replace HL1 := hid_of (HL1.out.below b2)
  replace HQ1 := hid_of (HQ1.out.below b2)
  replace HB1 := hid_of (HB1.out.trans (b2.mono HB1.out.size))
  clear b2
  cases r3
  · have HNO : Hid (¬ okS n A N f) := fun h => absurd (HR3.out.2 h.2.2) (by decide)
    clear HR3 HL1 HQ1
    obtain ⟨W4, hW4, a4, b4, -⟩ := boxed w2 81 #[]
    have G4 := hid_of (arkA_new a4 HB1.out.size)
    have HB4 := hid_of (HB1.out.trans (b4.mono HB1.out.size))
    clear a4 b4 HB1
    go_wp2
    exact bodyPost_ret (v := .tuple #[.slice (some ⟨_, 0, none⟩) 0 0, .bool false]) (by simp [results, Tryz.results20, go_sem]) rfl ⟨⟨[], false, _, 0, rfl, G4.out, .inr (.inr ⟨HNO.out, rfl, rfl⟩)⟩, HB4.out⟩
  have HA : Hid (AOk N f) := HR3.out.1 rfl
  have hN2 : N ≤ 200 := HA.out.1
  have hN2' : (N : Int) ≤ 200 := by omega
  have H22 : Hid (Below w2.heap.size w2 w2) := Below.refl _ _
  clear HR3 hN
  go_wp2
  go_loopw [6] (fun s wr => ∃ i : Nat, i ≤ n ∧ s = .int .i64 (i : Int) ∧ Hid (∀ k, k < i → ∀ j, j < 3 → (A k).h j % 2 = 0) ∧ Hid (Below w2.heap.size w2 wr)) (fun s _ => n - (intOf s).toNat)
  case atStart => exact ⟨0, Nat.zero_le _, rfl, fun k hk => absurd hk (Nat.not_lt_zero _), H22⟩
  case round =>
    clear H22
    obtain ⟨i, hi, rfl, HI, HB⟩ := hrel
    by_cases hlt : i < n
    · have hlt' : (i : Int) < (n : Int) := by omega
      obtain ⟨x1, c1, x2, d1, f1, f2, s1, s2⟩ := (HL1.out.below HB.out).2 i hlt
      have ok := HG.out.2.1 i hlt
      rw [ok.2.1] at f2 s2
      rcases s2 with h0 | ⟨b, o, rfl, lb, Ib⟩
      · omega
      obtain ⟨t0, ht0⟩ : ∃ x, (A i).h 0 = x := ⟨_, rfl⟩
      obtain ⟨t1, ht1⟩ : ∃ x, (A i).h 1 = x := ⟨_, rfl⟩
      obtain ⟨t2, ht2⟩ : ∃ x, (A i).h 2 = x := ⟨_, rfl⟩
      have y0 : wr.cell? ⟨b, o, none⟩ = some (.int .i64 t0) := by rw [← ht0]; exact Ib 0 (by omega)
      have y1 : wr.cell? ⟨b, o + 1, none⟩ = some (.int .i64 t1) := by rw [← ht1]; exact Ib 1 (by omega)
      have y2 : wr.cell? ⟨b, o + 2, none⟩ = some (.int .i64 t2) := by rw [← ht2]; exact Ib 2 (by omega)
      clear f1 s1 ok lb Ib
      have HT : Hid (∀ j, j < 3 → (j = 0 → (A i).h j = t0) ∧ (j = 1 → (A i).h j = t1) ∧ (j = 2 → (A i).h j = t2)) := fun j _ => ⟨fun e => by rw [e]; exact ht0, fun e => by rw [e]; exact ht1, fun e => by rw [e]; exact ht2⟩
      clear ht0 ht1 ht2
      by_cases m0 : t0 % 2 = 0
      rotate_left
      · have HNO : Hid (¬ okS n A N f) := fun h => m0 (by rw [← (HT.out 0 (by omega)).1 rfl]; exact h.2.1 i hlt 0 (by omega))
        have q0 : ¬ t0.tmod 2 = 0 := fun h => m0 (Int.emod_eq_zero_of_dvd (Int.dvd_of_tmod_eq_zero h))
        clear m0 HT HI HL1 HQ1 HG HA
        obtain ⟨W4, hW4, a4, b4, -⟩ := boxed wr 81 #[]
        have G4 := hid_of (arkA_new a4 (Nat.le_trans HB1.out.size HB.out.size))
        have HB4 := hid_of ((HB1.out.trans (HB.out.mono HB1.out.size)).trans (b4.mono (Nat.le_trans HB1.out.size HB.out.size)))
        clear a4 b4 HB1 HB
        go_wp2
        exact bodyPost_ret (v := .tuple #[.slice (some ⟨_, 0, none⟩) 0 0, .bool false]) (by simp [results, Tryz.results20, go_sem]) rfl ⟨⟨[], false, _, 0, rfl, G4.out, .inr (.inr ⟨HNO.out, rfl, rfl⟩)⟩, HB4.out⟩
      have q0 : t0.tmod 2 = 0 := Int.tmod_eq_zero_of_dvd (Int.dvd_of_emod_eq_zero m0)
      by_cases m1 : t1 % 2 = 0
      rotate_left
      · have HNO : Hid (¬ okS n A N f) := fun h => m1 (by rw [← (HT.out 1 (by omega)).2.1 rfl]; exact h.2.1 i hlt 1 (by omega))
        have q1 : ¬ t1.tmod 2 = 0 := fun h => m1 (Int.emod_eq_zero_of_dvd (Int.dvd_of_tmod_eq_zero h))
        clear m0 m1 HT HI HL1 HQ1 HG HA
        obtain ⟨W4, hW4, a4, b4, -⟩ := boxed wr 81 #[]
        have G4 := hid_of (arkA_new a4 (Nat.le_trans HB1.out.size HB.out.size))
        have HB4 := hid_of ((HB1.out.trans (HB.out.mono HB1.out.size)).trans (b4.mono (Nat.le_trans HB1.out.size HB.out.size)))
        clear a4 b4 HB1 HB
        go_wp2
        exact bodyPost_ret (v := .tuple #[.slice (some ⟨_, 0, none⟩) 0 0, .bool false]) (by simp [results, Tryz.results20, go_sem]) rfl ⟨⟨[], false, _, 0, rfl, G4.out, .inr (.inr ⟨HNO.out, rfl, rfl⟩)⟩, HB4.out⟩
      have q1 : t1.tmod 2 = 0 := Int.tmod_eq_zero_of_dvd (Int.dvd_of_emod_eq_zero m1)
      by_cases m2 : t2 % 2 = 0
      rotate_left
      · have HNO : Hid (¬ okS n A N f) := fun h => m2 (by rw [← (HT.out 2 (by omega)).2.2 rfl]; exact h.2.1 i hlt 2 (by omega))
        have q2 : ¬ t2.tmod 2 = 0 := fun h => m2 (Int.emod_eq_zero_of_dvd (Int.dvd_of_tmod_eq_zero h))
        clear m0 m1 m2 HT HI HL1 HQ1 HG HA
        obtain ⟨W4, hW4, a4, b4, -⟩ := boxed wr 81 #[]
        have G4 := hid_of (arkA_new a4 (Nat.le_trans HB1.out.size HB.out.size))
        have HB4 := hid_of ((HB1.out.trans (HB.out.mono HB1.out.size)).trans (b4.mono (Nat.le_trans HB1.out.size HB.out.size)))
        clear a4 b4 HB1 HB
        go_wp2
        exact bodyPost_ret (v := .tuple #[.slice (some ⟨_, 0, none⟩) 0 0, .bool false]) (by simp [results, Tryz.results20, go_sem]) rfl ⟨⟨[], false, _, 0, rfl, G4.out, .inr (.inr ⟨HNO.out, rfl, rfl⟩)⟩, HB4.out⟩
      have q2 : t2.tmod 2 = 0 := Int.tmod_eq_zero_of_dvd (Int.dvd_of_emod_eq_zero m2)
      have HI2 : Hid (∀ k, k < i + 1 → ∀ j, j < 3 → (A k).h j % 2 = 0) := fun k hk j hj => by
        by_cases e : k = i
        · subst e
          rcases (by omega : j = 0 ∨ j = 1 ∨ j = 2) with rfl | rfl | rfl
          · rw [(HT.out 0 (by omega)).1 rfl]; exact m0
          · rw [(HT.out 1 (by omega)).2.1 rfl]; exact m1
          · rw [(HT.out 2 (by omega)).2.2 rfl]; exact m2
        · exact HI.out k (by omega) j hj
      clear m0 m1 m2 HT HI
      go_wp2
      exact ⟨⟨i + 1, by omega, by go_num, HI2, HB⟩, by simp [intOf]; omega⟩
    obtain rfl : i = n := by omega
    have hlt' : ¬ (i : Int) < (i : Int) := by omega
    have HE : Hid (evG i A) := HI.out
    obtain ⟨wA, hwA⟩ : ∃ W, W = wr := ⟨_, rfl⟩
    subst hwA
    have HOK : Hid (okS i A N f) := ⟨HG.out, HE.out, HA.out⟩
    replace HL1 := hid_of (HL1.out.below HB.out)
    replace HQ1 := hid_of (HQ1.out.below HB.out)
    replace HB1 := hid_of (HB1.out.trans (HB.out.mono HB1.out.size))
    clear HI HB
    obtain ⟨W5, hW5, a5, b5, -⟩ := boxed wA 81 #[]
    have G5 := hid_of (arkA_new a5 (Nat.le_refl _))
    obtain ⟨p5, hp5⟩ : ∃ q, wA.heap.size = q := ⟨_, rfl⟩
    have HP5 := hid_of hp5
    have HB5 : Hid (Below wA.heap.size wA W5) := b5
    have HS0 : Hid (SpL i A (aF f) 0 []) := rfl
    clear a5 b5
    rw [hp5] at G5
    clear hp5
    go_wp2
    try rw [HP5.out]
    go_loopw [7, 8] (fun v s wr => ∃ (k L go co : Nat) (l : List A4), k ≤ N ∧ L ≤ 200 ∧ s = .int .i64 (k : Int) ∧ v = .slice (some ⟨go, 0, none⟩) L co ∧ Hid (l.length = L) ∧ Hid (SpL i A (aF f) k l) ∧ Hid (ArK 4 81 wr wA.heap.size wr.heap.size (.slice (some ⟨go, 0, none⟩) L co) L (flA l)) ∧ Hid (Below wA.heap.size wA wr)) (fun _ s _ => N - (intOf s).toNat)
    case atStart => exact ⟨0, 0, p5, 0, [], Nat.zero_le _, by omega, rfl, rfl, rfl, HS0, by rw [HP5.out]; exact G5.out, HB5⟩
    case round =>
      clear G5 HS0 HB5 hW5 HP5
      obtain ⟨k, L, go, co, l, hk, hL2, rfl, rfl, HLN, HS, HO, HB⟩ := hrel
      by_cases hkl : k < N
      rotate_left
      · obtain rfl : k = N := by omega
        have hkl' : ¬ (k : Int) < (k : Int) := by omega
        have HF : Hid (SpE i k A (aF f) (okS i A k f) l true) := .inl ⟨HOK.out, rfl, HS.out, by rw [HLN.out]; exact hL2⟩
        have HOF := hid_of (HO.out.wide HB1.out.size (Nat.le_refl _))
        have HBF := hid_of (HB1.out.trans (HB.out.mono HB1.out.size))
        clear HS HO HB HB1 HQ1 HL1 HA HOK HE HG
        go_wp2
        exact bodyPost_ret (v := .tuple #[.slice (some ⟨go, 0, none⟩) L co, .bool true]) (by simp [results, Tryz.results20, go_sem]) rfl ⟨⟨l, true, go, co, by rw [HLN.out], by rw [HLN.out]; exact HOF.out, HF.out⟩, HBF.out⟩
      have hkl' : (k : Int) < (N : Int) := by omega
      obtain ⟨e0, e1, e2, e3⟩ := (HQ1.out.below HB.out).open k hkl
      have haok := HA.out.2 k hkl
      obtain ⟨a0, h0⟩ : ∃ x, f (k * 4) = x := ⟨_, rfl⟩
      obtain ⟨a1, h1⟩ : ∃ x, f (k * 4 + 1) = x := ⟨_, rfl⟩
      obtain ⟨a2, h2⟩ : ∃ x, f (k * 4 + 2) = x := ⟨_, rfl⟩
      obtain ⟨a3, h3⟩ : ∃ x, f (k * 4 + 3) = x := ⟨_, rfl⟩
      have HAF : Hid (aF f k = (a0, a1, a2, a3)) := hid_of (by unfold aF; rw [h0, h1, h2, h3])
      rw [h0] at e0 haok
      rw [h1] at e1 haok
      rw [h2] at e2 haok
      rw [h3] at e3 haok
      have hin := aOk_in haok
      have hin2 : inP (2 * a0) (2 * a1) (2 * a2) := ⟨by omega, by omega, by omega⟩
      have v0 : IntKind.i64.wrap (2 * a0) = 2 * a0 := IntWalk.i64_in _ (by omega)
      have v1 : IntKind.i64.wrap (2 * a1) = 2 * a1 := IntWalk.i64_in _ (by omega)
      have v2 : IntKind.i64.wrap (2 * a2) = 2 * a2 := IntWalk.i64_in _ (by omega)
      have hgr : ga < wr.heap.size := Nat.lt_of_lt_of_le HQ1.out.1 HB.out.size
      have CLa : Hid (∀ wq, Kb wr wq → wq.cell? ⟨ga, k * 4, none⟩ = some (.int .i64 a0) ∧ wq.cell? ⟨ga, k * 4 + 1, none⟩ = some (.int .i64 a1) ∧ wq.cell? ⟨ga, k * 4 + 2, none⟩ = some (.int .i64 a2) ∧ wq.cell? ⟨ga, k * 4 + 3, none⟩ = some (.int .i64 a3)) := fun wq hq => ⟨(hq.cell (p := ⟨ga, k * 4, none⟩) hgr).trans e0, (hq.cell (p := ⟨ga, k * 4 + 1, none⟩) hgr).trans e1, (hq.cell (p := ⟨ga, k * 4 + 2, none⟩) hgr).trans e2, (hq.cell (p := ⟨ga, k * 4 + 3, none⟩) hgr).trans e3⟩
      have HLr := hid_of (HL1.out.below HB.out)
      have HIN : Hid (inP (2 * a0) (2 * a1) (2 * a2)) := hin2
      clear h0 h1 h2 h3 haok e0 e1 e2 e3 hin2
      obtain ⟨mm, hmm⟩ : ∃ b : Bool, b = true ↔ (a0, a1, a2, a3) ∈ l := by
        by_cases h : (a0, a1, a2, a3) ∈ l
        · exact ⟨true, ⟨fun _ => h, fun _ => rfl⟩⟩
        · exact ⟨false, ⟨fun x => absurd x (by decide), fun x => absurd x h⟩⟩
      have HMM := hid_of hmm
      clear hmm
      go_wp2_with fail
      obtain ⟨u0, hu0, bb⟩ : ∃ uu, wr.drew = uu ∧ Below wr.heap.size wr uu := ⟨_, rfl, (Below.refl _ _).drew⟩
      have bk0 : Kb wr u0 := bb
      clear bb
      refine wp_region_held_drew (S := Kb u0) (by kernel_rfl) (by rw [hu0]; exact Below.refl _ _) (fun hHeld => ?_)
      rw [hu0] at hHeld ⊢
      clear hu0
      have bu : Kb u0 u0 := Below.refl _ _
      change wpAnyH _ _ _ _ _ 22 #[false, false, false, false, false, false, false, false, false, false, false, false, false, false, false, false, false, false, false, false, false, false] _ _
      refine wpAnyH_take (i := 0) (v := .slice ((some ⟨g, 0, none⟩)) i c) rfl (by kernel_rfl) (by kernel_rfl) (by kernel_rfl) (fun _ _ _ h => h) (Or.inl ⟨by kernel_rfl, ?_⟩) hHeld ?_
      · intro w' hSw; go_simp
      try simp only [Act.put, List.setIfInBounds_toArray, List.set_cons_zero, List.set_cons_succ, List.getElem_toArray, List.getElem_cons_zero]
      refine wpAnyH_take (i := 1) (v := .slice ((some ⟨ga, 0, none⟩)) N ca) rfl (by kernel_rfl) (by kernel_rfl) (by kernel_rfl) (fun _ _ _ h => h) (Or.inl ⟨by kernel_rfl, ?_⟩) hHeld ?_
      · intro w' hSw; go_simp
      try simp only [Act.put, List.setIfInBounds_toArray, List.set_cons_zero, List.set_cons_succ, List.getElem_toArray, List.getElem_cons_succ, List.getElem_cons_zero]
      refine wpAnyH_take (i := 2) (v := .int .i64 ((k : Int))) rfl (by kernel_rfl) (by kernel_rfl) (by kernel_rfl) (fun _ _ _ h => h) (Or.inl ⟨by kernel_rfl, ?_⟩) hHeld ?_
      · intro w' hSw; go_simp
      try simp only [Act.put, List.setIfInBounds_toArray, List.set_cons_zero, List.set_cons_succ, List.getElem_toArray, List.getElem_cons_succ, List.getElem_cons_zero]
      refine wpAnyH_take (i := 3) (v := .pointer (some ⟨ga, k * 4, none⟩)) rfl (by kernel_rfl) (by kernel_rfl) (by kernel_rfl) (fun _ _ _ h => h) (Or.inl ⟨by kernel_rfl, ?_⟩) hHeld ?_
      · intro w' hSw; go_simp
      try simp only [Act.put, List.setIfInBounds_toArray, List.set_cons_zero, List.set_cons_succ, List.getElem_toArray, List.getElem_cons_succ, List.getElem_cons_zero]
      refine wpAnyH_take (i := 4) (v := .pointer (some ⟨ga, k * 4, none⟩)) rfl (by kernel_rfl) (by kernel_rfl) (by kernel_rfl) (fun _ _ _ h => h) (Or.inl ⟨by kernel_rfl, ?_⟩) hHeld ?_
      · intro w' hSw; go_simp
      try simp only [Act.put, List.setIfInBounds_toArray, List.set_cons_zero, List.set_cons_succ, List.getElem_toArray, List.getElem_cons_succ, List.getElem_cons_zero]
      refine wpAnyH_take (i := 5) (v := .int .i64 (a0)) rfl (by kernel_rfl) (by kernel_rfl) (by kernel_rfl) (fun _ _ _ h => h) (Or.inl ⟨by kernel_rfl, ?_⟩) hHeld ?_
      · intro w' hSw; obtain ⟨z0, z1, z2, z3⟩ := CLa.out _ (bk0.trans (Below.mono hSw bk0.size)); go_simp
      try simp only [Act.put, List.setIfInBounds_toArray, List.set_cons_zero, List.set_cons_succ, List.getElem_toArray, List.getElem_cons_succ, List.getElem_cons_zero]
      refine wpAnyH_take (i := 6) (v := .int .i64 (2 * a0)) rfl (by kernel_rfl) (by kernel_rfl) (by kernel_rfl) (fun _ _ _ h => h) (Or.inl ⟨by kernel_rfl, ?_⟩) hHeld ?_
      · intro w' hSw; go_simp
      try simp only [Act.put, List.setIfInBounds_toArray, List.set_cons_zero, List.set_cons_succ, List.getElem_toArray, List.getElem_cons_succ, List.getElem_cons_zero]
      refine wpAnyH_take (i := 7) (v := .slice ((some ⟨ga, 0, none⟩)) N ca) rfl (by kernel_rfl) (by kernel_rfl) (by kernel_rfl) (fun _ _ _ h => h) (Or.inl ⟨by kernel_rfl, ?_⟩) hHeld ?_
      · intro w' hSw; go_simp
      try simp only [Act.put, List.setIfInBounds_toArray, List.set_cons_zero, List.set_cons_succ, List.getElem_toArray, List.getElem_cons_succ, List.getElem_cons_zero]
      refine wpAnyH_take (i := 8) (v := .int .i64 ((k : Int))) rfl (by kernel_rfl) (by kernel_rfl) (by kernel_rfl) (fun _ _ _ h => h) (Or.inl ⟨by kernel_rfl, ?_⟩) hHeld ?_
      · intro w' hSw; go_simp
      try simp only [Act.put, List.setIfInBounds_toArray, List.set_cons_zero, List.set_cons_succ, List.getElem_toArray, List.getElem_cons_succ, List.getElem_cons_zero]
      refine wpAnyH_take (i := 9) (v := .pointer (some ⟨ga, k * 4, none⟩)) rfl (by kernel_rfl) (by kernel_rfl) (by kernel_rfl) (fun _ _ _ h => h) (Or.inl ⟨by kernel_rfl, ?_⟩) hHeld ?_
      · intro w' hSw; go_simp
      try simp only [Act.put, List.setIfInBounds_toArray, List.set_cons_zero, List.set_cons_succ, List.getElem_toArray, List.getElem_cons_succ, List.getElem_cons_zero]
      refine wpAnyH_take (i := 10) (v := .pointer (some ⟨ga, k * 4 + 1, none⟩)) rfl (by kernel_rfl) (by kernel_rfl) (by kernel_rfl) (fun _ _ _ h => h) (Or.inl ⟨by kernel_rfl, ?_⟩) hHeld ?_
      · intro w' hSw; go_simp
      try simp only [Act.put, List.setIfInBounds_toArray, List.set_cons_zero, List.set_cons_succ, List.getElem_toArray, List.getElem_cons_succ, List.getElem_cons_zero]
      refine wpAnyH_take (i := 11) (v := .int .i64 (a1)) rfl (by kernel_rfl) (by kernel_rfl) (by kernel_rfl) (fun _ _ _ h => h) (Or.inl ⟨by kernel_rfl, ?_⟩) hHeld ?_
      · intro w' hSw; obtain ⟨z0, z1, z2, z3⟩ := CLa.out _ (bk0.trans (Below.mono hSw bk0.size)); go_simp
      try simp only [Act.put, List.setIfInBounds_toArray, List.set_cons_zero, List.set_cons_succ, List.getElem_toArray, List.getElem_cons_succ, List.getElem_cons_zero]
      refine wpAnyH_take (i := 12) (v := .int .i64 (2 * a1)) rfl (by kernel_rfl) (by kernel_rfl) (by kernel_rfl) (fun _ _ _ h => h) (Or.inl ⟨by kernel_rfl, ?_⟩) hHeld ?_
      · intro w' hSw; go_simp
      try simp only [Act.put, List.setIfInBounds_toArray, List.set_cons_zero, List.set_cons_succ, List.getElem_toArray, List.getElem_cons_succ, List.getElem_cons_zero]
      refine wpAnyH_take (i := 13) (v := .slice ((some ⟨ga, 0, none⟩)) N ca) rfl (by kernel_rfl) (by kernel_rfl) (by kernel_rfl) (fun _ _ _ h => h) (Or.inl ⟨by kernel_rfl, ?_⟩) hHeld ?_
      · intro w' hSw; go_simp
      try simp only [Act.put, List.setIfInBounds_toArray, List.set_cons_zero, List.set_cons_succ, List.getElem_toArray, List.getElem_cons_succ, List.getElem_cons_zero]
      refine wpAnyH_take (i := 14) (v := .int .i64 ((k : Int))) rfl (by kernel_rfl) (by kernel_rfl) (by kernel_rfl) (fun _ _ _ h => h) (Or.inl ⟨by kernel_rfl, ?_⟩) hHeld ?_
      · intro w' hSw; go_simp
      try simp only [Act.put, List.setIfInBounds_toArray, List.set_cons_zero, List.set_cons_succ, List.getElem_toArray, List.getElem_cons_succ, List.getElem_cons_zero]
      refine wpAnyH_take (i := 15) (v := .pointer (some ⟨ga, k * 4, none⟩)) rfl (by kernel_rfl) (by kernel_rfl) (by kernel_rfl) (fun _ _ _ h => h) (Or.inl ⟨by kernel_rfl, ?_⟩) hHeld ?_
      · intro w' hSw; go_simp
      try simp only [Act.put, List.setIfInBounds_toArray, List.set_cons_zero, List.set_cons_succ, List.getElem_toArray, List.getElem_cons_succ, List.getElem_cons_zero]
      refine wpAnyH_take (i := 16) (v := .pointer (some ⟨ga, k * 4 + 2, none⟩)) rfl (by kernel_rfl) (by kernel_rfl) (by kernel_rfl) (fun _ _ _ h => h) (Or.inl ⟨by kernel_rfl, ?_⟩) hHeld ?_
      · intro w' hSw; go_simp
      try simp only [Act.put, List.setIfInBounds_toArray, List.set_cons_zero, List.set_cons_succ, List.getElem_toArray, List.getElem_cons_succ, List.getElem_cons_zero]
      refine wpAnyH_take (i := 17) (v := .int .i64 (a2)) rfl (by kernel_rfl) (by kernel_rfl) (by kernel_rfl) (fun _ _ _ h => h) (Or.inl ⟨by kernel_rfl, ?_⟩) hHeld ?_
      · intro w' hSw; obtain ⟨z0, z1, z2, z3⟩ := CLa.out _ (bk0.trans (Below.mono hSw bk0.size)); go_simp
      try simp only [Act.put, List.setIfInBounds_toArray, List.set_cons_zero, List.set_cons_succ, List.getElem_toArray, List.getElem_cons_succ, List.getElem_cons_zero]
      refine wpAnyH_take (i := 18) (v := .int .i64 (2 * a2)) rfl (by kernel_rfl) (by kernel_rfl) (by kernel_rfl) (fun _ _ _ h => h) (Or.inl ⟨by kernel_rfl, ?_⟩) hHeld ?_
      · intro w' hSw; go_simp
      try simp only [Act.put, List.setIfInBounds_toArray, List.set_cons_zero, List.set_cons_succ, List.getElem_toArray, List.getElem_cons_succ, List.getElem_cons_zero]
      refine wpAnyH_take (i := 19) (v := .agg #[.int .i64 (2 * a0), .int .i64 (2 * a1), .int .i64 (2 * a2)]) rfl (by kernel_rfl) (by kernel_rfl) (by kernel_rfl) (fun _ _ _ h => h) (Or.inl ⟨by kernel_rfl, ?_⟩) hHeld ?_
      · intro w' hSw; go_simp
      try simp only [Act.put, List.setIfInBounds_toArray, List.set_cons_zero, List.set_cons_succ, List.getElem_toArray, List.getElem_cons_succ, List.getElem_cons_zero]
      refine wpAnyH_ready (rs := [20]) (by kernel_rfl) (by simp) ?_
      refine AllReadyH.cons rfl (fun KK hK' => ?_) AllReadyH.nil
      go_simp
      refine (l5Orbit_any (HLr.out.below (bk0.trans (Below.mono bu bk0.size))) hn2 HG.out.2.1 HIN.out).mono ?_
      rintro e u1 ⟨⟨v10, m8, F8, rfl, hG8, hI8⟩, bb⟩
      obtain ⟨g8, c8, cur8, ev8, hlo8, A8p, hsz8, hm8c, hc8, hH8⟩ := hG8.open
      subst ev8
      have HI8 := hid_of hI8
      have HA8 := hid_of A8p
      have HH8 := hid_of hH8
      have HLO8 := hid_of hlo8
      replace bu : Kb u0 u1 := bu.trans (bb.mono bu.size)
      clear bb hG8 hI8 A8p hH8 hsz8 hlo8
      try go_wp2_with fail
      clear hHeld
      refine hK'.out _ _ (bu) (fun hHeld => ?_)
      clear hK' KK
      try simp only [List.setIfInBounds_toArray, List.set_cons_zero, List.set_cons_succ]
      refine wpAnyH_take (i := 21) (v := .slice ((some ⟨g8, 0, none⟩)) m8 c8) rfl (by kernel_rfl) (by kernel_rfl) (by kernel_rfl) (fun _ _ _ h => h) (Or.inl ⟨by kernel_rfl, ?_⟩) hHeld ?_
      · intro w' hSw; go_simp
      try simp only [Act.put, List.setIfInBounds_toArray, List.set_cons_zero, List.set_cons_succ, List.getElem_toArray, List.getElem_cons_succ, List.getElem_cons_zero]
      refine wpAnyH_done (by kernel_rfl) ?_ _
      clear hHeld
      have bz := hid_of (bk0.trans (Below.mono bu bk0.size))
      obtain ⟨w10, hw10⟩ : ∃ W, W = u1 := ⟨_, rfl⟩
      subst hw10
      have hg8 : g8 ≠ go := by have h1 := HO.out.lt (k := go) rfl; have h2 := HLO8.out; have := bk0.size; omega
      have hm8 : m8 ≤ 192 := Nat.le_trans HI8.out.le hn2
      have hm8' : (m8 : Int) ≤ 192 := by omega
      have HO10 := hid_of ((HO.out.below bz.out).wide (Nat.le_refl _) bz.out.size)
      have HB10 := hid_of (HB.out.trans (bz.out.mono HB.out.size))
      have HQa : Hid (∀ wq, Kb w10 wq → wq.cell? ⟨ga, k * 4 + 3, none⟩ = some (.int .i64 a3)) := fun wq hq => (CLa.out wq (bz.out.trans (hq.mono bz.out.size))).2.2.2
      have HK0 : Hid (KpO go w10 w10) := ⟨Nat.le_refl _, fun _ _ _ => rfl⟩
      have HQ10 := hid_of (HQ1.out.below HB10.out)
      have HLL : Hid (l = lsS true l F8 a3 0) := hid_of (by unfold lsS; rw [if_pos rfl])
      have HL0 : Hid (l = lsS mm l F8 a3 0) := hid_of (by unfold lsS; split; rfl; simp [orL])
      have haA : ∀ j, j < N → inT (ptA (aF f j)) := fun j hj => by
        have := aOk_in (HA.out.2 j hj)
        exact ⟨⟨by show 0 ≤ 2 * f (j * 4); omega, by show 2 * f (j * 4) ≤ 23; omega⟩, ⟨by show 0 ≤ 2 * f (j * 4 + 1); omega, by show 2 * f (j * 4 + 1) ≤ 23; omega⟩, ⟨by show 0 ≤ 2 * f (j * 4 + 2); omega, by show 2 * f (j * 4 + 2) ≤ 23; omega⟩⟩
      have HSI : Hid (SpI i A l) := HS.out.inv HG.out HE.out haA (by omega)
      have HALL : Hid (∀ t, t < m8 → (mm = true ↔ atP (F8 t) a3 ∈ l)) := fun t ht => by
        have hI : OrbI (orbP A (ptA (a0, a1, a2, a3)).1 (ptA (a0, a1, a2, a3)).2.1 (ptA (a0, a1, a2, a3)).2.2) i m8 F8 := HI8.out
        constructor
        · intro h
          exact HSI.out.all (HMM.out.1 h) hI t ht
        · intro h
          refine Classical.byContradiction (fun hn => ?_)
          exact SpI.none (b := (a0, a1, a2, a3)) HG.out HE.out HSI.out HIN.out (fun h' => hn (HMM.out.2 h')) hI t ht h
      have HORD : Hid (∀ t, t < m8 → inT (F8 t)) := fun t ht => (orb_of HG.out HI8.out ht).1
      clear bu bz bk0 HO HB CLa HLr haA HSI HLL v0 v1 v2 hgr HLO8
      go_wp2
      go_loopw [7, 11] (fun v s wl => ∃ (t L2 go2 co2 : Nat) (l2 : List A4), t ≤ m8 ∧ L ≤ L2 ∧ L2 ≤ 200 ∧ s = .int .i64 (t : Int) ∧ v = .slice (some ⟨go2, 0, none⟩) L2 co2 ∧ Hid (l2.length = L2) ∧ Hid (l2 = lsS mm l F8 a3 t) ∧ Hid (ArK 4 81 wl wA.heap.size wl.heap.size (.slice (some ⟨go2, 0, none⟩) L2 co2) L2 (flA l2)) ∧ Hid (go2 = go ∨ w10.heap.size ≤ go2) ∧ Hid (KpO go w10 wl) ∧ Hid (Below wA.heap.size wA wl)) (fun _ s _ => m8 - (intOf s).toNat)
      case atStart => exact ⟨0, L, go, co, l, Nat.zero_le _, Nat.le_refl _, hL2, rfl, rfl, HLN, HL0, HO10, .inl rfl, HK0, HB10⟩
      case round =>
        clear HL0 HO10 HK0 HB10
        rename World => wl
        obtain ⟨t, L2, go2, co2, l2, ht, hLL2, hL200, rfl, rfl, HLN2, HL2, HO2, HGO, HK, HB2⟩ := hrel
        by_cases htl : t < m8
        rotate_left
        · obtain rfl : t = m8 := by omega
          have htl' : ¬ (t : Int) < (t : Int) := by omega
          have HS2 : Hid (SpL i A (aF f) (k + 1) l2) := by
            have e := HL2.out
            unfold lsS at e
            by_cases hm : mm = true
            · rw [if_pos hm] at e
              exact ⟨l, HS.out, .inl ⟨by rw [HAF.out]; exact HMM.out.1 hm, e⟩⟩
            · rw [if_neg hm] at e
              exact ⟨l, HS.out, .inr ⟨by rw [HAF.out]; exact fun h => hm (HMM.out.2 h), t, F8, by rw [HAF.out]; exact HI8.out, by rw [HAF.out]; exact e⟩⟩
          clear HS HAF HMM HL2 HI8 HA8 HH8 HGO HK HQa HQ10 HALL HORD
          go_wp2
          exact ⟨⟨k + 1, L2, go2, co2, l2, by omega, hL200, by go_num, rfl, HLN2, HS2, HO2, HB2⟩, by simp [intOf]; omega⟩
        have htl' : (t : Int) < (m8 : Int) := by omega
        obtain ⟨⟨q0, q1, q2⟩, hq⟩ : ∃ q, F8 t = q := ⟨_, rfl⟩
        have HQT := hid_of hq
        have A8w := HK.out.at HA8.out hg8
        obtain ⟨x0, x1, x2⟩ := h3_cells A8w (HH8.out t htl)
        rw [hq] at x0 x1 x2
        simp only at x0 x1 x2
        have hin8 : inT (q0, q1, q2) := by rw [← hq]; exact HORD.out t htl
        obtain ⟨⟨i00, i01⟩, ⟨i10, i11⟩, ⟨i20, i21⟩⟩ := hin8
        simp only at i00 i01 i10 i11 i20 i21
        obtain ⟨s0, hs0⟩ : ∃ s, q0.tdiv 2 = s := ⟨_, rfl⟩
        obtain ⟨s1, hs1⟩ : ∃ s, q1.tdiv 2 = s := ⟨_, rfl⟩
        obtain ⟨s2, hs2⟩ : ∃ s, q2.tdiv 2 = s := ⟨_, rfl⟩
        have hwr : ∀ u s : Int, 0 ≤ u → u ≤ 23 → u.tdiv 2 = s → IntKind.i64.wrap s = s := fun u s h1 h2 h3 => IntWalk.i64_in _ (by rw [← h3, Int.tdiv_eq_ediv_of_nonneg h1]; omega)
        have v0 := hwr q0 s0 i00 i01 hs0
        have v1 := hwr q1 s1 i10 i11 hs1
        have v2 := hwr q2 s2 i20 i21 hs2
        have HAT : Hid (atP (F8 t) a3 = (s0, s1, s2, a3)) := hid_of (by rw [HQT.out]; unfold atP; simp only [hs0, hs1, hs2])
        have hgw : g8 < wl.heap.size := A8w.lt
        have CL8 : Hid (∀ wq, Kb wl wq → wq.cell? ⟨g8, t * 3, none⟩ = some (.int .i64 q0) ∧ wq.cell? ⟨g8, t * 3 + 1, none⟩ = some (.int .i64 q1) ∧ wq.cell? ⟨g8, t * 3 + 2, none⟩ = some (.int .i64 q2)) := fun wq hq => ⟨(hq.cell (p := ⟨g8, t * 3, none⟩) hgw).trans x0, (hq.cell (p := ⟨g8, t * 3 + 1, none⟩) hgw).trans x1, (hq.cell (p := ⟨g8, t * 3 + 2, none⟩) hgw).trans x2⟩
        have CL3 : Hid (∀ wq, Kb wl wq → wq.cell? ⟨ga, k * 4 + 3, none⟩ = some (.int .i64 a3)) := fun wq hq => by
          have h1 := HQ1.out.below (HB2.out)
          have h2 := (h1.open k hkl).2.2.2
          have h3 := (HQ10.out.open k hkl).2.2.2
          have h4 := HQa.out w10 (Below.refl _ _)
          rw [h3] at h4
          rw [h4] at h2
          exact (hq.cell (p := ⟨ga, k * 4 + 3, none⟩) h1.1).trans h2
        clear hq A8w x0 x1 x2 i00 i01 i10 i11 i20 i21 hwr hgw
        go_wp2_with fail
        go_cut [12] from 98 to 121 (fun s12 wc => CutA wl s0 s1 s2 a3 s12 wc)
        case first =>
          obtain ⟨u0, hu0, bb⟩ : ∃ uu, wl.drew = uu ∧ Below wl.heap.size wl uu := ⟨_, rfl, (Below.refl _ _).drew⟩
          have bk0 : Kb wl u0 := bb
          clear bb
          refine wp_region_held_drew (S := Kb u0) (by kernel_rfl) (by rw [hu0]; exact Below.refl _ _) (fun hHeld => ?_)
          rw [hu0] at hHeld ⊢
          clear hu0
          have bu : Kb u0 u0 := Below.refl _ _
          change wpAnyH _ _ _ _ _ 26 #[false, false, false, false, false, false, false, false, false, false, false, false, false, false, false, false, false, false, false, false, false, false, false, false, false, false] _ _
          refine wpAnyH_take (i := 0) (v := .slice ((some ⟨g8, 0, none⟩)) m8 c8) rfl (by kernel_rfl) (by kernel_rfl) (by kernel_rfl) (fun _ _ _ h => h) (Or.inl ⟨by kernel_rfl, ?_⟩) hHeld ?_
          · intro w' hSw; go_simp
          try simp only [Act.put, List.setIfInBounds_toArray, List.set_cons_zero, List.set_cons_succ, List.getElem_toArray, List.getElem_cons_zero]
          refine wpAnyH_take (i := 1) (v := .int .i64 ((t : Int))) rfl (by kernel_rfl) (by kernel_rfl) (by kernel_rfl) (fun _ _ _ h => h) (Or.inl ⟨by kernel_rfl, ?_⟩) hHeld ?_
          · intro w' hSw; go_simp
          try simp only [Act.put, List.setIfInBounds_toArray, List.set_cons_zero, List.set_cons_succ, List.getElem_toArray, List.getElem_cons_succ, List.getElem_cons_zero]
          refine wpAnyH_take (i := 2) (v := .pointer (some ⟨g8, t * 3, none⟩)) rfl (by kernel_rfl) (by kernel_rfl) (by kernel_rfl) (fun _ _ _ h => h) (Or.inl ⟨by kernel_rfl, ?_⟩) hHeld ?_
          · intro w' hSw; go_simp
          try simp only [Act.put, List.setIfInBounds_toArray, List.set_cons_zero, List.set_cons_succ, List.getElem_toArray, List.getElem_cons_succ, List.getElem_cons_zero]
          refine wpAnyH_take (i := 3) (v := .pointer (some ⟨g8, t * 3, none⟩)) rfl (by kernel_rfl) (by kernel_rfl) (by kernel_rfl) (fun _ _ _ h => h) (Or.inl ⟨by kernel_rfl, ?_⟩) hHeld ?_
          · intro w' hSw; go_simp
          try simp only [Act.put, List.setIfInBounds_toArray, List.set_cons_zero, List.set_cons_succ, List.getElem_toArray, List.getElem_cons_succ, List.getElem_cons_zero]
          refine wpAnyH_take (i := 4) (v := .int .i64 (q0)) rfl (by kernel_rfl) (by kernel_rfl) (by kernel_rfl) (fun _ _ _ h => h) (Or.inl ⟨by kernel_rfl, ?_⟩) hHeld ?_
          · intro w' hSw; obtain ⟨z0, z1, z2⟩ := CL8.out _ (bk0.trans (Below.mono hSw bk0.size)); go_simp
          try simp only [Act.put, List.setIfInBounds_toArray, List.set_cons_zero, List.set_cons_succ, List.getElem_toArray, List.getElem_cons_succ, List.getElem_cons_zero]
          refine wpAnyH_take (i := 5) (v := .int .i64 (s0)) rfl (by kernel_rfl) (by kernel_rfl) (by kernel_rfl) (fun _ _ _ h => h) (Or.inl ⟨by kernel_rfl, ?_⟩) hHeld ?_
          · intro w' hSw; go_simp
          try simp only [Act.put, List.setIfInBounds_toArray, List.set_cons_zero, List.set_cons_succ, List.getElem_toArray, List.getElem_cons_succ, List.getElem_cons_zero]
          refine wpAnyH_take (i := 6) (v := .slice ((some ⟨g8, 0, none⟩)) m8 c8) rfl (by kernel_rfl) (by kernel_rfl) (by kernel_rfl) (fun _ _ _ h => h) (Or.inl ⟨by kernel_rfl, ?_⟩) hHeld ?_
          · intro w' hSw; go_simp
          try simp only [Act.put, List.setIfInBounds_toArray, List.set_cons_zero, List.set_cons_succ, List.getElem_toArray, List.getElem_cons_succ, List.getElem_cons_zero]
          refine wpAnyH_take (i := 7) (v := .int .i64 ((t : Int))) rfl (by kernel_rfl) (by kernel_rfl) (by kernel_rfl) (fun _ _ _ h => h) (Or.inl ⟨by kernel_rfl, ?_⟩) hHeld ?_
          · intro w' hSw; go_simp
          try simp only [Act.put, List.setIfInBounds_toArray, List.set_cons_zero, List.set_cons_succ, List.getElem_toArray, List.getElem_cons_succ, List.getElem_cons_zero]
          refine wpAnyH_take (i := 8) (v := .pointer (some ⟨g8, t * 3, none⟩)) rfl (by kernel_rfl) (by kernel_rfl) (by kernel_rfl) (fun _ _ _ h => h) (Or.inl ⟨by kernel_rfl, ?_⟩) hHeld ?_
          · intro w' hSw; go_simp
          try simp only [Act.put, List.setIfInBounds_toArray, List.set_cons_zero, List.set_cons_succ, List.getElem_toArray, List.getElem_cons_succ, List.getElem_cons_zero]
          refine wpAnyH_take (i := 9) (v := .pointer (some ⟨g8, t * 3 + 1, none⟩)) rfl (by kernel_rfl) (by kernel_rfl) (by kernel_rfl) (fun _ _ _ h => h) (Or.inl ⟨by kernel_rfl, ?_⟩) hHeld ?_
          · intro w' hSw; go_simp
          try simp only [Act.put, List.setIfInBounds_toArray, List.set_cons_zero, List.set_cons_succ, List.getElem_toArray, List.getElem_cons_succ, List.getElem_cons_zero]
          refine wpAnyH_take (i := 10) (v := .int .i64 (q1)) rfl (by kernel_rfl) (by kernel_rfl) (by kernel_rfl) (fun _ _ _ h => h) (Or.inl ⟨by kernel_rfl, ?_⟩) hHeld ?_
          · intro w' hSw; obtain ⟨z0, z1, z2⟩ := CL8.out _ (bk0.trans (Below.mono hSw bk0.size)); go_simp
          try simp only [Act.put, List.setIfInBounds_toArray, List.set_cons_zero, List.set_cons_succ, List.getElem_toArray, List.getElem_cons_succ, List.getElem_cons_zero]
          refine wpAnyH_take (i := 11) (v := .int .i64 (s1)) rfl (by kernel_rfl) (by kernel_rfl) (by kernel_rfl) (fun _ _ _ h => h) (Or.inl ⟨by kernel_rfl, ?_⟩) hHeld ?_
          · intro w' hSw; go_simp
          try simp only [Act.put, List.setIfInBounds_toArray, List.set_cons_zero, List.set_cons_succ, List.getElem_toArray, List.getElem_cons_succ, List.getElem_cons_zero]
          refine wpAnyH_take (i := 12) (v := .slice ((some ⟨g8, 0, none⟩)) m8 c8) rfl (by kernel_rfl) (by kernel_rfl) (by kernel_rfl) (fun _ _ _ h => h) (Or.inl ⟨by kernel_rfl, ?_⟩) hHeld ?_
          · intro w' hSw; go_simp
          try simp only [Act.put, List.setIfInBounds_toArray, List.set_cons_zero, List.set_cons_succ, List.getElem_toArray, List.getElem_cons_succ, List.getElem_cons_zero]
          refine wpAnyH_take (i := 13) (v := .int .i64 ((t : Int))) rfl (by kernel_rfl) (by kernel_rfl) (by kernel_rfl) (fun _ _ _ h => h) (Or.inl ⟨by kernel_rfl, ?_⟩) hHeld ?_
          · intro w' hSw; go_simp
          try simp only [Act.put, List.setIfInBounds_toArray, List.set_cons_zero, List.set_cons_succ, List.getElem_toArray, List.getElem_cons_succ, List.getElem_cons_zero]
          refine wpAnyH_take (i := 14) (v := .pointer (some ⟨g8, t * 3, none⟩)) rfl (by kernel_rfl) (by kernel_rfl) (by kernel_rfl) (fun _ _ _ h => h) (Or.inl ⟨by kernel_rfl, ?_⟩) hHeld ?_
          · intro w' hSw; go_simp
          try simp only [Act.put, List.setIfInBounds_toArray, List.set_cons_zero, List.set_cons_succ, List.getElem_toArray, List.getElem_cons_succ, List.getElem_cons_zero]
          refine wpAnyH_take (i := 15) (v := .pointer (some ⟨g8, t * 3 + 2, none⟩)) rfl (by kernel_rfl) (by kernel_rfl) (by kernel_rfl) (fun _ _ _ h => h) (Or.inl ⟨by kernel_rfl, ?_⟩) hHeld ?_
          · intro w' hSw; go_simp
          try simp only [Act.put, List.setIfInBounds_toArray, List.set_cons_zero, List.set_cons_succ, List.getElem_toArray, List.getElem_cons_succ, List.getElem_cons_zero]
          refine wpAnyH_take (i := 16) (v := .int .i64 (q2)) rfl (by kernel_rfl) (by kernel_rfl) (by kernel_rfl) (fun _ _ _ h => h) (Or.inl ⟨by kernel_rfl, ?_⟩) hHeld ?_
          · intro w' hSw; obtain ⟨z0, z1, z2⟩ := CL8.out _ (bk0.trans (Below.mono hSw bk0.size)); go_simp
          try simp only [Act.put, List.setIfInBounds_toArray, List.set_cons_zero, List.set_cons_succ, List.getElem_toArray, List.getElem_cons_succ, List.getElem_cons_zero]
          refine wpAnyH_take (i := 17) (v := .int .i64 (s2)) rfl (by kernel_rfl) (by kernel_rfl) (by kernel_rfl) (fun _ _ _ h => h) (Or.inl ⟨by kernel_rfl, ?_⟩) hHeld ?_
          · intro w' hSw; go_simp
          try simp only [Act.put, List.setIfInBounds_toArray, List.set_cons_zero, List.set_cons_succ, List.getElem_toArray, List.getElem_cons_succ, List.getElem_cons_zero]
          refine wpAnyH_take (i := 18) (v := .slice ((some ⟨ga, 0, none⟩)) N ca) rfl (by kernel_rfl) (by kernel_rfl) (by kernel_rfl) (fun _ _ _ h => h) (Or.inl ⟨by kernel_rfl, ?_⟩) hHeld ?_
          · intro w' hSw; go_simp
          try simp only [Act.put, List.setIfInBounds_toArray, List.set_cons_zero, List.set_cons_succ, List.getElem_toArray, List.getElem_cons_succ, List.getElem_cons_zero]
          refine wpAnyH_take (i := 19) (v := .int .i64 ((k : Int))) rfl (by kernel_rfl) (by kernel_rfl) (by kernel_rfl) (fun _ _ _ h => h) (Or.inl ⟨by kernel_rfl, ?_⟩) hHeld ?_
          · intro w' hSw; go_simp
          try simp only [Act.put, List.setIfInBounds_toArray, List.set_cons_zero, List.set_cons_succ, List.getElem_toArray, List.getElem_cons_succ, List.getElem_cons_zero]
          refine wpAnyH_take (i := 20) (v := .pointer (some ⟨ga, k * 4, none⟩)) rfl (by kernel_rfl) (by kernel_rfl) (by kernel_rfl) (fun _ _ _ h => h) (Or.inl ⟨by kernel_rfl, ?_⟩) hHeld ?_
          · intro w' hSw; go_simp
          try simp only [Act.put, List.setIfInBounds_toArray, List.set_cons_zero, List.set_cons_succ, List.getElem_toArray, List.getElem_cons_succ, List.getElem_cons_zero]
          refine wpAnyH_take (i := 21) (v := .pointer (some ⟨ga, k * 4 + 3, none⟩)) rfl (by kernel_rfl) (by kernel_rfl) (by kernel_rfl) (fun _ _ _ h => h) (Or.inl ⟨by kernel_rfl, ?_⟩) hHeld ?_
          · intro w' hSw; go_simp
          try simp only [Act.put, List.setIfInBounds_toArray, List.set_cons_zero, List.set_cons_succ, List.getElem_toArray, List.getElem_cons_succ, List.getElem_cons_zero]
          refine wpAnyH_take (i := 22) (v := .int .i64 (a3)) rfl (by kernel_rfl) (by kernel_rfl) (by kernel_rfl) (fun _ _ _ h => h) (Or.inl ⟨by kernel_rfl, ?_⟩) hHeld ?_
          · intro w' hSw; have z3 := CL3.out _ (bk0.trans (Below.mono hSw bk0.size)); go_simp
          try simp only [Act.put, List.setIfInBounds_toArray, List.set_cons_zero, List.set_cons_succ, List.getElem_toArray, List.getElem_cons_succ, List.getElem_cons_zero]
          refine wpAnyH_take (i := 23) (v := .agg #[.int .i64 s0, .int .i64 s1, .int .i64 s2, .int .i64 a3]) rfl (by kernel_rfl) (by kernel_rfl) (by kernel_rfl) (fun _ _ _ h => h) (Or.inl ⟨by kernel_rfl, ?_⟩) hHeld ?_
          · intro w' hSw; go_simp
          try simp only [Act.put, List.setIfInBounds_toArray, List.set_cons_zero, List.set_cons_succ, List.getElem_toArray, List.getElem_cons_succ, List.getElem_cons_zero]
          refine wpAnyH_ready (rs := [24]) (by kernel_rfl) (by simp) ?_
          refine AllReadyH.cons rfl (fun KK hK' => ?_) AllReadyH.nil
          go_simp
          obtain ⟨u1, h6, G6, bb, -⟩ := boxed u0 81 #[.int .i64 0, .int .i64 0, .int .i64 0, .int .i64 0]
          rw [h6]
          clear h6
          obtain ⟨g6, hg6⟩ : ∃ q, u0.heap.size = q := ⟨_, rfl⟩
          rw [hg6] at G6 ⊢
          have hgu : u0.heap.size ≤ g6 := by have := bu.size; omega
          clear hg6
          replace bu : Kb u0 u1 := bu.trans (bb.mono bu.size)
          clear bb
          clear hHeld
          refine hK'.out _ _ (bu) (fun hHeld => ?_)
          clear hK' KK
          try simp only [List.setIfInBounds_toArray, List.set_cons_zero, List.set_cons_succ]
          refine wpAnyH_ready (rs := [25]) (by kernel_rfl) (by simp) ?_
          refine AllReadyH.cons rfl (fun KK hK' => ?_) AllReadyH.nil
          obtain ⟨y0, y1, y2, y3, y4, y5, y6, y7⟩ := G6.openA4
          go_simp
          have G7 := put4A G6 (.int .i64 s0) (.int .i64 s1) (.int .i64 s2) (.int .i64 a3)
          replace bu : Kb u0 ((((u1.setCell ⟨g6, 0, none⟩ (.int .i64 s0)).setCell ⟨g6, 1, none⟩ (.int .i64 s1)).setCell ⟨g6, 2, none⟩ (.int .i64 s2)).setCell ⟨g6, 3, none⟩ (.int .i64 a3)) := below4A bu hgu _ _ _ _
          obtain ⟨u2, hv⟩ : ∃ V, (((u1.setCell ⟨g6, 0, none⟩ (.int .i64 s0)).setCell ⟨g6, 1, none⟩ (.int .i64 s1)).setCell ⟨g6, 2, none⟩ (.int .i64 s2)).setCell ⟨g6, 3, none⟩ (.int .i64 a3) = V := ⟨_, rfl⟩
          rw [hv] at G7 bu ⊢
          clear hv G6 y0 y1 y2 y3 y4 y5 y6 y7
          clear hHeld
          refine hK'.out _ _ (bu) (fun hHeld => ?_)
          clear hK' KK
          try simp only [List.setIfInBounds_toArray, List.set_cons_zero, List.set_cons_succ]
          refine wpAnyH_done (by kernel_rfl) ?_ _
          clear hHeld
          have bz := bk0.trans (Below.mono bu bk0.size)
          have hg7 : wl.heap.size ≤ g6 := by have := bk0.size; omega
          go_wp2_with fail
          go_meet
          case rel => exact ⟨g6, rfl, hg7, G7, bz⟩
        case rest =>
          obtain ⟨q12, rfl, hq12, Q12, b12⟩ := hcut
          rename World => w12
          have HQ12 := hid_of Q12
          have HO12 := hid_of (HO2.out.below b12)
          have HK12 := hid_of (HK.out.below b12)
          have HB12 := hid_of (HB2.out.trans (b12.mono HB2.out.size))
          have H1212 : Hid (Below w12.heap.size w12 w12) := Below.refl _ _
          have HJ0 : Hid (false = true ↔ ∃ y, y < 0 ∧ l2.getD y (0, 0, 0, 0) = (s0, s1, s2, a3)) := ⟨fun h => absurd h (by decide), fun ⟨y, hy, _⟩ => absurd hy (Nat.not_lt_zero _)⟩
          have hgoq : ∀ q, (Value.slice (some ⟨go2, 0, none⟩) L2 co2).ownBlock = some q → q < q12 := fun q e => by have := (HO2.out.lt e).2.2; omega
          have HQW := hid_of hgoq
          have hq12' : wl.heap.size ≤ q12 := hq12
          have HQL := hid_of hq12'
          clear HO2 HK HB2 Q12 b12 hq12 hq12' hgoq CL8 CL3 hs0 hs1 hs2 v0 v1 v2 HQT
          go_wp2
          go_loopw [13, 14] (fun b s wj => ∃ (j : Nat) (r : Bool), j ≤ L ∧ s = .int .i64 (j : Int) ∧ b = .bool r ∧ Hid (r = true ↔ ∃ y, y < j ∧ l2.getD y (0, 0, 0, 0) = (s0, s1, s2, a3)) ∧ Hid (Below w12.heap.size w12 wj)) (fun _ s _ => L - (intOf s).toNat)
          case atStart => exact ⟨0, false, Nat.zero_le _, rfl, rfl, HJ0, H1212⟩
          case round =>
            clear HJ0 H1212
            rename World => wj
            obtain ⟨j, r, hj, rfl, rfl, HR, HBj⟩ := hrel
            by_cases hjl : j < L
            · have hjl' : (j : Int) < (L : Int) := by omega
              have hjl2 : (j : Int) < (L2 : Int) := by omega
              cases r
              rotate_left
              · have HR3 : Hid (true = true ↔ ∃ y, y < j + 1 ∧ l2.getD y (0, 0, 0, 0) = (s0, s1, s2, a3)) := ⟨fun _ => by
                  obtain ⟨y, hy, e⟩ := HR.out.1 rfl
                  exact ⟨y, by omega, e⟩, fun _ => rfl⟩
                clear HR
                go_upto_region 22 with (fail)
                go_region
                go_wp2
                exact ⟨⟨j + 1, true, by omega, by go_num, rfl, HR3, hid_of (HBj.out.trans (Below.mono (Below.refl _ _).drew HBj.out.size))⟩, by simp [intOf]; omega⟩
              have hRec : Recs 4 wj go2 l2.length (flA l2) := by
                rw [HLN2.out]
                rcases HO12.out.below HBj.out with ⟨h, -⟩ | ⟨g', c', e, _, _, _, _, h3⟩
                · cases h
                · cases e; exact h3.recsN
              obtain ⟨c0, c1, c2, c3⟩ := flA_cells hRec (k := j) (by rw [HLN2.out]; omega)
              obtain ⟨d0, d1, d2, d3, -⟩ := (HQ12.out.below HBj.out).openA4
              obtain ⟨P, hP⟩ : ∃ P, l2.getD j (0, 0, 0, 0) = P := ⟨_, rfl⟩
              rw [hP] at c0 c1 c2 c3
              obtain ⟨p0, p1, p2, p3⟩ := P
              simp only at c0 c1 c2 c3
              clear hRec
              by_cases d0 : p0 = s0
              · subst d0
                by_cases d1 : p1 = s1
                · subst d1
                  by_cases d2 : p2 = s2
                  · subst d2
                    by_cases d3 : p3 = a3
                    · subst d3
                      have HR3 : Hid (true = true ↔ ∃ y, y < j + 1 ∧ l2.getD y (0, 0, 0, 0) = (p0, p1, p2, p3)) := ⟨fun _ => ⟨j, by omega, hP⟩, fun _ => rfl⟩
                      clear HR hP
                      go_upto_region 22 with (fail)
                      go_region
                      go_wp2
                      exact ⟨⟨j + 1, true, by omega, by go_num, rfl, HR3, hid_of (HBj.out.trans (Below.mono (Below.refl _ _).drew HBj.out.size))⟩, by simp [intOf]; omega⟩
                    · have HR3 : Hid (false = true ↔ ∃ y, y < j + 1 ∧ l2.getD y (0, 0, 0, 0) = (p0, p1, p2, a3)) := ⟨fun h => absurd h (by decide), fun ⟨y, hy, e⟩ => by
                        by_cases ey : y = j
                        · subst ey; rw [hP] at e; cases e; exact absurd rfl d3
                        · exact HR.out.2 ⟨y, by omega, e⟩⟩
                      clear HR hP
                      go_upto_region 22 with (fail)
                      go_region
                      go_wp2
                      exact ⟨⟨j + 1, false, by omega, by go_num, rfl, HR3, hid_of (HBj.out.trans (Below.mono (Below.refl _ _).drew HBj.out.size))⟩, by simp [intOf]; omega⟩
                  · have HR3 : Hid (false = true ↔ ∃ y, y < j + 1 ∧ l2.getD y (0, 0, 0, 0) = (p0, p1, s2, a3)) := ⟨fun h => absurd h (by decide), fun ⟨y, hy, e⟩ => by
                      by_cases ey : y = j
                      · subst ey; rw [hP] at e; cases e; exact absurd rfl d2
                      · exact HR.out.2 ⟨y, by omega, e⟩⟩
                    clear HR hP
                    go_upto_region 22 with (fail)
                    go_region
                    go_wp2
                    exact ⟨⟨j + 1, false, by omega, by go_num, rfl, HR3, hid_of (HBj.out.trans (Below.mono (Below.refl _ _).drew HBj.out.size))⟩, by simp [intOf]; omega⟩
                · have HR3 : Hid (false = true ↔ ∃ y, y < j + 1 ∧ l2.getD y (0, 0, 0, 0) = (p0, s1, s2, a3)) := ⟨fun h => absurd h (by decide), fun ⟨y, hy, e⟩ => by
                    by_cases ey : y = j
                    · subst ey; rw [hP] at e; cases e; exact absurd rfl d1
                    · exact HR.out.2 ⟨y, by omega, e⟩⟩
                  clear HR hP
                  go_upto_region 22 with (fail)
                  go_region
                  go_wp2
                  exact ⟨⟨j + 1, false, by omega, by go_num, rfl, HR3, hid_of (HBj.out.trans (Below.mono (Below.refl _ _).drew HBj.out.size))⟩, by simp [intOf]; omega⟩
              · have HR3 : Hid (false = true ↔ ∃ y, y < j + 1 ∧ l2.getD y (0, 0, 0, 0) = (s0, s1, s2, a3)) := ⟨fun h => absurd h (by decide), fun ⟨y, hy, e⟩ => by
                  by_cases ey : y = j
                  · subst ey; rw [hP] at e; cases e; exact absurd rfl d0
                  · exact HR.out.2 ⟨y, by omega, e⟩⟩
                clear HR hP
                go_upto_region 22 with (fail)
                go_region
                go_wp2
                exact ⟨⟨j + 1, false, by omega, by go_num, rfl, HR3, hid_of (HBj.out.trans (Below.mono (Below.refl _ _).drew HBj.out.size))⟩, by simp [intOf]; omega⟩
            · obtain rfl : j = L := by omega
              have hjl' : ¬ (j : Int) < (j : Int) := by omega
              have hr : r = mm := by
                have h1 : (∃ y, y < j ∧ l2.getD y (0, 0, 0, 0) = (s0, s1, s2, a3)) ↔ (s0, s1, s2, a3) ∈ l := by
                  rw [← getD_mem HLN.out]
                  constructor
                  · rintro ⟨y, hy, e⟩
                    rw [HL2.out, lsS_get (by rw [HLN.out]; exact hy)] at e
                    exact ⟨y, hy, e⟩
                  · rintro ⟨y, hy, e⟩
                    refine ⟨y, hy, ?_⟩
                    rw [HL2.out, lsS_get (by rw [HLN.out]; exact hy)]
                    exact e
                have h2 := HALL.out t htl
                rw [HAT.out] at h2
                have h3 := HR.out.trans (h1.trans h2.symm)
                cases r <;> cases mm
                · rfl
                · exact h3.2 rfl
                · exact (h3.1 rfl).symm
                · rfl
              subst hr
              have HO13 := hid_of ((HO12.out.below HBj.out).wide (Nat.le_refl _) (Nat.le_trans HQL.out (Nat.le_trans (Nat.le_of_lt HQ12.out.lt) HBj.out.size)))
              have HK13 := hid_of (HK12.out.below HBj.out)
              have HB13 := hid_of (HB12.out.trans (HBj.out.mono HB12.out.size))
              have HQ13 := hid_of (HQ12.out.below HBj.out)
              clear HR HO12 HK12 HB12 HBj HQ12 HQL HQW
              cases r
              rotate_left
              · have HL3 : Hid (l2 = lsS true l F8 a3 (t + 1)) := hid_of (HL2.out.trans (by unfold lsS; rw [if_pos rfl, if_pos rfl]))
                clear HL2 HAT HQ13
                go_wp2
                exact ⟨⟨t + 1, L2, go2, co2, l2, by omega, hLL2, hL200, by go_num, rfl, HLN2, HL3, HO13, HGO, HK13, HB13⟩, by simp [intOf]; omega⟩
              have HLJ : Hid (L2 = j + t) := hid_of (by
                rw [← HLN2.out, HL2.out]
                unfold lsS
                rw [if_neg (by decide), List.length_append, HLN.out, orL_len])
              by_cases h200 : L2 = 200
              · have hb : ((L2 : Int) == 200) = true := by rw [h200]; rfl
                have HSx : SpL i A (aF f) (k + 1) (l ++ orL F8 a3 m8) := ⟨l, HS.out, .inr ⟨by rw [HAF.out]; exact fun h => absurd (HMM.out.2 h) (by decide), m8, F8, by rw [HAF.out]; exact HI8.out, by rw [HAF.out]; rfl⟩⟩
                have HF : Hid (SpE i N A (aF f) (okS i A N f) [] false) := .inr (.inl ⟨HOK.out, rfl, rfl, k + 1, _, by omega, HSx, by rw [List.length_append, HLN.out, orL_len]; have := HLJ.out; omega⟩)
                obtain ⟨W15, hW15, a15, b15, -⟩ := boxed wj 81 #[]
                have G15 := hid_of (arkA_new a15 (Nat.le_trans HB1.out.size HB13.out.size))
                have HB15 := hid_of ((HB1.out.trans (HB13.out.mono HB1.out.size)).trans (b15.mono (Nat.le_trans HB1.out.size HB13.out.size)))
                clear h200 HSx a15 b15 HS HAF HMM HL2 HI8 HA8 HH8 HGO HK13 HB13 HO13 HQ13 HQa HQ10 HALL HORD HLJ HAT HG HE HA HOK HLN2
                go_wp2
                exact bodyPost_ret (v := .tuple #[.slice (some ⟨_, 0, none⟩) 0 0, .bool false]) (by simp [results, Tryz.results20, go_sem]) rfl ⟨⟨[], false, _, 0, rfl, G15.out, HF.out⟩, HB15.out⟩
              have hb : ((L2 : Int) == 200) = false := by simp; omega
              obtain ⟨i0, hi0, hz0, hz1, hz2⟩ := info_parts infoAtom
              obtain ⟨d0, d1, d2, d3, -⟩ := HQ13.out.openA4
              obtain ⟨W15, hW15, A15, b15, -⟩ := boxed wj 81 #[.int .i64 s0, .int .i64 s1, .int .i64 s2, .int .i64 a3]
              obtain ⟨p15, hp15⟩ : ∃ p, wj.heap.size = p := ⟨_, rfl⟩
              rw [hp15] at A15
              have HO15 := hid_of (HO13.out.below b15)
              have row15 := hid_of HO15.out.row
              have HK15 := hid_of (HK13.out.below b15)
              have HB15 := hid_of (HB13.out.trans (b15.mono HB13.out.size))
              have HR15 := hid_of (four_recsA (x := (s0, s1, s2, a3)) A15)
              have hB15s := HB15.out.size
              have hm1 : L2 + 1 ≤ maxLen := by unfold maxLen; omega
              have hm2 : (L2 + 1) * 32 ≤ 140737488355328 := by omega
              have hL201 : L2 + 1 ≤ 200 := by omega
              have hbs2 := hbs1 s0 s1 s2 a3 wj
              rw [hW15, hp15] at hbs2
              clear b15 HO13 HK13 HB13 A15 HQ13 h200
              go_wp2_with (at_builtin; refine Hid.out (?_ : Hid _))
              refine (?_ : wpList _ _ _ _ _ _)
              refine wpList_append_own_at _ rfl _ _ _ rfl wA.heap.size 81 i0 _ 4 32 Tryz.underlying42 hi0 hz0 hz1 hz2 rfl (by omega) (.slice (some ⟨go2, 0, none⟩) L2 co2) L2 _ rfl row15.out ⟨p15, 0, none⟩ 1 1 (iCells (flA [(s0, s1, s2, a3)]) (1 * 4)) rfl (iCells_len _ _) (recs_news HR15.out) (iCells_one _ _) hm1 hm2 hB15s ?_
              intro v16 w16 hown16 hgrow16 hne16 hblk16
              rw [iCells_catK, ← Nat.add_mul] at hown16
              have hA16 : ArK 4 81 w16 wA.heap.size w16.heap.size v16 (L2 + 1) (flA (l2 ++ [(s0, s1, s2, a3)])) := (ArK.of_row hown16).same (fun i hi => by
                have := flA_add l2 (s0, s1, s2, a3) i (by rw [HLN2.out]; exact hi)
                rwa [HLN2.out] at this)
              obtain ⟨g16, c16, ev16, -⟩ := hA16.nn (fun e => by have := (hne16.1 e).2; omega)
              subst ev16
              have HA16 := hid_of hA16
              have HG16 : Hid (g16 = go ∨ w10.heap.size ≤ g16) := by
                rcases hblk16 with e | e
                · simp only [Value.ownBlock, Option.some.injEq] at e; rw [e]; exact HGO.out
                · simp only [Value.ownBlock, Option.some.injEq] at e; right; have := HK15.out.1; omega
              have HK16 : Hid (KpO go w10 w16) := HK15.out.only (only_grown hgrow16) (fun q e => by cases e; exact HGO.out)
              have HB16 : Hid (Below wA.heap.size wA w16) := HB15.out.grown hgrow16 HB15.out.size (fun q e => by have := HO15.out.lt (k := q) (by rw [e]); exact this.1)
              have HLN3 : Hid ((l2 ++ [(s0, s1, s2, a3)]).length = L2 + 1) := hid_of (by rw [List.length_append, HLN2.out]; rfl)
              have HL3 : Hid (l2 ++ [(s0, s1, s2, a3)] = lsS false l F8 a3 (t + 1)) := hid_of (by
                have e := HL2.out
                unfold lsS at e ⊢
                rw [if_neg (by decide)] at e ⊢
                rw [orL_next, HAT.out, ← List.append_assoc, ← e])
              have hLL3 : j ≤ L2 + 1 := by omega
              clear hown16 hgrow16 hne16 hblk16 hA16 HK15 HB15 HO15 row15 HR15 hbs2 HLN2 HL2 HAT HGO HLJ hm1 hm2 hB15s hW15 hp15 d0 d1 d2 d3
              go_wp2
              exact ⟨⟨t + 1, L2 + 1, g16, c16, _, by omega, hLL3, hL201, by go_num, rfl, HLN3, HL3, HA16, HG16, HK16, HB16⟩, by simp [intOf]; omega⟩
end Go.Proofs.YtgjhbkpocbihbaaGreat
