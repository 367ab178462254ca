/-
  Spread by the program: walked.
-/
import Derived.Test.YtgjhbkpocbihbaaGreatSd3
import Derived.Test.YtgjhbkpocbihbaaGreatO3h
namespace Go.Proofs.YtgjhbkpocbihbaaGreat
open Go.RowKit

/-- The atoms that came in. -/
def aF (f : Nat → Int) (i : Nat) : A4 := (f (i * 4), f (i * 4 + 1), f (i * 4 + 2), f (i * 4 + 3))
def okS (n : Nat) (A : Nat → OpD) (N : Nat) (f : Nat → Int) : Prop := isG n A ∧ evG n A ∧ AOk N f
/-- How Spread ends, on either side. -/
def SprE (w : World) (n : Nat) (A : Nat → OpD) (N : Nat) (f : Nat → Int) (e : Ending) (w' : World) : Prop :=
  (∃ (l : List A4) (b : Bool) (g c : Nat), e = .returned (.tuple #[.slice (some ⟨g, 0, none⟩) l.length c, .bool b]) ∧ ArK 4 81 w' w.heap.size w'.heap.size (.slice (some ⟨g, 0, none⟩) l.length c) l.length (flA l) ∧ SpE n N A (aF f) (okS n A N f) l b) ∧ Below w.heap.size w w'
/-- All blocks but one stand. -/
def KpO (g : Nat) (w w' : World) : Prop := w.heap.size ≤ w'.heap.size ∧ ∀ k, k < w.heap.size → k ≠ g → w'.heap[k]? = w.heap[k]?
theorem KpO.below {g : Nat} {w w' w'' : World} (h : KpO g w w') (hb : Below w'.heap.size w' w'') : KpO g w w'' :=
  ⟨Nat.le_trans h.1 hb.size, fun k h1 h2 => (hb.block k (Nat.lt_of_lt_of_le h1 h.1)).trans (h.2 k h1 h2)⟩
theorem KpO.only {g : Nat} {v : Value} {w w' w'' : World} (h : KpO g w w') (ho : Only v w' w'') (hq : ∀ q, v.ownBlock = some q → q = g ∨ w.heap.size ≤ q) : KpO g w w'' :=
  ⟨Nat.le_trans h.1 ho.size, fun k h1 h2 => (ho.block k (Nat.lt_of_lt_of_le h1 h.1) (fun e => by rcases hq k e with h3 | h3 <;> omega)).trans (h.2 k h1 h2)⟩
theorem KpO.at {g q : Nat} {t : TypeId} {w w' : World} {vs : Array Value} (h : KpO g w w') (a : At t w q vs) (hq : q ≠ g) : At t w' q vs := (h.2 q a.lt hq).trans a
theorem arkA_new {w W : World} {lo : Nat} (a1 : At 81 W w.heap.size #[]) (hl : lo ≤ w.heap.size) : ArK 4 81 W lo W.heap.size (.slice (some ⟨w.heap.size, 0, none⟩) 0 0) 0 (flA []) :=
  ArK.own ⟨#[], a1, rfl, fun i hi => by omega⟩ hl (Nat.le_refl _) (Nat.zero_le _)
/-- The orbit of atom i in the list. -/
def orL (F : Nat → T3) (s : Int) (t : Nat) : List A4 := (List.range t).map (fun t => atP (F t) s)
theorem orL_len (F : Nat → T3) (s : Int) (t : Nat) : (orL F s t).length = t := by simp [orL]
theorem orL_next (F : Nat → T3) (s : Int) (t : Nat) : orL F s (t + 1) = orL F s t ++ [atP (F t) s] := by simp [orL, List.range_succ]
set_option maxRecDepth 100000 in
set_option maxHeartbeats 4000000 in
theorem implSpread_any {w : World} {g n c ga N ca : Nat} {A : Nat → OpD} {f : Nat → Int} (hL : OpsL w g n A) (hn : n ≤ 1048576) (hQ : Quads w ga N f) (hN : N ≤ 1048576) :
    Calls Tryz.prog 22 #[.slice (some ⟨g, 0, none⟩) n c, .slice (some ⟨ga, 0, none⟩) N ca] w (SprE w n A N f) := by
  have hbs : ∀ w, (Instr.buildSlice 42 0 #[]).run Tryz.prog w = .ok (.slice (some ⟨w.heap.size, 0, none⟩) 0 0) (w.alloc (.cells #[] 81)) := fun _ => by kernel_rfl
  have hbs1 : ∀ (x0 x1 x2 x3 : Int) w, (Instr.buildSlice 42 1 #[(0, .agg #[.int .i64 x0, .int .i64 x1, .int .i64 x2, .int .i64 x3])]).run Tryz.prog w = .ok (.slice (some ⟨w.heap.size, 0, none⟩) 1 1) (w.alloc (.cells #[.int .i64 x0, .int .i64 x1, .int .i64 x2, .int .i64 x3] 81)) := fun _ _ _ _ _ => by kernel_rfl
  have HL := hid_of hL
  have HQ := hid_of hQ
  clear hL hQ
  go_enter Tryz.func22, Tryz.ntmps22
  go_wp2_with fail
  refine (groupOf_any HL.out hn).mono ?_
  rintro e w1 ⟨⟨v1, rfl, hG⟩, b1⟩
  obtain ⟨g6, m6, c6, rfl, hO, hm6, hmn, hGm⟩ := grp_one hG
  have HO := hid_of hO
  have HQ1 := hid_of (HQ.out.below b1)
  have HB1 := hid_of b1
  clear hO hG b1 HL HQ
  by_cases hg : isG n A
  rotate_left
  · obtain rfl : m6 = 0 := by
      rcases hGm with h | h
      · exact absurd h.1 hg
      · exact h.2
    have HNO : Hid (¬ okS n A N f) := fun h => hg h.1
    obtain ⟨W4, hW4, a4, b4, -⟩ := boxed w1 81 #[]
    have G4 := hid_of (arkA_new a4 HB1.out.size)
    have HB4 := hid_of (HB1.out.trans (b4.mono HB1.out.size))
    clear hGm hg a4 b4 HQ1 HO HB1
    go_wp2
    exact bodyPost_ret (v := .tuple #[.slice (some ⟨_, 0, none⟩) 0 0, .bool false]) (by simp [results, Tryz.results22, go_sem]) rfl ⟨⟨[], false, _, 0, rfl, G4.out, .inr (.inr ⟨HNO.out, rfl, rfl⟩)⟩, HB4.out⟩
  have e6 : m6 = n := by
    rcases hGm with h | h
    · exact h.2
    · exact absurd hg h.1
  subst e6
  have HG := hid_of hg
  have hpos : 0 < m6 := by obtain ⟨i, hi, -⟩ := hg.one; omega
  have hp0 : ((m6 : Int) == 0) = false := by
    simp; omega
  have hev : (∀ i, i < m6 → ∀ j, j < 3 → (fun i => (A i).key) i (9 + j) % 2 = 0) ↔ evG m6 A := ⟨fun h i hi j hj => by rw [← key_hi]; exact h i hi j hj, fun h i hi j hj => by show (A i).key (9 + j) % 2 = 0; rw [key_hi]; exact h i hi j hj⟩
  have HEV := hid_of hev
  clear hev hg hGm hmn
  go_wp2_with fail
  refine (twelfths_any HO.out hm6).mono ?_
  rintro e w2 ⟨⟨r2, rfl, hr2⟩, b2⟩
  have HR2 := hid_of (hr2.trans HEV.out)
  replace HO := hid_of (HO.out.below b2)
  replace HQ1 := hid_of (HQ1.out.below b2)
  replace HB1 := hid_of (HB1.out.trans (b2.mono HB1.out.size))
  clear b2 hr2 HEV
  cases r2
  · have HNO : Hid (¬ okS m6 A N f) := fun h => absurd (HR2.out.2 h.2.1) (by decide)
    obtain ⟨W4, hW4, a4, b4, -⟩ := boxed w2 81 #[]
    have G4 := hid_of (arkA_new a4 HB1.out.size)
    have HB4 := hid_of (HB1.out.trans (b4.mono HB1.out.size))
    clear a4 b4 HQ1 HO HB1 HR2
    go_wp2
    exact bodyPost_ret (v := .tuple #[.slice (some ⟨_, 0, none⟩) 0 0, .bool false]) (by simp [results, Tryz.results22, go_sem]) rfl ⟨⟨[], false, _, 0, rfl, G4.out, .inr (.inr ⟨HNO.out, rfl, rfl⟩)⟩, HB4.out⟩
  have HE : Hid (evG m6 A) := HR2.out.1 rfl
  clear HR2
  obtain ⟨r3, hr3⟩ : ∃ b : Bool, b = true ↔ AOk N f := by
    by_cases h : AOk N f
    · exact ⟨true, ⟨fun _ => h, fun _ => rfl⟩⟩
    · exact ⟨false, ⟨fun x => absurd x (by decide), fun x => absurd x h⟩⟩
  have HR3 := hid_of hr3
  clear hr3
  go_wp2_with fail
  refine (implAtoms_any HQ1.out hN r3 HR3.out).mono ?_
  rintro e w3 ⟨rfl, b3⟩
  replace HO := hid_of (HO.out.below b3)
  replace HQ1 := hid_of (HQ1.out.below b3)
  replace HB1 := hid_of (HB1.out.trans (b3.mono HB1.out.size))
  clear b3
  cases r3
  · have HNO : Hid (¬ okS m6 A N f) := fun h => absurd (HR3.out.2 h.2.2) (by decide)
    obtain ⟨W4, hW4, a4, b4, -⟩ := boxed w3 81 #[]
    have G4 := hid_of (arkA_new a4 HB1.out.size)
    have HB4 := hid_of (HB1.out.trans (b4.mono HB1.out.size))
    clear a4 b4 HQ1 HO HB1 HR3
    go_wp2
    exact bodyPost_ret (v := .tuple #[.slice (some ⟨_, 0, none⟩) 0 0, .bool false]) (by simp [results, Tryz.results22, go_sem]) rfl ⟨⟨[], false, _, 0, rfl, G4.out, .inr (.inr ⟨HNO.out, rfl, rfl⟩)⟩, HB4.out⟩
  have HA : Hid (AOk N f) := HR3.out.1 rfl
  have HOK : Hid (okS m6 A N f) := ⟨HG.out, HE.out, HA.out⟩
  have hN2 : N ≤ 200 := HA.out.1
  have hN2' : (N : Int) ≤ 200 := by omega
  clear HR3 hN
  go_wp2_with fail
  refine (deedsOf_any HO.out hm6).mono ?_
  rintro e w4 ⟨⟨v4, Q4, rfl, hD⟩, b4⟩
  obtain ⟨gd, cd, ev4, -⟩ := hD.open
  subst ev4
  have HD := hid_of hD
  replace HQ1 := hid_of (HQ1.out.below b4)
  replace HB1 := hid_of (HB1.out.trans (b4.mono HB1.out.size))
  clear hD b4 HO
  obtain ⟨W5, hW5, a5, b5, -⟩ := boxed w4 81 #[]
  have G5 := hid_of (arkA_new a5 (Nat.le_refl _))
  obtain ⟨p5, hp5⟩ : ∃ q, w4.heap.size = q := ⟨_, rfl⟩
  have HP5 := hid_of hp5
  have HB5 : Hid (Below w4.heap.size w4 W5) := b5
  have HS0 : Hid (SpL m6 A (aF f) 0 []) := rfl
  clear a5 b5
  rw [hp5] at G5
  clear hp5
  go_wp2
  try rw [HP5.out]
  go_loopw [8, 34] (fun v s wr => ∃ (i L go co : Nat) (l : List A4), i ≤ N ∧ L ≤ 200 ∧ s = .int .i64 (i : Int) ∧ v = .slice (some ⟨go, 0, none⟩) L co ∧ Hid (l.length = L) ∧ Hid (SpL m6 A (aF f) i l) ∧ Hid (ArK 4 81 wr w4.heap.size wr.heap.size (.slice (some ⟨go, 0, none⟩) L co) L (flA l)) ∧ Hid (Below w4.heap.size w4 wr)) (fun _ s _ => N - (intOf s).toNat)
  case atStart => exact ⟨0, 0, p5, 0, [], Nat.zero_le _, by omega, rfl, rfl, rfl, HS0, by rw [HP5.out]; exact G5.out, HB5⟩
  case round =>
    clear G5 HS0 HB5 hW5 HP5
    obtain ⟨i, L, go, co, l, hi, hL2, rfl, rfl, HLN, HS, HO, HB⟩ := hrel
    by_cases hlt : i < N
    rotate_left
    · obtain rfl : i = N := by omega
      have hlt' : ¬ (i : Int) < (i : Int) := by omega
      have HF : Hid (SpE m6 i A (aF f) (okS m6 A i f) l true) := .inl ⟨HOK.out, rfl, HS.out, by rw [HLN.out]; exact hL2⟩
      have HOF := hid_of (HO.out.wide HB1.out.size (Nat.le_refl _))
      have HBF := hid_of (HB1.out.trans (HB.out.mono HB1.out.size))
      clear HS HO HB HB1 HQ1 HD HA HOK HE HG
      go_wp2
      exact bodyPost_ret (v := .tuple #[.slice (some ⟨go, 0, none⟩) L co, .bool true]) (by simp [results, Tryz.results22, go_sem]) rfl ⟨⟨l, true, go, co, by rw [HLN.out], by rw [HLN.out]; exact HOF.out, HF.out⟩, HBF.out⟩
    have hlt' : (i : Int) < (N : Int) := by omega
    obtain ⟨e0, e1, e2, e3⟩ := (HQ1.out.below HB.out).open i hlt
    have haok := HA.out.2 i hlt
    obtain ⟨a0, h0⟩ : ∃ x, f (i * 4) = x := ⟨_, rfl⟩
    obtain ⟨a1, h1⟩ : ∃ x, f (i * 4 + 1) = x := ⟨_, rfl⟩
    obtain ⟨a2, h2⟩ : ∃ x, f (i * 4 + 2) = x := ⟨_, rfl⟩
    obtain ⟨a3, h3⟩ : ∃ x, f (i * 4 + 3) = x := ⟨_, rfl⟩
    have HAF : Hid (aF f i = (a0, a1, a2, a3)) := hid_of (by unfold aF; rw [h0, h1, h2, h3])
    rw [h0] at e0 haok
    rw [h1] at e1 haok
    rw [h2] at e2 haok
    rw [h3] at e3 haok
    have hin := aOk_in haok
    clear h0 h1 h2 h3 haok
    obtain ⟨W7, hW7, A7, b7, -⟩ := boxed wr 81 #[.int .i64 a0, .int .i64 a1, .int .i64 a2, .int .i64 a3]
    obtain ⟨p7, hp7⟩ : ∃ p, wr.heap.size = p := ⟨_, rfl⟩
    rw [hp7] at A7
    have HP7 := hid_of hp7
    have HO7 := hid_of (HO.out.below b7)
    have HB7 := hid_of (HB.out.trans (b7.mono HB.out.size))
    obtain ⟨z0, z1, z2, z3, -⟩ := A7.openA4
    have HA7 := hid_of A7
    have hgo7 : go < p7 := by rw [← hp7]; have := HO.out.lt (k := go) rfl; exact this.2.2
    clear b7 HO HB A7
    go_wp2_with fail
    refine (containsA_any (l := l) (c := co) (x := a0) (y := a1) (z := a2) (f := a3) (by rw [HLN.out]; have := HO7.out; rcases this with ⟨h, -⟩ | ⟨g', c', e, _, _, _, _, h3⟩; (· cases h); (· cases e; exact h3.recsN)) HLN.out (by omega)).mono ?_
    rintro e w8 ⟨⟨r8, rfl, hr8⟩, b8⟩
    have HR8 := hid_of hr8
    have HO8 := hid_of (HO7.out.below b8)
    have HB8 := hid_of (HB7.out.trans (b8.mono HB7.out.size))
    have HA8 := hid_of (HA7.out.below b8)
    have hs8 : p7 < w8.heap.size := HA8.out.lt
    have hL8 : L ≤ 1000000 := by omega
    clear b8 hr8 HO7 HB7 HA7 hW7 hp7 z0 z1 z2 z3 e0 e1 e2 e3
    cases r8
    rotate_left
    · have HS2 : Hid (SpL m6 A (aF f) (i + 1) l) := ⟨l, HS.out, .inl ⟨by rw [HAF.out]; exact HR8.out.1 rfl, rfl⟩⟩
      have HO9 := hid_of (HO8.out.wide (Nat.le_refl _) (show wr.heap.size ≤ w8.heap.size by rw [HP7.out]; omega))
      clear HR8 HS HAF HO8 HA8 HP7 HQ1 HD
      go_wp2
      exact ⟨⟨i + 1, L, go, co, l, by omega, hL2, by go_num, rfl, HLN, HS2, HO9, HB8⟩, by simp [intOf]; omega⟩
    have HNI : Hid ((a0, a1, a2, a3) ∉ l) := fun h => absurd (HR8.out.2 h) (by decide)
    obtain ⟨z0, z1, z2, z3, -⟩ := HA8.out.openA4
    clear HR8
    go_wp2_with fail
    refine (point_any a0 a1 a2 a3 _ hin.1 hin.2.1 hin.2.2.1).mono ?_
    rintro e w9 ⟨rfl, b9⟩
    have HO9 := hid_of (HO8.out.below b9)
    have HB9 := hid_of (HB8.out.trans (b9.mono HB8.out.size))
    have HA9 := hid_of (HA8.out.below b9)
    have HD9 := hid_of (HD.out.below HB9.out)
    clear b9 HO8 HB8 HA8 z0 z1 z2 z3
    have hin2 : inP (2 * a0) (2 * a1) (2 * a2) := ⟨by omega, by omega, by omega⟩
    go_wp2_with fail
    refine (orbitOf_any (x := (2 * a0, 2 * a1, 2 * a2)) HD9.out hm6 (fun i hi => key_R (HG.out.2.1 i hi)) hin2).mono ?_
    rintro e w10 ⟨⟨v10, m8, F8, rfl, hG8, hI8⟩, b10⟩
    obtain ⟨g8, c8, cur8, ev8, hlo8, A8p, hsz8, hm8c, hc8, hH8⟩ := hG8.open
    subst ev8
    have hm8 : m8 ≤ 192 := Nat.le_trans hI8.le hm6
    have HI8 : Hid (OrbI (orbP A (2 * a0) (2 * a1) (2 * a2)) m6 m8 F8) := hI8.congr (fun j _ => by
      show tO _ = tO _
      unfold tO
      rw [key_act _ _ 0 (by decide), key_act _ _ 1 (by decide), key_act _ _ 2 (by decide)])
    have HO10 := hid_of (HO9.out.below b10)
    have HB10 := hid_of (HB9.out.trans (b10.mono HB9.out.size))
    have HA10 := hid_of (HA9.out.below b10)
    have HA8p := hid_of A8p
    have HH8 := hid_of hH8
    have hg8 : g8 ≠ go := by have := HA9.out.lt; omega
    have hp7g : p7 ≠ go := by omega
    have hm8' : (m8 : Int) ≤ 192 := by omega
    have HK0 : Hid (KpO go w10 w10) := ⟨Nat.le_refl _, fun k _ _ => rfl⟩
    have HO11 := hid_of (HO10.out.wide (Nat.le_refl _) (show wr.heap.size ≤ w10.heap.size by rw [HP7.out]; have := HA10.out.lt; omega))
    have HL0 : Hid (l = l ++ orL F8 a3 0) := hid_of (by simp [orL])
    clear hG8 hI8 b10 A8p hH8 hsz8 HO9 HB9 HA9 HD9 HO10 hlo8
    go_wp2
    go_loopw [8, 46] (fun v s wl => ∃ (t L2 go2 co2 : Nat) (l2 : List A4), t ≤ m8 ∧ L2 = L + t ∧ s = .int .i64 (t : Int) ∧ v = .slice (some ⟨go2, 0, none⟩) L2 co2 ∧ Hid (l2.length = L2) ∧ Hid (l2 = l ++ orL F8 a3 t) ∧ Hid (ArK 4 81 wl w4.heap.size wl.heap.size (.slice (some ⟨go2, 0, none⟩) L2 co2) L2 (flA l2)) ∧ Hid (go2 = go ∨ w10.heap.size ≤ go2) ∧ Hid (KpO go w10 wl) ∧ Hid (Below w4.heap.size w4 wl)) (fun _ s _ => m8 - (intOf s).toNat)
    case atStart => exact ⟨0, L, go, co, l, Nat.zero_le _, rfl, rfl, rfl, HLN, HL0, HO11, .inl rfl, HK0, HB10⟩
    case round =>
      clear HL0 HO11 HK0 HB10
      rename World => wl
      obtain ⟨t, L2, go2, co2, l2, ht, hLt, rfl, rfl, HLN2, HL2, HO2, HGO, HK, HB2⟩ := hrel
      have HLT := hid_of hLt
      have hL400 : L2 ≤ 392 := by omega
      clear hLt
      by_cases htl : t < m8
      rotate_left
      · obtain rfl : t = m8 := by omega
        have htl' : ¬ (t : Int) < (t : Int) := by omega
        have HS2 : Hid (SpL m6 A (aF f) (i + 1) l2) := ⟨l, HS.out, .inr ⟨by rw [HAF.out]; exact HNI.out, t, F8, by rw [HAF.out]; exact HI8.out, by rw [HAF.out]; exact HL2.out⟩⟩
        clear HS HAF HNI HL2 HI8 HA10 HA8p HH8 HGO HK HQ1 HD HP7
        by_cases h200 : 200 < L2
        · have h200' : (200 : Int) < (L2 : Int) := by omega
          have HF : Hid (SpE m6 N A (aF f) (okS m6 A N f) [] false) := .inr (.inl ⟨HOK.out, rfl, rfl, i + 1, l2, by omega, HS2.out, by rw [HLN2.out]; exact h200⟩)
          obtain ⟨W12, hW12, a12, b12, -⟩ := boxed wl 81 #[]
          have G12 := hid_of (arkA_new a12 (Nat.le_trans HB1.out.size HB2.out.size))
          have HB12 := hid_of ((HB1.out.trans (HB2.out.mono HB1.out.size)).trans (b12.mono (Nat.le_trans HB1.out.size HB2.out.size)))
          clear a12 b12 HS2 HLN2 HO2 HB2 HOK HG HE HA HLT
          go_wp2
          exact bodyPost_ret (v := .tuple #[.slice (some ⟨_, 0, none⟩) 0 0, .bool false]) (by simp [results, Tryz.results22, go_sem]) rfl ⟨⟨[], false, _, 0, rfl, G12.out, HF.out⟩, HB12.out⟩
        · have h200' : ¬ (200 : Int) < (L2 : Int) := by omega
          clear HLT
          go_wp2
          exact ⟨⟨i + 1, L2, go2, co2, l2, by omega, by omega, by go_num, rfl, HLN2, HS2, HO2, HB2⟩, by simp [intOf]; omega⟩
      have htl' : (t : Int) < (m8 : Int) := by omega
      obtain ⟨i0, hi0, hz0, hz1, hz2⟩ := info_parts infoAtom
      have A8w := HK.out.at HA8p.out hg8
      have A7w := HK.out.at HA10.out hp7g
      obtain ⟨x0, x1, x2⟩ := h3_cells A8w (HH8.out t htl)
      obtain ⟨⟨q0, q1, q2⟩, hq⟩ : ∃ q, F8 t = q := ⟨_, rfl⟩
      have HQT := hid_of hq
      rw [hq] at x0 x1 x2
      simp only at x0 x1 x2
      have hin8 : inP q0 q1 q2 := by
        have := (orb_of HG.out HI8.out htl).1
        rw [hq] at this
        exact this
      clear hq
      obtain ⟨W11, hW11, A11, b11, -⟩ := boxed wl 64 #[.int .i64 q0, .int .i64 q1, .int .i64 q2]
      obtain ⟨p11, hp11⟩ : ∃ p, wl.heap.size = p := ⟨_, rfl⟩
      rw [hp11] at A11
      obtain ⟨-, -, -, z3, -⟩ := (A7w.below b11).openA4
      obtain ⟨y0, y1, y2, -⟩ := A11.open3
      have HO11 := hid_of (HO2.out.below b11)
      have HK11 := hid_of (HK.out.below b11)
      have HB11 := hid_of (HB2.out.trans (b11.mono HB2.out.size))
      clear A8w A7w HO2 HK HB2 b11
      go_wp2_with fail
      refine (atomAt_any q0 q1 q2 a3 _ hin8).mono ?_
      rintro e w12 ⟨rfl, b12⟩
      obtain ⟨s0, hs0⟩ : ∃ s, q0.tdiv 2 = s := ⟨_, rfl⟩
      obtain ⟨s1, hs1⟩ : ∃ s, q1.tdiv 2 = s := ⟨_, rfl⟩
      obtain ⟨s2, hs2⟩ : ∃ s, q2.tdiv 2 = s := ⟨_, rfl⟩
      have HAT : Hid (atP (F8 t) a3 = (s0, s1, s2, a3)) := hid_of (by rw [HQT.out]; unfold atP; simp only [hs0, hs1, hs2])
      rw [hs0, hs1, hs2]
      obtain ⟨W13, hW13, A13, b13, -⟩ := boxed w12 81 #[.int .i64 s0, .int .i64 s1, .int .i64 s2, .int .i64 a3]
      obtain ⟨p13, hp13⟩ : ∃ p, w12.heap.size = p := ⟨_, rfl⟩
      rw [hp13] at A13
      have HO13 := hid_of ((HO11.out.below b12).below b13)
      have row13 := hid_of HO13.out.row
      have HK13 := hid_of ((HK11.out.below b12).below b13)
      have HB13 := hid_of ((HB11.out.trans (b12.mono HB11.out.size)).trans (b13.mono (Nat.le_trans HB11.out.size b12.size)))
      have HR13 := hid_of (four_recsA (x := (s0, s1, s2, a3)) A13)
      have hB13s := HB13.out.size
      have hm1 : L2 + 1 ≤ maxLen := by unfold maxLen; omega
      have hm2 : (L2 + 1) * 32 ≤ 140737488355328 := by omega
      have hbs2 := hbs1 s0 s1 s2 a3 w12
      rw [hW13, hp13] at hbs2
      clear b12 b13 HO11 HK11 HB11 A13 hs0 hs1 hs2 hW11 hp11 A11
      go_wp2_with (at_builtin; refine Hid.out (?_ : Hid _))
      refine (?_ : wpList _ _ _ _ _ _)
      refine wpList_append_own_at _ rfl _ _ _ rfl w4.heap.size 81 i0 _ 4 32 Tryz.underlying42 hi0 hz0 hz1 hz2 rfl (by omega) (.slice (some ⟨go2, 0, none⟩) L2 co2) L2 _ rfl row13.out ⟨p13, 0, none⟩ 1 1 (iCells (flA [(s0, s1, s2, a3)]) (1 * 4)) rfl (iCells_len _ _) (recs_news HR13.out) (iCells_one _ _) hm1 hm2 hB13s ?_
      intro v14 w14 hown14 hgrow14 hne14 hblk14
      rw [iCells_catK, ← Nat.add_mul] at hown14
      have hA14 : ArK 4 81 w14 w4.heap.size w14.heap.size v14 (L2 + 1) (flA (l2 ++ [(s0, s1, s2, a3)])) := (ArK.of_row hown14).same (fun i hi => by
        have := flA_add l2 (s0, s1, s2, a3) i (by rw [HLN2.out]; exact hi)
        rwa [HLN2.out] at this)
      obtain ⟨g14, c14, ev14, -⟩ := hA14.nn (fun e => by have := (hne14.1 e).2; omega)
      subst ev14
      have HA14 := hid_of hA14
      have HG14 : Hid (g14 = go ∨ w10.heap.size ≤ g14) := by
        rcases hblk14 with e | e
        · simp only [Value.ownBlock, Option.some.injEq] at e; rw [e]; exact HGO.out
        · simp only [Value.ownBlock, Option.some.injEq] at e; right; have := HK13.out.1; omega
      have HK14 : Hid (KpO go w10 w14) := HK13.out.only (only_grown hgrow14) (fun q e => by cases e; exact HGO.out)
      have HB14 : Hid (Below w4.heap.size w4 w14) := HB13.out.grown hgrow14 HB13.out.size (fun q e => by have := HO13.out.lt (k := q) (by rw [e]); exact this.1)
      have HLN3 : Hid ((l2 ++ [(s0, s1, s2, a3)]).length = L2 + 1) := hid_of (by rw [List.length_append, HLN2.out]; rfl)
      have HL3 : Hid (l2 ++ [(s0, s1, s2, a3)] = l ++ orL F8 a3 (t + 1)) := hid_of (by rw [orL_next, HAT.out, ← List.append_assoc, ← HL2.out])
      have HLT3 : Hid (L2 + 1 = L + (t + 1)) := hid_of (by have := HLT.out; omega)
      clear hown14 hgrow14 hne14 hblk14 hA14 HK13 HB13 HO13 row13 HR13 hbs2 HLN2 HL2 HAT HQT HGO HLT hm1 hm2 hB13s hW13 hp13 x0 x1 x2 y0 y1 y2 z3
      go_wp2
      exact ⟨⟨t + 1, L2 + 1, g14, c14, _, by omega, HLT3.out, by go_num, rfl, HLN3, HL3, HA14, HG14, HK14, HB14⟩, by simp [intOf]; omega⟩
end Go.Proofs.YtgjhbkpocbihbaaGreat
