/-
  The law that slopes back are those forward, and twice the value times them with a node more: walked.
-/
import Derived.Test.YtloailicdoknbaaG15b
import Derived.Test.YtloailicdoknbaaH15g
import Derived.Test.YtloailicdoknbaaI15e
import Derived.Test.YtloailicdoknbaaJ15a
namespace Go.Proofs.Ytloailicdoknbaa
open Go.RowKit

def Kb (V w : World) : Prop := Below V.heap.size V w
theorem Kb.trans {a b c : World} (h : Kb a b) (k : Below a.heap.size b c) : Kb a c := Below.trans h k
theorem Kb.size {a b : World} (h : Kb a b) : a.heap.size ≤ b.heap.size := Below.size h
theorem arr_slB {w : World} {lo hi m : Nat} {v : Value} {F : Nat → Int} (h : Arr w lo hi v m F) : ∃ a c, v = .slice a m c ∧ (0 < m → ∃ g, a = some ⟨g, 0, none⟩ ∧ Ints w g 0 m F ∧ g < w.heap.size) := by
  rcases h with ⟨rfl, rfl⟩ | ⟨g, c, rfl, -, -, -, hM⟩
  · exact ⟨none, 0, rfl, fun h => by omega⟩
  · exact ⟨_, c, rfl, fun _ => ⟨g, rfl, made_ints hM, hM.lt⟩⟩
set_option maxRecDepth 100000 in
theorem lsteps_own {w : World} {g c n : Nat} {f : Nat → Int} (h : Recs 3 w g n f) (hn : n ≤ 1048576) :
    Calls Try.prog 27 #[.slice (some ⟨g, 0, none⟩) n c] w fun e w' => ∃ v, e = .returned v ∧ w'.ownsRow w.heap.size 46 3 v n (iCells f (n * 3)) ∧ v ≠ .slice none 0 0 ∧ Below w.heap.size w w' := by
  have hbs : ∀ w, (Instr.buildSlice 27 0 #[]).run Try.prog w = .ok (.slice (some ⟨w.heap.size, 0, none⟩) 0 0) (w.alloc (.cells #[] 46)) := fun _ => by kernel_rfl
  have hI : Ints w g 0 (n * 3) f := fun i hi => by rw [Nat.zero_add]; exact h.2 i hi
  have hm1 : Ints (w.alloc (.cells #[] 46)) g 0 (n * 3) f := hI.below h.1 (below_alloc _ _)
  have o0 : (w.alloc (.cells #[] 46)).ownsRow w.heap.size 46 3 (.slice (some ⟨w.heap.size, 0, none⟩) 0 0) 0 [] :=
    ⟨rfl, .inr ⟨w.heap.size, 0, #[], rfl, Nat.le_refl _, heap_alloc_new _ _, Nat.le_refl _, Nat.zero_le _, rfl, rfl⟩⟩
  obtain ⟨i0, hi0, hz0, hz1, hz2⟩ := info_parts infoSt'
  have hn' : (n : Int) ≤ 1048576 := by omega
  clear h hI
  go_enter Try.func27, Try.ntmps27
  go_wp2_with (at_builtin; refine wpList_append_own _ rfl _ _ _ rfl w.heap.size 46 i0 _ 3 24 Try.underlying27 hi0 hz0 hz1 hz2 rfl (by omega) (.slice (some ⟨w.heap.size, 0, none⟩) 0 0) 0 [] rfl o0 ⟨g, 0, none⟩ n c (iCells f (n * 3)) rfl (by rw [iCells_len]) (ints_news hm1) (iCells_one f (n * 3)) (by unfold maxLen; omega) (by omega) (by simp) ?_; intro v2 w2 hown2 hgrow2 hne2)
  simp only [Nat.zero_add, List.nil_append] at hown2
  have B2 : Below w.heap.size w w2 := (below_alloc w (.cells #[] 46)).grown hgrow2 (by simp) (fun k hk => by cases hk; exact Nat.le_refl _)
  have hv2 : v2 ≠ .slice none 0 0 := fun h => absurd (hne2.1 h).1 (ne_nil _ _ _)
  go_ret
  exact ⟨_, rfl, hown2, hv2, B2⟩
theorem own_recs {w : World} {B n g c : Nat} {f : Nat → Int} (h : w.ownsRow B 46 3 (.slice (some ⟨g, 0, none⟩) n c) n (iCells f (n * 3))) : Recs 3 w g n f := by
  rcases h.2 with ⟨h1, _⟩ | ⟨g', c', cur, h1, hb, hh, hc1, hc2, hsz, ht⟩
  · cases h1
  simp only [Value.slice.injEq, Option.some.injEq, Addr.mk.injEq] at h1
  obtain ⟨⟨rfl, -, -⟩, -, rfl⟩ := h1
  refine ⟨(Array.getElem?_eq_some_iff.1 hh).1, fun i hi => ?_⟩
  have a1 := iCells_at f hi
  rw [← ht, List.getElem?_take_of_lt hi] at a1
  simpa [World.cell?, hh] using a1
theorem iCells_mre (n : Nat) (f : Nat → Int) : iCells f (n * 3) ++ [.int .i64 3, .int .i64 ((n - 1 : Nat) : Int), .int .i64 ((n - 1 : Nat) : Int)] = iCells (mre n f) ((n + 1) * 3) := by
  rw [show (n + 1) * 3 = n * 3 + 1 + 1 + 1 by omega]
  show _ = ((iCells (mre n f) (n * 3) ++ _) ++ _) ++ _
  rw [iCells_congr (f := mre n f) (g := f) (fun i hi => mre_lo hi), mre_0, mre_1, mre_2]
  simp
theorem mre64 {n : Nat} {f : Nat → Int} (h : ∀ i, is64 (f i)) (hn : n ≤ 1000) (i : Nat) : is64 (mre n f i) := by
  unfold mre
  split
  · exact h i
  · split <;> unfold is64 <;> omega
set_option maxRecDepth 100000 in
set_option maxHeartbeats 12800000 in
theorem slopes_walk {w : World} {a : Option Addr} {len cap : Nat} (hr : Row w w.heap.size a len) :
    Calls Try.prog 7 #[.slice a len cap] w fun e w' => e = .returned (.bool true) ∧ Below w.heap.size w w' := by
  have hbig := fun w => big_any a len cap w hr.1
  by_cases hb : 1048576 < len
  · rw [decide_eq_true hb] at hbig
    go_enter Try.func7, Try.ntmps7
    go_wp2_with (go_at_call 25; refine (hbig _).mono ?_; rintro e w2 ⟨rfl, rfl⟩)
    go_ret
    exact ⟨rfl, Below.refl _ _⟩
  rw [decide_eq_false hb] at hbig
  obtain ⟨i0, hj0, hz0, hz1, hz2⟩ := info_parts infoSt'
  go_enter Try.func7, Try.ntmps7
  go_wp2_with fail
  refine (hbig _).mono ?_
  rintro e w0 ⟨rfl, rfl⟩
  go_wp2_with fail
  refine (drawSlopesBack_any hr).mono ?_
  rintro e w1 ⟨g, n, c, b, inp, c2, f, x, rfl, D⟩
  clear hbig hr hb
  have hn2 := D.m2
  have hi3 := D.i3
  obtain ⟨m, R, F, hans⟩ := bka_is n inp f x
  have HA : Hid (BkA n inp f x m R F) := hans
  have HR : Hid (R = true ↔ TpN n inp f) := by
    show _ ↔ _
    rcases hans with ⟨h, -, e, -⟩ | ⟨h, -, e⟩
    · exact ⟨fun _ => h, fun _ => e⟩
    · exact ⟨fun k => (by rw [e] at k; cases k), fun k => absurd k h⟩
  have hm3 : m ≤ 3 := by
    rcases hans with ⟨-, e, -⟩ | ⟨-, e, -⟩ <;> omega
  clear hans
  have hRR := bne_self_eq_false R
  have hmm : ((m : Int) != (m : Int)) = false := bne_self_eq_false _
  go_wp2_with fail
  refine (specBack_any D.t D.x D.lt (by omega) (by omega) (fun i _ => D.x64 i) (fun i _ => D.f64 i) HA).mono ?_
  rintro e w2 ⟨v0, rfl, A0, b2⟩
  replace D := D.below b2
  clear b2
  obtain ⟨a0, e0, rfl, -⟩ := arr_slB A0
  clear A0
  go_wp2_with fail
  refine (lsteps_any D.t (by omega)).mono ?_
  rintro e w3 ⟨g3, c3, rfl, S3, bX⟩
  replace D := D.below bX
  go_wp2_with fail
  refine (lints_any D.x D.lt (by omega)).mono ?_
  rintro e w4 ⟨v, rfl, G⟩
  obtain ⟨g4, c4, rfl, -, -, o4, I4⟩ := G.ints
  have bY := G.b
  replace S3 := S3.below bY
  replace D := D.below bY
  clear G
  go_wp2_with fail
  refine (implBack_any S3 I4 o4 (by omega) (by omega) (fun i _ => D.x64 i) (fun i _ => D.f64 i) HA).mono ?_
  rintro e w5 ⟨v1, rfl, A1, b5⟩
  replace D := D.below b5
  clear b5 S3 I4 o4
  obtain ⟨a1, e1, rfl, P1⟩ := arr_slB A1
  clear A1
  go_wp2_with fail
  refine (lsteps_any D.t (by omega)).mono ?_
  rintro e w6 ⟨g6, c6, rfl, S3, bX⟩
  replace D := D.below bX
  go_wp2_with fail
  refine (lints_any D.x D.lt (by omega)).mono ?_
  rintro e w7 ⟨v, rfl, G⟩
  obtain ⟨g7, c7, rfl, -, -, o4, I4⟩ := G.ints
  have bY := G.b
  replace S3 := S3.below bY
  replace D := D.below bY
  clear G
  go_wp2_with fail
  refine (implValue_any S3 I4 o4 (by omega) (by omega) (fun i _ => D.x64 i) (fun i _ => D.f64 i) R HR).mono ?_
  rintro e w8 ⟨rfl, b8⟩
  have P2 : 0 < m → ∃ g, a1 = some ⟨g, 0, none⟩ ∧ Ints w8 g 0 m F ∧ g < w8.heap.size := fun h => by
    obtain ⟨g1, e, h1, h2⟩ := P1 h
    have b58 := (bX.trans (bY.mono bX.size)).trans (b8.mono (bX.trans (bY.mono bX.size)).size)
    exact ⟨g1, e, h1.below h2 b58, Nat.lt_of_lt_of_le h2 b58.size⟩
  replace D := D.below b8
  clear b8 S3 I4 o4 P1 bX bY
  cases R
  · have B := D.b
    clear D P2 HA HR
    go_wp2
    go_ret
    exact ⟨rfl, B⟩
  obtain ⟨ok, rfl, hF⟩ : TpN n inp f ∧ m = inp ∧ F = bk n inp f (tv mp f x) n := by
    rcases HA.out with ⟨h1, h2, -, h3⟩ | ⟨-, -, h3⟩
    · exact ⟨h1, h2, h3⟩
    · cases h3
  have HO : Hid (TpN n m f) := ok
  have HF : Hid (F = bk n m f (tv mp f x) n) := hF
  have vI := tv_in f x (n - 1)
  have HV : Hid (lastV n f x = tv mp f x (n - 1)) := rfl
  obtain ⟨V, hV⟩ : ∃ V, tv mp f x (n - 1) = V := ⟨_, rfl⟩
  have HV2 : Hid (tv mp f x (n - 1) = V) := hV
  rw [show lastV n f x = V from hV]
  rw [hV] at vI
  have hn0 := ok.2
  have hn0' : (n : Int) ≤ 201 := by omega
  obtain ⟨L, hL⟩ : ∃ L, n - 1 = L := ⟨_, rfl⟩
  have hL' : (n : Int) - 1 = (L : Int) := by omega
  have HL : Hid (n - 1 = L) := hL
  clear ok hF hV HA HR hL
  go_wp2_with fail
  refine (lsteps_own D.t (by omega)).mono ?_
  rintro e w9 ⟨v9, rfl, O9, nn9, b9⟩
  obtain ⟨g9, c9, rfl⟩ : ∃ g9 c9, v9 = .slice (some ⟨g9, 0, none⟩) n c9 := by
    rcases O9.2 with ⟨h1, _⟩ | ⟨g', c', cur, h1, -⟩
    · exact absurd h1 nn9
    · exact ⟨g', c', h1⟩
  obtain ⟨V9, hV9, A9, bV, -⟩ := boxed w9 46 #[.int .i64 3, .int .i64 (L : Int), .int .i64 (L : Int)]
  obtain ⟨q9, hq9⟩ : ∃ q, w9.heap.size = q := ⟨_, rfl⟩
  rw [hq9] at A9
  have hb2 : ∀ w, (Instr.buildSlice 27 1 #[(0, .agg #[.int .i64 3, .int .i64 (L : Int), .int .i64 (L : Int)])]).run Try.prog w = .ok (.slice (some ⟨w.heap.size, 0, none⟩) 1 1) (w.alloc (.cells #[.int .i64 3, .int .i64 (L : Int), .int .i64 (L : Int)] 46)) := fun _ => by kernel_rfl
  have b8V := b9.trans (bV.mono b9.size)
  have O9' := own_bel O9 bV
  have hkk : w8.heap.size ≤ V9.heap.size := b8V.size
  clear nn9 O9 b9 bV
  go_wp2_with (at_builtin; refine wpList_append_own _ rfl _ _ _ rfl w8.heap.size 46 i0 _ 3 24 Try.underlying27 hj0 hz0 hz1 hz2 rfl (by omega) (.slice (some ⟨g9, 0, none⟩) n c9) n (iCells f (n * 3)) rfl O9' ⟨q9, 0, none⟩ 1 1 (lCells [3, (L : Int), (L : Int)]) rfl rfl (news3d A9) (lCells_one _) (by unfold maxLen; omega) (by omega) hkk ?_; intro v10 w10 hown hgrow hne; refine Hid.out (?_ : Hid _))
  have O10 : w10.ownsRow w8.heap.size 46 3 v10 (n + 1) (iCells (mre n f) ((n + 1) * 3)) := by
    rw [← iCells_mre, HL.out]
    exact hown
  obtain ⟨g10, c10, rfl⟩ : ∃ g10 c10, v10 = .slice (some ⟨g10, 0, none⟩) (n + 1) c10 := by
    rcases O10.2 with ⟨h1, _⟩ | ⟨g', c', cur, h1, -⟩
    · exact absurd (hne.1 h1).1 (ne_nil _ _ _)
    · exact ⟨g', c', h1⟩
  have R10 := own_recs O10
  have b810 : Below w8.heap.size w8 w10 := b8V.grown hgrow hkk (fun k hk => gv_ge O9' hk)
  replace D := D.below b810
  have P3 : 0 < m → ∃ g, a1 = some ⟨g, 0, none⟩ ∧ Ints w10 g 0 m F ∧ g < w10.heap.size := fun h => by
    obtain ⟨g1, e, h1, h2⟩ := P2 h
    exact ⟨g1, e, h1.below h2 b810, Nat.lt_of_lt_of_le h2 b810.size⟩
  clear P2 b810 O10 hown hgrow hne O9' b8V A9 hV9 hq9 hb2 hkk
  have hbs : ∀ w, (Instr.buildSlice 23 0 #[]).run Try.prog w = .ok (.slice (some ⟨w.heap.size, 0, none⟩) 0 0) (w.alloc (.cells #[] 2)) := fun _ => by kernel_rfl
  obtain ⟨W11, hW11, -, b11, -⟩ := boxed w10 2 #[]
  obtain ⟨q11, hq11⟩ : ∃ q, w10.heap.size = q := ⟨_, rfl⟩
  replace D := D.below b11
  replace R10 := R10.below b11
  have P4 : 0 < m → ∃ g, a1 = some ⟨g, 0, none⟩ ∧ Ints W11 g 0 m F ∧ g < W11.heap.size := fun h => by
    obtain ⟨g1, e, h1, h2⟩ := P3 h
    exact ⟨g1, e, h1.below h2 b11, Nat.lt_of_lt_of_le h2 b11.size⟩
  clear P3 b11
  refine (?_ : wpList _ _ _ _ _ _)
  go_wp2_with fail
  clear hW11
  obtain ⟨T, hT⟩ : ∃ T : Bool, decide (n + 1 ≤ 200) = T := ⟨_, rfl⟩
  have HT : Hid (T = true ↔ TpOk (n + 1) (m : Int) (mre n f)) := by
    show _ ↔ _
    rw [← hT, decide_eq_true_eq]
    exact ⟨fun h => more_ok HO.out h, fun h => h.1⟩
  clear hT
  refine (specTapeOk_any (m : Int) R10 (by omega) T HT).mono ?_
  rintro e w12 ⟨rfl, b12⟩
  replace D := D.below b12
  replace R10 := R10.below b12
  have P5 : 0 < m → ∃ g, a1 = some ⟨g, 0, none⟩ ∧ Ints w12 g 0 m F ∧ g < w12.heap.size := fun h => by
    obtain ⟨g1, e, h1, h2⟩ := P4 h
    exact ⟨g1, e, h1.below h2 b12, Nat.lt_of_lt_of_le h2 b12.size⟩
  clear P4 b12
  clear HL hL' hn0' w9 w10 V9 W11 hmm HV hq11
  cases T
  · clear R10 HT
    go_wp2
    go_loopw [14] (fun u wr => ∃ i : Nat, i ≤ m ∧ u = .int .i64 (i : Int) ∧ Dv w wr g n b m f x ∧ (0 < m → ∃ g, a1 = some ⟨g, 0, none⟩ ∧ Ints wr g 0 m F ∧ g < wr.heap.size)) (fun u _ => m - (intOf u).toNat)
    case atStart => exact ⟨0, Nat.zero_le _, rfl, D, P5⟩
    case round =>
      clear D P5
      obtain ⟨i, him, rfl, D, P5⟩ := hrel
      by_cases hi : i < m
      case neg =>
        have hi' : ¬ (i : Int) < (m : Int) := by omega
        have B := D.b
        clear D P5
        have v0 := vI.1
        have v1 := vI.2
        go_wp2
        go_ret
        exact ⟨rfl, B⟩
      have hi' : (i : Int) < (m : Int) := by omega
      have hm0 : (0 : Int) < (m : Int) := by omega
      have hm3' : (m : Int) ≤ 3 := by omega
      have hm0n : 0 < m := by omega
      obtain ⟨g1, rfl, I1, l1⟩ := P5 (by omega)
      clear P5
      go_wp2_with fail
      refine (lsteps_any D.t (by omega)).mono ?_
      rintro e w20 ⟨g20, c20, rfl, S3, bX⟩
      replace D := D.below bX
      go_wp2_with fail
      refine (lints_any D.x D.lt (by omega)).mono ?_
      rintro e w21 ⟨v, rfl, G⟩
      obtain ⟨g21, c21, rfl, -, -, o4, I4⟩ := G.ints
      have bY := G.b
      replace S3 := S3.below bY
      replace D := D.below bY
      clear G
      go_wp2_with fail
      replace I1 := I1.below l1 bX
      replace l1 := Nat.lt_of_lt_of_le l1 bX.size
      replace I1 := I1.below l1 bY
      replace l1 := Nat.lt_of_lt_of_le l1 bY.size
      have SF := implSlope_yes (cap := c20) (c := c21) S3 I4 o4 (fun i _ => D.x64 i) (fun i _ => D.f64 i) HO.out hi
      have ddI := dv_in (i : Int) (tv mp f x) f (n - 1)
      obtain ⟨dd, hdd⟩ : ∃ d, dv (i : Int) (tv mp f x) f (n - 1) = d := ⟨_, rfl⟩
      have HDD : Hid (dv (i : Int) (tv mp f x) f (n - 1) = dd) := hdd
      have HD : Hid (F i = dd) := by show _ = _; rw [HF.out, back_fwd HO.out.1 HO.out.2 (tv_in f x) hi, hdd]
      rw [hdd] at SF ddI
      clear hdd
      refine SF.mono ?_
      rintro e w23 ⟨rfl, b23⟩
      replace D := D.below b23
      replace I1 := I1.below l1 b23
      replace l1 := Nat.lt_of_lt_of_le l1 b23.size
      clear b23 SF S3 I4 o4 bX bY
      go_wp2_with fail
      obtain ⟨u0, hu0, bb⟩ : ∃ uu, w23.drew = uu ∧ Below w23.heap.size w23 uu := ⟨_, rfl, (Below.refl _ _).drew⟩
      replace D := D.below bb
      replace I1 := I1.below l1 bb
      replace l1 := Nat.lt_of_lt_of_le l1 bb.size
      have L1 : ∀ w', Kb u0 w' → w'.cell? ⟨g1, i, none⟩ = some (.int .i64 dd) := fun w' h => by have z := (I1.below l1 h) i hi; rw [Nat.zero_add, HD.out] at z; exact z
      clear bb
      refine wp_region_held_drew (S := Kb u0) (by kernel_rfl) (by rw [hu0]; exact Below.refl _ _) (fun hHeld => ?_)
      rw [hu0] at hHeld ⊢
      clear hu0
      have bu : Kb u0 u0 := Below.refl _ _
      change wpAnyH _ _ _ _ _ 31 #[false, false, false, false, false, false, false, false, false, false, false, false, false, false, false, false, false, false, false, false, false, false, false, false, false, false, false, false, false, false, false] _ _
      refine wpAnyH_take (i := 0) (v := .bool true) rfl (by kernel_rfl) (by kernel_rfl) (by kernel_rfl) (fun _ _ _ h => h) (Or.inl ⟨by kernel_rfl, ?_⟩) hHeld ?_
      · intro w' hSw; go_simp
      try simp only [Act.put, List.setIfInBounds_toArray, List.set_cons_zero, List.set_cons_succ, List.getElem_toArray, List.getElem_cons_zero]
      refine wpAnyH_take (i := 1) (v := .bool false) rfl (by kernel_rfl) (by kernel_rfl) (by kernel_rfl) (fun _ _ _ h => h) (Or.inl ⟨by kernel_rfl, ?_⟩) hHeld ?_
      · intro w' hSw; go_simp
      try simp only [Act.put, List.setIfInBounds_toArray, List.set_cons_zero, List.set_cons_succ, List.getElem_toArray, List.getElem_cons_succ, List.getElem_cons_zero]
      refine wpAnyH_take (i := 2) (v := .bool false) rfl (by kernel_rfl) (by kernel_rfl) (by kernel_rfl) (fun _ _ _ h => h) (Or.inl ⟨by kernel_rfl, ?_⟩) hHeld ?_
      · intro w' hSw; go_simp
      try simp only [Act.put, List.setIfInBounds_toArray, List.set_cons_zero, List.set_cons_succ, List.getElem_toArray, List.getElem_cons_succ, List.getElem_cons_zero]
      refine wpAnyH_take (i := 3) (v := .int .i64 (dd)) rfl (by kernel_rfl) (by kernel_rfl) (by kernel_rfl) (fun _ _ _ h => h) (Or.inl ⟨by kernel_rfl, ?_⟩) hHeld ?_
      · intro w' hSw; go_simp
      try simp only [Act.put, List.setIfInBounds_toArray, List.set_cons_zero, List.set_cons_succ, List.getElem_toArray, List.getElem_cons_succ, List.getElem_cons_zero]
      refine wpAnyH_take (i := 4) (v := .slice ((some ⟨g1, 0, none⟩)) m e1) rfl (by kernel_rfl) (by kernel_rfl) (by kernel_rfl) (fun _ _ _ h => h) (Or.inl ⟨by kernel_rfl, ?_⟩) hHeld ?_
      · intro w' hSw; go_simp
      try simp only [Act.put, List.setIfInBounds_toArray, List.set_cons_zero, List.set_cons_succ, List.getElem_toArray, List.getElem_cons_succ, List.getElem_cons_zero]
      refine wpAnyH_take (i := 5) (v := .int .i64 ((i : Int))) rfl (by kernel_rfl) (by kernel_rfl) (by kernel_rfl) (fun _ _ _ h => h) (Or.inl ⟨by kernel_rfl, ?_⟩) hHeld ?_
      · intro w' hSw; go_simp
      try simp only [Act.put, List.setIfInBounds_toArray, List.set_cons_zero, List.set_cons_succ, List.getElem_toArray, List.getElem_cons_succ, List.getElem_cons_zero]
      refine wpAnyH_take (i := 6) (v := .pointer (some ⟨g1, i, none⟩)) rfl (by kernel_rfl) (by kernel_rfl) (by kernel_rfl) (fun _ _ _ h => h) (Or.inl ⟨by kernel_rfl, ?_⟩) hHeld ?_
      · intro w' hSw; go_simp
      try simp only [Act.put, List.setIfInBounds_toArray, List.set_cons_zero, List.set_cons_succ, List.getElem_toArray, List.getElem_cons_succ, List.getElem_cons_zero]
      refine wpAnyH_take (i := 7) (v := .int .i64 (dd)) rfl (by kernel_rfl) (by kernel_rfl) (by kernel_rfl) (fun _ _ _ h => h) (Or.inl ⟨by kernel_rfl, ?_⟩) hHeld ?_
      · intro w' hSw; have z0 := L1 _ hSw; go_simp
      try simp only [Act.put, List.setIfInBounds_toArray, List.set_cons_zero, List.set_cons_succ, List.getElem_toArray, List.getElem_cons_succ, List.getElem_cons_zero]
      refine wpAnyH_take (i := 8) (v := .bool false) rfl (by kernel_rfl) (by kernel_rfl) (by kernel_rfl) (fun _ _ _ h => h) (Or.inl ⟨by kernel_rfl, ?_⟩) hHeld ?_
      · intro w' hSw; go_simp
      try simp only [Act.put, List.setIfInBounds_toArray, List.set_cons_zero, List.set_cons_succ, List.getElem_toArray, List.getElem_cons_succ, List.getElem_cons_zero]
      refine wpAnyH_take (i := 9) (v := .bool false) rfl (by kernel_rfl) (by kernel_rfl) (by kernel_rfl) (fun _ _ _ h => h) (Or.inl ⟨by kernel_rfl, ?_⟩) hHeld ?_
      · intro w' hSw; go_simp
      try simp only [Act.put, List.setIfInBounds_toArray, List.set_cons_zero, List.set_cons_succ, List.getElem_toArray, List.getElem_cons_succ, List.getElem_cons_zero]
      refine wpAnyH_take (i := 10) (v := .bool false) rfl (by kernel_rfl) (by kernel_rfl) (by kernel_rfl) (fun _ _ _ h => h) (Or.inl ⟨by kernel_rfl, ?_⟩) hHeld ?_
      · intro w' hSw; go_simp
      try simp only [Act.put, List.setIfInBounds_toArray, List.set_cons_zero, List.set_cons_succ, List.getElem_toArray, List.getElem_cons_succ, List.getElem_cons_zero]
      refine wpAnyH_take (i := 11) (v := .slice ((some ⟨q11, 0, none⟩)) 0 0) rfl (by kernel_rfl) (by kernel_rfl) (by kernel_rfl) (fun _ _ _ h => h) (Or.inl ⟨by kernel_rfl, ?_⟩) hHeld ?_
      · intro w' hSw; go_simp
      try simp only [Act.put, List.setIfInBounds_toArray, List.set_cons_zero, List.set_cons_succ, List.getElem_toArray, List.getElem_cons_succ, List.getElem_cons_zero]
      refine wpAnyH_take (i := 12) (v := .int .i64 (0)) rfl (by kernel_rfl) (by kernel_rfl) (by kernel_rfl) (fun _ _ _ h => h) (Or.inl ⟨by kernel_rfl, ?_⟩) hHeld ?_
      · intro w' hSw; go_simp
      try simp only [Act.put, List.setIfInBounds_toArray, List.set_cons_zero, List.set_cons_succ, List.getElem_toArray, List.getElem_cons_succ, List.getElem_cons_zero]
      refine wpAnyH_take (i := 13) (v := .bool false) rfl (by kernel_rfl) (by kernel_rfl) (by kernel_rfl) (fun _ _ _ h => h) (Or.inl ⟨by kernel_rfl, ?_⟩) hHeld ?_
      · intro w' hSw; go_simp
      try simp only [Act.put, List.setIfInBounds_toArray, List.set_cons_zero, List.set_cons_succ, List.getElem_toArray, List.getElem_cons_succ, List.getElem_cons_zero]
      refine wpAnyH_take (i := 14) (v := .bool false) rfl (by kernel_rfl) (by kernel_rfl) (by kernel_rfl) (fun _ _ _ h => h) (Or.inl ⟨by kernel_rfl, ?_⟩) hHeld ?_
      · intro w' hSw; go_simp
      try simp only [Act.put, List.setIfInBounds_toArray, List.set_cons_zero, List.set_cons_succ, List.getElem_toArray, List.getElem_cons_succ, List.getElem_cons_zero]
      refine wpAnyH_take (i := 15) (v := undef) rfl (by kernel_rfl) (by kernel_rfl) (by kernel_rfl) (fun _ _ _ h => h) (Or.inr ⟨by kernel_rfl, rfl⟩) hHeld ?_
      try simp only [Act.put, List.setIfInBounds_toArray, List.set_cons_zero, List.set_cons_succ, List.getElem_toArray, List.getElem_cons_succ, List.getElem_cons_zero]
      refine wpAnyH_take (i := 16) (v := undef) rfl (by kernel_rfl) (by kernel_rfl) (by kernel_rfl) (fun _ _ _ h => h) (Or.inr ⟨by kernel_rfl, rfl⟩) hHeld ?_
      try simp only [Act.put, List.setIfInBounds_toArray, List.set_cons_zero, List.set_cons_succ, List.getElem_toArray, List.getElem_cons_succ, List.getElem_cons_zero]
      refine wpAnyH_take (i := 17) (v := undef) rfl (by kernel_rfl) (by kernel_rfl) (by kernel_rfl) (fun _ _ _ h => h) (Or.inr ⟨by kernel_rfl, rfl⟩) hHeld ?_
      try simp only [Act.put, List.setIfInBounds_toArray, List.set_cons_zero, List.set_cons_succ, List.getElem_toArray, List.getElem_cons_succ, List.getElem_cons_zero]
      refine wpAnyH_take (i := 18) (v := undef) rfl (by kernel_rfl) (by kernel_rfl) (by kernel_rfl) (fun _ _ _ h => h) (Or.inr ⟨by kernel_rfl, rfl⟩) hHeld ?_
      try simp only [Act.put, List.setIfInBounds_toArray, List.set_cons_zero, List.set_cons_succ, List.getElem_toArray, List.getElem_cons_succ, List.getElem_cons_zero]
      refine wpAnyH_take (i := 19) (v := undef) rfl (by kernel_rfl) (by kernel_rfl) (by kernel_rfl) (fun _ _ _ h => h) (Or.inr ⟨by kernel_rfl, rfl⟩) hHeld ?_
      try simp only [Act.put, List.setIfInBounds_toArray, List.set_cons_zero, List.set_cons_succ, List.getElem_toArray, List.getElem_cons_succ, List.getElem_cons_zero]
      refine wpAnyH_take (i := 20) (v := undef) rfl (by kernel_rfl) (by kernel_rfl) (by kernel_rfl) (fun _ _ _ h => h) (Or.inr ⟨by kernel_rfl, rfl⟩) hHeld ?_
      try simp only [Act.put, List.setIfInBounds_toArray, List.set_cons_zero, List.set_cons_succ, List.getElem_toArray, List.getElem_cons_succ, List.getElem_cons_zero]
      refine wpAnyH_take (i := 21) (v := undef) rfl (by kernel_rfl) (by kernel_rfl) (by kernel_rfl) (fun _ _ _ h => h) (Or.inr ⟨by kernel_rfl, rfl⟩) hHeld ?_
      try simp only [Act.put, List.setIfInBounds_toArray, List.set_cons_zero, List.set_cons_succ, List.getElem_toArray, List.getElem_cons_succ, List.getElem_cons_zero]
      refine wpAnyH_take (i := 22) (v := undef) rfl (by kernel_rfl) (by kernel_rfl) (by kernel_rfl) (fun _ _ _ h => h) (Or.inr ⟨by kernel_rfl, rfl⟩) hHeld ?_
      try simp only [Act.put, List.setIfInBounds_toArray, List.set_cons_zero, List.set_cons_succ, List.getElem_toArray, List.getElem_cons_succ, List.getElem_cons_zero]
      refine wpAnyH_take (i := 23) (v := undef) rfl (by kernel_rfl) (by kernel_rfl) (by kernel_rfl) (fun _ _ _ h => h) (Or.inr ⟨by kernel_rfl, rfl⟩) hHeld ?_
      try simp only [Act.put, List.setIfInBounds_toArray, List.set_cons_zero, List.set_cons_succ, List.getElem_toArray, List.getElem_cons_succ, List.getElem_cons_zero]
      refine wpAnyH_take (i := 24) (v := undef) rfl (by kernel_rfl) (by kernel_rfl) (by kernel_rfl) (fun _ _ _ h => h) (Or.inr ⟨by kernel_rfl, rfl⟩) hHeld ?_
      try simp only [Act.put, List.setIfInBounds_toArray, List.set_cons_zero, List.set_cons_succ, List.getElem_toArray, List.getElem_cons_succ, List.getElem_cons_zero]
      refine wpAnyH_take (i := 25) (v := undef) rfl (by kernel_rfl) (by kernel_rfl) (by kernel_rfl) (fun _ _ _ h => h) (Or.inr ⟨by kernel_rfl, rfl⟩) hHeld ?_
      try simp only [Act.put, List.setIfInBounds_toArray, List.set_cons_zero, List.set_cons_succ, List.getElem_toArray, List.getElem_cons_succ, List.getElem_cons_zero]
      refine wpAnyH_take (i := 26) (v := undef) rfl (by kernel_rfl) (by kernel_rfl) (by kernel_rfl) (fun _ _ _ h => h) (Or.inr ⟨by kernel_rfl, rfl⟩) hHeld ?_
      try simp only [Act.put, List.setIfInBounds_toArray, List.set_cons_zero, List.set_cons_succ, List.getElem_toArray, List.getElem_cons_succ, List.getElem_cons_zero]
      refine wpAnyH_take (i := 27) (v := undef) rfl (by kernel_rfl) (by kernel_rfl) (by kernel_rfl) (fun _ _ _ h => h) (Or.inr ⟨by kernel_rfl, rfl⟩) hHeld ?_
      try simp only [Act.put, List.setIfInBounds_toArray, List.set_cons_zero, List.set_cons_succ, List.getElem_toArray, List.getElem_cons_succ, List.getElem_cons_zero]
      refine wpAnyH_take (i := 28) (v := undef) rfl (by kernel_rfl) (by kernel_rfl) (by kernel_rfl) (fun _ _ _ h => h) (Or.inr ⟨by kernel_rfl, rfl⟩) hHeld ?_
      try simp only [Act.put, List.setIfInBounds_toArray, List.set_cons_zero, List.set_cons_succ, List.getElem_toArray, List.getElem_cons_succ, List.getElem_cons_zero]
      refine wpAnyH_take (i := 29) (v := .bool false) rfl (by kernel_rfl) (by kernel_rfl) (by kernel_rfl) (fun _ _ _ h => h) (Or.inl ⟨by kernel_rfl, ?_⟩) hHeld ?_
      · intro w' hSw; go_simp
      try simp only [Act.put, List.setIfInBounds_toArray, List.set_cons_zero, List.set_cons_succ, List.getElem_toArray, List.getElem_cons_succ, List.getElem_cons_zero]
      refine wpAnyH_take (i := 30) (v := .bool false) rfl (by kernel_rfl) (by kernel_rfl) (by kernel_rfl) (fun _ _ _ h => h) (Or.inl ⟨by kernel_rfl, ?_⟩) hHeld ?_
      · intro w' hSw; go_simp
      try simp only [Act.put, List.setIfInBounds_toArray, List.set_cons_zero, List.set_cons_succ, List.getElem_toArray, List.getElem_cons_succ, List.getElem_cons_zero]
      refine wpAnyH_done (by kernel_rfl) ?_ _
      clear hHeld
      go_wp2
      exact ⟨⟨i + 1, by omega, by go_num, D, fun _ => ⟨g1, rfl, I1, l1⟩⟩, by simp [intOf]; omega⟩
  · have ok' : TpN (n + 1) m (mre n f) := ⟨HT.out.1 rfl, by omega⟩
    have HA2 : Hid (BkA (n + 1) m (mre n f) x m true (bk (n + 1) m (mre n f) (tv mp (mre n f) x) (n + 1))) := .inl ⟨ok', rfl, rfl, rfl⟩
    have HO2 : Hid (TpOk (n + 1) (m : Int) (mre n f)) := ok'.1
    have M64 : ∀ i, is64 (mre n f i) := fun i => mre64 D.f64 (by omega) i
    clear ok' HT
    go_wp2_with fail
    refine (lints_any D.x D.lt (by omega)).mono ?_
    rintro e w13 ⟨v, rfl, G⟩
    obtain ⟨g13, c13, rfl, -, -, o4, I4⟩ := G.ints
    have bY := G.b
    replace R10 := R10.below bY
    replace D := D.below bY
    have P6 : 0 < m → ∃ g, a1 = some ⟨g, 0, none⟩ ∧ Ints w13 g 0 m F ∧ g < w13.heap.size := fun h => by
      obtain ⟨g1, e, h1, h2⟩ := P5 h
      exact ⟨g1, e, h1.below h2 bY, Nat.lt_of_lt_of_le h2 bY.size⟩
    clear G P5 bY
    go_wp2_with fail
    refine (implBack_any R10 I4 o4 (by omega) (by omega) (fun i _ => D.x64 i) (fun i _ => M64 i) HA2).mono ?_
    rintro e w14 ⟨v2, rfl, A2, b14⟩
    replace D := D.below b14
    have P5 : 0 < m → ∃ g, a1 = some ⟨g, 0, none⟩ ∧ Ints w14 g 0 m F ∧ g < w14.heap.size := fun h => by
      obtain ⟨g1, e, h1, h2⟩ := P6 h
      exact ⟨g1, e, h1.below h2 b14, Nat.lt_of_lt_of_le h2 b14.size⟩
    obtain ⟨F2, hF2⟩ : ∃ F2, bk (n + 1) m (mre n f) (tv mp (mre n f) x) (n + 1) = F2 := ⟨_, rfl⟩
    have HF2 : Hid (bk (n + 1) m (mre n f) (tv mp (mre n f) x) (n + 1) = F2) := hF2
    rw [hF2] at A2
    obtain ⟨a2, e2, rfl, Q5⟩ := arr_slB A2
    clear hF2 A2 b14 R10 I4 o4 P6 HA2 M64
    have hmm : ((m : Int) != (m : Int)) = false := bne_self_eq_false _
    go_wp2
    clear hmm
    go_loopw [14] (fun u wr => ∃ i : Nat, i ≤ m ∧ u = .int .i64 (i : Int) ∧ Dv w wr g n b m f x ∧ (0 < m → ∃ g, a1 = some ⟨g, 0, none⟩ ∧ Ints wr g 0 m F ∧ g < wr.heap.size) ∧ (0 < m → ∃ g, a2 = some ⟨g, 0, none⟩ ∧ Ints wr g 0 m F2 ∧ g < wr.heap.size)) (fun u _ => m - (intOf u).toNat)
    case atStart => exact ⟨0, Nat.zero_le _, rfl, D, P5, Q5⟩
    case round =>
      clear D P5 Q5
      obtain ⟨i, him, rfl, D, P5, Q5⟩ := hrel
      by_cases hi : i < m
      case neg =>
        have hi' : ¬ (i : Int) < (m : Int) := by omega
        have B := D.b
        clear D P5 Q5
        have v0 := vI.1
        have v1 := vI.2
        go_wp2
        go_ret
        exact ⟨rfl, B⟩
      have hi' : (i : Int) < (m : Int) := by omega
      have hm0 : (0 : Int) < (m : Int) := by omega
      have hm3' : (m : Int) ≤ 3 := by omega
      have hm0n : 0 < m := by omega
      obtain ⟨g1, rfl, I1, l1⟩ := P5 (by omega)
      obtain ⟨g2, rfl, I2, l2⟩ := Q5 (by omega)
      clear P5 Q5
      go_wp2_with fail
      refine (lsteps_any D.t (by omega)).mono ?_
      rintro e w20 ⟨g20, c20, rfl, S3, bX⟩
      replace D := D.below bX
      go_wp2_with fail
      refine (lints_any D.x D.lt (by omega)).mono ?_
      rintro e w21 ⟨v, rfl, G⟩
      obtain ⟨g21, c21, rfl, -, -, o4, I4⟩ := G.ints
      have bY := G.b
      replace S3 := S3.below bY
      replace D := D.below bY
      clear G
      go_wp2_with fail
      replace I1 := I1.below l1 bX
      replace l1 := Nat.lt_of_lt_of_le l1 bX.size
      replace I2 := I2.below l2 bX
      replace l2 := Nat.lt_of_lt_of_le l2 bX.size
      replace I1 := I1.below l1 bY
      replace l1 := Nat.lt_of_lt_of_le l1 bY.size
      replace I2 := I2.below l2 bY
      replace l2 := Nat.lt_of_lt_of_le l2 bY.size
      have SF := implSlope_yes (cap := c20) (c := c21) S3 I4 o4 (fun i _ => D.x64 i) (fun i _ => D.f64 i) HO.out hi
      have ddI := dv_in (i : Int) (tv mp f x) f (n - 1)
      obtain ⟨dd, hdd⟩ : ∃ d, dv (i : Int) (tv mp f x) f (n - 1) = d := ⟨_, rfl⟩
      have HDD : Hid (dv (i : Int) (tv mp f x) f (n - 1) = dd) := hdd
      have HD : Hid (F i = dd) := by show _ = _; rw [HF.out, back_fwd HO.out.1 HO.out.2 (tv_in f x) hi, hdd]
      rw [hdd] at SF ddI
      clear hdd
      obtain ⟨E1, hE1⟩ : ∃ E, Int.tmod (2 * V) 12289 = E := ⟨_, rfl⟩
      have E1b : 0 ≤ E1 ∧ E1 < 12289 := by rw [← hE1, Int.tmod_eq_emod_of_nonneg (by omega)]; omega
      obtain ⟨E2, hE2⟩ : ∃ E, Int.tmod (E1 * dd) 12289 = E := ⟨_, rfl⟩
      have mB := mulC E1b ddI
      have HE : Hid (F2 i = E2) := by
        show _ = _
        rw [← HF2.out, two_is HO.out HO2.out hi, HV2.out, HDD.out, ← hE2, ← hE1, Int.tmod_eq_emod_of_nonneg (show 0 ≤ 2 * V by omega), Int.tmod_eq_emod_of_nonneg]
        rw [← Int.tmod_eq_emod_of_nonneg (show 0 ≤ 2 * V by omega), hE1]
        exact mB.1
      have w1 : IntKind.i64.wrap (2 * V) = 2 * V := by rw [IntKind.wrap_i64]; omega
      have w2 : IntKind.i64.wrap (E1 * dd) = E1 * dd := by rw [IntKind.wrap_i64]; omega
      refine SF.mono ?_
      rintro e w23 ⟨rfl, b23⟩
      replace D := D.below b23
      replace I1 := I1.below l1 b23
      replace l1 := Nat.lt_of_lt_of_le l1 b23.size
      replace I2 := I2.below l2 b23
      replace l2 := Nat.lt_of_lt_of_le l2 b23.size
      clear b23 SF S3 I4 o4 bX bY
      go_wp2_with fail
      obtain ⟨u0, hu0, bb⟩ : ∃ uu, w23.drew = uu ∧ Below w23.heap.size w23 uu := ⟨_, rfl, (Below.refl _ _).drew⟩
      replace D := D.below bb
      replace I1 := I1.below l1 bb
      replace l1 := Nat.lt_of_lt_of_le l1 bb.size
      replace I2 := I2.below l2 bb
      replace l2 := Nat.lt_of_lt_of_le l2 bb.size
      have L1 : ∀ w', Kb u0 w' → w'.cell? ⟨g1, i, none⟩ = some (.int .i64 dd) := fun w' h => by have z := (I1.below l1 h) i hi; rw [Nat.zero_add, HD.out] at z; exact z
      have L2 : ∀ w', Kb u0 w' → w'.cell? ⟨g2, i, none⟩ = some (.int .i64 E2) := fun w' h => by have z := (I2.below l2 h) i hi; rw [Nat.zero_add, HE.out] at z; exact z
      clear bb
      refine wp_region_held_drew (S := Kb u0) (by kernel_rfl) (by rw [hu0]; exact Below.refl _ _) (fun hHeld => ?_)
      rw [hu0] at hHeld ⊢
      clear hu0
      have bu : Kb u0 u0 := Below.refl _ _
      change wpAnyH _ _ _ _ _ 31 #[false, false, false, false, false, false, false, false, false, false, false, false, false, false, false, false, false, false, false, false, false, false, false, false, false, false, false, false, false, false, false] _ _
      refine wpAnyH_take (i := 0) (v := .bool true) rfl (by kernel_rfl) (by kernel_rfl) (by kernel_rfl) (fun _ _ _ h => h) (Or.inl ⟨by kernel_rfl, ?_⟩) hHeld ?_
      · intro w' hSw; go_simp
      try simp only [Act.put, List.setIfInBounds_toArray, List.set_cons_zero, List.set_cons_succ, List.getElem_toArray, List.getElem_cons_zero]
      refine wpAnyH_take (i := 1) (v := .bool false) rfl (by kernel_rfl) (by kernel_rfl) (by kernel_rfl) (fun _ _ _ h => h) (Or.inl ⟨by kernel_rfl, ?_⟩) hHeld ?_
      · intro w' hSw; go_simp
      try simp only [Act.put, List.setIfInBounds_toArray, List.set_cons_zero, List.set_cons_succ, List.getElem_toArray, List.getElem_cons_succ, List.getElem_cons_zero]
      refine wpAnyH_take (i := 2) (v := .bool false) rfl (by kernel_rfl) (by kernel_rfl) (by kernel_rfl) (fun _ _ _ h => h) (Or.inl ⟨by kernel_rfl, ?_⟩) hHeld ?_
      · intro w' hSw; go_simp
      try simp only [Act.put, List.setIfInBounds_toArray, List.set_cons_zero, List.set_cons_succ, List.getElem_toArray, List.getElem_cons_succ, List.getElem_cons_zero]
      refine wpAnyH_take (i := 3) (v := .int .i64 (dd)) rfl (by kernel_rfl) (by kernel_rfl) (by kernel_rfl) (fun _ _ _ h => h) (Or.inl ⟨by kernel_rfl, ?_⟩) hHeld ?_
      · intro w' hSw; go_simp
      try simp only [Act.put, List.setIfInBounds_toArray, List.set_cons_zero, List.set_cons_succ, List.getElem_toArray, List.getElem_cons_succ, List.getElem_cons_zero]
      refine wpAnyH_take (i := 4) (v := .slice ((some ⟨g1, 0, none⟩)) m e1) rfl (by kernel_rfl) (by kernel_rfl) (by kernel_rfl) (fun _ _ _ h => h) (Or.inl ⟨by kernel_rfl, ?_⟩) hHeld ?_
      · intro w' hSw; go_simp
      try simp only [Act.put, List.setIfInBounds_toArray, List.set_cons_zero, List.set_cons_succ, List.getElem_toArray, List.getElem_cons_succ, List.getElem_cons_zero]
      refine wpAnyH_take (i := 5) (v := .int .i64 ((i : Int))) rfl (by kernel_rfl) (by kernel_rfl) (by kernel_rfl) (fun _ _ _ h => h) (Or.inl ⟨by kernel_rfl, ?_⟩) hHeld ?_
      · intro w' hSw; go_simp
      try simp only [Act.put, List.setIfInBounds_toArray, List.set_cons_zero, List.set_cons_succ, List.getElem_toArray, List.getElem_cons_succ, List.getElem_cons_zero]
      refine wpAnyH_take (i := 6) (v := .pointer (some ⟨g1, i, none⟩)) rfl (by kernel_rfl) (by kernel_rfl) (by kernel_rfl) (fun _ _ _ h => h) (Or.inl ⟨by kernel_rfl, ?_⟩) hHeld ?_
      · intro w' hSw; go_simp
      try simp only [Act.put, List.setIfInBounds_toArray, List.set_cons_zero, List.set_cons_succ, List.getElem_toArray, List.getElem_cons_succ, List.getElem_cons_zero]
      refine wpAnyH_take (i := 7) (v := .int .i64 (dd)) rfl (by kernel_rfl) (by kernel_rfl) (by kernel_rfl) (fun _ _ _ h => h) (Or.inl ⟨by kernel_rfl, ?_⟩) hHeld ?_
      · intro w' hSw; have z0 := L1 _ hSw; go_simp
      try simp only [Act.put, List.setIfInBounds_toArray, List.set_cons_zero, List.set_cons_succ, List.getElem_toArray, List.getElem_cons_succ, List.getElem_cons_zero]
      refine wpAnyH_take (i := 8) (v := .bool false) rfl (by kernel_rfl) (by kernel_rfl) (by kernel_rfl) (fun _ _ _ h => h) (Or.inl ⟨by kernel_rfl, ?_⟩) hHeld ?_
      · intro w' hSw; go_simp
      try simp only [Act.put, List.setIfInBounds_toArray, List.set_cons_zero, List.set_cons_succ, List.getElem_toArray, List.getElem_cons_succ, List.getElem_cons_zero]
      refine wpAnyH_take (i := 9) (v := .bool false) rfl (by kernel_rfl) (by kernel_rfl) (by kernel_rfl) (fun _ _ _ h => h) (Or.inl ⟨by kernel_rfl, ?_⟩) hHeld ?_
      · intro w' hSw; go_simp
      try simp only [Act.put, List.setIfInBounds_toArray, List.set_cons_zero, List.set_cons_succ, List.getElem_toArray, List.getElem_cons_succ, List.getElem_cons_zero]
      refine wpAnyH_take (i := 10) (v := .bool false) rfl (by kernel_rfl) (by kernel_rfl) (by kernel_rfl) (fun _ _ _ h => h) (Or.inl ⟨by kernel_rfl, ?_⟩) hHeld ?_
      · intro w' hSw; go_simp
      try simp only [Act.put, List.setIfInBounds_toArray, List.set_cons_zero, List.set_cons_succ, List.getElem_toArray, List.getElem_cons_succ, List.getElem_cons_zero]
      refine wpAnyH_take (i := 11) (v := .slice ((some ⟨g2, 0, none⟩)) m e2) rfl (by kernel_rfl) (by kernel_rfl) (by kernel_rfl) (fun _ _ _ h => h) (Or.inl ⟨by kernel_rfl, ?_⟩) hHeld ?_
      · intro w' hSw; go_simp
      try simp only [Act.put, List.setIfInBounds_toArray, List.set_cons_zero, List.set_cons_succ, List.getElem_toArray, List.getElem_cons_succ, List.getElem_cons_zero]
      refine wpAnyH_take (i := 12) (v := .int .i64 ((m : Int))) rfl (by kernel_rfl) (by kernel_rfl) (by kernel_rfl) (fun _ _ _ h => h) (Or.inl ⟨by kernel_rfl, ?_⟩) hHeld ?_
      · intro w' hSw; go_simp
      try simp only [Act.put, List.setIfInBounds_toArray, List.set_cons_zero, List.set_cons_succ, List.getElem_toArray, List.getElem_cons_succ, List.getElem_cons_zero]
      refine wpAnyH_take (i := 13) (v := .bool true) rfl (by kernel_rfl) (by kernel_rfl) (by kernel_rfl) (fun _ _ _ h => h) (Or.inl ⟨by kernel_rfl, ?_⟩) hHeld ?_
      · intro w' hSw; go_simp
      try simp only [Act.put, List.setIfInBounds_toArray, List.set_cons_zero, List.set_cons_succ, List.getElem_toArray, List.getElem_cons_succ, List.getElem_cons_zero]
      refine wpAnyH_take (i := 14) (v := .bool true) rfl (by kernel_rfl) (by kernel_rfl) (by kernel_rfl) (fun _ _ _ h => h) (Or.inl ⟨by kernel_rfl, ?_⟩) hHeld ?_
      · intro w' hSw; go_simp
      try simp only [Act.put, List.setIfInBounds_toArray, List.set_cons_zero, List.set_cons_succ, List.getElem_toArray, List.getElem_cons_succ, List.getElem_cons_zero]
      refine wpAnyH_take (i := 15) (v := .slice ((some ⟨g2, 0, none⟩)) m e2) rfl (by kernel_rfl) (by kernel_rfl) (by kernel_rfl) (fun _ _ _ h => h) (Or.inl ⟨by kernel_rfl, ?_⟩) hHeld ?_
      · intro w' hSw; go_simp
      try simp only [Act.put, List.setIfInBounds_toArray, List.set_cons_zero, List.set_cons_succ, List.getElem_toArray, List.getElem_cons_succ, List.getElem_cons_zero]
      refine wpAnyH_take (i := 16) (v := .int .i64 ((i : Int))) rfl (by kernel_rfl) (by kernel_rfl) (by kernel_rfl) (fun _ _ _ h => h) (Or.inl ⟨by kernel_rfl, ?_⟩) hHeld ?_
      · intro w' hSw; go_simp
      try simp only [Act.put, List.setIfInBounds_toArray, List.set_cons_zero, List.set_cons_succ, List.getElem_toArray, List.getElem_cons_succ, List.getElem_cons_zero]
      refine wpAnyH_take (i := 17) (v := .pointer (some ⟨g2, i, none⟩)) rfl (by kernel_rfl) (by kernel_rfl) (by kernel_rfl) (fun _ _ _ h => h) (Or.inl ⟨by kernel_rfl, ?_⟩) hHeld ?_
      · intro w' hSw; go_simp
      try simp only [Act.put, List.setIfInBounds_toArray, List.set_cons_zero, List.set_cons_succ, List.getElem_toArray, List.getElem_cons_succ, List.getElem_cons_zero]
      refine wpAnyH_take (i := 18) (v := .int .i64 (E2)) rfl (by kernel_rfl) (by kernel_rfl) (by kernel_rfl) (fun _ _ _ h => h) (Or.inl ⟨by kernel_rfl, ?_⟩) hHeld ?_
      · intro w' hSw; have z0 := L2 _ hSw; go_simp
      try simp only [Act.put, List.setIfInBounds_toArray, List.set_cons_zero, List.set_cons_succ, List.getElem_toArray, List.getElem_cons_succ, List.getElem_cons_zero]
      refine wpAnyH_take (i := 19) (v := .int .i64 (V)) rfl (by kernel_rfl) (by kernel_rfl) (by kernel_rfl) (fun _ _ _ h => h) (Or.inl ⟨by kernel_rfl, ?_⟩) hHeld ?_
      · intro w' hSw; go_simp
      try simp only [Act.put, List.setIfInBounds_toArray, List.set_cons_zero, List.set_cons_succ, List.getElem_toArray, List.getElem_cons_succ, List.getElem_cons_zero]
      refine wpAnyH_take (i := 20) (v := .int .i64 (2 * V)) rfl (by kernel_rfl) (by kernel_rfl) (by kernel_rfl) (fun _ _ _ h => h) (Or.inl ⟨by kernel_rfl, ?_⟩) hHeld ?_
      · intro w' hSw; go_simp
      try simp only [Act.put, List.setIfInBounds_toArray, List.set_cons_zero, List.set_cons_succ, List.getElem_toArray, List.getElem_cons_succ, List.getElem_cons_zero]
      refine wpAnyH_take (i := 21) (v := .int .i64 (E1)) rfl (by kernel_rfl) (by kernel_rfl) (by kernel_rfl) (fun _ _ _ h => h) (Or.inl ⟨by kernel_rfl, ?_⟩) hHeld ?_
      · intro w' hSw; go_simp
      try simp only [Act.put, List.setIfInBounds_toArray, List.set_cons_zero, List.set_cons_succ, List.getElem_toArray, List.getElem_cons_succ, List.getElem_cons_zero]
      refine wpAnyH_take (i := 22) (v := .slice ((some ⟨g1, 0, none⟩)) m e1) rfl (by kernel_rfl) (by kernel_rfl) (by kernel_rfl) (fun _ _ _ h => h) (Or.inl ⟨by kernel_rfl, ?_⟩) hHeld ?_
      · intro w' hSw; go_simp
      try simp only [Act.put, List.setIfInBounds_toArray, List.set_cons_zero, List.set_cons_succ, List.getElem_toArray, List.getElem_cons_succ, List.getElem_cons_zero]
      refine wpAnyH_take (i := 23) (v := .int .i64 ((i : Int))) rfl (by kernel_rfl) (by kernel_rfl) (by kernel_rfl) (fun _ _ _ h => h) (Or.inl ⟨by kernel_rfl, ?_⟩) hHeld ?_
      · intro w' hSw; go_simp
      try simp only [Act.put, List.setIfInBounds_toArray, List.set_cons_zero, List.set_cons_succ, List.getElem_toArray, List.getElem_cons_succ, List.getElem_cons_zero]
      refine wpAnyH_take (i := 24) (v := .pointer (some ⟨g1, i, none⟩)) rfl (by kernel_rfl) (by kernel_rfl) (by kernel_rfl) (fun _ _ _ h => h) (Or.inl ⟨by kernel_rfl, ?_⟩) hHeld ?_
      · intro w' hSw; go_simp
      try simp only [Act.put, List.setIfInBounds_toArray, List.set_cons_zero, List.set_cons_succ, List.getElem_toArray, List.getElem_cons_succ, List.getElem_cons_zero]
      refine wpAnyH_take (i := 25) (v := .int .i64 (dd)) rfl (by kernel_rfl) (by kernel_rfl) (by kernel_rfl) (fun _ _ _ h => h) (Or.inl ⟨by kernel_rfl, ?_⟩) hHeld ?_
      · intro w' hSw; have z0 := L1 _ hSw; go_simp
      try simp only [Act.put, List.setIfInBounds_toArray, List.set_cons_zero, List.set_cons_succ, List.getElem_toArray, List.getElem_cons_succ, List.getElem_cons_zero]
      refine wpAnyH_take (i := 26) (v := .int .i64 (E1 * dd)) rfl (by kernel_rfl) (by kernel_rfl) (by kernel_rfl) (fun _ _ _ h => h) (Or.inl ⟨by kernel_rfl, ?_⟩) hHeld ?_
      · intro w' hSw; go_simp
      try simp only [Act.put, List.setIfInBounds_toArray, List.set_cons_zero, List.set_cons_succ, List.getElem_toArray, List.getElem_cons_succ, List.getElem_cons_zero]
      refine wpAnyH_take (i := 27) (v := .int .i64 (E2)) rfl (by kernel_rfl) (by kernel_rfl) (by kernel_rfl) (fun _ _ _ h => h) (Or.inl ⟨by kernel_rfl, ?_⟩) hHeld ?_
      · intro w' hSw; go_simp
      try simp only [Act.put, List.setIfInBounds_toArray, List.set_cons_zero, List.set_cons_succ, List.getElem_toArray, List.getElem_cons_succ, List.getElem_cons_zero]
      refine wpAnyH_take (i := 28) (v := .bool false) rfl (by kernel_rfl) (by kernel_rfl) (by kernel_rfl) (fun _ _ _ h => h) (Or.inl ⟨by kernel_rfl, ?_⟩) hHeld ?_
      · intro w' hSw; go_simp
      try simp only [Act.put, List.setIfInBounds_toArray, List.set_cons_zero, List.set_cons_succ, List.getElem_toArray, List.getElem_cons_succ, List.getElem_cons_zero]
      refine wpAnyH_take (i := 29) (v := .bool false) rfl (by kernel_rfl) (by kernel_rfl) (by kernel_rfl) (fun _ _ _ h => h) (Or.inl ⟨by kernel_rfl, ?_⟩) hHeld ?_
      · intro w' hSw; go_simp
      try simp only [Act.put, List.setIfInBounds_toArray, List.set_cons_zero, List.set_cons_succ, List.getElem_toArray, List.getElem_cons_succ, List.getElem_cons_zero]
      refine wpAnyH_take (i := 30) (v := .bool false) rfl (by kernel_rfl) (by kernel_rfl) (by kernel_rfl) (fun _ _ _ h => h) (Or.inl ⟨by kernel_rfl, ?_⟩) hHeld ?_
      · intro w' hSw; go_simp
      try simp only [Act.put, List.setIfInBounds_toArray, List.set_cons_zero, List.set_cons_succ, List.getElem_toArray, List.getElem_cons_succ, List.getElem_cons_zero]
      refine wpAnyH_done (by kernel_rfl) ?_ _
      clear hHeld
      go_wp2
      exact ⟨⟨i + 1, by omega, by go_num, D, fun _ => ⟨g1, rfl, I1, l1⟩, fun _ => ⟨g2, rfl, I2, l2⟩⟩, by simp [intOf]; omega⟩
end Go.Proofs.Ytloailicdoknbaa
