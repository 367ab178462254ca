/-
  Descents by the specification: walked.
-/
import Derived.Test.YtloailicdoknbaaD15d
import Derived.Test.YtloailicdoknbaaD15b
namespace Go.Proofs.Ytloailicdoknbaa
open Go.RowKit

theorem sw_none (n : Nat) (f : Nat → Int) : ∀ i, sw n f none i = none
  | 0 => rfl
  | i + 1 => by rw [sw, sw_none n f i]; rfl
theorem sw_stays {n : Nat} {f : Nat → Int} {s : DSt} {j : Nat} (h : sw n f s j = none) : ∀ i, sw n f s (j + i) = none
  | 0 => h
  | i + 1 => by rw [← Nat.add_assoc, sw, sw_stays h i]; rfl
theorem rn_stays {n : Nat} {f : Nat → Int} {inp : Nat} {s : DSt} {k : Nat} (h : rn n f inp s k = none) : ∀ i, rn n f inp s (k + i) = none
  | 0 => h
  | i + 1 => by rw [← Nat.add_assoc, rn, rn_stays h i, sw_none]
/-- A fault on the way: nothing is told. -/
theorem rn_fault {n : Nat} {f : Nat → Int} {inp : Nat} {s : DSt} {k i r : Nat} (h : sw n f (rn n f inp s k) (i + 1) = none) (hi : i < inp) (hk : k < r) : rn n f inp s r = none := by
  have h1 := sw_stays h (inp - (i + 1))
  rw [show i + 1 + (inp - (i + 1)) = inp by omega] at h1
  have h2 : rn n f inp s (k + 1) = none := h1
  have h3 := rn_stays h2 (r - (k + 1))
  rwa [show k + 1 + (r - (k + 1)) = r by omega] at h3
theorem recs_kept {w w' : World} {K g n b : Nat} {f : Nat → Int} (h : Recs K w g n f) (hk : Kept b w w') (hne : g ≠ b) : Recs K w' g n f := ⟨Nat.lt_of_lt_of_le h.1 hk.size, fun i hi => (hk.cell hne h.1).trans (h.2 i hi)⟩
set_option maxRecDepth 100000 in
set_option maxHeartbeats 12800000 in
theorem specDescent_any {w : World} {g n cap b c inp : Nat} {f x : Nat → Int} {r : Int} (h : Recs 3 w g n f) (hx : Ints w b 0 inp x) (hb : b < w.heap.size) (hn : n ≤ 1048576) (hi : inp ≤ 1048576) {m : Nat} {F : Nat → Int} (hA : Hid (Ans n inp f x r m F)) :
    Calls Try.prog 23 #[.slice (some ⟨g, 0, none⟩) n cap, .slice (some ⟨b, 0, none⟩) inp c, .int .i64 r] w (AnP w m F) := by
  have hbs : ∀ w, (Instr.buildSlice 23 0 #[]).run Try.prog w = .ok (.slice (some ⟨w.heap.size, 0, none⟩) 0 0) (w.alloc (.cells #[] 2)) := fun _ => by kernel_rfl
  have hi' : (inp : Int) ≤ 1048576 := by omega
  have hn' : (n : Int) ≤ 1048576 := by omega
  have NO : ¬ DcOk n inp f x r → m = 0 := fun no => by
    rcases hA.out with ⟨k, -⟩ | ⟨-, k⟩
    · exact absurd k no
    · exact k
  by_cases ok : TpOk n (inp : Int) f
  case neg =>
    obtain rfl := NO (fun k => ok k.1.1)
    have T := specTapeOk_any (cap := cap) (inp : Int) h hn false (show (false = true ↔ _) from ⟨fun h => by simp at h, fun h => absurd h ok⟩)
    clear NO ok
    go_enter Try.func23, Try.ntmps23
    go_wp2_with fail
    refine T.mono ?_
    rintro e w2 ⟨rfl, bb⟩
    obtain ⟨W1, hW1, -, b1, -⟩ := boxed w2 2 #[]
    have HR : Hid (Arr W1 w.heap.size W1.heap.size (.slice (some ⟨w2.heap.size, 0, none⟩) 0 0) 0 F) := arr_none hW1 bb
    go_wp2
    go_ret
    exact ⟨_, rfl, HR.out, bb.trans (b1.mono bb.size)⟩
  have T := specTapeOk_any (cap := cap) (inp : Int) h hn true (show (true = true ↔ _) from ⟨fun _ => ok, fun _ => rfl⟩)
  by_cases h0 : n = 0
  · obtain rfl := NO (fun k => by have := k.1.2; omega)
    subst h0
    clear NO ok
    go_enter Try.func23, Try.ntmps23
    go_wp2_with fail
    refine T.mono ?_
    rintro e w2 ⟨rfl, bb⟩
    obtain ⟨W1, hW1, -, b1, -⟩ := boxed w2 2 #[]
    have HR : Hid (Arr W1 w.heap.size W1.heap.size (.slice (some ⟨w2.heap.size, 0, none⟩) 0 0) 0 F) := arr_none hW1 bb
    go_wp2
    go_ret
    exact ⟨_, rfl, HR.out, bb.trans (b1.mono bb.size)⟩
  have hn9 : (n : Int) ≠ 0 := by omega
  have h0' : ((n : Int) == 0) = false := by simpa using hn9
  have IR := fun w => in_any r 0 20 w
  by_cases hr : 0 ≤ r ∧ r ≤ 20
  case neg =>
    obtain rfl := NO (fun k => hr k.2.2)
    rw [decide_eq_false hr] at IR
    clear NO ok hr
    go_enter Try.func23, Try.ntmps23
    go_wp2_with fail
    refine T.mono ?_
    rintro e w2 ⟨rfl, bb⟩
    go_wp2_with fail
    refine (IR _).mono ?_
    rintro e w3 ⟨rfl, rfl⟩
    obtain ⟨W1, hW1, -, b1, -⟩ := boxed w2 2 #[]
    have HR : Hid (Arr W1 w.heap.size W1.heap.size (.slice (some ⟨w2.heap.size, 0, none⟩) 0 0) 0 F) := arr_none hW1 bb
    go_wp2
    go_ret
    exact ⟨_, rfl, HR.out, bb.trans (b1.mono bb.size)⟩
  rw [decide_eq_true hr] at IR
  have HO : Hid (TpN n inp f) := ⟨ok, by omega⟩
  have hi20 := ok.2.1.2
  have hi2 : (inp : Int) ≤ 20 := by omega
  clear ok
  obtain ⟨rr, rfl⟩ : ∃ rr : Nat, r = (rr : Int) := ⟨r.toNat, by omega⟩
  obtain ⟨i0, hi0, hz0, hz1, hz2⟩ := info_parts infoI
  go_enter Try.func23, Try.ntmps23
  go_wp2_with fail
  refine T.mono ?_
  rintro e w2 ⟨rfl, bb⟩
  go_wp2_with fail
  refine (IR _).mono ?_
  rintro e w3 ⟨rfl, rfl⟩
  have x2 := hx.below hb bb
  have h2 := h.below bb
  have hb2 : b < w2.heap.size := Nat.lt_of_lt_of_le hb bb.size
  clear T IR
  go_wp2
  go_loopw [7] (fun u wr => ∃ k : Nat, k ≤ inp ∧ u = .int .i64 (k : Int) ∧ w2 = wr ∧ ∀ i, i < k → r100' (x i)) (fun u _ => inp - (intOf u).toNat)
  case atStart => exact ⟨0, Nat.zero_le _, rfl, rfl, fun i hi => by omega⟩
  case round =>
    obtain ⟨k, hk, rfl, rfl, hall⟩ := hrel
    have HA : Hid (∀ i, i < k → r100' (x i)) := hall
    clear hall
    by_cases hki : k < inp
    · have hki' : (k : Int) < (inp : Int) := by omega
      have c0 := cellAt x2 hki
      have W := fun w => in_any (x k) (-100) 100 w
      by_cases h1 : r100' (x k)
      · rw [show decide (-100 ≤ x k ∧ x k ≤ 100) = true from decide_eq_true h1] at W
        have H1 : Hid (r100' (x k)) := h1
        clear h1
        go_wp2_with (go_at_call 44; refine (W _).mono ?_; rintro e w3 ⟨rfl, rfl⟩)
        refine ⟨⟨k + 1, by omega, by go_num, by trivial, fun i hi => ?_⟩, by simp [intOf]; omega⟩
        by_cases e : i = k
        · subst e; exact H1.out
        · exact HA.out i (by omega)
      · rw [show decide (-100 ≤ x k ∧ x k ≤ 100) = false from decide_eq_false h1] at W
        obtain rfl := NO (fun q => h1 (q.2.1 k hki))
        clear h1
        go_wp2_with fail
        refine (W _).mono ?_
        rintro e w3 ⟨rfl, rfl⟩
        obtain ⟨W1, hW1, -, b1, -⟩ := boxed w2 2 #[]
        have HR : Hid (Arr W1 w.heap.size W1.heap.size (.slice (some ⟨w2.heap.size, 0, none⟩) 0 0) 0 F) := arr_none hW1 bb
        go_wp2
        go_ret
        exact ⟨_, rfl, HR.out, bb.trans (b1.mono bb.size)⟩
    · have hki' : ¬ (k : Int) < (inp : Int) := by omega
      obtain rfl : k = inp := by omega
      have HDC : Hid (DcOk n k f x (rr : Int)) := ⟨HO.out, HA.out, by omega, by omega⟩
      clear NO
      obtain ⟨W1, hW1, a1, b1, -⟩ := boxed w2 2 #[]
      have x3 := x2.below hb2 b1
      have h3 := h2.below b1
      have o0 : W1.ownsRow w2.heap.size 2 1 (.slice (some ⟨w2.heap.size, 0, none⟩) 0 0) 0 [] := ⟨rfl, .inr ⟨w2.heap.size, 0, #[], rfl, Nat.le_refl _, a1, Nat.le_refl _, Nat.zero_le _, rfl, rfl⟩⟩
      have hk2 : w2.heap.size ≤ W1.heap.size := b1.size
      have HS : Hid (w2.heap.size ≤ W1.heap.size) := hk2
      clear a1 x2
      go_wp2_with (at_builtin; refine wpList_append_own _ rfl _ _ _ rfl w2.heap.size 2 i0 _ 1 8 Try.underlying23 hi0 hz0 hz1 hz2 rfl (by omega) (.slice (some ⟨w2.heap.size, 0, none⟩) 0 0) 0 [] rfl o0 ⟨b, 0, none⟩ k c (iCells x k) rfl (by rw [iCells_len]; omega) (ints_news x3) (iCells_one x k) (by unfold maxLen; omega) (by omega) HS.out ?_; intro v2 w5 hown2 hgrow2 hne2)
      simp only [Nat.zero_add, List.nil_append] at hown2
      obtain ⟨gb, cb, rfl, hg', hc', M5⟩ := made_of hown2 (fun h => ne_nil _ _ _ (hne2.1 h).1)
      have B5 : Below w2.heap.size w2 w5 := b1.grown hgrow2 HS.out (fun k hk => by cases hk; exact Nat.le_refl _)
      have h5 : Recs 3 w5 g n f := belowRecs h2 B5 h2.1
      have hgg : g ≠ gb := by have := h2.1; omega
      have B6 := bb.trans (B5.mono bb.size)
      have hgw : w.heap.size ≤ gb := Nat.le_trans bb.size hg'
      clear hown2 hgrow2 hne2 o0 x3 h3 b1 hk2 HS h2 B5 hW1
      obtain ⟨T, hT⟩ : ∃ T, okB n f x = T := ⟨_, rfl⟩
      have D := specWhole_any (cap := cap) (c := cb) h5 (made_ints M5) M5.lt HO.out T (show (T = true ↔ _) from by rw [← hT]; exact okB_iff n f x)
      refine D.mono ?_
      rintro e w6 ⟨rfl, bb6⟩
      have M6 := made_below M5 bb6
      have h6 := h5.below bb6
      have B7 := B6.trans (bb6.mono B6.size)
      clear D M5 h5 B6 bb6
      cases T
      · have st : st0 n f x = none := by unfold st0; rw [hT]; rfl
        obtain rfl : m = 0 := by
          rcases hA.out with ⟨-, h1, d', e2⟩ | ⟨-, h1⟩
          · rw [st, show rn n f k none (rr : Int).toNat = none from by have := rn_stays (n := n) (f := f) (inp := k) (s := none) (k := 0) rfl (rr : Int).toNat; rwa [Nat.zero_add] at this] at e2
            cases e2
          · exact h1
        clear st hT
        simp only [Bool.false_eq_true, if_false]
        obtain ⟨W1, hW1, -, b1, -⟩ := boxed w6 2 #[]
        have HR : Hid (Arr W1 w.heap.size W1.heap.size (.slice (some ⟨w6.heap.size, 0, none⟩) 0 0) 0 F) := arr_none hW1 B7
        go_wp2
        go_ret
        exact ⟨_, rfl, HR.out, B7.trans (b1.mono B7.size)⟩
      have HST : Hid (st0 n f x = some (x, wv f x (n - 1))) := by show st0 n f x = _; unfold st0; rw [hT]; rfl
      simp only [if_true]
      obtain ⟨d0, hd0⟩ : ∃ d, wv f x (n - 1) = d := ⟨_, rfl⟩
      have HST2 : Hid (st0 n f x = some (x, d0)) := by show _ = _; rw [HST.out, hd0]
      rw [hd0]
      clear hT hd0 HST
      go_wp2
      go_loopw [9, 11] (fun t u wr => ∃ (q : Nat) (y : Nat → Int) (d : Int), q ≤ rr ∧ u = .int .i64 (q : Int) ∧ t = .int .i64 d ∧ rn n f k (st0 n f x) q = some (y, d) ∧ (∀ i, i < k → r100' (y i)) ∧ Made wr gb cb k y ∧ Recs 3 wr g n f ∧ Below w.heap.size w wr) (fun _ u _ => rr - (intOf u).toNat)
      case atStart => exact ⟨0, x, d0, Nat.zero_le _, rfl, rfl, HST2.out, HA.out, M6, h6, B7⟩
      case round =>
        clear M6 h6 B7
        obtain ⟨q, y, d, hq, rfl, rfl, hrn, hy, M6, h6, B7⟩ := hrel
        have HRN : Hid (rn n f k (st0 n f x) q = some (y, d)) := hrn
        have HY : Hid (∀ i, i < k → r100' (y i)) := hy
        clear hrn hy
        by_cases hqr : q < rr
        · have hqr' : (q : Int) < (rr : Int) := by omega
          go_wp2
          go_loopw [9, 12] (fun t u wr => ∃ (i : Nat) (y : Nat → Int) (d : Int), i ≤ k ∧ u = .int .i64 (i : Int) ∧ t = .int .i64 d ∧ sw n f (rn n f k (st0 n f x) q) i = some (y, d) ∧ (∀ i, i < k → r100' (y i)) ∧ Made wr gb cb k y ∧ Recs 3 wr g n f ∧ Below w.heap.size w wr) (fun _ u _ => k - (intOf u).toNat)
          case atStart => exact ⟨0, y, d, Nat.zero_le _, rfl, rfl, HRN.out, HY.out, M6, h6, B7⟩
          case round =>
            clear M6 h6 B7 HRN HY
            obtain ⟨i, y, d, hii, rfl, rfl, hsw, hy, M6, h6, B7⟩ := hrel
            have HSW : Hid (sw n f (rn n f k (st0 n f x) q) i = some (y, d)) := hsw
            have HY : Hid (∀ i, i < k → r100' (y i)) := hy
            clear hsw hy
            by_cases hik : i < k
            · have hik' : (i : Int) < (k : Int) := by omega
              obtain ⟨k0, -⟩ := made_cell M6 hik
              obtain ⟨H, hH⟩ : ∃ H, y i = H := ⟨_, rfl⟩
              have HH : Hid (y i = H) := hH
              have hHb : -100 ≤ H ∧ H ≤ 100 := by have := HY.out i hik; rw [hH] at this; exact this
              rw [hH] at k0
              clear hH
              go_wp2
              clear k0
              go_loopw [9, 14, 15] (fun s t u wr => ∃ (j : Nat) (best dep : Int), j ≤ 2 ∧ s = .int .i64 dep ∧ t = .int .i64 best ∧ u = .int .i64 (2 * (j : Int) - 1) ∧ rsl n f y i d j = some (best, dep) ∧ (∃ z, Made wr gb cb k (upd y i z)) ∧ Recs 3 wr g n f ∧ Below w.heap.size w wr) (fun _ _ u _ => 4 - (intOf u).toNat)
              case atStart => exact ⟨0, H, d, by omega, rfl, rfl, rfl, by rw [rsl, HH.out], ⟨y i, by rw [upd_self]; exact M6⟩, h6, B7⟩
              case round =>
                clear M6 h6 B7
                obtain ⟨j, best, dep, hj, rfl, rfl, rfl, hrs, ⟨y0, M6⟩, h6, B7⟩ := hrel
                have HR : Hid (rsl n f y i d j = some (best, dep)) := hrs
                clear hrs
                rcases (by omega : j = 0 ∨ j = 1 ∨ j = 2) with rfl | rfl | rfl
                · have HC : Hid (rsl n f y i d 1 = stp n f y i (H + -1) (some (best, dep))) := by
                    show stp n f y i (cand y i 0) (rsl n f y i d 0) = _
                    rw [HR.out]
                    unfold cand
                    rw [if_pos rfl, HH.out]
                    rfl
                  have W := fun w => in_any (H + -1) (-100) 100 w
                  by_cases h1 : -100 ≤ (H + -1) ∧ (H + -1) ≤ 100
                  case neg =>
                    have HF : Hid (rsl n f y i d 1 = some (best, dep)) := by
                      show _ = _
                      rw [HC.out]
                      exact if_neg h1
                    rw [decide_eq_false h1] at W
                    clear h1 HC
                    go_wp2_with (go_at_call 44; refine (W _).mono ?_; rintro e w3 ⟨rfl, rfl⟩)
                    exact ⟨⟨1, best, dep, by omega, rfl, rfl, rfl, HF.out, ⟨y0, M6⟩, h6, B7⟩, by simp [intOf]⟩
                  rw [decide_eq_true h1] at W
                  obtain ⟨k0, k1⟩ := made_cell M6 hik
                  obtain ⟨W2, hW2⟩ : ∃ W2, wr.setCell ⟨gb, i, none⟩ (.int .i64 (H + -1)) = W2 := ⟨_, rfl⟩
                  have M2 : Made W2 gb cb k (upd y i (H + -1)) := by rw [← hW2, ← upd_upd y i y0 (H + -1)]; exact made_upd M6 i (H + -1) hc'
                  have K2 : Kept gb wr W2 := by rw [← hW2]; exact (Kept.refl _ _).set _
                  have h7 := recs_kept h6 K2 hgg
                  have B8 := B7.trans (K2.below hgw B7.size)
                  clear M6 h6 B7 K2
                  obtain ⟨T, hT⟩ : ∃ T, okB n f (upd y i (H + -1)) = T := ⟨_, rfl⟩
                  have hT' : Hid (T = true ↔ wOk n f (upd y i (H + -1))) := by
                    show _ ↔ _
                    rw [← hT]
                    exact okB_iff n f (upd y i (H + -1))
                  have D := specWhole_any (cap := cap) (c := cb) h7 (made_ints M2) M2.lt HO.out T hT'
                  obtain ⟨L, hL⟩ : ∃ L, wv f (upd y i (H + -1)) (n - 1) = L := ⟨_, rfl⟩
                  rw [hL] at D
                  have HC2 : Hid (rsl n f y i d 1 = if T then (if L < dep then some (H + -1, L) else some (best, dep)) else none) := by
                    show _ = _
                    rw [HC.out, ← hT, ← hL]
                    exact if_pos h1
                  clear HC hT hL h1 hT'
                  cases T
                  · have HF : Hid (rsl n f y i d 1 = none) := HC2.out
                    have HN : sw n f (rn n f k (st0 n f x) q) (i + 1) = none := by
                      show one1 n f i (sw n f (rn n f k (st0 n f x) q) i) = none
                      rw [HSW.out]
                      exact one_fail (by show stp n f y i (cand y i 1) (rsl n f y i d 1) = none; rw [HF.out]; rfl)
                    obtain rfl : m = 0 := by
                      rcases hA.out with ⟨-, -, d', e2⟩ | ⟨-, h1⟩
                      · rw [Int.toNat_natCast, rn_fault HN hik hqr] at e2
                        cases e2
                      · exact h1
                    simp only [Bool.false_eq_true, if_false] at D
                    clear HC2 HN HF
                    go_wp2_with (first | (go_at_call 44; refine (W _).mono ?_; rintro e w3 ⟨rfl, rfl⟩) | (go_at_call 45; refine D.mono ?_; rintro e w8 ⟨rfl, bb8⟩; have B9 := B8.trans (bb8.mono B8.size); obtain ⟨W9, hW9, -, b9, -⟩ := boxed w8 2 #[]; have HR9 : Hid (Arr W9 w.heap.size W9.heap.size (.slice (some ⟨w8.heap.size, 0, none⟩) 0 0) 0 F) := arr_none hW9 B9))
                    go_ret
                    exact ⟨_, rfl, HR9.out, B9.trans (b9.mono B9.size)⟩
                  · simp only [if_true] at D
                    by_cases hl : L < dep
                    · have HF : Hid (rsl n f y i d 1 = some (H + -1, L)) := by
                        show _ = _
                        rw [HC2.out, if_pos rfl, if_pos hl]
                      clear HC2
                      go_wp2_with (first | (go_at_call 44; refine (W _).mono ?_; rintro e w3 ⟨rfl, rfl⟩) | (go_at_call 45; refine D.mono ?_; rintro e w8 ⟨rfl, bb8⟩))
                      exact ⟨⟨1, _, L, by omega, rfl, rfl, rfl, HF.out, ⟨_, made_below M2 bb8⟩, h7.below bb8, B8.trans (bb8.mono B8.size)⟩, by simp [intOf]⟩
                    · have HF : Hid (rsl n f y i d 1 = some (best, dep)) := by
                        show _ = _
                        rw [HC2.out, if_pos rfl, if_neg hl]
                      clear HC2
                      go_wp2_with (first | (go_at_call 44; refine (W _).mono ?_; rintro e w3 ⟨rfl, rfl⟩) | (go_at_call 45; refine D.mono ?_; rintro e w8 ⟨rfl, bb8⟩))
                      exact ⟨⟨1, best, dep, by omega, rfl, rfl, rfl, HF.out, ⟨_, made_below M2 bb8⟩, h7.below bb8, B8.trans (bb8.mono B8.size)⟩, by simp [intOf]⟩
                · have HC : Hid (rsl n f y i d 2 = stp n f y i (H + 1) (some (best, dep))) := by
                    show stp n f y i (cand y i 1) (rsl n f y i d 1) = _
                    rw [HR.out]
                    unfold cand
                    rw [if_neg (by omega), HH.out]
                  have W := fun w => in_any (H + 1) (-100) 100 w
                  by_cases h1 : -100 ≤ (H + 1) ∧ (H + 1) ≤ 100
                  case neg =>
                    have HF : Hid (rsl n f y i d 2 = some (best, dep)) := by
                      show _ = _
                      rw [HC.out]
                      exact if_neg h1
                    rw [decide_eq_false h1] at W
                    clear h1 HC
                    go_wp2_with (go_at_call 44; refine (W _).mono ?_; rintro e w3 ⟨rfl, rfl⟩)
                    exact ⟨⟨2, best, dep, by omega, rfl, rfl, rfl, HF.out, ⟨y0, M6⟩, h6, B7⟩, by simp [intOf]⟩
                  rw [decide_eq_true h1] at W
                  obtain ⟨k0, k1⟩ := made_cell M6 hik
                  obtain ⟨W2, hW2⟩ : ∃ W2, wr.setCell ⟨gb, i, none⟩ (.int .i64 (H + 1)) = W2 := ⟨_, rfl⟩
                  have M2 : Made W2 gb cb k (upd y i (H + 1)) := by rw [← hW2, ← upd_upd y i y0 (H + 1)]; exact made_upd M6 i (H + 1) hc'
                  have K2 : Kept gb wr W2 := by rw [← hW2]; exact (Kept.refl _ _).set _
                  have h7 := recs_kept h6 K2 hgg
                  have B8 := B7.trans (K2.below hgw B7.size)
                  clear M6 h6 B7 K2
                  obtain ⟨T, hT⟩ : ∃ T, okB n f (upd y i (H + 1)) = T := ⟨_, rfl⟩
                  have hT' : Hid (T = true ↔ wOk n f (upd y i (H + 1))) := by
                    show _ ↔ _
                    rw [← hT]
                    exact okB_iff n f (upd y i (H + 1))
                  have D := specWhole_any (cap := cap) (c := cb) h7 (made_ints M2) M2.lt HO.out T hT'
                  obtain ⟨L, hL⟩ : ∃ L, wv f (upd y i (H + 1)) (n - 1) = L := ⟨_, rfl⟩
                  rw [hL] at D
                  have HC2 : Hid (rsl n f y i d 2 = if T then (if L < dep then some (H + 1, L) else some (best, dep)) else none) := by
                    show _ = _
                    rw [HC.out, ← hT, ← hL]
                    exact if_pos h1
                  clear HC hT hL h1 hT'
                  cases T
                  · have HF : Hid (rsl n f y i d 2 = none) := HC2.out
                    have HN : sw n f (rn n f k (st0 n f x) q) (i + 1) = none := by
                      show one1 n f i (sw n f (rn n f k (st0 n f x) q) i) = none
                      rw [HSW.out]
                      exact one_fail HF.out
                    obtain rfl : m = 0 := by
                      rcases hA.out with ⟨-, -, d', e2⟩ | ⟨-, h1⟩
                      · rw [Int.toNat_natCast, rn_fault HN hik hqr] at e2
                        cases e2
                      · exact h1
                    simp only [Bool.false_eq_true, if_false] at D
                    clear HC2 HN HF
                    go_wp2_with (first | (go_at_call 44; refine (W _).mono ?_; rintro e w3 ⟨rfl, rfl⟩) | (go_at_call 45; refine D.mono ?_; rintro e w8 ⟨rfl, bb8⟩; have B9 := B8.trans (bb8.mono B8.size); obtain ⟨W9, hW9, -, b9, -⟩ := boxed w8 2 #[]; have HR9 : Hid (Arr W9 w.heap.size W9.heap.size (.slice (some ⟨w8.heap.size, 0, none⟩) 0 0) 0 F) := arr_none hW9 B9))
                    go_ret
                    exact ⟨_, rfl, HR9.out, B9.trans (b9.mono B9.size)⟩
                  · simp only [if_true] at D
                    by_cases hl : L < dep
                    · have HF : Hid (rsl n f y i d 2 = some (H + 1, L)) := by
                        show _ = _
                        rw [HC2.out, if_pos rfl, if_pos hl]
                      clear HC2
                      go_wp2_with (first | (go_at_call 44; refine (W _).mono ?_; rintro e w3 ⟨rfl, rfl⟩) | (go_at_call 45; refine D.mono ?_; rintro e w8 ⟨rfl, bb8⟩))
                      exact ⟨⟨2, _, L, by omega, rfl, rfl, rfl, HF.out, ⟨_, made_below M2 bb8⟩, h7.below bb8, B8.trans (bb8.mono B8.size)⟩, by simp [intOf]⟩
                    · have HF : Hid (rsl n f y i d 2 = some (best, dep)) := by
                        show _ = _
                        rw [HC2.out, if_pos rfl, if_neg hl]
                      clear HC2
                      go_wp2_with (first | (go_at_call 44; refine (W _).mono ?_; rintro e w3 ⟨rfl, rfl⟩) | (go_at_call 45; refine D.mono ?_; rintro e w8 ⟨rfl, bb8⟩))
                      exact ⟨⟨2, best, dep, by omega, rfl, rfl, rfl, HF.out, ⟨_, made_below M2 bb8⟩, h7.below bb8, B8.trans (bb8.mono B8.size)⟩, by simp [intOf]⟩
                · obtain ⟨k0, k1⟩ := made_cell M6 hik
                  obtain ⟨W2, hW2⟩ : ∃ W2, wr.setCell ⟨gb, i, none⟩ (.int .i64 best) = W2 := ⟨_, rfl⟩
                  have M2 : Made W2 gb cb k (upd y i best) := by rw [← hW2, ← upd_upd y i y0 best]; exact made_upd M6 i best hc'
                  have K2 : Kept gb wr W2 := by rw [← hW2]; exact (Kept.refl _ _).set _
                  have h7 := recs_kept h6 K2 hgg
                  have B8 := B7.trans (K2.below hgw B7.size)
                  have HN : Hid (sw n f (rn n f k (st0 n f x) q) (i + 1) = some (upd y i best, dep)) := by
                    show one1 n f i (sw n f (rn n f k (st0 n f x) q) i) = _
                    rw [HSW.out]
                    exact one_some HR.out
                  have R5 : ∀ j, j < k → r100' (upd y i best j) := fun j hj => by
                    unfold upd
                    split
                    · exact rsl_in (HY.out i hik) 2 best dep HR.out
                    · exact HY.out j hj
                  clear M6 h6 B7 K2
                  go_wp2
                  exact ⟨⟨i + 1, _, _, by omega, by go_num, rfl, HN.out, R5, M2, h7, B8⟩, by simp [intOf]; omega⟩
            · have hik' : ¬ (i : Int) < (k : Int) := by omega
              obtain rfl : i = k := by omega
              go_wp2
              exact ⟨⟨q + 1, y, d, by omega, by go_num, rfl, HSW.out, HY.out, M6, h6, B7⟩, by simp [intOf]; omega⟩
        · have hqr' : ¬ (q : Int) < (rr : Int) := by omega
          obtain rfl : q = rr := by omega
          have HR : Hid (m = k ∧ F = y) := by
            rcases hA.out with ⟨-, h1, d', e2⟩ | ⟨h1, -⟩
            · rw [Int.toNat_natCast, HRN.out] at e2
              simp only [Option.some.injEq, Prod.mk.injEq] at e2
              exact ⟨h1, e2.1.symm⟩
            · have := h1 HDC.out
              rw [Int.toNat_natCast, HRN.out] at this
              cases this
          go_wp2
          go_ret
          obtain ⟨rfl, rfl⟩ := HR.out
          exact ⟨_, rfl, .inr ⟨gb, cb, rfl, hgw, M6.lt, hc', M6⟩, B7⟩
end Go.Proofs.Ytloailicdoknbaa
