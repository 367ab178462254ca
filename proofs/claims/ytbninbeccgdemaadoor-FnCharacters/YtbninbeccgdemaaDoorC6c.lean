/-
  Characters: rows are orthogonal, traces are told again: walked.
-/
import Derived.Test.YtbninbeccgdemaaDoorC6i
import Derived.Test.YtbninbeccgdemaaDoorCc
import Derived.Deep.CutRange
import Derived.StillTailTactics
import Derived.BigRegion
namespace Go.Proofs.YtbninbeccgdemaaDoor
open Go.RowKit

abbrev Kb (V wr : World) : Prop := Below V.heap.size V wr
theorem iCells_one6 (f : Nat → Int) (n : Nat) : ∀ u ∈ iCells f n, u.oneCell' = true := by
  induction n with
  | zero => intro u hu; cases hu
  | succ n ih =>
    intro u hu
    unfold iCells at hu
    rcases List.mem_append.1 hu with h | h
    · exact ih u h
    · simp at h; subst h; rfl
theorem ints_news6 {w : World} {b o n : Nat} {f : Nat → Int} (h : Ints w b o n f) : ∀ j u, (iCells f n)[j]? = some u → w.cell? ((⟨b, o, none⟩ : Addr).add j) = some u := by
  intro j u hu
  have hj : j < n := by
    have := (List.getElem?_eq_some_iff.1 hu).1
    rwa [iCells_len] at this
  rw [iCells_at f hj] at hu
  have hc := h j hj
  rw [hu] at hc
  by_cases e : j = 0
  · subst e; simpa [Addr.add] using hc
  · simpa [Addr.add, e] using hc
set_option maxRecDepth 100000 in
theorem ints6_any {w : World} {b o c n : Nat} {f : Nat → Int} (h : Ints w b o n f) (hb : b < w.heap.size) (hn : n ≤ 1048576) :
    Calls Tryd.prog 9 #[.slice (some ⟨b, o, none⟩) n c] w fun e w' => ∃ v, e = .returned v ∧ Arr w' w.heap.size w'.heap.size v n f ∧ Below w.heap.size w w' := by
  have hbs : ∀ w, (Instr.buildSlice 24 0 #[]).run Tryd.prog w = .ok (.slice (some ⟨w.heap.size, 0, none⟩) 0 0) (w.alloc (.cells #[] 2)) := fun _ => by kernel_rfl
  have hm1 : Ints (w.alloc (.cells #[] 2)) b o n f := fun i hi => ((below_alloc w (.cells #[] 2)).cell (p := ⟨b, o + i, none⟩) hb).trans (h i hi)
  have o0 : (w.alloc (.cells #[] 2)).ownsRow w.heap.size 2 1 (.slice (some ⟨w.heap.size, 0, none⟩) 0 0) 0 [] :=
    ⟨rfl, .inr ⟨w.heap.size, 0, #[], rfl, Nat.le_refl _, heap_alloc_new _ _, Nat.le_refl _, Nat.zero_le _, rfl, rfl⟩⟩
  obtain ⟨i0, hi0, hz0, hz1, hz2⟩ := info_parts info8
  have hn' : (n : Int) ≤ 1048576 := by omega
  clear h hb
  go_enter Tryd.func9, Tryd.ntmps9
  go_wp2_with (at_builtin; refine wpList_append_own _ rfl _ _ _ rfl w.heap.size 2 i0 _ 1 8 Tryd.underlying24 hi0 hz0 hz1 hz2 rfl (by omega) (.slice (some ⟨w.heap.size, 0, none⟩) 0 0) 0 [] rfl o0 ⟨b, o, none⟩ n c (iCells f n) rfl (by rw [iCells_len]; omega) (ints_news6 hm1) (iCells_one6 f n) (by unfold maxLen; omega) (by omega) (by simp) ?_; intro v2 w2 hown2 hgrow2 hne2)
  simp only [Nat.zero_add, List.nil_append] at hown2
  go_ret
  exact ⟨_, rfl, arr_of_row hown2, (below_alloc w (.cells #[] 2)).grown hgrow2 (by simp) (fun k hk => by cases hk; exact Nat.le_refl _)⟩
/-- What both tell of traces reduced, and what follows where it is told. -/
theorem red_full {len : Nat} {f : Nat → Int} (n : Int) (hlen : len ≤ 1048576) (hn64 : -9223372036854775808 ≤ n ∧ n ≤ 9223372036854775807) : ∃ (L : Nat) (F : Nat → Int) (b : Bool), L ≤ 12 ∧
    (∀ (w : World) (a : Option Addr) (c : Nat), Src w a len f → Calls Tryd.prog 7 #[.int .i64 n, .slice a len c] w fun e w' => ∃ v, e = .returned (.tuple #[v, .bool b]) ∧ Arr w' w.heap.size w'.heap.size v L F ∧ Below w.heap.size w w') ∧
    (∀ (w : World) (a : Option Addr) (c : Nat), Src w a len f → Tab w → Calls Tryd.prog 8 #[.int .i64 n, .slice a len c] w fun e w' => ∃ v, e = .returned (.tuple #[v, .bool b]) ∧ Arr w' w.heap.size w'.heap.size v L F ∧ Below w.heap.size w w') ∧
    (b = true → side n ∧ (len : Int) = n ∧ L = len ∧ (∀ k, k < len → -12000 ≤ F k ∧ F k ≤ 12000) ∧ (∀ i, i < len → -1000 ≤ f i ∧ f i ≤ 1000) ∧ ∀ j c, j < len → c < 4 → ux n F j c len = if c = 0 then f j else 0) := by
  by_cases h : trOk n len f
  · have hl12 : len ≤ 12 := by have := h.2.1; have := (side_by h.1).1; omega
    by_cases hf : ∀ k, k < len → rOk n f len k
    · refine ⟨len, rd n f len, true, hl12, fun w a c S => (specRed_yes n S h).mono ?_, fun w a c S t => (implRed_yes n S h t).mono ?_, fun _ => ⟨h.1, h.2.1, rfl, fun k hk => ?_, h.2.2, fun j c hj hc => ?_⟩⟩
      · rintro e w' ⟨v, b, e1, (⟨rfl, -, hA⟩ | ⟨-, h2, -⟩), bb⟩
        · exact ⟨v, e1, hA, bb⟩
        · exact absurd hf h2
      · rintro e w' ⟨v, b, e1, (⟨rfl, -, hA⟩ | ⟨-, h2, -⟩), bb⟩
        · exact ⟨v, e1, hA, bb⟩
        · exact absurd hf h2
      · have h1 := rs_num (n := n) (f := f) (j := len) (k := k) (i := 0) hl12 (by omega) h.2.2
        obtain ⟨-, -, -, h2, h3⟩ := hf k hk
        have h4 := (side_by h.1).1
        unfold rd
        have h5 : 0 ≤ rs n f len k 0 / n := Int.ediv_nonneg h2 (by omega)
        have h6 : rs n f len k 0 / n ≤ rs n f len k 0 := Int.ediv_le_self _ h2
        omega
      · refine inv_all h.2.1 h.1 (fun k hk => ?_) (fun k hk => ?_) hj hc
        · obtain ⟨-, -, -, h2, h3⟩ := hf k hk
          unfold rd
          exact (Int.mul_ediv_cancel' (Int.dvd_of_emod_eq_zero h3)).symm
        · obtain ⟨h1, h2, h3, -⟩ := hf k hk
          exact ⟨h1, h2, h3⟩
    · refine ⟨0, fun _ => 0, false, by omega, fun w a c S => (specRed_yes n S h).mono ?_, fun w a c S t => (implRed_yes n S h t).mono ?_, fun h => absurd h (by decide)⟩
      all_goals
        rintro e w' ⟨v, b, e1, (⟨-, h2, -⟩ | ⟨rfl, -, hA⟩), bb⟩
        · exact absurd h2 hf
        · exact ⟨v, e1, hA, bb⟩
  · exact ⟨0, fun _ => 0, false, by omega, fun w a c S => specRed_no n S hlen h, fun w a c S _ => implRed_no n hn64 S hlen h, fun h => absurd h (by decide)⟩
/-- What both tell of characters. -/
theorem char_full (n : Int) (hn64 : -9223372036854775808 ≤ n ∧ n ≤ 9223372036854775807) : ∃ M : Nat, M ≤ 12 ∧ (0 < M → side n ∧ (M : Int) = n) ∧ (side n → (M : Int) = n) ∧
    (∀ w : World, Calls Tryd.prog 11 #[.int .i64 n] w fun e w' => ∃ v, e = .returned v ∧ Grid w' w.heap.size w'.heap.size v M (cf n) ∧ Below w.heap.size w w') ∧
    (∀ w : World, Tab w → Calls Tryd.prog 10 #[.int .i64 n] w fun e w' => ∃ v, e = .returned v ∧ Grid w' w.heap.size w'.heap.size v M (cf n) ∧ Below w.heap.size w w') := by
  by_cases h : side n
  · have q0 := (side_by h).1
    exact ⟨n.toNat, by omega, fun _ => ⟨h, by omega⟩, fun _ => by omega, fun w => specChar_yes n n.toNat (by omega) h, fun w t => implChar_yes n n.toNat (by omega) h t⟩
  · exact ⟨0, by omega, fun h => absurd h (by omega), fun h' => absurd h' h, fun w => specChar_no n h, fun w _ => implChar_no n hn64 h⟩
/-- A product in its box. -/
def CutP (wr : World) (c0 c1 c2 c3 : Int) (s14 s15 : Value) (wc : World) : Prop := ∃ q, s14 = .pointer (some ⟨q, 0, none⟩) ∧ s15 = .bool true ∧ wr.heap.size ≤ q ∧ At 33 wc q #[.int .i64 c0, .int .i64 c1, .int .i64 c2, .int .i64 c3] ∧ Below wr.heap.size wr wc
theorem grid_row {w : World} {lo hi go M cg : Nat} {F : Nat → Nat → Int} (h : Grid w lo hi (.slice (some ⟨go, 0, none⟩) M cg) M F) {i : Nat} (hi : i < M) : ∃ gi ci, (∀ wq, Kb w wq → wq.cell? ⟨go, i, none⟩ = some (.slice (some ⟨gi, 0, none⟩) M ci)) ∧ ∀ j, j < M → ∀ wq, Kb w wq → wq.cell? ⟨gi, j * 4, none⟩ = some (.int .i64 (F i (j * 4))) ∧ wq.cell? ⟨gi, j * 4 + 1, none⟩ = some (.int .i64 (F i (j * 4 + 1))) ∧ wq.cell? ⟨gi, j * 4 + 2, none⟩ = some (.int .i64 (F i (j * 4 + 2))) ∧ wq.cell? ⟨gi, j * 4 + 3, none⟩ = some (.int .i64 (F i (j * 4 + 3))) := by
  obtain ⟨go', c, G, C, cur, e, -, A, q, p, -⟩ := h
  cases e
  exact ⟨G i, C i, fun wq hq => (A.below hq).cell i (q i hi), fun j hj wq hq => (((p i hi).2.2.2.2.part).below hq).open j hj⟩
theorem cf_pow (n : Int) (i j : Nat) : cf n i (j * 4) = rp (cp n i j * 4) ∧ cf n i (j * 4 + 1) = rp (cp n i j * 4 + 1) ∧ cf n i (j * 4 + 2) = rp (cp n i j * 4 + 2) ∧ cf n i (j * 4 + 3) = rp (cp n i j * 4 + 3) := cf_4 n i j
theorem sum_small {a b c d x y z u : Int} (h : ∀ v ∈ [a, b, c, d], -1000 ≤ v ∧ v ≤ 1000) (h' : ∀ v ∈ [x, y, z, u], -1000 ≤ v ∧ v ≤ 1000) : sumT a b c d x y z u = .tuple #[cV (a + x) (b + y) (c + z) (d + u), .bool true] := by
  have w : ∀ {a b c d : Int}, (∀ v ∈ [a, b, c, d], -1000 ≤ v ∧ v ≤ 1000) → ∀ v ∈ [a, b, c, d], -1000000 ≤ v ∧ v ≤ 1000000 := fun h v hv => by have := h v hv; omega
  unfold sumT
  rw [cOk_small (w h), cOk_small (w h')]
  simp only [Bool.and_self, if_true]
  refine told_small (fun v hv => ?_)
  have ha := h a (by simp)
  have hb := h b (by simp)
  have hc := h c (by simp)
  have hd := h d (by simp)
  have hx := h' x (by simp)
  have hy := h' y (by simp)
  have hz := h' z (by simp)
  have hu := h' u (by simp)
  simp only [List.mem_cons, List.not_mem_nil, or_false] at hv
  rcases hv with rfl | rfl | rfl | rfl <;> omega
set_option maxRecDepth 100000 in
set_option maxHeartbeats 6400000 in
theorem char_walk {w : World} {a : Option Addr} {len cap : Nat} (hr : Row w w.heap.size a len) (ht : Tab w) :
    Calls Tryd.prog 3 #[.slice a len cap] w fun e w' => e = .returned (.bool true) ∧ Below w.heap.size w w' := by
  go_enter Tryd.func3, Tryd.ntmps3
  go_wp2_with fail
  refine (big_any a len cap w hr.1).mono ?_
  rintro e w' ⟨rfl, rfl⟩
  by_cases hb : 1048576 < len
  · simp only [decide_eq_true hb]
    go_wp2
    go_ret
    exact ⟨rfl, Below.refl _ _⟩
  simp only [decide_eq_false hb]
  go_wp2_with fail
  refine (drawRed_any hr).mono ?_
  rintro e w1 ⟨n, g, N, rfl, hn, hN, hN1, L, B⟩
  obtain ⟨f, hs⟩ := L.src
  obtain ⟨hgi, hgl⟩ : Ints w1 g 0 N f ∧ g < w1.heap.size := by
    rcases hs with h0 | ⟨b, o, e, hl, hi⟩
    · omega
    · cases e; exact ⟨hi, hl⟩
  have HT1 : Hid (Tab w1) := ht.below B
  obtain ⟨Lm, F, b, hL12, SP, IM, HB⟩ := red_full (len := N) (f := f) n (by omega) ⟨by omega, by omega⟩
  obtain ⟨M, hM12, HM1, HM2, SC, IC⟩ := char_full n ⟨by omega, by omega⟩
  have HS : Hid (Src w1 (some ⟨g, 0, none⟩) N f) := hs
  have HGI : Hid (Ints w1 g 0 N f) := hgi
  have HBB : Hid (Below w.heap.size w w1) := B
  have HX1 := hid6 HM1
  have HX2 := hid6 HM2
  have HX3 := hid6 HB
  clear hr ht hb L hs hgi B HM1 HM2 HB
  go_wp2_with fail
  refine (SP _ _ _ HS.out).mono ?_
  rintro e w2 ⟨v0, rfl, A0, b2⟩
  have z2 := b2.size
  have B2 : Hid (Below w1.heap.size w1 w2) := b2
  obtain ⟨a0, c0, rfl, -⟩ := A0.src
  clear A0 b2 SP
  go_wp2_with fail
  refine (ints6_any (fun i hi => (B2.out.cell (p := ⟨g, 0 + i, none⟩) hgl).trans (HGI.out i hi)) (by omega) (by omega)).mono ?_
  rintro e w3 ⟨v3, rfl, A3, b3⟩
  have B3 : Hid (Below w1.heap.size w1 w3) := B2.out.trans (b3.mono z2)
  obtain ⟨a3, c3, rfl, s3⟩ := A3.src
  have HS3 := hid6 s3
  clear A3 b3 B2 z2 s3 HGI
  go_wp2_with fail
  refine (IM _ _ _ HS3.out (HT1.out.below B3.out)).mono ?_
  rintro e w4 ⟨v1, rfl, A1, b4⟩
  have B4 : Hid (Below w1.heap.size w1 w4) := B3.out.trans (b4.mono B3.out.size)
  obtain ⟨a1, c1, rfl, s1⟩ := A1.src
  have HS1 := hid6 s1
  clear A1 b4 B3 HS3 s1 IM
  go_wp2_with fail
  refine (IC _ (HT1.out.below B4.out)).mono ?_
  rintro e w5 ⟨v2, rfl, G5, b5⟩
  have B5 : Hid (Below w1.heap.size w1 w5) := B4.out.trans (b5.mono B4.out.size)
  have HS5 : Hid (Src w5 a1 Lm F) := HS1.out.below b5
  obtain ⟨ag, cg, rfl⟩ := G5.shape
  obtain ⟨go, rfl⟩ : ∃ go, ag = some ⟨go, 0, none⟩ := by
    obtain ⟨go, c, G, C, cur, e, -⟩ := G5
    cases e
    exact ⟨go, rfl⟩
  have HG5 := hid6 G5
  clear b5 B4 HS1 G5
  have hbb : (b != b) = false := by simp
  go_wp2_with fail
  refine (SC _).mono ?_
  rintro e w6 ⟨v3, rfl, G6, b6⟩
  have B6 : Hid (Below w.heap.size w w6) := HBB.out.trans ((B5.out.trans (b6.mono B5.out.size)).mono HBB.out.size)
  have HS6 : Hid (Src w6 a1 Lm F) := HS5.out.below b6
  have HG6 : Hid (Grid w6 w4.heap.size w5.heap.size (.slice (some ⟨go, 0, none⟩) M cg) M (cf n)) := HG5.out.below b6
  have HT6 : Hid (Tab w6) := (HT1.out.below B5.out).below b6
  have HF6 : Hid (Src w6 (some ⟨g, 0, none⟩) N f) := (HS.out.below B5.out).below b6
  obtain ⟨aq, cq, rfl⟩ := G6.shape
  clear b6 B5 HS5 G6 HG5 HT1 HS HBB SC
  clear hgl hn
  have hMi : (M : Int) ≤ 12 := by omega
  go_wp2
  go_loopw [10] (fun s wr => ∃ i : Nat, i ≤ M ∧ s = .int .i64 (i : Int) ∧ Hid (Below w6.heap.size w6 wr)) (fun s _ => M - (intOf s).toNat)
  case atStart => exact ⟨0, Nat.zero_le _, rfl, Below.refl _ _⟩
  case round =>
    obtain ⟨i, hi, rfl, BI⟩ := hrel
    by_cases hli : i < M
    · have hli' : (i : Int) < (M : Int) := by omega
      go_wp2
      go_loopw [11] (fun s wr => ∃ k : Nat, k ≤ M ∧ s = .int .i64 (k : Int) ∧ Hid (Below w6.heap.size w6 wr)) (fun s _ => M - (intOf s).toNat)
      case atStart => exact ⟨0, Nat.zero_le _, rfl, BI⟩
      case round =>
        clear BI
        obtain ⟨k, hk, rfl, BK⟩ := hrel
        by_cases hlk : k < M
        · have hlk' : (k : Int) < (M : Int) := by omega
          obtain ⟨V, hV, b0, bb, -⟩ := boxed wr 33 #[.int .i64 0, .int .i64 0, .int .i64 0, .int .i64 0]
          obtain ⟨q, hq⟩ : ∃ q, wr.heap.size = q := ⟨_, rfl⟩
          have HQ : Hid (w6.heap.size ≤ q) := hq ▸ BK.out.size
          rw [hq] at b0
          have BV : Hid (Below w6.heap.size w6 ((((V.setCell ⟨q, 0, none⟩ (.int .i64 0)).setCell ⟨q, 1, none⟩ (.int .i64 0)).setCell ⟨q, 2, none⟩ (.int .i64 0)).setCell ⟨q, 3, none⟩ (.int .i64 0))) := below_put4 (BK.out.trans (bb.mono BK.out.size)) HQ.out _ _ _ _
          have B0 : Hid (At 33 ((((V.setCell ⟨q, 0, none⟩ (.int .i64 0)).setCell ⟨q, 1, none⟩ (.int .i64 0)).setCell ⟨q, 2, none⟩ (.int .i64 0)).setCell ⟨q, 3, none⟩ (.int .i64 0)) q #[.int .i64 (sx n i k 0 0), .int .i64 (sx n i k 1 0), .int .i64 (sx n i k 2 0), .int .i64 (sx n i k 3 0)]) := put4_at b0 _ _ _ _
          obtain ⟨t0, t1, t2, t3, f0, f1, f2, f3⟩ := b0.open4
          obtain ⟨gi, ci, hri, hrij⟩ := grid_row HG6.out hli
          obtain ⟨gk, ck, hrk, hrkj⟩ := grid_row HG6.out hlk
          have HRI := hid6 hri
          have HRIJ := hid6 hrij
          have HRK := hid6 hrk
          have HRKJ := hid6 hrkj
          clear b0 bb BK hri hrij hrk hrkj
          go_wp2
          clear hV hq t0 t1 t2 t3 f0 f1 f2 f3
          go_loopw [13] (fun s wr => ∃ j : Nat, j ≤ M ∧ s = .int .i64 (j : Int) ∧ Hid (Below w6.heap.size w6 wr) ∧ Hid (At 33 wr q #[.int .i64 (sx n i k 0 j), .int .i64 (sx n i k 1 j), .int .i64 (sx n i k 2 j), .int .i64 (sx n i k 3 j)])) (fun s _ => M - (intOf s).toNat)
          case atStart => exact ⟨0, Nat.zero_le _, rfl, BV, B0⟩
          case round =>
            clear BV B0
            obtain ⟨j, hj, rfl, BJ, BS⟩ := hrel
            have hcell := HRI.out _ BJ.out
            by_cases hlj : j < M
            · have hlj' : (j : Int) < (M : Int) := by omega
              obtain ⟨p0, p1, p2, p3⟩ := cf_pow n i j
              obtain ⟨r0, r1, r2, r3⟩ := cf_pow n k j
              have HIJ : Hid (∀ wq', Kb wr wq' → wq'.cell? ⟨gi, j * 4, none⟩ = some (.int .i64 (rp (cp n i j * 4))) ∧ wq'.cell? ⟨gi, j * 4 + 1, none⟩ = some (.int .i64 (rp (cp n i j * 4 + 1))) ∧ wq'.cell? ⟨gi, j * 4 + 2, none⟩ = some (.int .i64 (rp (cp n i j * 4 + 2))) ∧ wq'.cell? ⟨gi, j * 4 + 3, none⟩ = some (.int .i64 (rp (cp n i j * 4 + 3)))) := fun wq' h => by
                have := HRIJ.out j hlj wq' (BJ.out.trans (Below.mono h BJ.out.size))
                rwa [p0, p1, p2, p3] at this
              have HKJ : Hid (∀ wq', Kb wr wq' → wq'.cell? ⟨gk, j * 4, none⟩ = some (.int .i64 (rp (cp n k j * 4))) ∧ wq'.cell? ⟨gk, j * 4 + 1, none⟩ = some (.int .i64 (rp (cp n k j * 4 + 1))) ∧ wq'.cell? ⟨gk, j * 4 + 2, none⟩ = some (.int .i64 (rp (cp n k j * 4 + 2))) ∧ wq'.cell? ⟨gk, j * 4 + 3, none⟩ = some (.int .i64 (rp (cp n k j * 4 + 3)))) := fun wq' h => by
                have := HRKJ.out j hlj wq' (BJ.out.trans (Below.mono h BJ.out.size))
                rwa [r0, r1, r2, r3] at this
              have HI : Hid (∀ wq', Kb wr wq' → wq'.cell? ⟨go, i, none⟩ = some (.slice (some ⟨gi, 0, none⟩) M ci)) := fun wq' h => HRI.out _ (BJ.out.trans (Below.mono h BJ.out.size))
              have HK : Hid (∀ wq', Kb wr wq' → wq'.cell? ⟨go, k, none⟩ = some (.slice (some ⟨gk, 0, none⟩) M ck)) := fun wq' h => HRK.out _ (BJ.out.trans (Below.mono h BJ.out.size))
              have HTk : Hid (∀ wq', Kb wr wq' → Tab wq') := fun wq' h => HT6.out.below (BJ.out.trans (Below.mono h BJ.out.size))
              have CJ : Hid (∀ w, Tab w → Calls Tryd.prog 13 #[rV (cp n k j)] w fun e w' => e = .returned (rV (cjx (cp n k j))) ∧ Below w.heap.size w w') := fun w t => by
                have h := implConj_any (rp (cp n k j * 4)) (rp (cp n k j * 4 + 1)) (rp (cp n k j * 4 + 2)) (rp (cp n k j * 4 + 3)) w t
                rwa [conj_pow (cp_lt n k j)] at h
              have ML : Hid (∀ w, Tab w → Calls Tryd.prog 12 #[rV (cp n i j), rV (cjx (cp n k j))] w fun e w' => e = .returned (.tuple #[rV (ex n i k j), .bool true]) ∧ Below w.heap.size w w') := fun w t => by
                have h := implMul_any (rp (cp n i j * 4)) (rp (cp n i j * 4 + 1)) (rp (cp n i j * 4 + 2)) (rp (cp n i j * 4 + 3)) (rp (cjx (cp n k j) * 4)) (rp (cjx (cp n k j) * 4 + 1)) (rp (cjx (cp n k j) * 4 + 2)) (rp (cjx (cp n k j) * 4 + 3)) w t
                rwa [mul_pow (cp_lt n i j) (by unfold cjx; omega)] at h
              have hex : ∀ c, -1 ≤ rp (ex n i k j * 4 + c) ∧ rp (ex n i k j * 4 + c) ≤ 1 := fun c => rp_one _
              have hx0 := hex 0
              have hx1 := hex 1
              have hx2 := hex 2
              have hx3 := hex 3
              rw [Nat.add_zero] at hx0
              have n0 := sx_num n i k 0 j
              have n1 := sx_num n i k 1 j
              have n2 := sx_num n i k 2 j
              have n3 := sx_num n i k 3 j
              have HS0 : Hid (sx n i k 0 (j + 1) = sx n i k 0 j + rp (ex n i k j * 4)) := rfl
              have HS1 : Hid (sx n i k 1 (j + 1) = sx n i k 1 j + rp (ex n i k j * 4 + 1)) := rfl
              have HS2 : Hid (sx n i k 2 (j + 1) = sx n i k 2 j + rp (ex n i k j * 4 + 2)) := rfl
              have HS3 : Hid (sx n i k 3 (j + 1) = sx n i k 3 j + rp (ex n i k j * 4 + 3)) := rfl
              clear hex p0 p1 p2 p3 r0 r1 r2 r3
              unfold rV at CJ ML
              generalize rp (cp n i j * 4) = x0 at HIJ ML
              generalize rp (cp n i j * 4 + 1) = x1 at HIJ ML
              generalize rp (cp n i j * 4 + 2) = x2 at HIJ ML
              generalize rp (cp n i j * 4 + 3) = x3 at HIJ ML
              generalize rp (cp n k j * 4) = y0 at HKJ CJ
              generalize rp (cp n k j * 4 + 1) = y1 at HKJ CJ
              generalize rp (cp n k j * 4 + 2) = y2 at HKJ CJ
              generalize rp (cp n k j * 4 + 3) = y3 at HKJ CJ
              generalize rp (cjx (cp n k j) * 4) = c0 at CJ ML
              generalize rp (cjx (cp n k j) * 4 + 1) = c1 at CJ ML
              generalize rp (cjx (cp n k j) * 4 + 2) = c2 at CJ ML
              generalize rp (cjx (cp n k j) * 4 + 3) = c3 at CJ ML
              generalize rp (ex n i k j * 4) = e0 at ML HS0 hx0
              generalize rp (ex n i k j * 4 + 1) = e1 at ML HS1 hx1
              generalize rp (ex n i k j * 4 + 2) = e2 at ML HS2 hx2
              generalize rp (ex n i k j * 4 + 3) = e3 at ML HS3 hx3
              generalize sx n i k 0 j = s0 at BS HS0 n0
              generalize sx n i k 1 j = s1 at BS HS1 n1
              generalize sx n i k 2 j = s2 at BS HS2 n2
              generalize sx n i k 3 j = s3 at BS HS3 n3
              go_wp2_with fail
              go_cut [14, 15] from 81 to 100 (fun s14 s15 wc => CutP wr e0 e1 e2 e3 s14 s15 wc)
              case first =>
                obtain ⟨u0, hu0, bb⟩ : ∃ uu, wr.drew = uu ∧ Below wr.heap.size wr uu := ⟨_, rfl, (Below.refl _ _).drew⟩
                have bk0 : Kb wr u0 := bb
                clear bb
                refine wp_region_held_drew (S := Kb u0) (by kernel_rfl) (by rw [hu0]; exact Below.refl _ _) (fun hHeld => ?_)
                rw [hu0] at hHeld ⊢
                clear hu0
                have bu : Kb u0 u0 := Below.refl _ _
                change wpAnyH _ _ _ _ _ 22 #[false, false, false, false, false, false, false, false, false, false, false, false, false, false, false, false, false, false, false, false, false, false] _ _
                refine wpAnyH_take (i := 0) (v := .slice ((some ⟨go, 0, none⟩)) M cg) rfl (by kernel_rfl) (by kernel_rfl) (by kernel_rfl) (fun _ _ _ h => h) (Or.inl ⟨by kernel_rfl, ?_⟩) hHeld ?_
                · intro w' hSw; go_simp
                try simp only [Act.put, List.setIfInBounds_toArray, List.set_cons_zero, List.set_cons_succ, List.getElem_toArray, List.getElem_cons_zero]
                refine wpAnyH_take (i := 1) (v := .int .i64 ((i : Int))) rfl (by kernel_rfl) (by kernel_rfl) (by kernel_rfl) (fun _ _ _ h => h) (Or.inl ⟨by kernel_rfl, ?_⟩) hHeld ?_
                · intro w' hSw; go_simp
                try simp only [Act.put, List.setIfInBounds_toArray, List.set_cons_zero, List.set_cons_succ, List.getElem_toArray, List.getElem_cons_succ, List.getElem_cons_zero]
                refine wpAnyH_take (i := 2) (v := .pointer (some ⟨go, i, none⟩)) rfl (by kernel_rfl) (by kernel_rfl) (by kernel_rfl) (fun _ _ _ h => h) (Or.inl ⟨by kernel_rfl, ?_⟩) hHeld ?_
                · intro w' hSw; go_simp
                try simp only [Act.put, List.setIfInBounds_toArray, List.set_cons_zero, List.set_cons_succ, List.getElem_toArray, List.getElem_cons_succ, List.getElem_cons_zero]
                refine wpAnyH_take (i := 3) (v := .slice (some ⟨gi, 0, none⟩) M ci) rfl (by kernel_rfl) (by kernel_rfl) (by kernel_rfl) (fun _ _ _ h => h) (Or.inl ⟨by kernel_rfl, ?_⟩) hHeld ?_
                · intro w' hSw; have z0 := HI.out _ (bk0.trans (Below.mono hSw bk0.size)); go_simp
                try simp only [Act.put, List.setIfInBounds_toArray, List.set_cons_zero, List.set_cons_succ, List.getElem_toArray, List.getElem_cons_succ, List.getElem_cons_zero]
                refine wpAnyH_take (i := 4) (v := .int .i64 ((j : Int))) rfl (by kernel_rfl) (by kernel_rfl) (by kernel_rfl) (fun _ _ _ h => h) (Or.inl ⟨by kernel_rfl, ?_⟩) hHeld ?_
                · intro w' hSw; go_simp
                try simp only [Act.put, List.setIfInBounds_toArray, List.set_cons_zero, List.set_cons_succ, List.getElem_toArray, List.getElem_cons_succ, List.getElem_cons_zero]
                refine wpAnyH_take (i := 5) (v := .pointer (some ⟨gi, j * 4, none⟩)) rfl (by kernel_rfl) (by kernel_rfl) (by kernel_rfl) (fun _ _ _ h => h) (Or.inl ⟨by kernel_rfl, ?_⟩) hHeld ?_
                · intro w' hSw; go_simp
                try simp only [Act.put, List.setIfInBounds_toArray, List.set_cons_zero, List.set_cons_succ, List.getElem_toArray, List.getElem_cons_succ, List.getElem_cons_zero]
                refine wpAnyH_take (i := 6) (v := .agg #[.int .i64 x0, .int .i64 x1, .int .i64 x2, .int .i64 x3]) rfl (by kernel_rfl) (by kernel_rfl) (by kernel_rfl) (fun _ _ _ h => h) (Or.inl ⟨by kernel_rfl, ?_⟩) hHeld ?_
                · intro w' hSw; obtain ⟨z0, z1, z2, z3⟩ := HIJ.out _ (bk0.trans (Below.mono hSw bk0.size)); go_simp
                try simp only [Act.put, List.setIfInBounds_toArray, List.set_cons_zero, List.set_cons_succ, List.getElem_toArray, List.getElem_cons_succ, List.getElem_cons_zero]
                refine wpAnyH_take (i := 7) (v := .slice ((some ⟨go, 0, none⟩)) M cg) rfl (by kernel_rfl) (by kernel_rfl) (by kernel_rfl) (fun _ _ _ h => h) (Or.inl ⟨by kernel_rfl, ?_⟩) hHeld ?_
                · intro w' hSw; go_simp
                try simp only [Act.put, List.setIfInBounds_toArray, List.set_cons_zero, List.set_cons_succ, List.getElem_toArray, List.getElem_cons_succ, List.getElem_cons_zero]
                refine wpAnyH_take (i := 8) (v := .int .i64 ((k : Int))) rfl (by kernel_rfl) (by kernel_rfl) (by kernel_rfl) (fun _ _ _ h => h) (Or.inl ⟨by kernel_rfl, ?_⟩) hHeld ?_
                · intro w' hSw; go_simp
                try simp only [Act.put, List.setIfInBounds_toArray, List.set_cons_zero, List.set_cons_succ, List.getElem_toArray, List.getElem_cons_succ, List.getElem_cons_zero]
                refine wpAnyH_take (i := 9) (v := .pointer (some ⟨go, k, none⟩)) rfl (by kernel_rfl) (by kernel_rfl) (by kernel_rfl) (fun _ _ _ h => h) (Or.inl ⟨by kernel_rfl, ?_⟩) hHeld ?_
                · intro w' hSw; go_simp
                try simp only [Act.put, List.setIfInBounds_toArray, List.set_cons_zero, List.set_cons_succ, List.getElem_toArray, List.getElem_cons_succ, List.getElem_cons_zero]
                refine wpAnyH_take (i := 10) (v := .slice (some ⟨gk, 0, none⟩) M ck) rfl (by kernel_rfl) (by kernel_rfl) (by kernel_rfl) (fun _ _ _ h => h) (Or.inl ⟨by kernel_rfl, ?_⟩) hHeld ?_
                · intro w' hSw; have z0 := HK.out _ (bk0.trans (Below.mono hSw bk0.size)); go_simp
                try simp only [Act.put, List.setIfInBounds_toArray, List.set_cons_zero, List.set_cons_succ, List.getElem_toArray, List.getElem_cons_succ, List.getElem_cons_zero]
                refine wpAnyH_take (i := 11) (v := .int .i64 ((j : Int))) rfl (by kernel_rfl) (by kernel_rfl) (by kernel_rfl) (fun _ _ _ h => h) (Or.inl ⟨by kernel_rfl, ?_⟩) hHeld ?_
                · intro w' hSw; go_simp
                try simp only [Act.put, List.setIfInBounds_toArray, List.set_cons_zero, List.set_cons_succ, List.getElem_toArray, List.getElem_cons_succ, List.getElem_cons_zero]
                refine wpAnyH_take (i := 12) (v := .pointer (some ⟨gk, j * 4, none⟩)) rfl (by kernel_rfl) (by kernel_rfl) (by kernel_rfl) (fun _ _ _ h => h) (Or.inl ⟨by kernel_rfl, ?_⟩) hHeld ?_
                · intro w' hSw; go_simp
                try simp only [Act.put, List.setIfInBounds_toArray, List.set_cons_zero, List.set_cons_succ, List.getElem_toArray, List.getElem_cons_succ, List.getElem_cons_zero]
                refine wpAnyH_take (i := 13) (v := .agg #[.int .i64 y0, .int .i64 y1, .int .i64 y2, .int .i64 y3]) rfl (by kernel_rfl) (by kernel_rfl) (by kernel_rfl) (fun _ _ _ h => h) (Or.inl ⟨by kernel_rfl, ?_⟩) hHeld ?_
                · intro w' hSw; obtain ⟨z0, z1, z2, z3⟩ := HKJ.out _ (bk0.trans (Below.mono hSw bk0.size)); go_simp
                try simp only [Act.put, List.setIfInBounds_toArray, List.set_cons_zero, List.set_cons_succ, List.getElem_toArray, List.getElem_cons_succ, List.getElem_cons_zero]
                refine wpAnyH_ready (rs := [14, 19]) (by kernel_rfl) (by simp) ?_
                refine AllReadyH.cons rfl (fun KK hK' => ?_) (AllReadyH.cons rfl (fun KK hK' => ?_) AllReadyH.nil)
                · go_simp
                  refine (CJ.out _ (HTk.out _ (bk0.trans (Below.mono bu bk0.size)))).mono ?_
                  rintro e u1 ⟨rfl, bb⟩
                  replace bu : Kb u0 u1 := bu.trans (bb.mono bu.size)
                  clear bb
                  try go_wp2_with fail
                  clear hHeld
                  refine hK'.out _ _ (bu) (fun hHeld => ?_)
                  clear hK' KK
                  try simp only [List.setIfInBounds_toArray, List.set_cons_zero, List.set_cons_succ]
                  refine wpAnyH_ready (rs := [15, 19]) (by kernel_rfl) (by simp) ?_
                  refine AllReadyH.cons rfl (fun KK hK' => ?_) (AllReadyH.cons rfl (fun KK hK' => ?_) AllReadyH.nil)
                  · go_simp
                    refine (ML.out _ (HTk.out _ (bk0.trans (Below.mono bu bk0.size)))).mono ?_
                    rintro e u2 ⟨rfl, bb⟩
                    replace bu : Kb u0 u2 := bu.trans (bb.mono bu.size)
                    clear bb
                    try go_wp2_with fail
                    clear hHeld
                    refine hK'.out _ _ (bu) (fun hHeld => ?_)
                    clear hK' KK
                    try simp only [List.setIfInBounds_toArray, List.set_cons_zero, List.set_cons_succ]
                    refine wpAnyH_take (i := 16) (v := .tuple #[.agg #[.int .i64 e0, .int .i64 e1, .int .i64 e2, .int .i64 e3], .bool true]) rfl (by kernel_rfl) (by kernel_rfl) (by kernel_rfl) (fun _ _ _ h => h) (Or.inl ⟨by kernel_rfl, ?_⟩) hHeld ?_
                    · intro w' hSw; go_simp
                    try simp only [Act.put, List.setIfInBounds_toArray, List.set_cons_zero, List.set_cons_succ, List.getElem_toArray, List.getElem_cons_succ, List.getElem_cons_zero]
                    refine wpAnyH_take (i := 17) (v := .agg #[.int .i64 e0, .int .i64 e1, .int .i64 e2, .int .i64 e3]) rfl (by kernel_rfl) (by kernel_rfl) (by kernel_rfl) (fun _ _ _ h => h) (Or.inl ⟨by kernel_rfl, ?_⟩) hHeld ?_
                    · intro w' hSw; go_simp
                    try simp only [Act.put, List.setIfInBounds_toArray, List.set_cons_zero, List.set_cons_succ, List.getElem_toArray, List.getElem_cons_succ, List.getElem_cons_zero]
                    refine wpAnyH_take (i := 18) (v := .bool true) rfl (by kernel_rfl) (by kernel_rfl) (by kernel_rfl) (fun _ _ _ h => h) (Or.inl ⟨by kernel_rfl, ?_⟩) hHeld ?_
                    · intro w' hSw; go_simp
                    try simp only [Act.put, List.setIfInBounds_toArray, List.set_cons_zero, List.set_cons_succ, List.getElem_toArray, List.getElem_cons_succ, List.getElem_cons_zero]
                    refine wpAnyH_ready (rs := [19]) (by kernel_rfl) (by simp) ?_
                    refine AllReadyH.cons rfl (fun KK hK' => ?_) AllReadyH.nil
                    go_simp
                    obtain ⟨u3, h6, G6, bb, -⟩ := boxed u2 33 #[.int .i64 0, .int .i64 0, .int .i64 0, .int .i64 0]
                    rw [h6]
                    clear h6
                    obtain ⟨g6, hg6⟩ : ∃ q, u2.heap.size = q := ⟨_, rfl⟩
                    rw [hg6] at G6 ⊢
                    have hgu : u0.heap.size ≤ g6 := by have := bu.size; omega
                    clear hg6
                    replace bu : Kb u0 u3 := bu.trans (bb.mono bu.size)
                    clear bb
                    clear hHeld
                    refine hK'.out _ _ (bu) (fun hHeld => ?_)
                    clear hK' KK
                    try simp only [List.setIfInBounds_toArray, List.set_cons_zero, List.set_cons_succ]
                    refine wpAnyH_ready (rs := [20]) (by kernel_rfl) (by simp) ?_
                    refine AllReadyH.cons rfl (fun KK hK' => ?_) AllReadyH.nil
                    obtain ⟨s0, s1, s2, s3, f0, f1, f2, f3⟩ := G6.open4
                    go_simp
                    have G7 := put4_at G6 (.int .i64 e0) (.int .i64 e1) (.int .i64 e2) (.int .i64 e3)
                    replace bu : Kb u0 ((((u3.setCell ⟨g6, 0, none⟩ (.int .i64 e0)).setCell ⟨g6, 1, none⟩ (.int .i64 e1)).setCell ⟨g6, 2, none⟩ (.int .i64 e2)).setCell ⟨g6, 3, none⟩ (.int .i64 e3)) := (((bu.setCell hgu _).setCell hgu _).setCell hgu _).setCell hgu _
                    obtain ⟨u4, hv⟩ : ∃ V, (((u3.setCell ⟨g6, 0, none⟩ (.int .i64 e0)).setCell ⟨g6, 1, none⟩ (.int .i64 e1)).setCell ⟨g6, 2, none⟩ (.int .i64 e2)).setCell ⟨g6, 3, none⟩ (.int .i64 e3) = V := ⟨_, rfl⟩
                    rw [hv] at G7 bu ⊢
                    clear hv G6 s0 s1 s2 s3 f0 f1 f2 f3
                    clear hHeld
                    refine hK'.out _ _ (bu) (fun hHeld => ?_)
                    clear hK' KK
                    try simp only [List.setIfInBounds_toArray, List.set_cons_zero, List.set_cons_succ]
                    refine wpAnyH_take (i := 21) (v := .bool true) rfl (by kernel_rfl) (by kernel_rfl) (by kernel_rfl) (fun _ _ _ h => h) (Or.inl ⟨by kernel_rfl, ?_⟩) hHeld ?_
                    · intro w' hSw; go_simp
                    try simp only [Act.put, List.setIfInBounds_toArray, List.set_cons_zero, List.set_cons_succ, List.getElem_toArray, List.getElem_cons_succ, List.getElem_cons_zero]
                    refine wpAnyH_done (by kernel_rfl) ?_ _
                    clear hHeld
                    have bz := bk0.trans (Below.mono bu bk0.size)
                    have hg7 : wr.heap.size ≤ g6 := by have := bk0.size; omega
                    go_wp2_with fail
                    go_meet
                    case rel => exact ⟨g6, rfl, rfl, hg7, G7, bz⟩
                  · go_simp
                    obtain ⟨u2, h6, G6, bb, -⟩ := boxed u1 33 #[.int .i64 0, .int .i64 0, .int .i64 0, .int .i64 0]
                    rw [h6]
                    clear h6
                    obtain ⟨g6, hg6⟩ : ∃ q, u1.heap.size = q := ⟨_, rfl⟩
                    rw [hg6] at G6 ⊢
                    have hgu : u0.heap.size ≤ g6 := by have := bu.size; omega
                    clear hg6
                    replace bu : Kb u0 u2 := bu.trans (bb.mono bu.size)
                    clear bb
                    clear hHeld
                    refine hK'.out _ _ (bu) (fun hHeld => ?_)
                    clear hK' KK
                    try simp only [List.setIfInBounds_toArray, List.set_cons_zero, List.set_cons_succ]
                    refine wpAnyH_ready (rs := [15]) (by kernel_rfl) (by simp) ?_
                    refine AllReadyH.cons rfl (fun KK hK' => ?_) AllReadyH.nil
                    go_simp
                    refine (ML.out _ (HTk.out _ (bk0.trans (Below.mono bu bk0.size)))).mono ?_
                    rintro e u3 ⟨rfl, bb⟩
                    replace G6 := G6.below bb
                    replace bu : Kb u0 u3 := bu.trans (bb.mono bu.size)
                    clear bb
                    try go_wp2_with fail
                    clear hHeld
                    refine hK'.out _ _ (bu) (fun hHeld => ?_)
                    clear hK' KK
                    try simp only [List.setIfInBounds_toArray, List.set_cons_zero, List.set_cons_succ]
                    refine wpAnyH_take (i := 16) (v := .tuple #[.agg #[.int .i64 e0, .int .i64 e1, .int .i64 e2, .int .i64 e3], .bool true]) rfl (by kernel_rfl) (by kernel_rfl) (by kernel_rfl) (fun _ _ _ h => h) (Or.inl ⟨by kernel_rfl, ?_⟩) hHeld ?_
                    · intro w' hSw; go_simp
                    try simp only [Act.put, List.setIfInBounds_toArray, List.set_cons_zero, List.set_cons_succ, List.getElem_toArray, List.getElem_cons_succ, List.getElem_cons_zero]
                    refine wpAnyH_take (i := 17) (v := .agg #[.int .i64 e0, .int .i64 e1, .int .i64 e2, .int .i64 e3]) rfl (by kernel_rfl) (by kernel_rfl) (by kernel_rfl) (fun _ _ _ h => h) (Or.inl ⟨by kernel_rfl, ?_⟩) hHeld ?_
                    · intro w' hSw; go_simp
                    try simp only [Act.put, List.setIfInBounds_toArray, List.set_cons_zero, List.set_cons_succ, List.getElem_toArray, List.getElem_cons_succ, List.getElem_cons_zero]
                    refine wpAnyH_take (i := 18) (v := .bool true) rfl (by kernel_rfl) (by kernel_rfl) (by kernel_rfl) (fun _ _ _ h => h) (Or.inl ⟨by kernel_rfl, ?_⟩) hHeld ?_
                    · intro w' hSw; go_simp
                    try simp only [Act.put, List.setIfInBounds_toArray, List.set_cons_zero, List.set_cons_succ, List.getElem_toArray, List.getElem_cons_succ, List.getElem_cons_zero]
                    refine wpAnyH_ready (rs := [20]) (by kernel_rfl) (by simp) ?_
                    refine AllReadyH.cons rfl (fun KK hK' => ?_) AllReadyH.nil
                    obtain ⟨s0, s1, s2, s3, f0, f1, f2, f3⟩ := G6.open4
                    go_simp
                    have G7 := put4_at G6 (.int .i64 e0) (.int .i64 e1) (.int .i64 e2) (.int .i64 e3)
                    replace bu : Kb u0 ((((u3.setCell ⟨g6, 0, none⟩ (.int .i64 e0)).setCell ⟨g6, 1, none⟩ (.int .i64 e1)).setCell ⟨g6, 2, none⟩ (.int .i64 e2)).setCell ⟨g6, 3, none⟩ (.int .i64 e3)) := (((bu.setCell hgu _).setCell hgu _).setCell hgu _).setCell hgu _
                    obtain ⟨u4, hv⟩ : ∃ V, (((u3.setCell ⟨g6, 0, none⟩ (.int .i64 e0)).setCell ⟨g6, 1, none⟩ (.int .i64 e1)).setCell ⟨g6, 2, none⟩ (.int .i64 e2)).setCell ⟨g6, 3, none⟩ (.int .i64 e3) = V := ⟨_, rfl⟩
                    rw [hv] at G7 bu ⊢
                    clear hv G6 s0 s1 s2 s3 f0 f1 f2 f3
                    clear hHeld
                    refine hK'.out _ _ (bu) (fun hHeld => ?_)
                    clear hK' KK
                    try simp only [List.setIfInBounds_toArray, List.set_cons_zero, List.set_cons_succ]
                    refine wpAnyH_take (i := 21) (v := .bool true) rfl (by kernel_rfl) (by kernel_rfl) (by kernel_rfl) (fun _ _ _ h => h) (Or.inl ⟨by kernel_rfl, ?_⟩) hHeld ?_
                    · intro w' hSw; go_simp
                    try simp only [Act.put, List.setIfInBounds_toArray, List.set_cons_zero, List.set_cons_succ, List.getElem_toArray, List.getElem_cons_succ, List.getElem_cons_zero]
                    refine wpAnyH_done (by kernel_rfl) ?_ _
                    clear hHeld
                    have bz := bk0.trans (Below.mono bu bk0.size)
                    have hg7 : wr.heap.size ≤ g6 := by have := bk0.size; omega
                    go_wp2_with fail
                    go_meet
                    case rel => exact ⟨g6, rfl, rfl, hg7, G7, bz⟩
                · go_simp
                  obtain ⟨u1, h6, G6, bb, -⟩ := boxed u0 33 #[.int .i64 0, .int .i64 0, .int .i64 0, .int .i64 0]
                  rw [h6]
                  clear h6
                  obtain ⟨g6, hg6⟩ : ∃ q, u0.heap.size = q := ⟨_, rfl⟩
                  rw [hg6] at G6 ⊢
                  have hgu : u0.heap.size ≤ g6 := by have := bu.size; omega
                  clear hg6
                  replace bu : Kb u0 u1 := bu.trans (bb.mono bu.size)
                  clear bb
                  clear hHeld
                  refine hK'.out _ _ (bu) (fun hHeld => ?_)
                  clear hK' KK
                  try simp only [List.setIfInBounds_toArray, List.set_cons_zero, List.set_cons_succ]
                  refine wpAnyH_ready (rs := [14]) (by kernel_rfl) (by simp) ?_
                  refine AllReadyH.cons rfl (fun KK hK' => ?_) AllReadyH.nil
                  go_simp
                  refine (CJ.out _ (HTk.out _ (bk0.trans (Below.mono bu bk0.size)))).mono ?_
                  rintro e u2 ⟨rfl, bb⟩
                  replace G6 := G6.below bb
                  replace bu : Kb u0 u2 := bu.trans (bb.mono bu.size)
                  clear bb
                  try go_wp2_with fail
                  clear hHeld
                  refine hK'.out _ _ (bu) (fun hHeld => ?_)
                  clear hK' KK
                  try simp only [List.setIfInBounds_toArray, List.set_cons_zero, List.set_cons_succ]
                  refine wpAnyH_ready (rs := [15]) (by kernel_rfl) (by simp) ?_
                  refine AllReadyH.cons rfl (fun KK hK' => ?_) AllReadyH.nil
                  go_simp
                  refine (ML.out _ (HTk.out _ (bk0.trans (Below.mono bu bk0.size)))).mono ?_
                  rintro e u3 ⟨rfl, bb⟩
                  replace G6 := G6.below bb
                  replace bu : Kb u0 u3 := bu.trans (bb.mono bu.size)
                  clear bb
                  try go_wp2_with fail
                  clear hHeld
                  refine hK'.out _ _ (bu) (fun hHeld => ?_)
                  clear hK' KK
                  try simp only [List.setIfInBounds_toArray, List.set_cons_zero, List.set_cons_succ]
                  refine wpAnyH_take (i := 16) (v := .tuple #[.agg #[.int .i64 e0, .int .i64 e1, .int .i64 e2, .int .i64 e3], .bool true]) rfl (by kernel_rfl) (by kernel_rfl) (by kernel_rfl) (fun _ _ _ h => h) (Or.inl ⟨by kernel_rfl, ?_⟩) hHeld ?_
                  · intro w' hSw; go_simp
                  try simp only [Act.put, List.setIfInBounds_toArray, List.set_cons_zero, List.set_cons_succ, List.getElem_toArray, List.getElem_cons_succ, List.getElem_cons_zero]
                  refine wpAnyH_take (i := 17) (v := .agg #[.int .i64 e0, .int .i64 e1, .int .i64 e2, .int .i64 e3]) rfl (by kernel_rfl) (by kernel_rfl) (by kernel_rfl) (fun _ _ _ h => h) (Or.inl ⟨by kernel_rfl, ?_⟩) hHeld ?_
                  · intro w' hSw; go_simp
                  try simp only [Act.put, List.setIfInBounds_toArray, List.set_cons_zero, List.set_cons_succ, List.getElem_toArray, List.getElem_cons_succ, List.getElem_cons_zero]
                  refine wpAnyH_take (i := 18) (v := .bool true) rfl (by kernel_rfl) (by kernel_rfl) (by kernel_rfl) (fun _ _ _ h => h) (Or.inl ⟨by kernel_rfl, ?_⟩) hHeld ?_
                  · intro w' hSw; go_simp
                  try simp only [Act.put, List.setIfInBounds_toArray, List.set_cons_zero, List.set_cons_succ, List.getElem_toArray, List.getElem_cons_succ, List.getElem_cons_zero]
                  refine wpAnyH_ready (rs := [20]) (by kernel_rfl) (by simp) ?_
                  refine AllReadyH.cons rfl (fun KK hK' => ?_) AllReadyH.nil
                  obtain ⟨s0, s1, s2, s3, f0, f1, f2, f3⟩ := G6.open4
                  go_simp
                  have G7 := put4_at G6 (.int .i64 e0) (.int .i64 e1) (.int .i64 e2) (.int .i64 e3)
                  replace bu : Kb u0 ((((u3.setCell ⟨g6, 0, none⟩ (.int .i64 e0)).setCell ⟨g6, 1, none⟩ (.int .i64 e1)).setCell ⟨g6, 2, none⟩ (.int .i64 e2)).setCell ⟨g6, 3, none⟩ (.int .i64 e3)) := (((bu.setCell hgu _).setCell hgu _).setCell hgu _).setCell hgu _
                  obtain ⟨u4, hv⟩ : ∃ V, (((u3.setCell ⟨g6, 0, none⟩ (.int .i64 e0)).setCell ⟨g6, 1, none⟩ (.int .i64 e1)).setCell ⟨g6, 2, none⟩ (.int .i64 e2)).setCell ⟨g6, 3, none⟩ (.int .i64 e3) = V := ⟨_, rfl⟩
                  rw [hv] at G7 bu ⊢
                  clear hv G6 s0 s1 s2 s3 f0 f1 f2 f3
                  clear hHeld
                  refine hK'.out _ _ (bu) (fun hHeld => ?_)
                  clear hK' KK
                  try simp only [List.setIfInBounds_toArray, List.set_cons_zero, List.set_cons_succ]
                  refine wpAnyH_take (i := 21) (v := .bool true) rfl (by kernel_rfl) (by kernel_rfl) (by kernel_rfl) (fun _ _ _ h => h) (Or.inl ⟨by kernel_rfl, ?_⟩) hHeld ?_
                  · intro w' hSw; go_simp
                  try simp only [Act.put, List.setIfInBounds_toArray, List.set_cons_zero, List.set_cons_succ, List.getElem_toArray, List.getElem_cons_succ, List.getElem_cons_zero]
                  refine wpAnyH_done (by kernel_rfl) ?_ _
                  clear hHeld
                  have bz := bk0.trans (Below.mono bu bk0.size)
                  have hg7 : wr.heap.size ≤ g6 := by have := bk0.size; omega
                  go_wp2_with fail
                  go_meet
                  case rel => exact ⟨g6, rfl, rfl, hg7, G7, bz⟩
              case rest =>
                obtain ⟨qp, rfl, rfl, hqp, Qp, bp⟩ := hcut
                rename World => wc
                have hqz : q < wr.heap.size := BS.out.lt
                have BS2 := BS.out.below bp
                have BJ2 : Hid (Below w6.heap.size w6 wc) := BJ.out.trans (bp.mono BJ.out.size)
                have hqq : q ≠ qp := by omega
                have AD := implAdd_any s0 s1 s2 s3 e0 e1 e2 e3
                rw [sum_small (fun v hv => by simp only [List.mem_cons, List.not_mem_nil, or_false] at hv; rcases hv with rfl | rfl | rfl | rfl <;> omega) (fun v hv => by simp only [List.mem_cons, List.not_mem_nil, or_false] at hv; rcases hv with rfl | rfl | rfl | rfl <;> omega)] at AD
                obtain ⟨t0, t1, t2, t3, -⟩ := BS2.open4
                obtain ⟨o0, o1, o2, o3, -⟩ := Qp.open4
                clear BS BJ bp hqp HIJ HKJ HI HK HTk CJ ML hcell
                go_wp2_with fail
                refine (AD _).mono ?_
                rintro e w8 ⟨rfl, b8⟩
                have BS3 := BS2.below b8
                have BJ3 : Hid (Below w6.heap.size w6 w8) := BJ2.out.trans (b8.mono BJ2.out.size)
                clear t0 t1 t2 t3 o0 o1 o2 o3 BS2 BJ2 b8 Qp AD
                obtain ⟨t0, t1, t2, t3, f0, f1, f2, f3⟩ := BS3.open4
                have BS4 : Hid (At 33 ((((w8.setCell ⟨q, 0, none⟩ (.int .i64 (s0 + e0))).setCell ⟨q, 1, none⟩ (.int .i64 (s1 + e1))).setCell ⟨q, 2, none⟩ (.int .i64 (s2 + e2))).setCell ⟨q, 3, none⟩ (.int .i64 (s3 + e3))) q #[.int .i64 (sx n i k 0 (j + 1)), .int .i64 (sx n i k 1 (j + 1)), .int .i64 (sx n i k 2 (j + 1)), .int .i64 (sx n i k 3 (j + 1))]) := by
                  rw [HS0.out, HS1.out, HS2.out, HS3.out]
                  exact put4_at BS3 _ _ _ _
                have BJ4 : Hid (Below w6.heap.size w6 ((((w8.setCell ⟨q, 0, none⟩ (.int .i64 (s0 + e0))).setCell ⟨q, 1, none⟩ (.int .i64 (s1 + e1))).setCell ⟨q, 2, none⟩ (.int .i64 (s2 + e2))).setCell ⟨q, 3, none⟩ (.int .i64 (s3 + e3)))) := below_put4 BJ3.out HQ.out _ _ _ _
                clear BS3 BJ3 HS0 HS1 HS2 HS3
                go_wp2
                go_roundw
                case rel => exact ⟨j + 1, by omega, by go_num, BJ4, BS4⟩
                case measure => simp [intOf]; omega
            · have hlj' : ¬ (j : Int) < (M : Int) := by omega
              obtain rfl : j = M := by omega
              obtain ⟨hsd, hMn⟩ := HX1.out (by omega)
              have v0 := sx_all hMn hsd hli hlk (show 0 < 4 by omega)
              have v1 := sx_all hMn hsd hli hlk (show 1 < 4 by omega)
              have v2 := sx_all hMn hsd hli hlk (show 2 < 4 by omega)
              have v3 := sx_all hMn hsd hli hlk (show 3 < 4 by omega)
              rw [if_neg (by omega)] at v1 v2 v3
              by_cases e : i = k
              · subst e
                rw [if_pos ⟨rfl, rfl⟩] at v0
                obtain ⟨t0, t1, t2, t3, -⟩ := BS.out.open4
                rw [v0] at t0
                rw [v1] at t1
                rw [v2] at t2
                rw [v3] at t3
                clear v0 v1 v2 v3 BS hsd hMn
                go_wp2
                exact ⟨⟨i + 1, by omega, by go_num, BJ⟩, by simp [intOf]; omega⟩
              · rw [if_neg (fun h => e h.2)] at v0
                have e' : ((i : Int) == (k : Int)) = false := by simp; omega
                have e2' : ((i : Int) != (k : Int)) = true := by simp; omega
                obtain ⟨t0, t1, t2, t3, -⟩ := BS.out.open4
                rw [v0] at t0
                rw [v1] at t1
                rw [v2] at t2
                rw [v3] at t3
                clear v0 v1 v2 v3 BS hsd hMn
                go_wp2
                exact ⟨⟨k + 1, by omega, by go_num, BJ⟩, by simp [intOf]; omega⟩
        · have hlk' : ¬ (k : Int) < (M : Int) := by omega
          go_wp2
          exact ⟨⟨i + 1, by omega, by go_num, BK⟩, by simp [intOf]; omega⟩
    · have hli' : ¬ (i : Int) < (M : Int) := by omega
      go_wp2
      clear hli hli' hi
      go_loopw [16] (fun s wr => ∃ j : Nat, j ≤ N ∧ s = .int .i64 (j : Int) ∧ Hid (Below w6.heap.size w6 wr)) (fun s _ => N - (intOf s).toNat)
      case atStart => exact ⟨0, Nat.zero_le _, rfl, BI⟩
      case round =>
        clear BI
        obtain ⟨j, hj, rfl, BJ⟩ := hrel
        by_cases hlj : j < N ∧ b = true
        rotate_left
        · have hB : Hid (Below w.heap.size w wr) := B6.out.trans (BJ.out.mono B6.out.size)
          have IC1 := implChar_yes 1 1 rfl (.inl rfl) (HT6.out.below BJ.out)
          clear BJ
          have hcd : ((decide ((j : Int) < (N : Int))) && b) = false := by
            rcases Classical.not_and_iff_not_or_not.1 hlj with h | h
            · simp; omega
            · cases b <;> simp_all
          by_cases hjn : j < N
          · have hjn' : (j : Int) < (N : Int) := by omega
            have hbf : b = false := by cases b <;> simp_all
            subst hbf
            clear hlj hcd
            go_wp2_with fail
            refine IC1.mono ?_
            rintro e w9 ⟨v9, rfl, G9, b9⟩
            obtain ⟨a9, c9, rfl⟩ := G9.shape
            have hB9 : Hid (Below w.heap.size w w9) := hB.out.trans (b9.mono hB.out.size)
            clear G9 b9 hB
            go_wp2
            go_ret
            exact ⟨rfl, hB9.out⟩
          · have hjn' : ¬ (j : Int) < (N : Int) := by omega
            clear hlj hcd
            go_wp2_with fail
            refine IC1.mono ?_
            rintro e w9 ⟨v9, rfl, G9, b9⟩
            obtain ⟨a9, c9, rfl⟩ := G9.shape
            have hB9 : Hid (Below w.heap.size w w9) := hB.out.trans (b9.mono hB.out.size)
            clear G9 b9 hB
            go_wp2
            go_ret
            exact ⟨rfl, hB9.out⟩
        · obtain ⟨hlt, hbt⟩ := hlj
          have hlt' : (j : Int) < (N : Int) := by omega
          subst hbt
          obtain ⟨hsd, hNn, hLN, hFb, hfb, hux⟩ := HX3.out rfl
          have hMn := HX2.out hsd
          obtain rfl : M = N := by omega
          clear hMn
          obtain ⟨bm, om, ha1, hbm, him⟩ : ∃ bm om, a1 = some ⟨bm, om, none⟩ ∧ bm < w6.heap.size ∧ Ints w6 bm om Lm F := by
            rcases HS6.out with h0 | ⟨b', o', e', hl', hi'⟩
            · omega
            · exact ⟨b', o', e', hl', hi'⟩
          subst ha1
          subst hLN
          have HFB := hid6 hFb
          have HFF := hid6 hfb
          have HUX := hid6 hux
          have HIM := hid6 him
          obtain ⟨V, hV, b0, bb, -⟩ := boxed wr 33 #[.int .i64 0, .int .i64 0, .int .i64 0, .int .i64 0]
          obtain ⟨q, hq⟩ : ∃ q, wr.heap.size = q := ⟨_, rfl⟩
          have HQ : Hid (w6.heap.size ≤ q) := hq ▸ BJ.out.size
          rw [hq] at b0
          have BV : Hid (Below w6.heap.size w6 ((((V.setCell ⟨q, 0, none⟩ (.int .i64 0)).setCell ⟨q, 1, none⟩ (.int .i64 0)).setCell ⟨q, 2, none⟩ (.int .i64 0)).setCell ⟨q, 3, none⟩ (.int .i64 0))) := below_put4 (BJ.out.trans (bb.mono BJ.out.size)) HQ.out _ _ _ _
          have B0 : Hid (At 33 ((((V.setCell ⟨q, 0, none⟩ (.int .i64 0)).setCell ⟨q, 1, none⟩ (.int .i64 0)).setCell ⟨q, 2, none⟩ (.int .i64 0)).setCell ⟨q, 3, none⟩ (.int .i64 0)) q #[.int .i64 (ux n F j 0 0), .int .i64 (ux n F j 1 0), .int .i64 (ux n F j 2 0), .int .i64 (ux n F j 3 0)]) := put4_at b0 _ _ _ _
          obtain ⟨t0, t1, t2, t3, f0, f1, f2, f3⟩ := b0.open4
          clear b0 bb BJ hFb hfb hux him hsd hNn hMi
          go_wp2
          clear hV hq t0 t1 t2 t3 f0 f1 f2 f3
          go_loopw [18] (fun s wr => ∃ k : Nat, k ≤ Lm ∧ s = .int .i64 (k : Int) ∧ Hid (Below w6.heap.size w6 wr) ∧ Hid (At 33 wr q #[.int .i64 (ux n F j 0 k), .int .i64 (ux n F j 1 k), .int .i64 (ux n F j 2 k), .int .i64 (ux n F j 3 k)])) (fun s _ => Lm - (intOf s).toNat)
          case atStart => exact ⟨0, Nat.zero_le _, rfl, BV, B0⟩
          case round =>
            clear BV B0
            obtain ⟨k, hk, rfl, BK, BS⟩ := hrel
            by_cases hlk : k < Lm
            · have hlk' : (k : Int) < (Lm : Int) := by omega
              have hmx : Tryd.prog.follows .mixedOrders = true := by kernel_rfl
              go_wp2_with fail
              try simp only [List.append_eq, List.cons_append, List.nil_append]
              refine wp_region_still_tail 65 hmx (by kernel_rfl) ?_
              change wpStill _ _ wr.drew _ _ _
              simp only [List.take_succ_cons, List.take_zero, List.drop_succ_cons, List.drop_zero]
              obtain ⟨V6, hV6⟩ : ∃ V6, wr.drew = V6 := ⟨_, rfl⟩
              have b6 : Below wr.heap.size wr V6 := hV6 ▸ (Below.refl _ _).drew
              rw [hV6]
              have BS6 := BS.out.below b6
              have BK6 : Below w6.heap.size w6 V6 := BK.out.trans (b6.mono BK.out.size)
              clear BS BK b6
              obtain ⟨gk, ck, hrk, hrkj⟩ := grid_row HG6.out hlk
              have hc1 := hrk _ BK6
              obtain ⟨c0, c1, c2, c3⟩ := hrkj j hlt _ BK6
              obtain ⟨r0, r1, r2, r3⟩ := cf_pow n k j
              rw [r0] at c0
              rw [r1] at c1
              rw [r2] at c2
              rw [r3] at c3
              have cm := (BK6.cell (p := ⟨bm, om + k, none⟩) hbm).trans (HIM.out k hlk)
              have hFk := HFB.out k hlk
              have n0 := ux_num (n := n) (F := F) (j := j) (c := 0) (k := k) (fun x hx => HFB.out x (by omega))
              have n1 := ux_num (n := n) (F := F) (j := j) (c := 1) (k := k) (fun x hx => HFB.out x (by omega))
              have n2 := ux_num (n := n) (F := F) (j := j) (c := 2) (k := k) (fun x hx => HFB.out x (by omega))
              have n3 := ux_num (n := n) (F := F) (j := j) (c := 3) (k := k) (fun x hx => HFB.out x (by omega))
              have hpr : ∀ c, -12000 ≤ F k * rp (cp n k j * 4 + c) ∧ F k * rp (cp n k j * 4 + c) ≤ 12000 := fun c => by
                have := rp_one (cp n k j * 4 + c)
                rcases (by omega : rp (cp n k j * 4 + c) = -1 ∨ rp (cp n k j * 4 + c) = 0 ∨ rp (cp n k j * 4 + c) = 1) with e | e | e <;> rw [e] <;> omega
              have m0 := hpr 0
              have m1 := hpr 1
              have m2 := hpr 2
              have m3 := hpr 3
              rw [Nat.add_zero] at m0
              have HS0 : Hid (ux n F j 0 (k + 1) = ux n F j 0 k + F k * rp (cp n k j * 4)) := rfl
              have HS1 : Hid (ux n F j 1 (k + 1) = ux n F j 1 k + F k * rp (cp n k j * 4 + 1)) := rfl
              have HS2 : Hid (ux n F j 2 (k + 1) = ux n F j 2 k + F k * rp (cp n k j * 4 + 2)) := rfl
              have HS3 : Hid (ux n F j 3 (k + 1) = ux n F j 3 k + F k * rp (cp n k j * 4 + 3)) := rfl
              clear hpr r0 r1 r2 r3 hrk hrkj
              generalize rp (cp n k j * 4) = x0 at c0 m0 HS0
              generalize rp (cp n k j * 4 + 1) = x1 at c1 m1 HS1
              generalize rp (cp n k j * 4 + 2) = x2 at c2 m2 HS2
              generalize rp (cp n k j * 4 + 3) = x3 at c3 m3 HS3
              generalize ux n F j 0 k = s0 at BS6 HS0 n0
              generalize ux n F j 1 k = s1 at BS6 HS1 n1
              generalize ux n F j 2 k = s2 at BS6 HS2 n2
              generalize ux n F j 3 k = s3 at BS6 HS3 n3
              generalize F k = y at cm hFk m0 m1 m2 m3 HS0 HS1 HS2 HS3
              obtain ⟨t0, t1, t2, t3, f0, f1, f2, f3⟩ := BS6.open4
              have BS4 : Hid (At 33 ((((V6.setCell ⟨q, 0, none⟩ (.int .i64 (s0 + y * x0))).setCell ⟨q, 1, none⟩ (.int .i64 (s1 + y * x1))).setCell ⟨q, 2, none⟩ (.int .i64 (s2 + y * x2))).setCell ⟨q, 3, none⟩ (.int .i64 (s3 + y * x3))) q #[.int .i64 (ux n F j 0 (k + 1)), .int .i64 (ux n F j 1 (k + 1)), .int .i64 (ux n F j 2 (k + 1)), .int .i64 (ux n F j 3 (k + 1))]) := by
                rw [HS0.out, HS1.out, HS2.out, HS3.out]
                exact put4_at BS6 _ _ _ _
              have BK4 : Hid (Below w6.heap.size w6 ((((V6.setCell ⟨q, 0, none⟩ (.int .i64 (s0 + y * x0))).setCell ⟨q, 1, none⟩ (.int .i64 (s1 + y * x1))).setCell ⟨q, 2, none⟩ (.int .i64 (s2 + y * x2))).setCell ⟨q, 3, none⟩ (.int .i64 (s3 + y * x3)))) := below_put4 BK6 HQ.out _ _ _ _
              clear BS6 BK6 HS0 HS1 HS2 HS3 hFk
              still_step
              still_step
              still_step
              still_step
              still_step
              still_step
              still_step
              still_step
              still_step
              still_step
              still_step
              still_step
              still_step
              still_step
              still_step
              still_step
              still_step
              still_step
              still_step
              still_step
              still_step
              still_step
              still_step
              still_step
              still_step
              still_step
              still_step
              still_step
              still_step
              still_step
              still_step
              still_step
              still_step
              still_step
              still_step
              still_step
              still_step
              still_step
              still_step
              still_step
              still_step
              still_step
              still_step
              still_step
              still_step
              still_step
              still_step
              still_step
              still_step
              still_step
              still_step
              still_step
              still_step
              still_step
              still_step
              still_step
              still_step
              still_step
              still_step
              still_step
              still_step
              still_step
              still_step
              still_step
              still_step
              refine wpStill_nil ?_
              change wpList _ _ _ _ _ wr.drew
              rw [hV6]
              clear hV6
              go_wp2
              exact ⟨⟨k + 1, by omega, by go_num, BK4, BS4⟩, by simp [intOf]; omega⟩
            · have hlk' : ¬ (k : Int) < (Lm : Int) := by omega
              obtain rfl : k = Lm := by omega
              have v0 := HUX.out j 0 hlt (by omega)
              have v1 := HUX.out j 1 hlt (by omega)
              have v2 := HUX.out j 2 hlt (by omega)
              have v3 := HUX.out j 3 hlt (by omega)
              rw [if_pos rfl] at v0
              rw [if_neg (by omega)] at v1 v2 v3
              obtain ⟨fj, hfj⟩ : ∃ x, f j = x := ⟨_, rfl⟩
              have cj : wr.cell? ⟨g, 0 + j, none⟩ = some (.int .i64 fj) := by
                rw [← hfj]
                rcases HF6.out with h0 | ⟨b', o', e', hl', hi'⟩
                · omega
                · cases e'
                  exact (BK.out.cell (p := ⟨g, 0 + j, none⟩) hl').trans (hi' j hlt)
              rw [Nat.zero_add] at cj
              obtain ⟨t0, t1, t2, t3, -⟩ := BS.out.open4
              rw [v0, hfj] at t0
              rw [v1] at t1
              rw [v2] at t2
              rw [v3] at t3
              have BKd : Hid (Below w6.heap.size w6 wr.drew) := BK.out.trans ((Below.refl _ _).drew.mono BK.out.size)
              clear v0 v1 v2 v3 BS BK hfj
              go_wp2_with fail
              go_region
              go_wp2
              exact ⟨⟨j + 1, by omega, by go_num, BKd⟩, by simp [intOf]; omega⟩
end Go.Proofs.YtbninbeccgdemaaDoor
