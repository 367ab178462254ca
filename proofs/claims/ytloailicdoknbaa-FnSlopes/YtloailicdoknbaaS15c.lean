/-
  Slopes of a tape, forward, by the program: walked.
-/
import Derived.Test.YtloailicdoknbaaS15b
namespace Go.Proofs.Ytloailicdoknbaa
open Go.RowKit

theorem makeZ (M : Nat) (hM : M ≤ 1048576) : ∀ w, (Instr.makeSlice 23 (.int .i64 (M : Int)) (.int .i64 (M : Int))).run Try.prog w = .ok (.slice (some ⟨w.heap.size, 0, none⟩) M M) (w.alloc (.cells (madeCells #[.int .i64 0] M) 2)) := by
  obtain ⟨i0, hi0, hz0, hz1, hz2⟩ := info_parts infoI
  intro w
  have := run_make (P := Try.prog) w 23 2 i0 _ Try.underlying23 hi0 hz0 .i64 .i64 (M : Int) (M : Int) (by omega) (by omega) (by rw [hz2]; omega) (by omega)
  rw [this, hz1]
  simp [Value.cells]
theorem madeAt {M i : Nat} (h : i < M) : (madeCells #[Value.int .i64 0] M)[i]? = some (.int .i64 0) := by
  rw [← Array.getElem?_toList, toList_madeCells_one]
  simp [h]
theorem madeSz (M : Nat) : (madeCells #[Value.int .i64 0] M).size = M := by simp [madeCells]
/-- Noughts with a 1 at al: a list of one's own. -/
theorem unit_own {w : World} {B q M al : Nat} (h : At 2 w q ((madeCells #[.int .i64 0] M).setIfInBounds al (.int .i64 1))) (hB : B ≤ q) (hal : al < M) (hM : M ≤ 1048576) : w.ownsRow B 2 1 (.slice (some ⟨q, 0, none⟩) M M) M (iCells (un al) M) := by
  refine ⟨by rw [iCells_len, Nat.mul_one], .inr ⟨q, M, _, rfl, hB, h, Nat.le_refl _, by unfold maxLen; omega, by simp [madeSz], ?_⟩⟩
  refine List.ext_getElem? fun i => ?_
  by_cases hi : i < M
  · rw [List.getElem?_take_of_lt (by omega), iCells_at _ hi, Array.getElem?_toList, Array.getElem?_setIfInBounds]
    by_cases e : al = i
    · subst e
      rw [if_pos rfl, if_pos (by rw [madeSz]; exact hal), un, if_pos rfl]
    · rw [if_neg e, madeAt hi, un, if_neg (fun k => e k.symm)]
  · rw [List.getElem?_eq_none (by simp; omega), List.getElem?_eq_none (by rw [iCells_len]; omega)]
theorem Gv.low {w0 w : World} {B : Nat} {t : TypeId} {v : Value} {m : Nat} {l : List Value} (s : Gv w0 w B t v m l) : Below w0.heap.size w0 w := s.b
set_option maxRecDepth 100000 in
set_option maxHeartbeats 6400000 in
theorem implSlope_yes {w : World} {g n cap b o c inp al : Nat} {f x : Nat → Int} (h : Recs 3 w g n f) (hx : Ints w b o inp x) (hb : b < w.heap.size) (hx64 : ∀ i, i < inp → is64 (x i)) (hf64 : ∀ i, i < n * 3 → is64 (f i)) (ok : TpN n inp f) (hal : al < inp) :
    Calls Try.prog 17 #[.slice (some ⟨g, 0, none⟩) n cap, .slice (some ⟨b, o, none⟩) inp c, .int .i64 (al : Int)] w fun e w' => e = .returned (.tuple #[.int .i64 (dv (al : Int) (tv mp f x) f (n - 1)), .bool true]) ∧ Below w.heap.size w w' := by
  have hn0 := ok.2
  have hn200 := ok.1.1
  have hi20 := ok.1.2.1.2
  have hn' : (n : Int) ≤ 200 := by omega
  have hi' : (inp : Int) ≤ 20 := by omega
  have hal' : (al : Int) < (inp : Int) := by omega
  have HO : Hid (TpN n inp f) := ok
  have IB := fun w => isBelow_any (al : Int) (inp : Int) w true (show (true = true ↔ _) from ⟨fun _ => by omega, fun _ => rfl⟩)
  obtain ⟨i0, hi0, hz0, hz1, hz2⟩ := info_parts infoI
  have hmz := makeZ inp (by omega)
  go_enter Try.func17, Try.ntmps17
  go_wp2_with fail
  refine (elementsFor_any h (by omega) (by omega)).mono ?_
  rintro e w2 ⟨hh, bb⟩
  rcases hh with ⟨ho, -⟩ | ⟨-, ge, ce, rfl, p1, p2, E2⟩
  · exact absurd ok ho
  clear ok
  have x2 := hx.below hb bb
  have hb2 : b < w2.heap.size := Nat.lt_of_lt_of_le hb bb.size
  go_wp2_with fail
  refine (IB _).mono ?_
  rintro e w2' ⟨rfl, rfl⟩
  clear IB
  go_wp2_with fail
  refine (residues_any E2 x2 hb2 HO.out.1 hx64 hf64).mono ?_
  rintro e w3 ⟨v, rfl, G⟩
  obtain ⟨gv, cv, rfl, p3, p4, p5, I3⟩ := G.ints
  have E3 := E2.below (G.b.mono (Nat.le_refl _))
  have B3 := bb.trans (G.b.mono bb.size)
  clear G E2 x2 bb p3 p4
  obtain ⟨W1, hW1, a1, b1, s1⟩ := boxed w3 2 (madeCells #[.int .i64 0] inp)
  obtain ⟨q, hq⟩ : ∃ q, w3.heap.size = q := ⟨_, rfl⟩
  have HQ : Hid (w3.heap.size = q) := hq
  rw [hq] at a1
  have k0 := a1.cell al (madeAt hal)
  have k1 := a1.frozen al
  obtain ⟨W2, hW2⟩ : ∃ W2, W1.setCell ⟨q, al, none⟩ (.int .i64 1) = W2 := ⟨_, rfl⟩
  have a2 : At 2 W2 q ((madeCells #[.int .i64 0] inp).setIfInBounds al (.int .i64 1)) := by rw [← hW2]; exact a1.set al _
  have b2 : Below w3.heap.size w3 W2 := by rw [← hW2]; exact b1.setCell (by rw [HQ.out]; exact Nat.le_refl _) _
  have G1 : Gv w3 W2 w3.heap.size 2 (.slice (some ⟨q, 0, none⟩) inp inp) inp (iCells (un al) inp) := ⟨unit_own a2 (by rw [HQ.out]; exact Nat.le_refl _) hal (by omega), by simp, b2, Nat.le_refl _, b2.size⟩
  rw [← iCells_Fx0 inp (un al) (dv (al : Int) (tv mp f x) f)] at G1
  go_wp2
  clear hW1 hW2 hq k0 k1 a1 a2 b1 b2 hmz
  go_loopw [11, 43] (fun s u wr => ∃ k : Nat, k ≤ n ∧ u = .int .i64 (k : Int) ∧ Gv w3 wr w3.heap.size 2 s (inp + k) (iCells (Fx inp (un al) (dv (al : Int) (tv mp f x) f)) (inp + k))) (fun _ u _ => n - (intOf u).toNat)
  case atStart => exact ⟨0, Nat.zero_le _, rfl, G1⟩
  case round =>
    clear G1
    obtain ⟨k, hk, rfl, G1⟩ := hrel
    obtain ⟨gg, cc, rfl, o1, o2, o3, I1⟩ := G1.ints
    by_cases hkn : k < n
    · have hkn' : (k : Int) < (n : Int) := by omega
      have E4 := E3.below G1.b
      have c0 := E4.2 k hkn
      have I4 := I3.below p5 G1.b
      have p6 : gv < wr.heap.size := Nat.lt_of_lt_of_le p5 G1.b.size
      have S := slopesOf_any (c := cv) I4 p6 HO.out.1 hkn
      have SI := fun j (hj : j < spM (f (k * 3))) => sp_in (v := tv mp f x) (HO.out.1.2.2 k hkn) (tv_in f x) hj
      have SD := ss_dnd (al := al) (d := dv (al : Int) (tv mp f x) f) (v := tv mp f x) (HO.out.1.2.2 k hkn)
      have SM := spM_le (f (k * 3))
      have DE := dv_eq (al : Int) (tv mp f x) HO.out.1 hkn
      obtain ⟨m, hm⟩ : ∃ m, spM (f (k * 3)) = m := ⟨_, rfl⟩
      obtain ⟨pf, hpf⟩ : ∃ pf, spF (inp : Int) (f (k * 3)) (f (k * 3 + 1)) (f (k * 3 + 2)) (tv mp f x) = pf := ⟨_, rfl⟩
      rw [hm] at S SI SD SM
      rw [hpf] at S SI SD
      rw [← SD] at DE
      clear hm hpf SD
      obtain ⟨D, hD⟩ : ∃ D, Fx inp (un al) (dv (al : Int) (tv mp f x) f) = D := ⟨_, rfl⟩
      have DF : D (inp + k) = mp (ss pf D m) := by rw [← hD, Fx_at, DE, hD]
      have DI : ∀ P : Nat, 0 ≤ D P ∧ D P ≤ 12289 := fun P => by
        rw [← hD]
        unfold Fx un
        split
        · split <;> omega
        · have := dv_in (al : Int) (tv mp f x) f (P - inp)
          omega
      rw [hD] at G1 I1
      have HD : Hid (Fx inp (un al) (dv (al : Int) (tv mp f x) f) = D) := hD
      clear hD DE
      have SS : ∀ j, j ≤ m → -400000000 ≤ ss pf D j ∧ ss pf D j ≤ 400000000 := fun j hj => by
        have := ss_in (pf := pf) (D := D) (m := m) (fun j hj => (SI j hj).2) (fun j _ => DI _) j hj
        omega
      go_wp2_with fail
      refine S.mono ?_
      rintro e w4 ⟨⟨sv, rfl, hsl⟩, bb⟩
      have G2 := G1.below bb
      clear S G1 I1 c0 E4 I4 bb o3
      obtain ⟨sa, rfl, hs2⟩ : ∃ sa, sv = .slice sa m m ∧ (m = 0 ∨ ∃ g, sa = some ⟨g, 0, none⟩ ∧ Recs 2 w4 g m pf) := by
        rcases hsl with ⟨rfl, rfl⟩ | ⟨g, rfl, r⟩
        · exact ⟨none, rfl, .inl rfl⟩
        · exact ⟨_, rfl, .inr ⟨g, rfl, r⟩⟩
      have SM' : (m : Int) ≤ 2 := by omega
      go_wp2
      go_loopw [14, 51] (fun s u wr => ∃ j : Nat, j ≤ m ∧ s = .int .i64 (ss pf D j) ∧ u = .int .i64 (j : Int) ∧ Gv w3 wr w3.heap.size 2 (.slice (some ⟨gg, 0, none⟩) (inp + k) cc) (inp + k) (iCells D (inp + k)) ∧ (m = 0 ∨ ∃ g, sa = some ⟨g, 0, none⟩ ∧ Recs 2 wr g m pf)) (fun _ u _ => m - (intOf u).toNat)
      case atStart => exact ⟨0, Nat.zero_le _, rfl, rfl, G2, hs2⟩
      case round =>
        clear G2 hsl hs2
        obtain ⟨j, hj, rfl, rfl, G2, hsl⟩ := hrel
        have sj := SS j hj
        by_cases hjm : j < m
        · have hjm' : (j : Int) < (m : Int) := by omega
          rcases hsl with h0 | ⟨gs, rfl, R2⟩
          · omega
          obtain ⟨⟨P, hP, hPk⟩, y1, y2⟩ := SI j hjm
          have e0 := R2.2 (j * 2) (by omega)
          have e1 := R2.2 (j * 2 + 1) (by omega)
          have ES : ss pf D (j + 1) = ss pf D j + pf (j * 2 + 1) * D (pf (j * 2)).toNat := rfl
          have sj1 := SS (j + 1) hjm
          rw [hP, Int.toNat_natCast] at ES
          rw [hP] at e0
          obtain ⟨Y, hY⟩ : ∃ Y, pf (j * 2 + 1) = Y := ⟨_, rfl⟩
          rw [hY] at e1 ES y1 y2
          clear hP hY
          obtain ⟨V1, hV1, m1, bb1, -⟩ := boxed wr 66 #[.int .i64 (P : Int), .int .i64 Y]
          obtain ⟨r1, hr1⟩ : ∃ r, wr.heap.size = r := ⟨_, rfl⟩
          rw [hr1] at m1
          have G3 := G2.below bb1
          have R3 := R2.below bb1
          obtain ⟨c0, c1, -⟩ := m1.open2
          obtain ⟨g', c', e', -, -, o3, I3'⟩ := G3.ints
          obtain ⟨rfl, rfl⟩ : gg = g' ∧ cc = c' := by simpa using e'
          have cD := cellAt I3' (a := P) hPk
          have dI := DI P
          have mB := mulB ⟨y1, y2⟩ dI
          obtain ⟨d, hd⟩ : ∃ d, D P = d := ⟨_, rfl⟩
          obtain ⟨Q, hQ⟩ : ∃ Q, ss pf D j = Q := ⟨_, rfl⟩
          rw [hQ] at sj ES ⊢
          rw [hd] at cD ES mB
          have hPk' : (P : Int) < ((inp + k : Nat) : Int) := by omega
          have hMk : ((inp + k : Nat) : Int) ≤ 1000 := by omega
          have w1 : IntKind.i64.wrap (Y * d) = Y * d := by rw [IntKind.wrap_i64]; omega
          have w2 : IntKind.i64.wrap (Q + Y * d) = Q + Y * d := by rw [IntKind.wrap_i64]; omega
          have HE : Hid (ss pf D (j + 1) = Q + Y * d) := ES
          obtain ⟨M, hM⟩ : ∃ M, inp + k = M := ⟨_, rfl⟩
          have HM : Hid (inp + k = M) := hM
          rw [hM] at hPk' hMk hPk G3 ⊢
          clear G2 R2 I3' e' hQ hd ES dI mB sj sj1 y1 y2 bb1 m1 hM
          go_wp2_with fail
          go_region
          obtain ⟨V2, hV2, bd⟩ : ∃ u, V1.drew = u ∧ Below V1.heap.size V1 u := ⟨_, rfl, (Below.refl _ _).drew⟩
          rw [hV2]
          replace G3 := G3.below bd
          replace R3 := R3.below bd
          clear hV2 bd
          rw [← HM.out] at G3
          go_wp2
          exact ⟨⟨j + 1, by omega, by rw [HE.out], by go_num, by rw [← HM.out]; exact G3, .inr ⟨gs, rfl, R3⟩⟩, by simp [intOf]; omega⟩
        · have hjm' : ¬ (j : Int) < (m : Int) := by omega
          obtain rfl : j = m := by omega
          clear hsl
          obtain ⟨Z, hZ⟩ : ∃ Z, ss pf D j = Z := ⟨_, rfl⟩
          rw [hZ] at sj DF ⊢
          have MZ := fun w => modulo_any Z 12289 w ⟨by omega, by omega⟩ (by omega)
          clear SS SI hZ
          go_wp2_with fail
          refine (MZ _).mono ?_
          rintro e w5 ⟨rfl, rfl⟩
          obtain ⟨R, hR⟩ : ∃ R, Z % 12289 = R := ⟨_, rfl⟩
          have HZ : Hid (D (inp + k) = R) := DF.trans hR
          rw [hR]
          clear hR MZ DF sj
          have hb2 : ∀ w, (Instr.buildSlice 23 1 #[(0, .int .i64 R)]).run Try.prog w = .ok (.slice (some ⟨w.heap.size, 0, none⟩) 1 1) (w.alloc (.cells #[.int .i64 R] 2)) := fun _ => by kernel_rfl
          obtain ⟨V9, hV9, A9, b10, -⟩ := boxed wr 2 #[.int .i64 R]
          obtain ⟨g9, hg9⟩ : ∃ g, wr.heap.size = g := ⟨_, rfl⟩
          rw [hg9] at A9
          have G4 := G2.below b10
          have hkk := G4.o3
          clear b10 G2
          go_wp2_with (at_builtin; refine wpList_append_own _ rfl _ _ _ rfl w3.heap.size 2 i0 _ 1 8 Try.underlying23 hi0 hz0 hz1 hz2 rfl (by omega) (.slice (some ⟨gg, 0, none⟩) (inp + k) cc) (inp + k) (iCells D (inp + k)) rfl G4.own ⟨g9, 0, none⟩ 1 1 [.int .i64 R] rfl rfl (news1 A9) (by simp [Value.oneCell']) (by unfold maxLen; omega) (by omega) hkk ?_; intro v2 w16 hown2 hgrow2 hne2)
          have G5 := G4.grow hown2 hgrow2 (fun h => by have := hne2.1 h; simp at this)
          refine ⟨⟨k + 1, by omega, by go_num, ?_⟩, by simp [intOf]; omega⟩
          rw [← HZ.out, iCells_more] at G5
          rw [HD.out]
          exact G5
    · have hkn' : ¬ (k : Int) < (n : Int) := by omega
      obtain rfl : k = n := by omega
      have c0 := cellAt I1 (a := inp + (k - 1)) (by omega)
      rw [Fx_at] at c0
      obtain ⟨N, hN⟩ : ∃ N, inp + (k - 1) = N := ⟨_, rfl⟩
      rw [hN] at c0
      have hN' : ((inp + k : Nat) : Int) - 1 = (N : Int) := by omega
      have hN2 : (N : Int) < ((inp + k : Nat) : Int) := by omega
      have hN3 : ((inp + k : Nat) : Int) ≤ 1000 := by omega
      have B4 := B3.trans (G1.b.mono B3.size)
      obtain ⟨M, hM⟩ : ∃ M, inp + k = M := ⟨_, rfl⟩
      rw [hM] at hN' hN2 hN3 ⊢
      clear I1 G1 hN hM E3 I3
      go_wp2
      exact bodyPost_ret (v := .tuple #[.int .i64 (dv (al : Int) (tv mp f x) f (k - 1)), .bool true]) (by simp [results, Try.results17, go_sem]) rfl ⟨rfl, B4⟩
theorem implSlope_no {w : World} {g n cap b o c inp : Nat} {f : Nat → Int} {al : Int} (h : Recs 3 w g n f) (hn : n ≤ 1048576) (hi : inp ≤ 1048576) (no : ¬ (TpN n inp f ∧ 0 ≤ al ∧ al < (inp : Int))) :
    Calls Try.prog 17 #[.slice (some ⟨g, 0, none⟩) n cap, .slice (some ⟨b, o, none⟩) inp c, .int .i64 al] w fun e w' => e = .returned (.tuple #[.int .i64 0, .bool false]) ∧ Below w.heap.size w w' := by
  have hi' : (inp : Int) ≤ 1048576 := by omega
  go_enter Try.func17, Try.ntmps17
  go_wp2_with fail
  refine (elementsFor_any h hn hi).mono ?_
  rintro e w2 ⟨hh, bb⟩
  rcases hh with ⟨ho, v, rfl⟩ | ⟨ho, ge, ce, rfl, -⟩
  · clear ho no
    go_wp2
    exact bodyPost_ret (v := .tuple #[.int .i64 0, .bool false]) (by simp [results, Try.results17, go_sem]) rfl ⟨rfl, bb⟩
  · have IB := fun w => isBelow_any al (inp : Int) w false (show (false = true ↔ _) from ⟨fun h => by simp at h, fun k => absurd ⟨ho, k⟩ no⟩)
    clear ho no
    go_wp2_with (go_at_call 39; refine (IB _).mono ?_; rintro e w2' ⟨rfl, rfl⟩)
    exact bodyPost_ret (v := .tuple #[.int .i64 0, .bool false]) (by simp [results, Try.results17, go_sem]) rfl ⟨rfl, bb⟩
end Go.Proofs.Ytloailicdoknbaa
