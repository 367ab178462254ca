/-
  Factors by the specification: walked.
-/
import Derived.Test.YtnkmiljnilmicaaFd1
import Derived.Test.YtnkmiljnilmicaaTb
import Derived.Test.YtnkmiljnilmicaaTa
namespace Go.Proofs.Ytnkmiljnilmicaa
open Go.RowKit Go.Shelf

/-- How the specification's Factors ends, where there are stretches to tell. -/
def FsE (w : World) (s : ByteArray) (n : Nat) (e : Ending) (w' : World) : Prop :=
  (∃ D v, InD s n (s.size + 1 - n) D ∧ e = .returned v ∧ TxL w' w.heap.size v D) ∧ Below w.heap.size w w'
set_option maxRecDepth 100000 in
set_option maxHeartbeats 4000000 in
theorem specFactors_yes {w : World} (s : ByteArray) (n : Nat) (h : rowOk s 1000 = true) (hn : 1 ≤ n ∧ n ≤ 40) :
    Calls Try.prog 10 #[.string s, .int .i64 (n : Int)] w (FsE w s n) := by
  obtain ⟨hsz, -⟩ := rowOk_iff.1 h
  have hsz' : s.size ≤ 1000 := by omega
  have hin : decide ((1 : Int) ≤ (n : Int) ∧ (n : Int) ≤ 40) = true := by simp; omega
  obtain ⟨m, hm⟩ : ∃ m, s.size + 1 - n = m := ⟨_, rfl⟩
  have hbs : ∀ w, (Instr.buildSlice 27 0 #[]).run Try.prog w = .ok (.slice (some ⟨w.heap.size, 0, none⟩) 0 0) (w.alloc (.cells #[] 9)) := fun _ => by kernel_rfl
  have hinf : (Try.prog.info? 9).map (fun i => (i.zero, i.size, i.bytes)) = some (some (.string ⟨#[]⟩), 1, 16) := by kernel_rfl
  obtain ⟨i0, hi0, hz0, hz1, hz2⟩ := info_parts hinf
  obtain ⟨gd, hgd⟩ : ∃ q, w.heap.size = q := ⟨_, rfl⟩
  obtain ⟨U1, hU1, u1, d1, -⟩ := boxed w 9 #[]
  rw [hgd] at u1
  have TX : Hid (TxL U1 w.heap.size (.slice (some ⟨gd, 0, none⟩) 0 0) [] ∧ Below w.heap.size w U1) := ⟨⟨⟨rfl, .inr ⟨gd, 0, #[], rfl, by omega, u1, Nat.le_refl _, Nat.zero_le _, rfl, rfl⟩⟩, fun h => by cases h⟩, d1⟩
  have CR : ∀ w, Calls Try.prog 24 #[.string s, .int .i64 1000] w fun e w' => e = .returned (.bool true) ∧ w = w' := fun w => by
    have h2 := l9Row_any s 1000 w (by omega)
    rw [h] at h2
    exact h2
  have CI : ∀ w, Calls Try.prog 25 #[.int .i64 (n : Int), .int .i64 1, .int .i64 40] w fun e w' => e = .returned (.bool true) ∧ w = w' := fun w => by
    have h2 := in64_any (n : Int) 1 40 w
    rw [hin] at h2
    exact h2
  clear hinf hin h hsz u1 d1
  go_enter Try.func10, Try.ntmps10
  go_wp2_with fail
  refine (CR _).mono ?_
  rintro e w1 ⟨rfl, rfl⟩
  go_wp2_with fail
  refine (CI _).mono ?_
  rintro e w1 ⟨rfl, rfl⟩
  go_wp2
  clear hU1 hgd
  go_loopw [5, 6] (fun v u wr => ∃ (i : Nat) (D : List ByteArray), i ≤ m ∧ u = .int .i64 (i : Int) ∧ D.length ≤ i ∧ Hid ((TxL wr w.heap.size v D ∧ Below w.heap.size w wr) ∧ InD s n i D)) (fun _ u _ => m - (intOf u).toNat)
  case atStart => exact ⟨0, [], Nat.zero_le _, rfl, Nat.le_refl _, TX.out, InD.nil s n⟩
  case round =>
    clear TX
    obtain ⟨i, D, hi, rfl, hDi, I⟩ := hrel
    rename World => wr
    obtain ⟨g, c, rfl, hcell, hgl, hgw, hgc⟩ := I.out.1.1.open
    obtain ⟨d, hd⟩ : ∃ d, D.length = d := ⟨_, rfl⟩
    rw [hd] at hDi hgc
    by_cases him : i < m
    · have him' : (i : Int) + (n : Int) ≤ (s.size : Int) := by omega
      have hsl := sx_run (s := s) (n := n) (i := i) (by omega)
      obtain ⟨x, hx⟩ : ∃ x, sx s n i = x := ⟨_, rfl⟩
      have HX := hid_of hx
      rw [hx] at hsl
      have HC := hid_of hcell
      have HD := hid_of hd
      clear hx hcell hd
      try rw [HD.out]
      go_wp2
      go_loopw [8] (fun u w2 => ∃ a : Nat, a ≤ d ∧ u = .int .i64 (a : Int) ∧ w2 = wr ∧ Hid (∀ j y, j < a → D[j]? = some y → bl y < bl x)) (fun u _ => d - (intOf u).toNat)
      case atStart => exact ⟨0, Nat.zero_le _, rfl, rfl, fun j y h => absurd h (Nat.not_lt_zero _)⟩
      case round =>
        obtain ⟨a, had', rfl, rfl, HLO⟩ := hrel
        by_cases had : a < d
        · have hadi : (a : Int) < (d : Int) := by omega
          obtain ⟨y, hy⟩ : ∃ y, D[a]? = some y := ⟨D[a]'(by rw [HD.out]; exact had), List.getElem?_eq_getElem _⟩
          have hcy := HC.out a y hy
          by_cases hlt : bl y < bl x
          · have hb : Op.bytesLess y.toList x.toList = true := by rw [lss_is]; simp [hlt]
            have HN : Hid (∀ j y, j < a + 1 → D[j]? = some y → bl y < bl x) := fun j z hj hz => by
              by_cases e : j = a
              · subst e
                rw [hy] at hz
                cases hz
                exact hlt
              · exact HLO.out j z (by omega) hz
            clear hy hlt
            go_wp2
            exact ⟨⟨a + 1, by omega, by go_num, by trivial, HN⟩, by simp [intOf]; omega⟩
          · have hb : Op.bytesLess y.toList x.toList = false := by rw [lss_is]; simp [hlt]
            by_cases heq : y = x
            · have hq : (y.toList == x.toList) = true := by rw [eql_is]; simp [heq]
              have JN : Hid ((TxL wr w.heap.size (.slice (some ⟨g, 0, none⟩) d c) D ∧ Below w.heap.size w wr) ∧ InD s n (i + 1) D) := ⟨by have h9 := I.out.1; rw [HD.out] at h9; exact h9, I.out.2.same (by rw [HX.out, ← heq]; exact List.mem_of_getElem? hy)⟩
              have hln : D.length ≤ i + 1 := by rw [HD.out]; omega
              clear hlt heq hy I
              go_wp2
              exact ⟨⟨i + 1, D, by omega, by go_num, hln, JN⟩, by simp [intOf]; omega⟩
            · have hq : (y.toList == x.toList) = false := by rw [eql_is]; simp [heq]
              have HHI : Hid (∀ z, D[a]? = some z → bl x < bl z) := fun z hz => by
                rw [hy] at hz
                cases hz
                exact Classical.byContradiction fun h5 => heq (by rw [← lb_bl y, ← lb_bl x, List.le_antisymm (List.not_lt.1 h5) (List.not_lt.1 hlt)])
              clear hlt heq hy
              obtain ⟨W3, hW3, a3, b3, -⟩ := boxed wr 9 #[.string x]
              have T3 := I.out.1.1.below b3
              have B3 := I.out.1.2.trans (b3.mono I.out.1.2.size)
              have Rown := T3.1
              rw [HD.out] at Rown
              have news := World.news_of_block (cs := #[.string x]) (t := 9) (fr := (0, 0)) a3
              have hm3 : w.heap.size ≤ W3.heap.size := B3.size
              clear b3
              go_wp2_with (at_builtin; refine Hid.out (?_ : Hid _))
              refine (?_ : wpList _ _ _ _ _ _)
              refine wpList_append_own_at _ rfl _ _ _ rfl w.heap.size 9 i0 _ 1 16 Try.underlying27 hi0 hz0 hz1 hz2 rfl (by omega) (.slice (some ⟨g, 0, none⟩) d c) d (D.map Value.string) rfl Rown ⟨wr.heap.size, 0, none⟩ 1 1 [.string x] rfl rfl news (by simp [Value.oneCell']) (by unfold maxLen; omega) (by omega) hm3 ?_
              intro v7 w7 hown7 hgrow7 hne7 _
              have e7 : v7 ≠ .slice none 0 0 := fun e => absurd (hne7.1 e).2 (by omega)
              have B7 : Below w.heap.size w w7 := B3.grown hgrow7 hm3 (fun k e => by cases e; exact hgw)
              have T7 : TxL w7 w.heap.size v7 (D ++ [x]) := ⟨by rw [List.length_append, List.length_singleton, HD.out, List.map_append]; exact hown7, e7⟩
              obtain ⟨g7, c7, ev7, -⟩ := T7.open
              rw [show (D ++ [x]).length = d + 1 by rw [List.length_append, List.length_singleton, HD.out]] at ev7
              subst ev7
              have J0 : Hid (TxL w7 w.heap.size (.slice (some ⟨g7, 0, none⟩) (d + 1) c7) (shL D x d) ∧ Below w.heap.size w w7) := ⟨by rw [← HD.out, shL_top]; rw [← HD.out] at T7; exact T7, B7⟩
              clear hW3 a3 T3 B3 Rown news hm3 hown7 hgrow7 hne7 e7 B7 T7
              go_wp2
              go_loopw [9] (fun u w8 => ∃ k : Nat, a ≤ k ∧ k ≤ d ∧ u = .int .i64 (k : Int) ∧ Hid (TxL w8 w.heap.size (.slice (some ⟨g7, 0, none⟩) (d + 1) c7) (shL D x k) ∧ Below w.heap.size w w8)) (fun u _ => (intOf u).toNat)
              case atStart => exact ⟨d, had', Nat.le_refl _, by go_num, J0⟩
              case round =>
                clear J0
                obtain ⟨k, hak, hkd, rfl, J⟩ := hrel
                rename World => w8
                have hlk : (shL D x k).length = d + 1 := by rw [shL_len D x (by rw [HD.out]; exact hkd), HD.out]
                have J1 := J.out.1
                rw [← hlk] at J1
                obtain ⟨cur, -, hh, -, -, -, -⟩ := J1.parts
                have AT : At 9 w8 g7 cur := hh
                obtain ⟨_, _, ee, hcl, -, hgw7, -⟩ := J1.open
                cases ee
                rw [hlk] at J1
                by_cases hlt : a < k
                · obtain ⟨k, rfl⟩ : ∃ j, k = j + 1 := ⟨k - 1, by omega⟩
                  have hlt' : (a : Int) < ((k + 1 : Nat) : Int) := by omega
                  obtain ⟨y, hy⟩ : ∃ y, D[k]? = some y := ⟨D[k]'(by rw [HD.out]; omega), List.getElem?_eq_getElem _⟩
                  have hcy := hcl k y (by rw [shL_at D x (by rw [HD.out]; omega), if_pos (by omega), List.getElem?_append_left (by rw [HD.out]; omega)]; exact hy)
                  obtain ⟨z, hz⟩ : ∃ z, (shL D x (k + 1))[k + 1]? = some z := ⟨(shL D x (k + 1))[k + 1]'(by rw [hlk]; omega), List.getElem?_eq_getElem _⟩
                  have hcz := hcl (k + 1) z hz
                  have hfz := AT.frozen (k + 1)
                  have JN : Hid (TxL (w8.setCell ⟨g7, k + 1, none⟩ (.string y)) w.heap.size (.slice (some ⟨g7, 0, none⟩) (d + 1) c7) (shL D x k) ∧ Below w.heap.size w (w8.setCell ⟨g7, k + 1, none⟩ (.string y))) := by
                    refine ⟨?_, J.out.2.setCell (p := ⟨g7, k + 1, none⟩) hgw7 _⟩
                    rw [← hlk] at J1
                    have h9 := J1.set (j := k + 1) y
                    rw [shL_step (by rw [HD.out]; omega) hy, hlk] at h9
                    exact h9
                  clear J J1 hcl hh AT hy hz hlk
                  go_wp2
                  exact ⟨⟨k, by omega, by omega, by go_num, JN⟩, by simp [intOf] <;> omega⟩
                · obtain rfl : k = a := by omega
                  have hlt' : ¬ (k : Int) < (k : Int) := by omega
                  obtain ⟨z, hz⟩ : ∃ z, (shL D x k)[k]? = some z := ⟨(shL D x k)[k]'(by rw [hlk]; omega), List.getElem?_eq_getElem _⟩
                  have hcz := hcl k z hz
                  have hfz := AT.frozen k
                  have JN : Hid ((TxL (w8.setCell ⟨g7, k, none⟩ (.string x)) w.heap.size (.slice (some ⟨g7, 0, none⟩) (d + 1) c7) (D.take k ++ x :: D.drop k) ∧ Below w.heap.size w (w8.setCell ⟨g7, k, none⟩ (.string x))) ∧ InD s n (i + 1) (D.take k ++ x :: D.drop k)) := by
                    refine ⟨⟨?_, J.out.2.setCell (p := ⟨g7, k, none⟩) hgw7 _⟩, ?_⟩
                    · rw [← hlk] at J1
                      have h9 := J1.set (j := k) x
                      rw [shL_end (by rw [HD.out]; exact hkd), hlk] at h9
                      exact h9
                    · rw [← HX.out]
                      exact I.out.2.put (by rw [HD.out]; exact hkd) (by rw [HX.out]; exact HLO.out) (by rw [HX.out]; exact HHI.out)
                  have hln : (D.take k ++ x :: D.drop k).length ≤ i + 1 := by simp [HD.out]; omega
                  clear J J1 hcl hh AT hz hlk I
                  go_wp2
                  exact ⟨⟨i + 1, _, by omega, by go_num, hln, JN⟩, by simp [intOf]; omega⟩
        · obtain rfl : a = d := by omega
          have hadi : ¬ (a : Int) < (a : Int) := by omega
          have HHI : Hid (∀ z, D[a]? = some z → bl x < bl z) := fun z hz => by
            rw [List.getElem?_eq_none (by rw [HD.out]; exact Nat.le_refl _)] at hz
            cases hz
          obtain ⟨W3, hW3, a3, b3, -⟩ := boxed wr 9 #[.string x]
          have T3 := I.out.1.1.below b3
          have B3 := I.out.1.2.trans (b3.mono I.out.1.2.size)
          have Rown := T3.1
          rw [HD.out] at Rown
          have news := World.news_of_block (cs := #[.string x]) (t := 9) (fr := (0, 0)) a3
          have hm3 : w.heap.size ≤ W3.heap.size := B3.size
          clear b3
          go_wp2_with (at_builtin; refine Hid.out (?_ : Hid _))
          refine (?_ : wpList _ _ _ _ _ _)
          refine wpList_append_own_at _ rfl _ _ _ rfl w.heap.size 9 i0 _ 1 16 Try.underlying27 hi0 hz0 hz1 hz2 rfl (by omega) (.slice (some ⟨g, 0, none⟩) a c) a (D.map Value.string) rfl Rown ⟨wr.heap.size, 0, none⟩ 1 1 [.string x] rfl rfl news (by simp [Value.oneCell']) (by unfold maxLen; omega) (by omega) hm3 ?_
          intro v7 w7 hown7 hgrow7 hne7 _
          have e7 : v7 ≠ .slice none 0 0 := fun e => absurd (hne7.1 e).2 (by omega)
          have B7 : Below w.heap.size w w7 := B3.grown hgrow7 hm3 (fun k e => by cases e; exact hgw)
          have T7 : TxL w7 w.heap.size v7 (D ++ [x]) := ⟨by rw [List.length_append, List.length_singleton, HD.out, List.map_append]; exact hown7, e7⟩
          obtain ⟨g7, c7, ev7, -⟩ := T7.open
          rw [show (D ++ [x]).length = a + 1 by rw [List.length_append, List.length_singleton, HD.out]] at ev7
          subst ev7
          have J0 : Hid (TxL w7 w.heap.size (.slice (some ⟨g7, 0, none⟩) (a + 1) c7) (shL D x a) ∧ Below w.heap.size w w7) := ⟨by rw [← HD.out, shL_top]; rw [← HD.out] at T7; exact T7, B7⟩
          clear hW3 a3 T3 B3 Rown news hm3 hown7 hgrow7 hne7 e7 B7 T7
          go_wp2
          go_loopw [9] (fun u w8 => ∃ k : Nat, a ≤ k ∧ k ≤ a ∧ u = .int .i64 (k : Int) ∧ Hid (TxL w8 w.heap.size (.slice (some ⟨g7, 0, none⟩) (a + 1) c7) (shL D x k) ∧ Below w.heap.size w w8)) (fun u _ => (intOf u).toNat)
          case atStart => exact ⟨a, had', Nat.le_refl _, by go_num, J0⟩
          case round =>
            clear J0
            obtain ⟨k, hak, hkd, rfl, J⟩ := hrel
            rename World => w8
            have hlk : (shL D x k).length = a + 1 := by rw [shL_len D x (by rw [HD.out]; exact hkd), HD.out]
            have J1 := J.out.1
            rw [← hlk] at J1
            obtain ⟨cur, -, hh, -, -, -, -⟩ := J1.parts
            have AT : At 9 w8 g7 cur := hh
            obtain ⟨_, _, ee, hcl, -, hgw7, -⟩ := J1.open
            cases ee
            rw [hlk] at J1
            by_cases hlt : a < k
            · exact absurd hlt (by omega)
            · obtain rfl : k = a := by omega
              have hlt' : ¬ (k : Int) < (k : Int) := by omega
              obtain ⟨z, hz⟩ : ∃ z, (shL D x k)[k]? = some z := ⟨(shL D x k)[k]'(by rw [hlk]; omega), List.getElem?_eq_getElem _⟩
              have hcz := hcl k z hz
              have hfz := AT.frozen k
              have JN : Hid ((TxL (w8.setCell ⟨g7, k, none⟩ (.string x)) w.heap.size (.slice (some ⟨g7, 0, none⟩) (k + 1) c7) (D.take k ++ x :: D.drop k) ∧ Below w.heap.size w (w8.setCell ⟨g7, k, none⟩ (.string x))) ∧ InD s n (i + 1) (D.take k ++ x :: D.drop k)) := by
                refine ⟨⟨?_, J.out.2.setCell (p := ⟨g7, k, none⟩) hgw7 _⟩, ?_⟩
                · rw [← hlk] at J1
                  have h9 := J1.set (j := k) x
                  rw [shL_end (by rw [HD.out]; exact hkd), hlk] at h9
                  exact h9
                · rw [← HX.out]
                  exact I.out.2.put (by rw [HD.out]; exact hkd) (by rw [HX.out]; exact HLO.out) (by rw [HX.out]; exact HHI.out)
              have hln : (D.take k ++ x :: D.drop k).length ≤ i + 1 := by simp [HD.out]; omega
              clear J J1 hcl hh AT hz hlk I
              go_wp2
              exact ⟨⟨i + 1, _, by omega, by go_num, hln, JN⟩, by simp [intOf]; omega⟩
    · obtain rfl : i = m := by omega
      have him' : ¬ (i : Int) + (n : Int) ≤ (s.size : Int) := by omega
      have NN : Hid (FsE w s n (.returned (.slice (some ⟨g, 0, none⟩) D.length c)) wr) := ⟨⟨D, _, by rw [hm]; exact I.out.2, rfl, I.out.1.1⟩, I.out.1.2⟩
      rw [hd] at NN
      go_wp2
      go_ret
      exact NN.out
end Go.Proofs.Ytnkmiljnilmicaa
