/-
  Outliers by the program: walked.
-/
import Derived.Test.YtnlbnjdfkbhkhaaOd
import Derived.Test.YtnlbnjdfkbhkhaaLs
import Derived.Test.YtnlbnjdfkbhkhaaLd
namespace Go.Proofs.Ytnlbnjdfkbhkhaa
open Go.RowKit

def outOk (f : Nat → Int) (n : Nat) (M : Int) : Prop := n ≤ 60 ∧ allO f n ∧ 0 ≤ M ∧ M ≤ 1000000
def lenOf : Value → Nat
  | .slice _ n _ => n
  | _ => 0
theorem toI_cut (l : List Nat) (p : Nat) : (toI l).take p ++ (toI l).drop (p + 1) = toI (l.take p ++ l.drop (p + 1)) := by simp [toI]
set_option maxRecDepth 100000 in
set_option maxHeartbeats 6400000 in
theorem implOut_any {w : World} {g n c : Nat} {f : Nat → Int} {M : Int} (h : Recs 4 w g n f) (hn : n ≤ 1048576) :
    Calls Try.prog 13 #[.slice (some ⟨g, 0, none⟩) n c, .int .i64 M] w fun e w' => ∃ v A, e = .returned v ∧ Lst w' w.heap.size v A ∧ OutA f n M (outOk f n M) A ∧ Below w.heap.size w w' := by
  obtain ⟨i0, hi0, hz0, hz1, hz2⟩ := info_parts infoInt
  obtain ⟨V, hV, A0, B, -⟩ := boxed w 2 #[]
  have R : Lst V w.heap.size (.slice (some ⟨w.heap.size, 0, none⟩) 0 0) [] := Lst.start A0
  have hbs : ∀ w, (Instr.buildSlice 32 0 #[]).run Try.prog w = .ok (.slice (some ⟨w.heap.size, 0, none⟩) 0 0) (w.alloc (.cells #[] 2)) := fun _ => by kernel_rfl
  have hV1 := A0.lt
  clear A0
  by_cases h60 : n ≤ 60
  · have h60' : ¬ (n : Int) > 60 := by omega
    have hn' : (n : Int) ≤ 60 := by omega
    by_cases hO : allO f n
    · by_cases hM0 : 0 ≤ M
      · have hM0' : ¬ M < 0 := by omega
        by_cases hM1 : M ≤ 1000000
        · have hM1' : ¬ M > 1000000 := by omega
          have HOK : Hid (outOk f n M) := ⟨h60, hO, hM0, hM1⟩
          have HI : Hid (inI f n) := fun i hi => (hO i hi).2
          go_enter Try.func13, Try.ntmps13
          go_wp2_with fail
          refine (areObs_b (h.below B) hn true ⟨fun _ => hO, fun _ => rfl⟩).mono ?_
          rintro e w1 ⟨rfl, b1⟩
          replace R := R.below b1
          replace B := B.trans (b1.mono B.size)
          have hV2 := Nat.lt_of_lt_of_le hV1 b1.size
          clear hO b1 hV hV1
          go_wp2_with fail
          refine (numbers_any h60).mono ?_
          rintro e w2 ⟨v1, rfl, R1, b2⟩
          replace R := R.below b2
          replace B := B.trans (b2.mono B.size)
          obtain ⟨gl0, cl0, hv1, hgl0, hgl1, hcl0, hcl1, -⟩ := R1.cells
          have e0 : toI (List.range n) = toI (kl (fun _ => false) n) := by
            have : kl (fun _ => false) n = List.range n := List.filter_eq_self.2 (fun _ _ => rfl)
            rw [this]
          rw [e0] at R1 hv1
          have R1' : Lst w2 w.heap.size v1 (toI (kl (fun _ => false) n)) := by
            rw [hv1] at R1 ⊢
            obtain ⟨g', c', cur, e, q1, q2⟩ := R1.open
            cases e
            exact Lst.mk' (by omega) q2.1 q2.2.1 q2.2.2.1 q2.2.2.2.1 q2.2.2.2.2
          clear R1 b2
          subst hv1
          rw [toI_len] at R1' ⊢
          go_wp2
          go_loopw [5, 6] (fun s t wr => ∃ (l : List Nat) (G : Nat → Bool) (gl1 cl : Nat), chn f n M (fun _ => false) l G ∧ Lst wr w.heap.size s (toI l) ∧ t = .slice (some ⟨gl1, 0, none⟩) (kl G n).length cl ∧ Lst wr w.heap.size (.slice (some ⟨gl1, 0, none⟩) (kl G n).length cl) (toI (kl G n)) ∧ s.ownBlock ≠ some gl1 ∧ Below w.heap.size w wr) (fun _ t _ => lenOf t)
          case atStart =>
            refine ⟨[], fun _ => false, gl0, cl0, rfl, R, rfl, R1', ?_, B⟩
            intro e
            have e : w.heap.size = gl0 := by simpa [Value.ownBlock] using e
            omega
          case round =>
            clear R R1' B hV2 hgl0 hgl1 hcl0 hcl1
            obtain ⟨l, G, gl1, cl, hC, R, rfl, R1, hne, B⟩ := hrel
            have HC : Hid (chn f n M (fun _ => false) l G) := hC
            have HLN : Hid (l.length ≤ n) := hC.lt
            clear hC
            have hkn := kl_le G n
            obtain ⟨gl', cl', hvl, hgl2, hgl3, hcl2, hcl3, hcells⟩ := R1.cells
            rw [toI_len] at hvl hcl2 hcells
            cases hvl
            by_cases h3 : 2 < (kl G n).length
            · have HK3 : Hid (3 ≤ (kl G n).length) := h3
              obtain ⟨m, hm⟩ : ∃ m, (kl G n).length = m := ⟨_, rfl⟩
              have HM : Hid ((kl G n).length = m) := hm
              rw [hm] at h3 hkn hcl2 hcells R1 ⊢
              clear hm
              have h3' : (m : Int) > 2 := by omega
              have hm60 : (m : Int) ≤ 60 := by omega
              have hcells' : ∀ i, i < m → wr.cell? ⟨gl1, i, none⟩ = some (.int .i64 (((kl G n).getD i 0 : Nat) : Int)) := fun i hi => by
                rw [hcells i hi, toI_getD _ (by rw [HM.out]; exact hi)]
              clear hcells
              go_wp2_with fail
              refine (farthest_any (h.below B) h60 HI.out HM.out (by omega) (fun i hi => (kl_at (by rw [HM.out]; exact hi)).1) hgl3 hcells').mono ?_
              rintro e w3 ⟨p, D, rfl, hF, b3⟩
              have hpm : p < m := hF.lt (by omega)
              have HF : Hid (FarK (df f (kl G n).length (sm f (kl G n))) (kl G n) (kl G n).length p D) := by
                show FarK _ _ _ _ _
                rw [HM.out]; exact hF
              clear hF
              replace R := R.below b3
              replace R1 := R1.below b3
              replace B := B.trans (b3.mono B.size)
              have c0 := (b3.cell (p := ⟨gl1, p, none⟩) hgl3).trans (hcells' p hpm)
              have hgl4 := Nat.lt_of_lt_of_le hgl3 b3.size
              clear hcells' b3 hgl3
              have hpm' : (p : Int) < (m : Int) := by omega
              obtain ⟨T, hT⟩ : ∃ T, M * (m : Int) = T := ⟨_, rfl⟩
              have hTb : 0 ≤ T ∧ T ≤ 60000000 := by
                rw [← hT]
                refine ⟨Int.mul_nonneg hM0 (by omega), ?_⟩
                have := Int.mul_le_mul hM1 hm60 (by omega) (by omega : (0 : Int) ≤ 1000000)
                omega
              have w1 : IntKind.i64.wrap (M * (m : Int)) = T := by rw [hT, IntKind.wrap_i64]; omega
              have HT : Hid (M * ((kl G n).length : Int) = T) := by
                show _ = _
                rw [HM.out]; exact hT
              clear hT
              by_cases hD : D ≤ T
              · have HN : Hid (∀ x, ¬ Pick f n M G x) := HF.out.none (by rw [HT.out]; exact hD)
                clear HF c0
                obtain ⟨go, co, hvo, hgo, hlo, hco, hcm, -⟩ := R.cells
                subst hvo
                have hH := R.holds
                have HC2 : Hid ((toI l).mergeSort (fun x y => decide (x ≤ y)) = toI (gl G n)) := sorted_gl HC.out
                have HL9 : Hid ((toI l).length = (toI (gl G n)).length) := by
                  show _ = _
                  rw [← HC2.out]; simp
                go_wp2_with fail
                refine (sort_any go 0 co (toI l) _ hH hlo (by have := HLN.out; rw [toI_len]; omega)).mono ?_
                rintro e w9 ⟨rfl, nn, os, hw9⟩
                have R9 := R.sorted (n := nn) (os := os) (ts := (toI l).mergeSort fun x y => decide (x ≤ y)) (by simp)
                have G9 := grownBy_sortedI (w := w3) (g := go) (n := nn) (os := os) ((toI l).mergeSort fun x y => decide (x ≤ y)).toArray
                rw [← hw9] at R9 G9
                have B9 := grown_below B G9 B.size (fun k hk => by cases hk; exact hgo)
                rw [HC2.out] at R9
                clear hw9 G9 hH R
                rw [HL9.out]
                go_wp2
                exact bodyPost_ret (v := .slice (some ⟨go, 0, none⟩) (toI (gl G n)).length co) (by simp [results, Try.results13, go_sem]) rfl ⟨_, _, rfl, R9, .inl ⟨HOK.out, l, G, HC.out, HN.out, rfl⟩, B9⟩
              · obtain ⟨x, hx⟩ : ∃ x, (kl G n).getD p 0 = x := ⟨_, rfl⟩
                have HP : Hid (Pick f n M G x) := by
                  show Pick _ _ _ _ _
                  rw [← hx]
                  exact HF.out.pick HK3.out (by rw [HT.out]; exact hD)
                have HCut : Hid ((toI (kl G n)).take p ++ (toI (kl G n)).drop (p + 1) = toI (kl (upd G x) n)) := by
                  show _ = _
                  rw [toI_cut, kl_cut (by rw [HM.out]; exact hpm), hx]
                have HCl : Hid ((kl (upd G x) n).length + 1 = m) := by
                  show _ = _
                  rw [kl_cut_len HP.out.2.1 HP.out.2.2.1, HM.out]
                rw [hx] at c0
                clear HF hx
                obtain ⟨V9, hV9, A9, b10, -⟩ := boxed w3 2 #[.int .i64 (x : Int)]
                have R9 := R.below b10
                have R19 := R1.below b10
                have B9 := B.trans (b10.mono B.size)
                have hgl5 := Nat.lt_of_lt_of_le hgl4 b10.size
                obtain ⟨g9, hg9⟩ : ∃ g, w3.heap.size = g := ⟨_, rfl⟩
                rw [hg9] at A9
                have hb2 : ∀ w, (Instr.buildSlice 32 1 #[(0, .int .i64 (x : Int))]).run Try.prog w = .ok (.slice (some ⟨w.heap.size, 0, none⟩) 1 1) (w.alloc (.cells #[.int .i64 (x : Int)] 2)) := fun _ => by kernel_rfl
                obtain ⟨ml, hml⟩ : ∃ ml, (toI l).length = ml := ⟨_, rfl⟩
                have hmln : ml ≤ n := by have := HLN.out; rw [← hml, toI_len]; exact this
                have hown := R9.own
                rw [hml] at hown
                have hz9 := B9.size
                clear b10 R R1 B hgl4
                go_wp2_with (at_builtin; refine wpList_append_own_at _ rfl _ _ _ rfl w.heap.size 2 i0 _ 1 8 Try.underlying32 hi0 hz0 hz1 hz2 rfl (by omega) u5 ml (lCells (toI l)) rfl hown ⟨g9, 0, none⟩ 1 1 (lCells [(x : Int)]) rfl rfl (news1 A9) (lCells_one _) (by unfold maxLen; omega) (by omega) (by omega) ?_; intro v2 w4 hown2 hgrow2 hne2 hat2; refine Hid.out (?_ : Hid _))
                rw [← hml] at hown2
                have R2 : Lst w4 w.heap.size v2 (toI (l ++ [x])) := by
                  have := R9.grown hown2 hne2
                  simpa [toI] using this
                have R12 := R19.keep hgrow2 (fun e => hne e.symm)
                have B2 := grown_below B9 hgrow2 hz9 (fun j hj => (R9.ge hj).1)
                have hne3 : v2.ownBlock ≠ some gl1 := by
                  rcases hat2 with e | e
                  · rw [e]; exact hne
                  · rw [e]
                    intro e2
                    have : V9.heap.size = gl1 := by simpa using e2
                    omega
                clear R9 R19 B9 hown hown2 hgrow2 hne2 hat2 A9 hV9 hne c0 hz9 hgl5
                refine (?_ : wpList _ _ _ _ _ _)
                have R13 : Lst w4 w.heap.size (.slice (some ⟨gl1, 0, none⟩) (toI (kl G n)).length cl) (toI (kl G n)) := by rw [toI_len, HM.out]; exact R12
                have hd := del_any gl1 0 cl p (p + 1) (toI (kl G n)) w4 R13.holds (by rw [toI_len, HM.out]; exact hcl2) hcl3 (by omega) (by rw [toI_len, HM.out]; omega)
                rw [toI_len, HM.out, show p + 1 - p = 1 by omega, show ((p + 1 : Nat) : Int) = (p : Int) + 1 by omega] at hd
                go_wp2_with fail
                refine hd.mono ?_
                rintro e w5 ⟨rfl, q, hw5⟩
                have R5 := R13.cut (n := q) (ts := (toI (kl G n)).take p ++ (toI (kl G n)).drop (p + 1)) (zs := List.replicate 1 0) (by
                  simp only [List.length_append, List.length_take, List.length_drop, List.length_replicate, toI_len, HM.out]
                  omega)
                have G5 := cut_grown (w := w4) (g := gl1) (n := q) ((toI (kl G n)).take p ++ (toI (kl G n)).drop (p + 1) ++ List.replicate 1 0).toArray
                rw [← hw5] at R5 G5
                have R6 := R2.keep G5 hne3
                have B6 := grown_below B2 G5 B2.size (fun k hk => by cases hk; exact hgl2)
                rw [HCut.out, toI_len] at R5
                have hm1 : m - 1 = (kl (upd G x) n).length := by have := HCl.out; omega
                rw [hm1]
                clear hw5 hd G5 R2 R12 R13 B2 hm1
                go_wp2
                exact ⟨⟨l ++ [x], upd G x, gl1, cl, HC.out.snoc HP.out, R6, rfl, R5, hne3, B6⟩, by have := HCl.out; simp [lenOf]; omega⟩
            · have h3' : ¬ ((kl G n).length : Int) > 2 := by omega
              have HN : Hid (∀ x, ¬ Pick f n M G x) := few_none (by omega)
              clear hcells
              obtain ⟨go, co, hvo, hgo, hlo, hco, hcm, -⟩ := R.cells
              subst hvo
              have hH := R.holds
              have HC2 : Hid ((toI l).mergeSort (fun x y => decide (x ≤ y)) = toI (gl G n)) := sorted_gl HC.out
              have HL9 : Hid ((toI l).length = (toI (gl G n)).length) := by
                show _ = _
                rw [← HC2.out]; simp
              go_wp2_with fail
              refine (sort_any go 0 co (toI l) _ hH hlo (by have := HLN.out; rw [toI_len]; omega)).mono ?_
              rintro e w9 ⟨rfl, nn, os, hw9⟩
              have R9 := R.sorted (n := nn) (os := os) (ts := (toI l).mergeSort fun x y => decide (x ≤ y)) (by simp)
              have G9 := grownBy_sortedI (w := wr) (g := go) (n := nn) (os := os) ((toI l).mergeSort fun x y => decide (x ≤ y)).toArray
              rw [← hw9] at R9 G9
              have B9 := grown_below B G9 B.size (fun k hk => by cases hk; exact hgo)
              rw [HC2.out] at R9
              clear hw9 G9 hH R
              rw [HL9.out]
              go_wp2
              exact bodyPost_ret (v := .slice (some ⟨go, 0, none⟩) (toI (gl G n)).length co) (by simp [results, Try.results13, go_sem]) rfl ⟨_, _, rfl, R9, .inl ⟨HOK.out, l, G, HC.out, HN.out, rfl⟩, B9⟩
        · have hM1' : M > 1000000 := by omega
          go_enter Try.func13, Try.ntmps13
          go_wp2_with fail
          refine (areObs_b (h.below B) hn true ⟨fun _ => hO, fun _ => rfl⟩).mono ?_
          rintro e w1 ⟨rfl, b1⟩
          replace R := R.below b1
          replace B := B.trans (b1.mono B.size)
          clear hO b1 hV hV1
          go_wp2
          exact bodyPost_ret (v := .slice (some ⟨w.heap.size, 0, none⟩) 0 0) (by simp [results, Try.results13, go_sem]) rfl ⟨_, _, rfl, R, .inr ⟨fun hh => absurd hh.2.2.2 (by omega), rfl⟩, B⟩
      · have hM0' : M < 0 := by omega
        go_enter Try.func13, Try.ntmps13
        go_wp2_with fail
        refine (areObs_b (h.below B) hn true ⟨fun _ => hO, fun _ => rfl⟩).mono ?_
        rintro e w1 ⟨rfl, b1⟩
        replace R := R.below b1
        replace B := B.trans (b1.mono B.size)
        clear hO b1 hV hV1
        go_wp2
        exact bodyPost_ret (v := .slice (some ⟨w.heap.size, 0, none⟩) 0 0) (by simp [results, Try.results13, go_sem]) rfl ⟨_, _, rfl, R, .inr ⟨fun hh => absurd hh.2.2.1 (by omega), rfl⟩, B⟩
    · go_enter Try.func13, Try.ntmps13
      go_wp2_with fail
      refine (areObs_b (h.below B) hn false ⟨fun h => Bool.noConfusion h, fun h => absurd h hO⟩).mono ?_
      rintro e w1 ⟨rfl, b1⟩
      replace R := R.below b1
      replace B := B.trans (b1.mono B.size)
      clear b1 hV hV1
      go_wp2
      exact bodyPost_ret (v := .slice (some ⟨w.heap.size, 0, none⟩) 0 0) (by simp [results, Try.results13, go_sem]) rfl ⟨_, _, rfl, R, .inr ⟨fun hh => hO hh.2.1, rfl⟩, B⟩
  · have h60' : (n : Int) > 60 := by omega
    go_enter Try.func13, Try.ntmps13
    go_wp2
    exact bodyPost_ret (v := .slice (some ⟨w.heap.size, 0, none⟩) 0 0) (by simp [results, Try.results13, go_sem]) rfl ⟨_, _, rfl, R, .inr ⟨fun hh => h60 hh.1, rfl⟩, B⟩
end Go.Proofs.Ytnlbnjdfkbhkhaa
