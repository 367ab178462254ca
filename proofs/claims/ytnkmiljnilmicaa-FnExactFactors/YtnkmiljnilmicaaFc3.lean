/-
  Factors by the program: walked.
-/
import Derived.Test.YtnkmiljnilmicaaFc2
import Derived.Test.YtnkmiljnilmicaaGu
namespace Go.Proofs.Ytnkmiljnilmicaa
open Go.RowKit Go.Shelf
attribute [local go_sem] Oper.semAt_some

theorem FaE.put {w W : World} {s : ByteArray} {n D : Nat} {e : Ending} {x : Option (List Deferred)} {o' : Obj} (h : FaE w s n e W) (hd : W.heap[D]? = some (.deferred x)) (hw : w.heap.size ≤ D) : FaE w s n e (W.putObj D o') := by
  obtain ⟨⟨D', g, c, h1, h2, h3, h4, h5, h6, h7⟩, hb⟩ := h
  refine ⟨⟨D', g, c, h1, h2, h3, Nat.lt_of_lt_of_le h4 (grownBy_putObj' W D o').size, h5, fun j x hx => ?_, h7.kp fun k hk => ?_⟩, hb.trans (belowK_b (w := w) (Nat.le_refl _) W D _ _ hw hd rfl rfl)⟩
  · have hc := h6 j x hx
    have hne : g ≠ D := fun e => by
      subst e
      simp [World.cell?, hd] at hc
    exact (World.cell?_of_block (World.putObj_heap_other hne)).trans hc
  · obtain ⟨cur, hc⟩ := h7.at hk
    refine World.putObj_heap_other fun e => ?_
    subst e
    have := (show W.heap[k]? = _ from hc).symm.trans hd
    simp at this
set_option maxRecDepth 100000 in
set_option maxHeartbeats 4000000 in
theorem implFactors_yes {w : World} (s : ByteArray) (n : Nat) (h : rowOk s 1000 = true) (hn : 1 ≤ n ∧ n ≤ 40) :
    Calls Try.prog 8 #[.string s, .int .i64 (n : Int)] w (FaE w s n) := by
  have hwf : ∀ f, Fence.wide.fn f := fun _ => trivial
  have hwd : Fence.wide.depth.isSome = false := rfl
  obtain ⟨hsz, -⟩ := rowOk_iff.1 h
  have hsz' : s.size ≤ 1000 := by omega
  have hn1 : ¬ (n : Int) < 1 := by omega
  have hn2 : ¬ (40 : Int) < (n : Int) := by omega
  have HROW := hid_of h
  have CR : ∀ w, Calls Try.prog 18 #[.string s, .int .i64 1000] w fun e w' => e = .returned (.bool true) ∧ w = w' := fun w => by
    have h2 := isRow_any s 1000 w (by omega)
    rw [h] at h2
    exact h2
  clear h hsz
  obtain ⟨m, hm⟩ : ∃ m, s.size + 1 - n = m := ⟨_, rfl⟩
  obtain ⟨bm, hbm⟩ : ∃ q, w.heap.size = q := ⟨_, rfl⟩
  obtain ⟨W1, hW1⟩ : ∃ W, w.alloc (.map #[] 0) = W := ⟨_, rfl⟩
  have M1 : MapI W1 bm [] (fun _ => 0) := by rw [← hW1, ← hbm]; exact mapI_new w
  have b1 : Below w.heap.size w W1 := hW1 ▸ below_alloc _ _
  have HBM : Hid (w.heap.size ≤ bm) := hbm ▸ Nat.le_refl _
  have hmk := makeMapI w
  rw [hbm, hW1] at hmk
  obtain ⟨q5, hq5⟩ : ∃ q, W1.heap.size = q := ⟨_, rfl⟩
  obtain ⟨W2, hW2, a2, b2, -⟩ := boxed W1 40 #[.map (some bm)]
  rw [hq5] at a2
  have lm : bm < q5 := by have := M1.lt; omega
  have M2 := hid_of (M1.below b2)
  have B2 := hid_of (b1.trans (b2.mono b1.size))
  have A2 := hid_of a2
  clear M1 b1 b2 a2
  refine (callsIn_wide (n := 9)).1 ?_
  refine callsIn_of_wp_marks Try.func8 rfl trivial ?_ rfl
  simp only [Try.ntmps8, List.size_toArray, List.length_cons, List.length_nil, Nat.reduceAdd, Nat.reduceSub, Array.replicate_succ, Array.replicate_zero, List.push_toArray, List.append_toArray, List.nil_append, List.cons_append]
  gi_wp2_with fail
  refine (callsIn_wide.2 (CR _)).mono ?_
  rintro e w1 ⟨rfl, rfl⟩
  gi_wp2_with fail
  refine (callsIn_wide.2 (stretches_any s n _)).mono ?_
  rintro e W3 ⟨rfl, hW3⟩
  clear hmk hW1 hbm hq5
  obtain ⟨qs, hqs⟩ : ∃ q, W2.heap.size = q := ⟨_, rfl⟩
  obtain ⟨V3, hV3, a3, b3, -⟩ := boxed W2 9 #[.string s]
  obtain ⟨V4, hV4, a4, b4, l4⟩ := boxed V3 3 #[.int .i64 (n : Int)]
  have lV3 : V3.heap.size = qs + 1 := by rw [← hV3, ← hqs]; simp
  rw [hqs] at a3
  rw [lV3] at a4
  rw [hV3, hV4] at hW3
  subst hW3
  have b34 := b3.trans (b4.mono b3.size)
  have B4 : Below w.heap.size w W3 := B2.out.trans (b34.mono B2.out.size)
  have l5 : q5 < qs := by rw [← hqs]; exact A2.out.lt
  have hbw : w.heap.size ≤ bm := HBM.out
  have l4' : qs + 1 < W3.heap.size := a4.lt
  have SS : StS W3 W3.heap.size (fun k => k = bm) qs (qs + 1) s n := ⟨(b4.cell (p := ⟨qs, 0, none⟩) a3.lt).trans (a3.cell 0 rfl), a4.cell 0 rfl, ⟨by omega, by omega, by omega, by omega, Nat.le_refl _⟩⟩
  have PST := stretch_stops 8 SS hn hsz' hm
  have HI0 : Hid (CtI w W3 bm s n [] W3) := ⟨B4, KpS.refl _ _ _, [], M2.out.below b34, Nat.le_refl _⟩
  have HB4 := hid_of B4
  have A4 := hid_of (A2.out.below b34)
  have e1 : decide ((n : Int) < 1) = false := by simp; omega
  have e2 : decide ((40 : Int) < (n : Int)) = false := by simp; omega
  clear a3 a4 b3 b4 b34 B4 SS M2 l4 lV3 A2 B2
  gi_wp2
  clear e1 e2 hV3 hV4 hqs
  refine wpIn_rangeFunc_ownH rfl (by omega) (gf := 29) (lb := #[.pointer (some ⟨qs + 1, 0, none⟩), .pointer (some ⟨qs, 0, none⟩)]) rfl trivial (enters_of Try.func29 (by kernel_rfl) rfl)
    PST KpS.t (kpS_b (Nat.le_refl _)) (Below.refl _ _) (fun _ => rfl)
    (fun pre W => CtI w W3 bm s n (pre.map (·.1)) W) (fun _ _ _ => False) (CtI.own HB4.out.size (by omega)) (fun _ _ _ _ _ hs _ _ => hs) HI0.out
    (fun y a' _ => a' = { tmps := #[.string s, .int .i64 (n : Int), undef, undef, .slice none 0 0, .pointer (some ⟨q5, 0, none⟩), .string (sx s n y.1), undef, undef, .string s, .bool true, .bool false, .bool false, .int .i64 (n : Int), .bool false, .bool false, .bool false, .int .i64 (n : Int), .bool false, .bool false, undef, .map (some bm), .string s, .int .i64 (n : Int), .func (.func 29) #[] #[.pointer (some ⟨qs + 1, 0, none⟩), .pointer (some ⟨qs, 0, none⟩)], .string (sx s n y.1), undef, undef, undef, undef, undef, undef, undef, undef, undef, undef, undef, undef, undef, undef, undef, undef, undef, undef, undef, undef, undef, undef, undef], defers := [] })
    (fun y a' _ X Y row hs hg hr => hs)
    ?assign ?body ?done ?stop
  case assign =>
    rintro l2 pre y W K hI hK
    have hsz : W3.heap.size ≤ W.heap.size := hI.2.1.1
    gi_wp2
    exact hK _ _ (keepsF_below (Below.refl _ _)) (KpS.refl _ _ _) hI rfl
  case body =>
    rintro l pre ⟨j, hj⟩ a' W hl - ⟨hbw, hkW, ks, hM, hks⟩ rfl hlt
    dsimp only
    have M5 := (show At 40 W q5 #[.map (some bm)] from (hkW.2 q5 (by omega) (by omega)).trans A4.out).cell
    have hxs := sx_size (s := s) (n := n) (i := j) (by omega)
    have hsn : sxL s n ((pre ++ [(⟨j, hj⟩ : { x : Nat // x < m })]).map (·.1)) = sxL s n (pre.map (·.1)) ++ [sx s n j] := by
      unfold sxL
      simp
    obtain ⟨x, hx⟩ : ∃ x, sx s n j = x := ⟨_, rfl⟩
    rw [hx] at hxs hsn ⊢
    have hsm : smI x := by show x.size ≤ 1000000; omega
    have hlk := hM.look hsm
    have hct := ctT_le (sxL s n (pre.map (·.1))) x
    have hlen : (sxL s n (pre.map (·.1))).length = pre.length := by unfold sxL; simp
    rw [hlen] at hct
    have hkl : ks.length ≤ pre.length := by simpa using hks
    have hsnoc := ctT_snoc (sxL s n (pre.map (·.1))) x
    obtain ⟨c, hc⟩ : ∃ c, ctT (sxL s n (pre.map (·.1))) x = c := ⟨_, rfl⟩
    rw [hc] at hlk hct hsnoc
    have hpl : pre.length ≤ 1001 := by omega
    obtain ⟨W8, ks8, hput, hM8, -, hl8, hg8, hz8⟩ := hM.put (x := x) (n := c + 1) hsm (wfI ⟨by omega, by omega⟩) (by unfold maxLen; omega)
    rw [← hsnoc, ← hsn] at hM8
    unfold aVI at hlk hput
    have hbm3 : bm < W3.heap.size := by omega
    have FI : Hid (CtI w W3 bm s n ((pre ++ [(⟨j, hj⟩ : { x : Nat // x < m })]).map (·.1)) W8) :=
      ⟨hbw.trans ((Below.refl _ W).grown hg8 hbw.size (fun k e => by cases e; omega)), hkW.t ⟨hg8.size, fun k hk hS => hg8.block k (Nat.lt_of_lt_of_le hk hkW.1) (fun e => by cases e; exact hS rfl)⟩, ks8, hM8, by simp; omega⟩
    have HKF : Hid (KeepsFrom W3.heap.size W W8) := ⟨hg8.size, fun k _ hB hk _ => (hg8.block k (Array.getElem?_eq_some_iff.1 hk).1 (fun e => by cases e; omega)).trans hk⟩
    have HKP : Hid (KpS W3.heap.size (fun k => k = bm) W W8) := ⟨hg8.size, fun k hk hS => hg8.block k (Nat.lt_of_lt_of_le hk hkW.1) (fun e => by cases e; exact hS rfl)⟩
    have c5 := M5 0 rfl
    have hcw : IntKind.i64.wrap (c + 1) = c + 1 := IntWalk.i64_in _ (by omega)
    clear hM8 hM hg8 hbw hkW hks hsnoc hsn hc hx M5 hlen
    gi_wp2
    exact ⟨HKF.out, HKP.out, FI.out⟩
  case done =>
    rintro D xs W hD rfl ⟨hbw, hkW, ks, hM, hks⟩ hK
    dsimp only
    have hev : (upl m m).map (·.1) = List.range m := upl_vals m m (Nat.le_refl _)
    rw [hev] at hM hks
    have A5 := (hkW.2 q5 (by omega) (by omega)).trans A4.out
    have hW3 := hkW.1
    have hbs : ∀ w, (Instr.buildSlice 27 0 #[]).run Try.prog w = .ok (.slice (some ⟨w.heap.size, 0, none⟩) 0 0) (w.alloc (.cells #[] 9)) := fun _ => by kernel_rfl
    obtain ⟨gd, hgd⟩ : ∃ q, W.heap.size = q := ⟨_, rfl⟩
    obtain ⟨U1, hU1, u1, d1, -⟩ := boxed W 9 #[]
    rw [hgd] at u1
    obtain ⟨q7, hq7⟩ : ∃ q, U1.heap.size = q := ⟨_, rfl⟩
    obtain ⟨U2, hU2, u2, d2, -⟩ := boxed U1 27 #[.slice (some ⟨gd, 0, none⟩) 0 0]
    rw [hq7] at u2
    have TX := hid_of (show TxL U1 w.heap.size (.slice (some ⟨gd, 0, none⟩) 0 0) [] from ⟨⟨rfl, .inr ⟨gd, 0, #[], rfl, by have := hbw.size; omega, u1, Nat.le_refl _, Nat.zero_le _, rfl, rfl⟩⟩, fun h => by cases h⟩)
    gi_wp2_with fail
    refine (callsIn_wide.2 (stretches_any s n _)).mono ?_
    rintro e W9 ⟨rfl, hW9⟩
    obtain ⟨pq, hpq⟩ : ∃ q, U2.heap.size = q := ⟨_, rfl⟩
    obtain ⟨V3, hV3, a3, b3, -⟩ := boxed U2 9 #[.string s]
    obtain ⟨V4, hV4, a4, b4, l4⟩ := boxed V3 3 #[.int .i64 (n : Int)]
    have lV3 : V3.heap.size = pq + 1 := by rw [← hV3, ← hpq]; simp
    rw [hpq] at a3
    rw [lV3] at a4
    rw [hV3, hV4] at hW9
    subst hW9
    have b34 := b3.trans (b4.mono b3.size)
    have d29 := d2.trans (b34.mono d2.size)
    have d9 := d1.trans (d29.mono d1.size)
    have lgd : gd < q7 := by have := u1.lt; omega
    have l7 : q7 < pq := by rw [← hpq]; exact u2.lt
    have l4' : pq + 1 < W9.heap.size := a4.lt
    have hDW : D < gd := by rw [← hgd]; exact (Array.getElem?_eq_some_iff.1 hK).1
    have B9 : Hid (Below w.heap.size w W9) := hbw.trans (d9.mono hbw.size)
    have KD := hid_of ((d9.block D (by omega)).trans hK)
    have HA9 : Hid (At 40 W9 q5 #[.map (some bm)]) := (d9.block q5 (by omega)).trans A5
    obtain ⟨L, hL⟩ : ∃ L, sxL s n (List.range m) = L := ⟨_, rfl⟩
    rw [hL] at hM
    have HLM : Hid (∀ j, j < m → sx s n j ∈ L) := fun j hj => by
      rw [← hL]
      exact List.mem_map_of_mem (List.mem_range.2 hj)
    have HLL : Hid (∀ x, ctT L x ≤ 1001) := fun x => by
      have h1 := (ctT_le L x).2
      have h2 : L.length = m := by rw [← hL]; simp [sxL]
      omega
    have SS : StS W9 W9.heap.size (fun k => k = bm ∨ k = q7 ∨ k = gd) pq (pq + 1) s n := ⟨(b4.cell (p := ⟨pq, 0, none⟩) a3.lt).trans (a3.cell 0 rfl), a4.cell 0 rfl, ⟨by omega, by omega, by omega, by omega, Nat.le_refl _⟩⟩
    have PST2 := stretch_stops 8 SS hn hsz' hm
    have HI2 : Hid (OuI w W9 bm q7 gd L [] W9) := ⟨B9.out, KpS.refl _ _ _, ⟨ks, by rw [ltT_nil]; exact hM.below d9, by rw [List.length_range] at hks; omega⟩, _, u2.below b34, TX.out.below d29, fun k hk => .inl (by cases hk; rfl)⟩
    clear a3 a4 b3 b4 b34 d1 d2 d29 d9 hM hks hK A5 SS TX u1 u2 hU1 hU2 hgd hq7 hbw hkW hev l4 lV3 PST HI0
    gi_wp2
    clear hpq hV3 hV4
    refine wpIn_rangeFunc_ownH rfl (by omega) (gf := 29) (lb := #[.pointer (some ⟨pq + 1, 0, none⟩), .pointer (some ⟨pq, 0, none⟩)]) rfl trivial (enters_of Try.func29 (by kernel_rfl) rfl)
      PST2 KpS.t (kpS_b (Nat.le_refl _)) (Below.refl _ _) (fun _ => rfl)
      (fun pre W => OuI w W9 bm q7 gd L (pre.map fun y => sx s n y.1) W) (fun _ _ _ => False) (OuI.own B9.out.size (by omega) (by omega)) (fun _ _ _ _ _ hs _ _ => hs) HI2.out
      (fun y a' _ => a' = { tmps := #[.string s, .int .i64 (n : Int), undef, undef, .slice none 0 0, .pointer (some ⟨q5, 0, none⟩), undef, .pointer (some ⟨q7, 0, none⟩), .string (sx s n y.1), .string s, .bool true, .bool false, .bool false, .int .i64 (n : Int), .bool false, .bool false, .bool false, .int .i64 (n : Int), .bool false, .bool false, undef, .map (some bm), .string s, .int .i64 (n : Int), .func (.func 29) #[] #[.pointer (some ⟨qs + 1, 0, none⟩), .pointer (some ⟨qs, 0, none⟩)], undef, undef, undef, undef, undef, .slice (some ⟨gd, 0, none⟩) 0 0, .string s, .int .i64 (n : Int), .func (.func 29) #[] #[.pointer (some ⟨pq + 1, 0, none⟩), .pointer (some ⟨pq, 0, none⟩)], .string (sx s n y.1), undef, undef, undef, undef, undef, undef, undef, undef, undef, undef, undef, undef, undef, undef], defers := [] })
      (fun y a' _ X Y row hs hg hr => hs)
      ?assign2 ?body2 ?done2 ?stop2
    case assign2 =>
      rintro l2 pre y W K hI hK
      gi_wp2
      exact hK _ _ (keepsF_below (Below.refl _ _)) (KpS.refl _ _ _) hI rfl
    case body2 =>
      rintro l pre ⟨j, hj⟩ a' W hl - ⟨hbw, hkW, ⟨ks, hM, hks⟩, v, hQ7, hTX, hvg⟩ rfl hlt
      dsimp only
      have M5 := (show At 40 W q5 #[.map (some bm)] from (hkW.2 q5 (by omega) (by omega)).trans HA9.out).cell
      have hxs := sx_size (s := s) (n := n) (i := j) (by omega)
      have hxL := HLM.out j hj
      have hmap : (pre ++ [(⟨j, hj⟩ : { x : Nat // x < m })]).map (fun y => sx s n y.1) = pre.map (fun y => sx s n y.1) ++ [sx s n j] := by simp
      obtain ⟨x, hx⟩ : ∃ x, sx s n j = x := ⟨_, rfl⟩
      rw [hx] at hxs hxL hmap ⊢
      obtain ⟨lp, hlp⟩ : ∃ l, pre.map (fun y => sx s n y.1) = l := ⟨_, rfl⟩
      have hll : lp.length = pre.length := by rw [← hlp]; simp
      rw [hlp] at hM hTX hmap
      have hsm : smI x := by show x.size ≤ 1000000; omega
      have hx6 : x.size ≤ 1000000 := hsm
      have hlk := hM.look hsm
      have c5 := M5 0 rfl
      by_cases hin : x ∈ dd lp
      · rw [ltT_in hin] at hlk
        unfold aVI at hlk
        have FI : Hid (OuI w W9 bm q7 gd L ((pre ++ [(⟨j, hj⟩ : { x : Nat // x < m })]).map fun y => sx s n y.1) W) := by
          refine ⟨hbw, hkW, ⟨ks, ?_, hks⟩, v, hQ7, ?_, hvg⟩
          · rw [hmap, ltT_yes hin]; exact hM
          · rw [hmap, dd_snoc, ddF_yes hin]; exact hTX
        clear hM hTX hQ7 hvg hbw hkW M5 hmap hlp hx
        gi_wp2
        exact ⟨keepsF_below (Below.refl _ _), KpS.refl _ _ _, FI.out⟩
      · rw [ltT_out hin] at hlk
        have hct := ctT_pos hxL
        have hc1 := HLL.out x
        obtain ⟨c, hc⟩ : ∃ c, ctT L x = c := ⟨_, rfl⟩
        rw [hc] at hlk hct hc1
        unfold aVI at hlk
        obtain ⟨gv, cv, rfl, -, hgv, hgw, hcv⟩ := hTX.open
        obtain ⟨dl, hdl⟩ : ∃ d, (dd lp).length = d := ⟨_, rfl⟩
        have hdl1 : dl ≤ 1001 := by have := dd_len lp; omega
        rw [hdl] at hQ7 hTX hvg hcv
        have n7v : gv ≠ q7 := fun e => by
          obtain ⟨cur, hcur⟩ := hTX.at (k := gv) rfl
          subst e
          have := (show W.heap[gv]? = _ from hcur).symm.trans hQ7
          simp at this
        have Q7 := hQ7
        have TX := hid_of hTX
        have hbw2 := hid_of hbw
        have HKW := hid_of hkW
        have HVG := hid_of hvg
        have HMP := hid_of hmap
        have HM := hid_of hM
        have HM5 : Hid (At 40 W q5 #[.map (some bm)]) := (hkW.2 q5 (by omega) (by omega)).trans HA9.out
        have hinf : (Try.prog.info? 9).map (fun i => (i.zero, i.size, i.bytes)) = some (some (.string ⟨#[]⟩), 1, 16) := by kernel_rfl
        obtain ⟨i0, hi0, hz0, hz1, hz2⟩ := info_parts hinf
        clear hinf
        clear hM hTX hQ7 hvg hbw hkW M5 hmap hlp hx hc
        gi_wp2_with fail
        obtain ⟨u0, hu0, bb⟩ : ∃ uu, W.drew = uu ∧ Below W.heap.size W uu := ⟨_, rfl, (Below.refl _ _).drew⟩
        have Q7u : At 27 u0 q7 #[.slice (some ⟨gv, 0, none⟩) dl cv] := (bb.block q7 (Array.getElem?_eq_some_iff.1 Q7).1).trans Q7
        have TXu := TX.out.below bb
        have HBu := hid_of (hbw2.out.trans (bb.mono hbw2.out.size))
        have hu0W : Hid (Below W.heap.size W u0) := bb
        have bu : Below u0.heap.size u0 u0 := Below.refl _ _
        clear bb
        refine region_held_in (S := fun w' => 0 ≤ w'.heap.size) (by kernel_rfl) (by rw [hu0]; exact Nat.zero_le _) (by kernel_rfl) (by rintro ⟨_, _, hf⟩; exact hf) (fun hHeld => ?_)
        rw [hu0] at hHeld ⊢
        clear hu0
        change wpAnyH _ _ _ _ _ 6 #[false, false, false, false, false, false] _ _
        refine wpAnyH_take (i := 1) (v := .string x) rfl (by kernel_rfl) (by kernel_rfl) (by kernel_rfl) (fun _ _ _ h => h) (Or.inl ⟨by kernel_rfl, ?_⟩) hHeld ?_
        · intro w' hSw; go_simp
        try simp only [Act.put, List.setIfInBounds_toArray, List.set_cons_zero, List.set_cons_succ, List.getElem_toArray, List.getElem_cons_succ, List.getElem_cons_zero]
        refine wpAnyH_ready (rs := [0, 2]) (by kernel_rfl) (by simp) ?_
        refine AllReadyH.cons rfl (fun KK hK' => ?_) (AllReadyH.cons rfl (fun KK hK' => ?_) AllReadyH.nil)
        · obtain c7 : u0.cell? ⟨q7, 0, none⟩ = some (.slice (some ⟨gv, 0, none⟩) dl cv) := Q7u.cell 0 rfl
          go_simp
          clear c7
          clear hHeld
          refine hK'.out _ _ (Nat.zero_le _) (fun hHeld => ?_)
          clear hK' KK
          try simp only [List.setIfInBounds_toArray, List.set_cons_zero]
          refine wpAnyH_ready (rs := [2]) (by kernel_rfl) (by simp) ?_
          refine AllReadyH.cons rfl (fun KK hK' => ?_) AllReadyH.nil
          go_simp
          refine (clone_any x _ hx6).mono ?_
          rintro e u2 ⟨rfl, bb⟩
          replace Q7u := Q7u.below bb
          replace TXu := TXu.below bb
          replace bu := bu.trans (bb.mono bu.size)
          clear bb
          try go_wp2_with fail
          clear hHeld
          refine hK'.out _ _ (Nat.zero_le _) (fun hHeld => ?_)
          clear hK' KK
          try simp only [List.setIfInBounds_toArray, List.set_cons_zero, List.set_cons_succ]
          refine wpAnyH_ready (rs := [3]) (by kernel_rfl) (by simp) ?_
          refine AllReadyH.cons rfl (fun KK hK' => ?_) AllReadyH.nil
          go_simp
          obtain ⟨u3, hV9, A9, bb, -⟩ := boxed u2 9 #[.string x]
          rw [hV9]
          clear hV9
          replace Q7u := Q7u.below bb
          replace TXu := TXu.below bb
          replace bu := bu.trans (bb.mono bu.size)
          have h9B : w.heap.size ≤ u3.heap.size := by have := bu.size; have := HBu.out.size; omega
          clear bb
          clear hHeld
          refine hK'.out _ _ (Nat.zero_le _) (fun hHeld => ?_)
          clear hK' KK
          try simp only [List.setIfInBounds_toArray, List.set_cons_zero, List.set_cons_succ]
          refine wpAnyH_ready (rs := [4]) (by kernel_rfl) (by simp) ?_
          refine AllReadyH.cons rfl (fun KK hK' => ?_) AllReadyH.nil
          have news := World.news_of_block (cs := #[.string x]) (t := 9) (fr := (0, 0)) A9
          have Rown := TXu.1
          rw [hdl] at Rown
          refine step_append_at _ (by rfl) _ _ _ (by rfl) w.heap.size 9 i0 _ 1 16 Try.underlying27 hi0 hz0 hz1 hz2 rfl (by omega) (.slice (some ⟨gv, 0, none⟩) dl cv) dl ((dd lp).map Value.string) (by rfl) Rown ⟨u2.heap.size, 0, none⟩ 1 1 [.string x] (by rfl) (by rfl) news (by simp [Value.oneCell']) (by unfold maxLen; omega) (by omega) h9B ?_
          intro v2 w9 hown2 hgrow2 hne2 hat2
          have e3 : v2 ≠ .slice none 0 0 := fun e => absurd (hne2.1 e).2 (by omega)
          have hgl : gv < u3.heap.size := by obtain ⟨cur, hcur⟩ := TXu.at (k := gv) rfl; exact hcur.lt
          have Q9 : At 27 w9 q7 #[.slice (some ⟨gv, 0, none⟩) dl cv] := (hgrow2.block q7 Q7u.lt (fun e => n7v (by injection e with e; exact e.symm))).trans Q7u
          have hzu : u0.heap.size ≤ u3.heap.size := bu.size
          have HE9 : Hid (∀ k, k < u0.heap.size → k ≠ gv → w9.heap[k]? = u0.heap[k]?) := fun k hk hne => (hgrow2.block k (Nat.lt_of_lt_of_le hk hzu) (fun e => hne (by injection e))).trans (bu.block k hk)
          have HB9 : Hid (Below w.heap.size w w9) := (HBu.out.trans (bu.mono HBu.out.size)).grown hgrow2 h9B (fun k e => by cases e; exact hgw)
          have HT9 : Hid (TxL w9 w.heap.size v2 (dd lp ++ [x])) := ⟨by rw [List.length_append, List.length_singleton, hdl, List.map_append]; exact hown2, e3⟩
          have HL9 : Hid (∀ k, v2.ownBlock = some k → k = gv ∨ u0.heap.size ≤ k) := fun k hk => by rcases hat2 with h | h <;> (rw [h] at hk; cases hk; first | exact .inl rfl | exact .inr hzu)
          have hz9 : u0.heap.size ≤ w9.heap.size := Nat.le_trans hzu hgrow2.size
          obtain ⟨g2, c2, ev2, -⟩ := HT9.out.open
          rw [show (dd lp ++ [x]).length = dl + 1 by rw [List.length_append, List.length_singleton, hdl]] at ev2
          clear hown2 hgrow2 hne2 hat2 e3 A9 news Rown TXu bu hgl hzu Q7u h9B
          subst ev2
          clear hHeld
          refine hK'.out _ _ (Nat.zero_le _) (fun hHeld => ?_)
          clear hK' KK
          try simp only [List.setIfInBounds_toArray, List.set_cons_zero, List.set_cons_succ]
          refine wpAnyH_ready (rs := [5]) (by kernel_rfl) (by simp) ?_
          refine AllReadyH.cons rfl (fun KK hK' => ?_) AllReadyH.nil
          have c7 : w9.cell? ⟨q7, 0, none⟩ = some (.slice (some ⟨gv, 0, none⟩) dl cv) := Q9.cell 0 rfl
          have f7 := Q9.frozen 0
          go_simp
          clear c7 f7
          clear hHeld
          refine hK'.out _ _ (Nat.zero_le _) (fun hHeld => ?_)
          clear hK' KK
          try simp only [List.setIfInBounds_toArray, List.set_cons_zero, List.set_cons_succ]
          refine wpAnyH_done (by kernel_rfl) ?_ _
          clear hHeld
          have hall : True := trivial
          obtain ⟨WZ, hWZ⟩ : ∃ W, w9.setCell ⟨q7, 0, none⟩ (.slice (some ⟨g2, 0, none⟩) (dl + 1) c2) = W := ⟨_, rfl⟩
          have QZ : At 27 WZ q7 #[(.slice (some ⟨g2, 0, none⟩) (dl + 1) c2)] := by rw [← hWZ]; simpa using Q9.set 0 (.slice (some ⟨g2, 0, none⟩) (dl + 1) c2)
          have hWu : W.heap.size ≤ u0.heap.size := hu0W.out.size
          have hEW : ∀ k, k < W.heap.size → k ≠ gv → k ≠ q7 → WZ.heap[k]? = W.heap[k]? := fun k hk h1 h2 => by
            rw [← hWZ]
            exact ((Below.heap_setCell _ _ _ k h2).trans (HE9.out k (Nat.lt_of_lt_of_le hk hWu) h1)).trans (hu0W.out.block k hk)
          have hzZ : w9.heap.size ≤ WZ.heap.size := by rw [← hWZ]; exact (KeepsWalks.setCell _ _ _).size
          have hW9W := HKW.out.1
          have hgvs := HVG.out gv rfl
          have n5v : q5 ≠ gv := by omega
          have nbv : bm ≠ gv := by omega
          have n57 : q5 ≠ q7 := by omega
          have nb7 : bm ≠ q7 := by omega
          have MZ : MapI WZ bm ks (ltT L lp) := HM.out.of_block (hEW bm HM.out.lt nbv nb7)
          have A5Z : At 40 WZ q5 #[.map (some bm)] := (hEW q5 HM5.out.lt n5v n57).trans HM5.out
          have c5Z : WZ.cell? ⟨q5, 0, none⟩ = some (.map (some bm)) := A5Z.cell 0 rfl
          obtain ⟨WE, ksE, hdrop, hME, -, hlE, hgE, hzE⟩ := MZ.drop (ty := 0) (x := x) hsm
          unfold aVI at hdrop
          have HWZ : Hid (w9.setCell ⟨q7, 0, none⟩ (.slice (some ⟨g2, 0, none⟩) (dl + 1) c2) = WZ) := hWZ
          have hEE : ∀ k, k < W.heap.size → k ≠ gv → k ≠ q7 → k ≠ bm → WE.heap[k]? = W.heap[k]? := fun k hk h1 h2 h3 => (hgE.block k (by omega) (fun e => h3 (by injection e))).trans (hEW k hk h1 h2)
          have hzWE : W.heap.size ≤ WE.heap.size := by omega
          have HKP : Hid (KpS W9.heap.size (fun k => k = bm ∨ k = q7 ∨ k = gd) W WE) := ⟨hzWE, fun k hk hS => by
            have h1 : k ≠ bm := fun e => hS (.inl e)
            have h2 : k ≠ q7 := fun e => hS (.inr (.inl e))
            have h3 : k ≠ gd := fun e => hS (.inr (.inr e))
            exact hEE k (by omega) (by omega) h2 h1⟩
          have HKF : Hid (KeepsFrom W9.heap.size W WE) := ⟨hzWE, fun k o hB hk ho => by
            have h2 : k ≠ gv := fun e => by
              subst e
              obtain ⟨cur, hcur⟩ := TX.out.at (k := k) rfl
              rw [show W.heap[k]? = _ from hcur] at hk
              cases hk
              cases ho
            exact (hEE k (Array.getElem?_eq_some_iff.1 hk).1 h2 (by omega) (by omega)).trans hk⟩
          have hbz : Below w.heap.size w WZ := by rw [← hWZ]; exact HB9.out.setCell (p := ⟨q7, 0, none⟩) (by show w.heap.size ≤ q7; omega) _
          have FI : Hid (OuI w W9 bm q7 gd L ((pre ++ [(⟨j, hj⟩ : { x : Nat // x < m })]).map fun y => sx s n y.1) WE) := by
            refine ⟨hbz.grown hgE hbz.size (fun k e => by cases e; omega), HKW.out.t HKP.out, ⟨ksE, by rw [HMP.out, ltT_no hin]; exact hME, by omega⟩, (.slice (some ⟨g2, 0, none⟩) (dl + 1) c2), (hgE.block q7 (by have := QZ.lt; omega) (fun e => nb7 (by injection e with e; exact e.symm))).trans QZ, ?_, fun k hk => ?_⟩
            · rw [HMP.out, dd_snoc, ddF_no hin]
              refine HT9.out.kp (fun k hk => ?_)
              obtain ⟨cur, hcur⟩ := HT9.out.at hk
              have h7 : k ≠ q7 := fun e => by
                subst e
                have := (show w9.heap[k]? = _ from hcur).symm.trans Q9
                simp at this
              have hb : k ≠ bm := fun e => by
                subst e
                obtain ⟨es, clock, hb, -⟩ := MZ
                rw [← hWZ, Below.heap_setCell _ _ _ k h7, show w9.heap[k]? = _ from hcur] at hb
                cases hb
              refine (hgE.block k (by have := hcur.lt; omega) (fun e => hb (by injection e))).trans ?_
              rw [← hWZ]
              exact Below.heap_setCell _ _ _ k h7
            · rcases HL9.out k hk with e | e
              · rw [e]; exact hgvs
              · exact .inr (by omega)
          rw [hWZ]
          clear hWZ QZ hEW MZ A5Z hME hgE hEE hbz HT9 HL9 HE9 HB9 Q9 hall
          gi_wp2
          exact ⟨HKF.out, HKP.out, FI.out⟩
        · go_simp
          refine (clone_any x _ hx6).mono ?_
          rintro e u1 ⟨rfl, bb⟩
          replace Q7u := Q7u.below bb
          replace TXu := TXu.below bb
          replace bu := bu.trans (bb.mono bu.size)
          clear bb
          try go_wp2_with fail
          clear hHeld
          refine hK'.out _ _ (Nat.zero_le _) (fun hHeld => ?_)
          clear hK' KK
          try simp only [List.setIfInBounds_toArray, List.set_cons_zero, List.set_cons_succ]
          refine wpAnyH_ready (rs := [0, 3]) (by kernel_rfl) (by simp) ?_
          refine AllReadyH.cons rfl (fun KK hK' => ?_) (AllReadyH.cons rfl (fun KK hK' => ?_) AllReadyH.nil)
          · obtain c7 : u1.cell? ⟨q7, 0, none⟩ = some (.slice (some ⟨gv, 0, none⟩) dl cv) := Q7u.cell 0 rfl
            go_simp
            clear c7
            clear hHeld
            refine hK'.out _ _ (Nat.zero_le _) (fun hHeld => ?_)
            clear hK' KK
            try simp only [List.setIfInBounds_toArray, List.set_cons_zero]
            refine wpAnyH_ready (rs := [3]) (by kernel_rfl) (by simp) ?_
            refine AllReadyH.cons rfl (fun KK hK' => ?_) AllReadyH.nil
            go_simp
            obtain ⟨u3, hV9, A9, bb, -⟩ := boxed u1 9 #[.string x]
            rw [hV9]
            clear hV9
            replace Q7u := Q7u.below bb
            replace TXu := TXu.below bb
            replace bu := bu.trans (bb.mono bu.size)
            have h9B : w.heap.size ≤ u3.heap.size := by have := bu.size; have := HBu.out.size; omega
            clear bb
            clear hHeld
            refine hK'.out _ _ (Nat.zero_le _) (fun hHeld => ?_)
            clear hK' KK
            try simp only [List.setIfInBounds_toArray, List.set_cons_zero, List.set_cons_succ]
            refine wpAnyH_ready (rs := [4]) (by kernel_rfl) (by simp) ?_
            refine AllReadyH.cons rfl (fun KK hK' => ?_) AllReadyH.nil
            have news := World.news_of_block (cs := #[.string x]) (t := 9) (fr := (0, 0)) A9
            have Rown := TXu.1
            rw [hdl] at Rown
            refine step_append_at _ (by rfl) _ _ _ (by rfl) w.heap.size 9 i0 _ 1 16 Try.underlying27 hi0 hz0 hz1 hz2 rfl (by omega) (.slice (some ⟨gv, 0, none⟩) dl cv) dl ((dd lp).map Value.string) (by rfl) Rown ⟨u1.heap.size, 0, none⟩ 1 1 [.string x] (by rfl) (by rfl) news (by simp [Value.oneCell']) (by unfold maxLen; omega) (by omega) h9B ?_
            intro v2 w9 hown2 hgrow2 hne2 hat2
            have e3 : v2 ≠ .slice none 0 0 := fun e => absurd (hne2.1 e).2 (by omega)
            have hgl : gv < u3.heap.size := by obtain ⟨cur, hcur⟩ := TXu.at (k := gv) rfl; exact hcur.lt
            have Q9 : At 27 w9 q7 #[.slice (some ⟨gv, 0, none⟩) dl cv] := (hgrow2.block q7 Q7u.lt (fun e => n7v (by injection e with e; exact e.symm))).trans Q7u
            have hzu : u0.heap.size ≤ u3.heap.size := bu.size
            have HE9 : Hid (∀ k, k < u0.heap.size → k ≠ gv → w9.heap[k]? = u0.heap[k]?) := fun k hk hne => (hgrow2.block k (Nat.lt_of_lt_of_le hk hzu) (fun e => hne (by injection e))).trans (bu.block k hk)
            have HB9 : Hid (Below w.heap.size w w9) := (HBu.out.trans (bu.mono HBu.out.size)).grown hgrow2 h9B (fun k e => by cases e; exact hgw)
            have HT9 : Hid (TxL w9 w.heap.size v2 (dd lp ++ [x])) := ⟨by rw [List.length_append, List.length_singleton, hdl, List.map_append]; exact hown2, e3⟩
            have HL9 : Hid (∀ k, v2.ownBlock = some k → k = gv ∨ u0.heap.size ≤ k) := fun k hk => by rcases hat2 with h | h <;> (rw [h] at hk; cases hk; first | exact .inl rfl | exact .inr hzu)
            have hz9 : u0.heap.size ≤ w9.heap.size := Nat.le_trans hzu hgrow2.size
            obtain ⟨g2, c2, ev2, -⟩ := HT9.out.open
            rw [show (dd lp ++ [x]).length = dl + 1 by rw [List.length_append, List.length_singleton, hdl]] at ev2
            clear hown2 hgrow2 hne2 hat2 e3 A9 news Rown TXu bu hgl hzu Q7u h9B
            subst ev2
            clear hHeld
            refine hK'.out _ _ (Nat.zero_le _) (fun hHeld => ?_)
            clear hK' KK
            try simp only [List.setIfInBounds_toArray, List.set_cons_zero, List.set_cons_succ]
            refine wpAnyH_ready (rs := [5]) (by kernel_rfl) (by simp) ?_
            refine AllReadyH.cons rfl (fun KK hK' => ?_) AllReadyH.nil
            have c7 : w9.cell? ⟨q7, 0, none⟩ = some (.slice (some ⟨gv, 0, none⟩) dl cv) := Q9.cell 0 rfl
            have f7 := Q9.frozen 0
            go_simp
            clear c7 f7
            clear hHeld
            refine hK'.out _ _ (Nat.zero_le _) (fun hHeld => ?_)
            clear hK' KK
            try simp only [List.setIfInBounds_toArray, List.set_cons_zero, List.set_cons_succ]
            refine wpAnyH_done (by kernel_rfl) ?_ _
            clear hHeld
            have hall : True := trivial
            obtain ⟨WZ, hWZ⟩ : ∃ W, w9.setCell ⟨q7, 0, none⟩ (.slice (some ⟨g2, 0, none⟩) (dl + 1) c2) = W := ⟨_, rfl⟩
            have QZ : At 27 WZ q7 #[(.slice (some ⟨g2, 0, none⟩) (dl + 1) c2)] := by rw [← hWZ]; simpa using Q9.set 0 (.slice (some ⟨g2, 0, none⟩) (dl + 1) c2)
            have hWu : W.heap.size ≤ u0.heap.size := hu0W.out.size
            have hEW : ∀ k, k < W.heap.size → k ≠ gv → k ≠ q7 → WZ.heap[k]? = W.heap[k]? := fun k hk h1 h2 => by
              rw [← hWZ]
              exact ((Below.heap_setCell _ _ _ k h2).trans (HE9.out k (Nat.lt_of_lt_of_le hk hWu) h1)).trans (hu0W.out.block k hk)
            have hzZ : w9.heap.size ≤ WZ.heap.size := by rw [← hWZ]; exact (KeepsWalks.setCell _ _ _).size
            have hW9W := HKW.out.1
            have hgvs := HVG.out gv rfl
            have n5v : q5 ≠ gv := by omega
            have nbv : bm ≠ gv := by omega
            have n57 : q5 ≠ q7 := by omega
            have nb7 : bm ≠ q7 := by omega
            have MZ : MapI WZ bm ks (ltT L lp) := HM.out.of_block (hEW bm HM.out.lt nbv nb7)
            have A5Z : At 40 WZ q5 #[.map (some bm)] := (hEW q5 HM5.out.lt n5v n57).trans HM5.out
            have c5Z : WZ.cell? ⟨q5, 0, none⟩ = some (.map (some bm)) := A5Z.cell 0 rfl
            obtain ⟨WE, ksE, hdrop, hME, -, hlE, hgE, hzE⟩ := MZ.drop (ty := 0) (x := x) hsm
            unfold aVI at hdrop
            have HWZ : Hid (w9.setCell ⟨q7, 0, none⟩ (.slice (some ⟨g2, 0, none⟩) (dl + 1) c2) = WZ) := hWZ
            have hEE : ∀ k, k < W.heap.size → k ≠ gv → k ≠ q7 → k ≠ bm → WE.heap[k]? = W.heap[k]? := fun k hk h1 h2 h3 => (hgE.block k (by omega) (fun e => h3 (by injection e))).trans (hEW k hk h1 h2)
            have hzWE : W.heap.size ≤ WE.heap.size := by omega
            have HKP : Hid (KpS W9.heap.size (fun k => k = bm ∨ k = q7 ∨ k = gd) W WE) := ⟨hzWE, fun k hk hS => by
              have h1 : k ≠ bm := fun e => hS (.inl e)
              have h2 : k ≠ q7 := fun e => hS (.inr (.inl e))
              have h3 : k ≠ gd := fun e => hS (.inr (.inr e))
              exact hEE k (by omega) (by omega) h2 h1⟩
            have HKF : Hid (KeepsFrom W9.heap.size W WE) := ⟨hzWE, fun k o hB hk ho => by
              have h2 : k ≠ gv := fun e => by
                subst e
                obtain ⟨cur, hcur⟩ := TX.out.at (k := k) rfl
                rw [show W.heap[k]? = _ from hcur] at hk
                cases hk
                cases ho
              exact (hEE k (Array.getElem?_eq_some_iff.1 hk).1 h2 (by omega) (by omega)).trans hk⟩
            have hbz : Below w.heap.size w WZ := by rw [← hWZ]; exact HB9.out.setCell (p := ⟨q7, 0, none⟩) (by show w.heap.size ≤ q7; omega) _
            have FI : Hid (OuI w W9 bm q7 gd L ((pre ++ [(⟨j, hj⟩ : { x : Nat // x < m })]).map fun y => sx s n y.1) WE) := by
              refine ⟨hbz.grown hgE hbz.size (fun k e => by cases e; omega), HKW.out.t HKP.out, ⟨ksE, by rw [HMP.out, ltT_no hin]; exact hME, by omega⟩, (.slice (some ⟨g2, 0, none⟩) (dl + 1) c2), (hgE.block q7 (by have := QZ.lt; omega) (fun e => nb7 (by injection e with e; exact e.symm))).trans QZ, ?_, fun k hk => ?_⟩
              · rw [HMP.out, dd_snoc, ddF_no hin]
                refine HT9.out.kp (fun k hk => ?_)
                obtain ⟨cur, hcur⟩ := HT9.out.at hk
                have h7 : k ≠ q7 := fun e => by
                  subst e
                  have := (show w9.heap[k]? = _ from hcur).symm.trans Q9
                  simp at this
                have hb : k ≠ bm := fun e => by
                  subst e
                  obtain ⟨es, clock, hb, -⟩ := MZ
                  rw [← hWZ, Below.heap_setCell _ _ _ k h7, show w9.heap[k]? = _ from hcur] at hb
                  cases hb
                refine (hgE.block k (by have := hcur.lt; omega) (fun e => hb (by injection e))).trans ?_
                rw [← hWZ]
                exact Below.heap_setCell _ _ _ k h7
              · rcases HL9.out k hk with e | e
                · rw [e]; exact hgvs
                · exact .inr (by omega)
            rw [hWZ]
            clear hWZ QZ hEW MZ A5Z hME hgE hEE hbz HT9 HL9 HE9 HB9 Q9 hall
            gi_wp2
            exact ⟨HKF.out, HKP.out, FI.out⟩
          · go_simp
            obtain ⟨u2, hV9, A9, bb, -⟩ := boxed u1 9 #[.string x]
            rw [hV9]
            clear hV9
            replace Q7u := Q7u.below bb
            replace TXu := TXu.below bb
            replace bu := bu.trans (bb.mono bu.size)
            have h9B : w.heap.size ≤ u2.heap.size := by have := bu.size; have := HBu.out.size; omega
            clear bb
            clear hHeld
            refine hK'.out _ _ (Nat.zero_le _) (fun hHeld => ?_)
            clear hK' KK
            try simp only [List.setIfInBounds_toArray, List.set_cons_zero, List.set_cons_succ]
            refine wpAnyH_ready (rs := [0]) (by kernel_rfl) (by simp) ?_
            refine AllReadyH.cons rfl (fun KK hK' => ?_) AllReadyH.nil
            obtain c7 : u2.cell? ⟨q7, 0, none⟩ = some (.slice (some ⟨gv, 0, none⟩) dl cv) := Q7u.cell 0 rfl
            go_simp
            clear c7
            clear hHeld
            refine hK'.out _ _ (Nat.zero_le _) (fun hHeld => ?_)
            clear hK' KK
            try simp only [List.setIfInBounds_toArray, List.set_cons_zero]
            refine wpAnyH_ready (rs := [4]) (by kernel_rfl) (by simp) ?_
            refine AllReadyH.cons rfl (fun KK hK' => ?_) AllReadyH.nil
            have news := World.news_of_block (cs := #[.string x]) (t := 9) (fr := (0, 0)) A9
            have Rown := TXu.1
            rw [hdl] at Rown
            refine step_append_at _ (by rfl) _ _ _ (by rfl) w.heap.size 9 i0 _ 1 16 Try.underlying27 hi0 hz0 hz1 hz2 rfl (by omega) (.slice (some ⟨gv, 0, none⟩) dl cv) dl ((dd lp).map Value.string) (by rfl) Rown ⟨u1.heap.size, 0, none⟩ 1 1 [.string x] (by rfl) (by rfl) news (by simp [Value.oneCell']) (by unfold maxLen; omega) (by omega) h9B ?_
            intro v2 w9 hown2 hgrow2 hne2 hat2
            have e3 : v2 ≠ .slice none 0 0 := fun e => absurd (hne2.1 e).2 (by omega)
            have hgl : gv < u2.heap.size := by obtain ⟨cur, hcur⟩ := TXu.at (k := gv) rfl; exact hcur.lt
            have Q9 : At 27 w9 q7 #[.slice (some ⟨gv, 0, none⟩) dl cv] := (hgrow2.block q7 Q7u.lt (fun e => n7v (by injection e with e; exact e.symm))).trans Q7u
            have hzu : u0.heap.size ≤ u2.heap.size := bu.size
            have HE9 : Hid (∀ k, k < u0.heap.size → k ≠ gv → w9.heap[k]? = u0.heap[k]?) := fun k hk hne => (hgrow2.block k (Nat.lt_of_lt_of_le hk hzu) (fun e => hne (by injection e))).trans (bu.block k hk)
            have HB9 : Hid (Below w.heap.size w w9) := (HBu.out.trans (bu.mono HBu.out.size)).grown hgrow2 h9B (fun k e => by cases e; exact hgw)
            have HT9 : Hid (TxL w9 w.heap.size v2 (dd lp ++ [x])) := ⟨by rw [List.length_append, List.length_singleton, hdl, List.map_append]; exact hown2, e3⟩
            have HL9 : Hid (∀ k, v2.ownBlock = some k → k = gv ∨ u0.heap.size ≤ k) := fun k hk => by rcases hat2 with h | h <;> (rw [h] at hk; cases hk; first | exact .inl rfl | exact .inr hzu)
            have hz9 : u0.heap.size ≤ w9.heap.size := Nat.le_trans hzu hgrow2.size
            obtain ⟨g2, c2, ev2, -⟩ := HT9.out.open
            rw [show (dd lp ++ [x]).length = dl + 1 by rw [List.length_append, List.length_singleton, hdl]] at ev2
            clear hown2 hgrow2 hne2 hat2 e3 A9 news Rown TXu bu hgl hzu Q7u h9B
            subst ev2
            clear hHeld
            refine hK'.out _ _ (Nat.zero_le _) (fun hHeld => ?_)
            clear hK' KK
            try simp only [List.setIfInBounds_toArray, List.set_cons_zero, List.set_cons_succ]
            refine wpAnyH_ready (rs := [5]) (by kernel_rfl) (by simp) ?_
            refine AllReadyH.cons rfl (fun KK hK' => ?_) AllReadyH.nil
            have c7 : w9.cell? ⟨q7, 0, none⟩ = some (.slice (some ⟨gv, 0, none⟩) dl cv) := Q9.cell 0 rfl
            have f7 := Q9.frozen 0
            go_simp
            clear c7 f7
            clear hHeld
            refine hK'.out _ _ (Nat.zero_le _) (fun hHeld => ?_)
            clear hK' KK
            try simp only [List.setIfInBounds_toArray, List.set_cons_zero, List.set_cons_succ]
            refine wpAnyH_done (by kernel_rfl) ?_ _
            clear hHeld
            have hall : True := trivial
            obtain ⟨WZ, hWZ⟩ : ∃ W, w9.setCell ⟨q7, 0, none⟩ (.slice (some ⟨g2, 0, none⟩) (dl + 1) c2) = W := ⟨_, rfl⟩
            have QZ : At 27 WZ q7 #[(.slice (some ⟨g2, 0, none⟩) (dl + 1) c2)] := by rw [← hWZ]; simpa using Q9.set 0 (.slice (some ⟨g2, 0, none⟩) (dl + 1) c2)
            have hWu : W.heap.size ≤ u0.heap.size := hu0W.out.size
            have hEW : ∀ k, k < W.heap.size → k ≠ gv → k ≠ q7 → WZ.heap[k]? = W.heap[k]? := fun k hk h1 h2 => by
              rw [← hWZ]
              exact ((Below.heap_setCell _ _ _ k h2).trans (HE9.out k (Nat.lt_of_lt_of_le hk hWu) h1)).trans (hu0W.out.block k hk)
            have hzZ : w9.heap.size ≤ WZ.heap.size := by rw [← hWZ]; exact (KeepsWalks.setCell _ _ _).size
            have hW9W := HKW.out.1
            have hgvs := HVG.out gv rfl
            have n5v : q5 ≠ gv := by omega
            have nbv : bm ≠ gv := by omega
            have n57 : q5 ≠ q7 := by omega
            have nb7 : bm ≠ q7 := by omega
            have MZ : MapI WZ bm ks (ltT L lp) := HM.out.of_block (hEW bm HM.out.lt nbv nb7)
            have A5Z : At 40 WZ q5 #[.map (some bm)] := (hEW q5 HM5.out.lt n5v n57).trans HM5.out
            have c5Z : WZ.cell? ⟨q5, 0, none⟩ = some (.map (some bm)) := A5Z.cell 0 rfl
            obtain ⟨WE, ksE, hdrop, hME, -, hlE, hgE, hzE⟩ := MZ.drop (ty := 0) (x := x) hsm
            unfold aVI at hdrop
            have HWZ : Hid (w9.setCell ⟨q7, 0, none⟩ (.slice (some ⟨g2, 0, none⟩) (dl + 1) c2) = WZ) := hWZ
            have hEE : ∀ k, k < W.heap.size → k ≠ gv → k ≠ q7 → k ≠ bm → WE.heap[k]? = W.heap[k]? := fun k hk h1 h2 h3 => (hgE.block k (by omega) (fun e => h3 (by injection e))).trans (hEW k hk h1 h2)
            have hzWE : W.heap.size ≤ WE.heap.size := by omega
            have HKP : Hid (KpS W9.heap.size (fun k => k = bm ∨ k = q7 ∨ k = gd) W WE) := ⟨hzWE, fun k hk hS => by
              have h1 : k ≠ bm := fun e => hS (.inl e)
              have h2 : k ≠ q7 := fun e => hS (.inr (.inl e))
              have h3 : k ≠ gd := fun e => hS (.inr (.inr e))
              exact hEE k (by omega) (by omega) h2 h1⟩
            have HKF : Hid (KeepsFrom W9.heap.size W WE) := ⟨hzWE, fun k o hB hk ho => by
              have h2 : k ≠ gv := fun e => by
                subst e
                obtain ⟨cur, hcur⟩ := TX.out.at (k := k) rfl
                rw [show W.heap[k]? = _ from hcur] at hk
                cases hk
                cases ho
              exact (hEE k (Array.getElem?_eq_some_iff.1 hk).1 h2 (by omega) (by omega)).trans hk⟩
            have hbz : Below w.heap.size w WZ := by rw [← hWZ]; exact HB9.out.setCell (p := ⟨q7, 0, none⟩) (by show w.heap.size ≤ q7; omega) _
            have FI : Hid (OuI w W9 bm q7 gd L ((pre ++ [(⟨j, hj⟩ : { x : Nat // x < m })]).map fun y => sx s n y.1) WE) := by
              refine ⟨hbz.grown hgE hbz.size (fun k e => by cases e; omega), HKW.out.t HKP.out, ⟨ksE, by rw [HMP.out, ltT_no hin]; exact hME, by omega⟩, (.slice (some ⟨g2, 0, none⟩) (dl + 1) c2), (hgE.block q7 (by have := QZ.lt; omega) (fun e => nb7 (by injection e with e; exact e.symm))).trans QZ, ?_, fun k hk => ?_⟩
              · rw [HMP.out, dd_snoc, ddF_no hin]
                refine HT9.out.kp (fun k hk => ?_)
                obtain ⟨cur, hcur⟩ := HT9.out.at hk
                have h7 : k ≠ q7 := fun e => by
                  subst e
                  have := (show w9.heap[k]? = _ from hcur).symm.trans Q9
                  simp at this
                have hb : k ≠ bm := fun e => by
                  subst e
                  obtain ⟨es, clock, hb, -⟩ := MZ
                  rw [← hWZ, Below.heap_setCell _ _ _ k h7, show w9.heap[k]? = _ from hcur] at hb
                  cases hb
                refine (hgE.block k (by have := hcur.lt; omega) (fun e => hb (by injection e))).trans ?_
                rw [← hWZ]
                exact Below.heap_setCell _ _ _ k h7
              · rcases HL9.out k hk with e | e
                · rw [e]; exact hgvs
                · exact .inr (by omega)
            rw [hWZ]
            clear hWZ QZ hEW MZ A5Z hME hgE hEE hbz HT9 HL9 HE9 HB9 Q9 hall
            gi_wp2
            exact ⟨HKF.out, HKP.out, FI.out⟩

    case done2 =>
      rintro D2 xs W hD2 rfl ⟨hbw, hkW, -, v, hQ7, hTX, hvg⟩ hK
      dsimp only
      have hev2 : (upl m m).map (fun y => sx s n y.1) = L := by
        rw [← hL]
        unfold sxL
        rw [← upl_vals m m (Nat.le_refl _), List.map_map]
        rfl
      rw [hev2] at hTX
      obtain ⟨g, c, rfl, -, hgl, hgw, hgc⟩ := hTX.open
      have c7 : W.cell? ⟨q7, 0, none⟩ = some (.slice (some ⟨g, 0, none⟩) (dd L).length c) := hQ7.cell
      have hWz := hkW.1
      have hgv := hvg g rfl
      have n7g : g ≠ q7 := fun e => by
        obtain ⟨cur, hcur⟩ := hTX.at (k := g) rfl
        subst e
        have := (show W.heap[g]? = _ from hcur).symm.trans hQ7
        simp at this
      have CS := sortS_any g 0 c ((dd L).map bl) W hTX.holds hgl (by rw [List.length_map]; have h1 := dd_len L; have h2 : L.length = m := by rw [← hL]; simp [sxL]
                                                                     omega)
      rw [List.length_map] at CS
      have HT := hid_of hTX
      have HBW := hid_of hbw
      have HQ := hid_of hQ7
      have HK2 := hid_of hK
      have HD1 : Hid (W.heap[D]? = some (.deferred (some []))) := (hkW.2 D (by omega) (by omega)).trans KD.out
      have nD : D ≠ g := by omega
      have nD2 : D2 ≠ g := fun e => by
        obtain ⟨cur, hcur⟩ := hTX.at (k := g) rfl
        subst e
        have := (show W.heap[D2]? = _ from hcur).symm.trans hK
        simp at this
      have hgD : D < W.heap.size := by omega
      have hgD2 : D2 < W.heap.size := (Array.getElem?_eq_some_iff.1 hK).1
      clear hTX hQ7 hvg hkW hbw hK hev2 HI2 PST2
      gi_wp2_with fail
      refine (callsIn_wide.2 CS).mono ?_
      rintro e WS ⟨rfl, ns, os, hWS⟩
      have hgr : W.grownBy WS (some g) := by rw [hWS]; exact Go.grownBy_sorted _
      have hts : (((dd L).map bl).mergeSort (fun x y => decide (x ≤ y))).length = (dd L).length := by rw [List.length_mergeSort, List.length_map]
      have TS : TxL WS w.heap.size (.slice (some ⟨g, 0, none⟩) (dd L).length c) ((((dd L).map bl).mergeSort (fun x y => decide (x ≤ y))).map lb) := by rw [hWS]; exact HT.out.sorted hts
      obtain ⟨g', c', eg, hcl, hgl', hgw', hgc'⟩ := TS.open
      have hFD := sort_facD (s := s) (n := n) hm (L := L) hL.symm
      have hlen : ((((dd L).map bl).mergeSort (fun x y => decide (x ≤ y))).map lb).length = (dd L).length := by rw [List.length_map, hts]
      rw [hlen] at eg hgc'
      cases eg
      have c7S : WS.cell? ⟨q7, 0, none⟩ = some (.slice (some ⟨g, 0, none⟩) (dd L).length c) := (show Boxed WS q7 27 _ from HQ.out.kept hgr (fun e => n7g (by injection e with e; exact e.symm))).cell
      have d1S : WS.heap[D]? = some (.deferred (some [])) := (hgr.block D hgD (fun e => nD (by injection e))).trans HD1.out
      have d2S : WS.heap[D2]? = some (.deferred (some [])) := (hgr.block D2 hgD2 (fun e => nD2 (by injection e))).trans HK2.out
      have TS2 := TS
      rw [← hlen] at TS2
      have FIN : Hid (FaE w s n (.returned (.slice (some ⟨g, 0, none⟩) (dd L).length c)) WS) := ⟨⟨_, g, c, hFD, by rw [hlen], hgw', hgl', by rw [hlen]; exact hgc', hcl, TS2⟩, HBW.out.grown hgr HBW.out.size (fun k e => by cases e; exact hgw)⟩
      clear hWS hts TS TS2 hcl hFD hlen hgr CS c7
      gi_wp2
      refine ⟨by simp, .inl ⟨_, _, rfl, run_takeDeferred d2S, ?_⟩⟩
      have d1Z := (World.putObj_heap_other (w := WS) (o := .deferred none) (show D ≠ D2 by omega)).trans d1S
      refine ⟨by simp, .inl ⟨_, _, rfl, run_takeDeferred d1Z, ?_⟩⟩
      have hwD := HBW.out.size
      have FZ : FaE w s n (.returned (.slice (some ⟨g, 0, none⟩) (dd L).length c)) ((WS.putObj D2 (.deferred none)).putObj D (.deferred none)) := (FIN.out.put d2S (by have := B9.out.size; omega)).put d1Z (by have := HB4.out.size; omega)
      refine ⟨_, results_tmp rfl _ _ _, ?_⟩
      show FaE w s n (.returned (.slice (some ⟨g, 0, none⟩) (dd L).length c)) _
      exact FZ
    case stop2 =>
      rintro D2 c pre W hD2 _ hno hK
      exact hno.elim
  case stop =>
    rintro D c pre W hD _ hno hK
    exact hno.elim
end Go.Proofs.Ytnkmiljnilmicaa
