/-
  The law of a data's text: walked.
-/
import Derived.Test.YtdhfoekfejcceaaS16j
import Derived.Test.YtdhfoekfejcceaaD16j
namespace Go.Proofs.Ytdhfoekfejcceaa
open Go.RowKit

theorem lsL_all {nm : Nat → ByteArray} {f : Nat → Nat → ByteArray} {rw : Nat → Int} {F : Nat} {lp : Nat → Int} {P : ByteArray → Prop} : ∀ {j : Nat}, (∀ i, i < j → ∀ y ∈ lpL nm f (atL F lp i) (lp i).toNat (rw (atL F lp i)).toNat, P y) → ∀ y ∈ lsL nm f rw F lp j, P y
  | 0, _ => fun y hy => by cases hy
  | j + 1, h => fun y hy => by
    rcases List.mem_append.1 (show y ∈ lsL nm f rw F lp j ++ lpL nm f (atL F lp j) (lp j).toNat (rw (atL F lp j)).toNat from hy) with h1 | h1
    · exact lsL_all (j := j) (fun i hi => h i (by omega)) y h1
    · exact h j (by omega) y h1
theorem shw_le {s : ByteArray} {N M F : Nat} {nm : Nat → ByteArray} {n : Nat → Nat} {rw : Nat → Int} {f : Nat → Nat → ByteArray} {lp : Nat → Int} (h : DOk s N M nm n rw f lp) (hF : Fst F N rw) : (Lib.join ((shL s nm f rw F lp F M).map (·.data.toList)) [10]).length ≤ 1000000000000 := by
  have hs : s.size ≤ 40 := h.1.1.2
  have hN : N ≤ 200 := h.2.1
  have hM : M ≤ 200 := h.m
  have hl : (shL s nm f rw F lp F M).length ≤ 1000000 := by
    have h1 := lsL_len (nm := nm) (f := f) (rw := rw) (F := F) (lp := lp) (j := M) (fun i hi => by
      have := h.rows hF hi
      exact ⟨this.2.2.1, this.2.2.2.1⟩)
    have h2 := sgL_len nm f F
    have h3 := hF.1
    simp only [shL, List.length_append, List.length_cons]
    omega
  have ha : ∀ y ∈ shL s nm f rw F lp F M, y.size ≤ 50000 := by
    intro y hy
    rcases List.mem_append.1 hy with h1 | h1
    · rcases List.mem_cons.1 h1 with rfl | h1
      · rw [ByteArray.size_append]
        have : DATA.size = 5 := rfl
        omega
      · obtain ⟨i, hi, rfl⟩ := List.mem_map.1 h1
        have hi := List.mem_range.1 hi
        have h3 := hF.1
        have hn1 := (h.fst hF).1 i hi
        have k1 : (nm i).size ≤ 40 := (h.2.2.1 i (by omega)).1.1.2
        have k2 := ((h.2.2.1 i (by omega)).2.2.2 0 (by omega)).1
        have k3 := wd_size (f i 0)
        unfold sgT
        simp only [ByteArray.size_append]
        have e1 : ({ data := #[95] } : ByteArray).size = 1 := rfl
        have e2 : ({ data := #[32] } : ByteArray).size = 1 := rfl
        omega
    · refine lsL_all (P := fun y => y.size ≤ 50000) (fun i hi y hy => ?_) y h1
      obtain ⟨y1, y2, y3, y4, y5, y6⟩ := h.rows hF hi
      rcases List.mem_append.1 hy with h2 | h2
      · rcases List.mem_cons.1 h2 with rfl | h2
        · exact (by decide : (5 : Nat) ≤ 50000)
        · obtain ⟨k, hk, rfl⟩ := List.mem_map.1 h2
          have hk := List.mem_range.1 hk
          have k1 : (nm (atL F lp i + k)).size ≤ 40 := (h.2.2.1 _ (by omega)).1.1.2
          show (UND ++ _ : ByteArray).size ≤ _
          rw [ByteArray.size_append]
          have e1 : UND.size = 1 := rfl
          omega
      · obtain ⟨r, hr, rfl⟩ := List.mem_map.1 h2
        have hr := List.mem_range.1 hr
        have := wdL_join (f := f) (x := atL F lp i) (r := r) (k := (lp i).toNat) (fun c hc => ((h.2.2.1 (atL F lp i + c) (by omega)).2.2.2 r (by have := (y6 c hc).1; omega)).1)
        show (jn _).size ≤ _
        have e : (jn (wdL f (atL F lp i) r (lp i).toNat)).size = (Lib.join ((wdL f (atL F lp i) r (lp i).toNat).map (·.data.toList)) [32]).length := List.size_toArray
        rw [e]
        have := Nat.mul_le_mul_right 203 y3
        omega
  have := join_le (A := 50000) 10 (l := (shL s nm f rw F lp F M).map (·.data.toList)) (fun z hz => by
    obtain ⟨y, hy, rfl⟩ := List.mem_map.1 hz
    rw [Array.length_toList]
    exact ha y hy)
  rw [List.length_map] at this
  have := Nat.mul_le_mul_right 50001 hl
  omega
set_option maxRecDepth 100000 in
set_option maxHeartbeats 3200000 in
theorem exactShowData_walk {w : World} {p q : Option Addr} {N cap M cap2 : Nat} {s : ByteArray} {nm : Nat → ByteArray} {a : Nat → Option Addr} {n c : Nat → Nat} {rw : Nat → Int} {f : Nat → Nat → ByteArray} {lp : Nat → Int} (hs : s.size ≤ maxLen) (hS : ItS w p N nm a n c rw f) (hN : N ≤ maxLen) (hn : ∀ i, i < N → n i ≤ maxLen) (hm : szAll N nm) (hf : ∀ i, i < N → szAll (n i) (f i)) (hL : Src w q M lp) (hM : M ≤ maxLen) (hl64 : ∀ j, j < M → -9223372036854775808 ≤ lp j ∧ lp j ≤ 9223372036854775807) :
    Calls Try.prog 4 #[.agg #[.string s, .slice p N cap, .slice q M cap2]] w fun e w' => e = .returned (.bool true) ∧ Below w.heap.size w w' := by
  obtain ⟨b, hb⟩ := bool_of (DOk s N M nm n rw f lp)
  have HB : Hid (b = true ↔ DOk s N M nm n rw f lp) := hb
  clear hb
  obtain ⟨F, hF⟩ := fst_is N rw
  have HF : Hid (Fst F N rw) := hF
  obtain ⟨T, hT0, hT1⟩ : ∃ T : ByteArray, (b = false → T = ⟨#[]⟩) ∧ (b = true → T = shw s nm f rw F lp M) := by
    cases b
    · exact ⟨_, fun _ => rfl, fun h => by cases h⟩
    · exact ⟨_, fun h => (by cases h), fun _ => rfl⟩
  have HT0 : Hid (b = false → T = ⟨#[]⟩) := hT0
  have HT1 : Hid (b = true → T = shw s nm f rw F lp M) := hT1
  have HJ : Hid (b = true → (Lib.join ((shL s nm f rw F lp F M).map (·.data.toList)) [10]).length ≤ 1000000000000) := show b = true → _ from fun hb => shw_le (HB.out.1 hb) hF
  clear hF hT0 hT1
  obtain ⟨W1, hW1, a1, b1, -⟩ := boxed w 25 #[.string s, .slice p N cap, .slice q M cap2]
  obtain ⟨q1, hq1⟩ : ∃ q, w.heap.size = q := ⟨_, rfl⟩
  rw [hq1] at a1
  have HS : Hid (ItS w p N nm a n c rw f) := hS
  have HL : Hid (Src w q M lp) := hL
  obtain ⟨c0, c1, c2, -⟩ := a1.open3
  clear hS hL
  go_enter Try.func4, Try.ntmps4
  go_wp2_with fail
  refine (szData_any hs (HS.out.below b1) hN hn hm hf hM).mono ?_
  rintro e w2 ⟨r, rfl, hr, b2⟩
  have B := b1.trans (b2.mono b1.size)
  replace a1 := a1.below b2
  clear c0 c1 c2 hW1 hq1 b1 b2 hs hN hn hm hf hM
  obtain ⟨c0, c1, c2, -⟩ := a1.open3
  rcases hr with rfl | ⟨r0, hM, hN, hn⟩
  · go_wp2
    go_ret
    exact ⟨rfl, B⟩
  have hr0 : ¬ r < 0 := by omega
  go_wp2_with fail
  refine (toData_any (HS.out.below B) (HL.out.below B) hN hn hM).mono ?_
  rintro e w3 ⟨g3, h3, v3, rfl, -, -, D3, b3⟩
  replace B := B.trans (b3.mono B.size)
  replace a1 := a1.below b3
  clear c0 c1 c2 b3
  go_wp2_with fail
  refine (specShow_any D3 hN hn hM hl64 b HB HF.out T HT0 HT1).mono ?_
  rintro e w4 ⟨rfl, b4⟩
  replace B := B.trans (b4.mono B.size)
  replace a1 := a1.below b4
  clear b4 D3
  obtain ⟨c0, c1, c2, -⟩ := a1.open3
  go_wp2_with fail
  refine (toData_any (HS.out.below B) (HL.out.below B) hN hn hM).mono ?_
  rintro e w5 ⟨g5, h5, v5, rfl, -, -, D5, b5⟩
  replace B := B.trans (b5.mono B.size)
  replace a1 := a1.below b5
  clear c0 c1 c2 b5
  obtain ⟨W6, hW6, a6, b6, -⟩ := boxed w5 30 #[.string s, .slice (some ⟨g5, 0, none⟩) N N, .slice (some ⟨h5, 0, none⟩) M M]
  obtain ⟨q6, hq6⟩ : ∃ q, w5.heap.size = q := ⟨_, rfl⟩
  rw [hq6] at a6
  replace D5 := D5.below b6
  replace B := B.trans (b6.mono B.size)
  replace a1 := a1.below b6
  obtain ⟨c0, c1, c2, -⟩ := a6.open3
  unfold dV
  clear b6
  go_wp2_with fail
  refine (implShow_any D5 hN hn hM hl64 b HB HF.out T HT0 HT1 HJ).mono ?_
  rintro e w7 ⟨rfl, b7⟩
  replace B := B.trans (b7.mono B.size)
  replace a1 := a1.below b7
  replace a6 := a6.below b7
  replace D5 := D5.below b7
  clear c0 c1 c2 b7 hW6 hq6
  go_wp2_with fail
  obtain ⟨u0, hu0, bb⟩ : ∃ uu, w7.drew = uu ∧ Below w7.heap.size w7 uu := ⟨_, rfl, (Below.refl _ _).drew⟩
  replace a1 := a1.below bb
  replace a6 := a6.below bb
  replace D5 := D5.below bb
  replace B := B.trans (bb.mono B.size)
  clear bb
  refine wp_region_held_drew (S := Kb u0) (by kernel_rfl) (by rw [hu0]; exact Below.refl _ _) (fun hHeld => ?_)
  rw [hu0] at hHeld ⊢
  clear hu0
  have bu : Kb u0 u0 := Below.refl _ _
  change wpAnyH _ _ _ _ _ 5 #[false, false, false, false, false] _ _
  refine wpAnyH_take (i := 0) (v := .agg #[.string s, .slice ((some ⟨g5, 0, none⟩)) N N, .slice ((some ⟨h5, 0, none⟩)) M M]) rfl (by kernel_rfl) (by kernel_rfl) (by kernel_rfl) (fun _ _ _ h => h) (Or.inl ⟨by kernel_rfl, ?_⟩) hHeld ?_
  · intro w' hSw; obtain ⟨z0, z1, z2, -⟩ := (a6.below hSw).open3; go_simp
  try simp only [Act.put, List.setIfInBounds_toArray, List.set_cons_zero, List.set_cons_succ, List.getElem_toArray, List.getElem_cons_zero]
  refine wpAnyH_take (i := 1) (v := .agg #[.string s, .slice p N cap, .slice q M cap2]) rfl (by kernel_rfl) (by kernel_rfl) (by kernel_rfl) (fun _ _ _ h => h) (Or.inl ⟨by kernel_rfl, ?_⟩) hHeld ?_
  · intro w' hSw; obtain ⟨z0, z1, z2, -⟩ := (a1.below hSw).open3; go_simp
  try simp only [Act.put, List.setIfInBounds_toArray, List.set_cons_zero, List.set_cons_succ, List.getElem_toArray, List.getElem_cons_succ, List.getElem_cons_zero]
  refine wpAnyH_ready (rs := [2]) (by kernel_rfl) (by simp) ?_
  refine AllReadyH.cons rfl (fun KK hK' => ?_) AllReadyH.nil
  go_simp
  refine (toData_any (HS.out.below B) (HL.out.below B) hN hn hM).mono ?_
  rintro e u1 ⟨g9, h9, v9, rfl, -, -, D9, bb⟩
  replace D5 := D5.below bb
  replace B := B.trans (bb.mono B.size)
  replace bu : Kb u0 u1 := bu.trans (bb.mono bu.size)
  clear bb
  try go_wp2_with fail
  clear hHeld
  refine hK'.out _ _ (bu) (fun hHeld => ?_)
  clear hK' KK
  try simp only [List.setIfInBounds_toArray, List.set_cons_zero, List.set_cons_succ]
  refine wpAnyH_ready (rs := [3]) (by kernel_rfl) (by simp) ?_
  refine AllReadyH.cons rfl (fun KK hK' => ?_) AllReadyH.nil
  go_simp
  refine (eqData_true D5 D9 hN hn hM).mono ?_
  rintro e u2 ⟨rfl, bb⟩
  replace B := B.trans (bb.mono B.size)
  replace bu : Kb u0 u2 := bu.trans (bb.mono bu.size)
  clear bb D5 D9
  try go_wp2_with fail
  clear hHeld
  refine hK'.out _ _ (bu) (fun hHeld => ?_)
  clear hK' KK
  try simp only [List.setIfInBounds_toArray, List.set_cons_zero, List.set_cons_succ]
  refine wpAnyH_take (i := 4) (v := .bool false) rfl (by kernel_rfl) (by kernel_rfl) (by kernel_rfl) (fun _ _ _ h => h) (Or.inl ⟨by kernel_rfl, ?_⟩) hHeld ?_
  · intro w' hSw; go_simp
  try simp only [Act.put, List.setIfInBounds_toArray, List.set_cons_zero, List.set_cons_succ, List.getElem_toArray, List.getElem_cons_succ, List.getElem_cons_zero]
  refine wpAnyH_done (by kernel_rfl) ?_ _
  clear hHeld
  go_wp2
  go_ret
  exact ⟨rfl, B⟩
theorem exactShowData_law {w : World} {p q : Option Addr} {N cap M cap2 : Nat} {s : ByteArray} {nm : Nat → ByteArray} {a : Nat → Option Addr} {n c : Nat → Nat} {rw : Nat → Int} {f : Nat → Nat → ByteArray} {zs : List Int} (hs : s.size ≤ maxLen) (hS : ItS w p N nm a n c rw f) (hN : N ≤ maxLen) (hn : ∀ i, i < N → n i ≤ maxLen) (hm : szAll N nm) (hf : ∀ i, i < N → szAll (n i) (f i)) (hr : IsRow .i64 w q M cap2 zs) :
    Calls Try.prog 4 #[.agg #[.string s, .slice p N cap, .slice q M cap2]] w fun e w' => e = .returned (.bool true) ∧ Below w.heap.size w w' := by
  obtain ⟨x, h1, h2, h3⟩ := src_of hr
  exact exactShowData_walk hs hS hN hn hm hf h1 h2 h3
end Go.Proofs.Ytdhfoekfejcceaa
