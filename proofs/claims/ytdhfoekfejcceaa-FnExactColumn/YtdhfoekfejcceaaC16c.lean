/-
  The law of columns: walked.
-/
import Derived.Test.YtdhfoekfejcceaaC16b
namespace Go.Proofs.Ytdhfoekfejcceaa
open Go.RowKit

set_option maxRecDepth 100000 in
set_option maxHeartbeats 6400000 in
theorem exactColumn_walk {w : World} {p q : Option Addr} {N cap M cap2 : Nat} {s x : ByteArray} {nm : Nat → ByteArray} {a : Nat → Option Addr} {n c : Nat → Nat} {rw : Nat → Int} {f : Nat → Nat → ByteArray} {lp : Nat → Int} (hx : x.size ≤ maxLen) (hs : s.size ≤ maxLen) (hS : ItS w p N nm a n c rw f) (hN : N ≤ maxLen) (hn : ∀ i, i < N → n i ≤ maxLen) (hm : szAll N nm) (hf : ∀ i, i < N → szAll (n i) (f i)) (hL : Src w q M lp) (hM : M ≤ maxLen) (hl64 : ∀ j, j < M → -9223372036854775808 ≤ lp j ∧ lp j ≤ 9223372036854775807) :
    Calls Try.prog 5 #[.agg #[.string s, .slice p N cap, .slice q M cap2], .string x] w fun e w' => e = .returned (.bool true) ∧ Below w.heap.size w w' := by
  obtain ⟨m, F, R, hcl⟩ := cla_is N nm n f (DOk s N M nm n rw f lp) x
  have HC : Hid (ClA N nm n f (DOk s N M nm n rw f lp) x m F R) := hcl
  clear hcl
  have hRR := bne_self_eq_false R
  obtain ⟨W1, hW1, a1, b1, -⟩ := boxed w 25 #[.string s, .slice p N cap, .slice q M cap2]
  obtain ⟨q1, hq1⟩ : ∃ q, w.heap.size = q := ⟨_, rfl⟩
  rw [hq1] at a1
  have HS : Hid (ItS w p N nm a n c rw f) := hS
  have HL : Hid (Src w q M lp) := hL
  obtain ⟨c0, c1, c2, -⟩ := a1.open3
  clear hS hL
  unfold maxLen at hx
  by_cases hx2 : 1048576 < x.size
  · have hx3 : (1048576 : Int) < (x.size : Int) := by omega
    have hx4 : (x.size : Int) ≤ 9223372036854775807 := by omega
    go_enter Try.func5, Try.ntmps5
    go_wp2
    go_ret
    exact ⟨rfl, b1⟩
  have hx3 : ¬ (1048576 : Int) < (x.size : Int) := by omega
  go_enter Try.func5, Try.ntmps5
  go_wp2_with fail
  refine (szData_any hs (HS.out.below b1) hN hn hm hf hM).mono ?_
  rintro e w2 ⟨r, rfl, hr, b2⟩
  have B := b1.trans (b2.mono b1.size)
  replace a1 := a1.below b2
  clear c0 c1 c2 hW1 hq1 b1 b2 hs hN hn hm hf hM
  obtain ⟨c0, c1, c2, -⟩ := a1.open3
  rcases hr with rfl | ⟨r0, hM, hN, hn⟩
  · go_wp2
    go_ret
    exact ⟨rfl, B⟩
  have hr0 : ¬ r < 0 := by omega
  have hm20 : m ≤ 1048576 := by
    rcases HC.out with ⟨-, i, h1, -, h2, -⟩ | ⟨-, h, -⟩
    · rw [h2]; exact hn i h1
    · omega
  go_wp2_with fail
  refine (toData_any (HS.out.below B) (HL.out.below B) hN hn hM).mono ?_
  rintro e w3 ⟨g3, h3, v3, rfl, -, -, D3, b3⟩
  replace B := B.trans (b3.mono B.size)
  replace a1 := a1.below b3
  clear c0 c1 c2 b3
  go_wp2_with fail
  refine (specCol_any D3 hN hn hM hl64 HC).mono ?_
  rintro e w4 ⟨v0, rfl, A0, b4⟩
  replace B := B.trans (b4.mono B.size)
  replace a1 := a1.below b4
  clear b4 D3
  have q1l : q1 < w4.heap.size := a1.lt
  have zB4 := B.size
  obtain ⟨c0, c1, c2, -⟩ := a1.open3
  go_wp2_with fail
  refine (toData_any (HS.out.below B) (HL.out.below B) hN hn hM).mono ?_
  rintro e w5 ⟨g5, h5, v5, rfl, g5l, -, D5, b5⟩
  replace B := B.trans (b5.mono B.size)
  replace a1 := a1.below b5
  replace A0 := A0.below b5
  have z5 := b5.size
  have h5u : h5 < w5.heap.size := Made.lt D5.lo
  clear c0 c1 c2 b5
  obtain ⟨W6, hW6, a6, b6, -⟩ := boxed w5 30 #[.string s, .slice (some ⟨g5, 0, none⟩) N N, .slice (some ⟨h5, 0, none⟩) M M]
  obtain ⟨q6, hq6⟩ : ∃ q, w5.heap.size = q := ⟨_, rfl⟩
  rw [hq6] at a6
  have HQ6 : Hid (w5.heap.size = q6) := hq6
  replace D5 := D5.below b6
  replace A0 := A0.below b6
  replace B := B.trans (b6.mono B.size)
  replace a1 := a1.below b6
  have z6 := b6.size
  obtain ⟨c0, c1, c2, -⟩ := a6.open3
  have HE : dV s g5 N h5 M = .agg #[.string s, .slice (some ⟨g5, 0, none⟩) N N, .slice (some ⟨h5, 0, none⟩) M M] := rfl
  rw [HE]
  clear b6
  go_wp2_with fail
  rw [← HE]
  refine (implCol_any D5 hN hn hM hl64 HC).mono ?_
  rintro e w7 ⟨v1, rfl, A1, b7⟩
  replace B := B.trans (b7.mono B.size)
  replace a1 := a1.below b7
  replace a6 := a6.below b7
  replace D5 := D5.below b7
  replace A0 := A0.below b7
  clear c0 c1 c2 b7 hW6 hq6
  rw [HE]
  go_wp2_with fail
  refine (eqSAr_true A1 A0 hm20).mono ?_
  rintro e w8 ⟨rfl, b8⟩
  replace B := B.trans (b8.mono B.size)
  replace a1 := a1.below b8
  replace a6 := a6.below b8
  replace D5 := D5.below b8
  replace A0 := A0.below b8
  replace A1 := A1.below b8
  clear b8
  go_wp2_with fail
  obtain ⟨u0, hu0, bb⟩ : ∃ uu, w8.drew = uu ∧ Below w8.heap.size w8 uu := ⟨_, rfl, (Below.refl _ _).drew⟩
  replace a1 := a1.below bb
  replace a6 := a6.below bb
  replace D5 := D5.below bb
  replace A0 := A0.below bb
  replace A1 := A1.below bb
  replace B := B.trans (bb.mono B.size)
  have au1 := a1
  have au6 := a6
  clear bb
  refine wp_region_held_drew (S := Kb u0) (by kernel_rfl) (by rw [hu0]; exact Below.refl _ _) (fun hHeld => ?_)
  rw [hu0] at hHeld ⊢
  clear hu0
  have bu : Kb u0 u0 := Below.refl _ _
  change wpAnyH _ _ _ _ _ 5 #[false, false, false, false, false] _ _
  refine wpAnyH_take (i := 0) (v := .agg #[.string s, .slice ((some ⟨g5, 0, none⟩)) N N, .slice ((some ⟨h5, 0, none⟩)) M M]) rfl (by kernel_rfl) (by kernel_rfl) (by kernel_rfl) (fun _ _ _ h => h) (Or.inl ⟨by kernel_rfl, ?_⟩) hHeld ?_
  · intro w' hSw; obtain ⟨z0, z1, z2, -⟩ := (au6.below hSw).open3; go_simp
  try simp only [Act.put, List.setIfInBounds_toArray, List.set_cons_zero, List.set_cons_succ, List.getElem_toArray, List.getElem_cons_zero]
  refine wpAnyH_take (i := 1) (v := .agg #[.string s, .slice p N cap, .slice q M cap2]) rfl (by kernel_rfl) (by kernel_rfl) (by kernel_rfl) (fun _ _ _ h => h) (Or.inl ⟨by kernel_rfl, ?_⟩) hHeld ?_
  · intro w' hSw; obtain ⟨z0, z1, z2, -⟩ := (au1.below hSw).open3; go_simp
  try simp only [Act.put, List.setIfInBounds_toArray, List.set_cons_zero, List.set_cons_succ, List.getElem_toArray, List.getElem_cons_succ, List.getElem_cons_zero]
  refine wpAnyH_ready (rs := [2]) (by kernel_rfl) (by simp) ?_
  refine AllReadyH.cons rfl (fun KK hK' => ?_) AllReadyH.nil
  go_simp
  refine (toData_any (HS.out.below B) (HL.out.below B) hN hn hM).mono ?_
  rintro e u1 ⟨g9, h9, v9, rfl, -, -, D9, bb⟩
  replace D5 := D5.below bb
  replace A0 := A0.below bb
  replace A1 := A1.below bb
  replace a1 := a1.below bb
  replace a6 := a6.below bb
  replace B := B.trans (bb.mono B.size)
  replace bu : Kb u0 u1 := bu.trans (bb.mono bu.size)
  clear bb
  try go_wp2_with fail
  clear hHeld
  refine hK'.out _ _ (bu) (fun hHeld => ?_)
  clear hK' KK
  try simp only [List.setIfInBounds_toArray, List.set_cons_zero, List.set_cons_succ]
  refine wpAnyH_ready (rs := [3]) (by kernel_rfl) (by simp) ?_
  refine AllReadyH.cons rfl (fun KK hK' => ?_) AllReadyH.nil
  go_simp
  refine (eqData_true D5 D9 hN hn hM).mono ?_
  rintro e u2 ⟨rfl, bb⟩
  replace D5 := D5.below bb
  replace A0 := A0.below bb
  replace A1 := A1.below bb
  replace a1 := a1.below bb
  replace a6 := a6.below bb
  replace B := B.trans (bb.mono B.size)
  replace bu : Kb u0 u2 := bu.trans (bb.mono bu.size)
  clear bb D9
  try go_wp2_with fail
  clear hHeld
  refine hK'.out _ _ (bu) (fun hHeld => ?_)
  clear hK' KK
  try simp only [List.setIfInBounds_toArray, List.set_cons_zero, List.set_cons_succ]
  refine wpAnyH_take (i := 4) (v := .bool false) rfl (by kernel_rfl) (by kernel_rfl) (by kernel_rfl) (fun _ _ _ h => h) (Or.inl ⟨by kernel_rfl, ?_⟩) hHeld ?_
  · intro w' hSw; go_simp
  try simp only [Act.put, List.setIfInBounds_toArray, List.set_cons_zero, List.set_cons_succ, List.getElem_toArray, List.getElem_cons_succ, List.getElem_cons_zero]
  refine wpAnyH_done (by kernel_rfl) ?_ _
  clear hHeld
  clear bu au1 au6
  have D6 := D5
  obtain ⟨c0, c1, c2, -⟩ := a6.open3
  go_wp2_with fail
  rw [← HE]
  refine (markD_any (lo := w4.heap.size) (hi := w5.heap.size) D5 hN hn hM g5l h5u).mono ?_
  rintro e w10 ⟨r9, rfl, r90, T⟩
  rw [HE]
  replace A0 := A0.turn T (.inl (Nat.le_refl _))
  replace A1 := A1.turn T (.inr z6)
  replace a1 := a1.turn T (.inl q1l)
  have B10 := T.below B zB4 B.size
  clear c0 c1 c2 T D5 D6 a6
  have hr9 : ¬ r9 < 0 := by omega
  go_wp2_with fail
  refine (eqSAr_true A1 A0 hm20).mono ?_
  rintro e w11 ⟨rfl, b11⟩
  replace B10 := B10.trans (b11.mono B10.size)
  replace a1 := a1.below b11
  replace A0 := A0.below b11
  replace A1 := A1.below b11
  clear b11
  obtain ⟨gA, cA, rfl, lA, uA, kA, M1⟩ := A1
  have M0 : MadeS w11 gA cA 0 F := by
    obtain ⟨cur, k1, k2, -⟩ := M1
    exact ⟨cur, k1, k2, fun i hi => by omega⟩
  go_wp2_with fail
  refine (markS_any (lo := gA) (hi := gA + 1) M0 kA hm20 (Nat.le_refl _) (Nat.lt_succ_self _) 1 (by omega) (by omega)).mono ?_
  rintro e w12 ⟨rfl, M2, T⟩
  replace A0 := A0.turn T (.inl (by omega))
  replace a1 := a1.turn T (.inl (by omega))
  replace B10 := T.below B10 (by omega) B10.size
  clear T M0 M1
  obtain ⟨X, hX⟩ : ∃ X, 1 + m = X := ⟨_, rfl⟩
  have HX : Hid (1 + m = X) := hX
  have H1 := fun w (h : Strs w gA 0 m (mks 1)) (hg : gA < w.heap.size) => heldS_any (c := cA) h hg hm20
  rw [hX] at H1 ⊢
  have hX0 : ¬ (X : Int) < 0 := by omega
  have hXX := bne_self_eq_false (X : Int)
  clear hX
  go_wp2_with fail
  refine (H1 _ M2.strsN M2.lt).mono ?_
  rintro e w13 ⟨rfl, b13⟩
  replace B10 := B10.trans (b13.mono B10.size)
  replace a1 := a1.below b13
  replace A0 := A0.below b13
  replace M2 := M2.below b13
  clear b13
  obtain ⟨c0, c1, c2, -⟩ := a1.open3
  go_wp2_with fail
  refine (toData_any (HS.out.below B10) (HL.out.below B10) hN hn hM).mono ?_
  rintro e w14 ⟨g14, h14, v14, rfl, -, -, D14, b14⟩
  replace B10 := B10.trans (b14.mono B10.size)
  replace A0 := A0.below b14
  replace M2 := M2.below b14
  clear c0 c1 c2 b14 a1
  go_wp2_with fail
  refine (implCol_any D14 hN hn hM hl64 HC).mono ?_
  rintro e w15 ⟨v2, rfl, A3, b15⟩
  replace B10 := B10.trans (b15.mono B10.size)
  replace A0 := A0.below b15
  replace M2 := M2.below b15
  clear b15 D14
  go_wp2_with fail
  refine (eqSAr_true A3 A0 hm20).mono ?_
  rintro e w16 ⟨rfl, b16⟩
  replace B10 := B10.trans (b16.mono B10.size)
  replace M2 := M2.below b16
  clear b16 A3 A0
  go_wp2_with fail
  refine (H1 _ M2.strsN M2.lt).mono ?_
  rintro e w17 ⟨rfl, b17⟩
  replace B10 := B10.trans (b17.mono B10.size)
  clear b17 M2 H1
  go_wp2
  go_ret
  exact ⟨rfl, B10⟩
theorem exactColumn_law {w : World} {p q : Option Addr} {N cap M cap2 : Nat} {s x : ByteArray} {nm : Nat → ByteArray} {a : Nat → Option Addr} {n c : Nat → Nat} {rw : Nat → Int} {f : Nat → Nat → ByteArray} {zs : List Int} (hs : s.size ≤ maxLen) (hS : ItS w p N nm a n c rw f) (hN : N ≤ maxLen) (hn : ∀ i, i < N → n i ≤ maxLen) (hm : szAll N nm) (hf : ∀ i, i < N → szAll (n i) (f i)) (hr : IsRow .i64 w q M cap2 zs) (hx : x.size ≤ maxLen) :
    Calls Try.prog 5 #[.agg #[.string s, .slice p N cap, .slice q M cap2], .string x] w fun e w' => e = .returned (.bool true) ∧ Below w.heap.size w w' := by
  obtain ⟨y, h1, h2, h3⟩ := src_of hr
  exact exactColumn_walk hx hs hS hN hn hm hf h1 h2 h3
end Go.Proofs.Ytdhfoekfejcceaa
