/-
  Operators compared, by the program and the specification, walked.
-/
import Derived.Test.YtglkddhifpnniaaCat
import Derived.Test.YtglkddhifpnniaaOpF
namespace Go.Proofs.Ytglkddhifpnniaa
open Go.RowKit

theorem slice_inj {a b : Option Addr} {n m c d : Nat} (h : Value.slice a n c = .slice b m d) : a = b ∧ n = m ∧ c = d := by simpa using h
theorem Arr.belowN {w w' : World} {lo hi N : Nat} {v : Value} {n : Nat} {f : Nat → Int} (h : Arr w lo hi v n f) (hb : Below N w w') (hN : hi ≤ N) : Arr w' lo hi v n f := by
  refine h.imp id ?_
  rintro ⟨g, c, rfl, hl, hh, hc, cur, h1, h2⟩
  exact ⟨g, c, rfl, hl, hh, hc, cur, h1.belowN hb (by omega), h2⟩
theorem step_append_own {P : Program} (w : World) {ops : Array Oper} {o : Oper} {a : Act} {K : Act → World → Prop} {Q : Exit → Act → World → Prop} {E : Prop} (hgd : o.guard = none) (s x : Operand) (t : TypeId)
    (ho : o.op = .call { callee := .builtin .append, args := #[s, x], argTypes := #[t, t] })
    (base : Nat) (e : TypeId) (i : TypeInfo) (z : Value) (size bytes : Nat) (ht : P.underlying t = some (.slice e)) (hi : P.info? e = some i) (hz : i.zero = some z)
    (hsize : i.size = size) (hby : i.bytes = bytes) (hzs : z.cells.size = size) (hsz : 0 < size)
    (v : Value) (n : Nat) (xs : List Value) (hs : a.eval s = v) (hown : w.ownsRow base e size v n xs)
    (ad : Addr) (m c : Nat) (news : List Value) (hx : a.eval x = .slice (some ad) m c) (hl : news.length = m * size) (hnews : ∀ j u, news[j]? = some u → w.cell? (ad.add j) = some u) (h1 : ∀ u ∈ news, u.oneCell' = true)
    (h63 : n + m ≤ maxLen) (hbytes : (n + m) * bytes ≤ 140737488355328) (hbase : base ≤ w.heap.size)
    (h : ∀ v' w', w'.ownsRow base e size v' (n + m) (xs ++ news) → w.grownBy w' v.ownBlock → (v' = .slice none 0 0 ↔ v = .slice none 0 0 ∧ m = 0) → K (a.put o.dst v') w') :
    if Region.wanted o (yielded ops a.tmps) = true then Oper.wp P o a w K Q else E := by
  have hw : Region.wanted o (yielded ops a.tmps) = true := by simp [Region.wanted, hgd]
  rw [if_pos hw]
  exact wp_append_own w s x t ho base e i z size bytes ht hi hz hsize hby hzs hsz v n xs hs hown ad m c news hx hl hnews h1 h63 hbytes hbase h
set_option maxRecDepth 100000 in
set_option maxHeartbeats 1600000 in
theorem specCompare_any {w : World} {b1 o1 b2 o2 b3 o3 b4 o4 n k n' k' : Nat} {f h f' h' : Nat → Int} (c1 c2 c3 c4 : Nat) (i1 : Ints w b1 o1 n f) (i2 : Ints w b2 o2 k h) (i3 : Ints w b3 o3 n' f') (i4 : Ints w b4 o4 k' h') (l1 : b1 < w.heap.size) (l2 : b2 < w.heap.size) (l3 : b3 < w.heap.size) (l4 : b4 < w.heap.size) (hn : n ≤ 1048576) (hk : k ≤ 1048576) (hn' : n' ≤ 1048576) (hk' : k' ≤ 1048576) :
    Calls Try.prog 33 #[.agg #[.slice (some ⟨b1, o1, none⟩) n c1, .slice (some ⟨b2, o2, none⟩) k c2], .agg #[.slice (some ⟨b3, o3, none⟩) n' c3, .slice (some ⟨b4, o4, none⟩) k' c4]] w fun e w' => e = .returned (.int .i64 (cmpF (cat n f h) (cat n' f' h') (n + k) (n' + k') (n + k) 0)) ∧ Below w.heap.size w w' := by
  obtain ⟨W1, hW1, a1, B, -⟩ := boxed w 26 #[.slice (some ⟨b1, o1, none⟩) n c1, .slice (some ⟨b2, o2, none⟩) k c2]
  obtain ⟨W2, hW2, a2, B2, -⟩ := boxed W1 26 #[.slice (some ⟨b3, o3, none⟩) n' c3, .slice (some ⟨b4, o4, none⟩) k' c4]
  have s1 := a1.lt
  have s2 := a2.lt
  replace a1 := a1.below B2
  replace B := B.trans (B2.mono B.size)
  go_enter Try.func33, Try.ntmps33
  go_wp2
  clear hW1 hW2 B2
  obtain ⟨i0, hi0, hz0, hz1, hz2⟩ := info_parts Try.info2
  obtain ⟨u0, hu0, A1, A2, Z⟩ : ∃ u0, W2.drew = u0 ∧ At 26 u0 w.heap.size #[.slice (some ⟨b1, o1, none⟩) n c1, .slice (some ⟨b2, o2, none⟩) k c2] ∧ At 26 u0 W1.heap.size #[.slice (some ⟨b3, o3, none⟩) n' c3, .slice (some ⟨b4, o4, none⟩) k' c4] ∧ Below w.heap.size w u0 := ⟨_, rfl, a1, a2, B.drew⟩
  refine wp_region_held_drew (S := Two2 w.heap.size (.slice (some ⟨b1, o1, none⟩) n c1) (.slice (some ⟨b2, o2, none⟩) k c2) W1.heap.size (.slice (some ⟨b3, o3, none⟩) n' c3) (.slice (some ⟨b4, o4, none⟩) k' c4)) (by kernel_rfl) (by rw [hu0]; exact two2_mk A1 A2) (fun hHeld => ?_)
  rw [hu0] at hHeld ⊢
  clear hu0 a1 a2 B
  have sA1 := A1.lt
  have sB1 := A2.lt
  change wpAnyH _ _ _ _ _ 8 #[false, false, false, false, false, false, false, false] _ _
  refine wpAnyH_take (i := 1) (v := .pointer (some ⟨w.heap.size, 0, none⟩)) rfl (by kernel_rfl) (by kernel_rfl) (by kernel_rfl) (fun _ _ _ h => h) (Or.inl ⟨by kernel_rfl, ?_⟩) hHeld ?_
  · intro w' hSw; go_simp
  try simp only [Act.put, List.setIfInBounds_toArray, List.set_cons_zero, List.set_cons_succ]
  refine wpAnyH_take (i := 2) (v := .slice (some ⟨b1, o1, none⟩) n c1) rfl (by kernel_rfl) (by kernel_rfl) (by kernel_rfl) (fun _ _ _ h => h) (Or.inl ⟨by kernel_rfl, ?_⟩) hHeld ?_
  · intro w' hSw; obtain ⟨z0, z1, -, -⟩ := hSw; go_simp
  try simp only [Act.put, List.setIfInBounds_toArray, List.set_cons_zero, List.set_cons_succ]
  refine wpAnyH_take (i := 4) (v := .pointer (some ⟨w.heap.size, 1, none⟩)) rfl (by kernel_rfl) (by kernel_rfl) (by kernel_rfl) (fun _ _ _ h => h) (Or.inl ⟨by kernel_rfl, ?_⟩) hHeld ?_
  · intro w' hSw; go_simp
  try simp only [Act.put, List.setIfInBounds_toArray, List.set_cons_zero, List.set_cons_succ]
  refine wpAnyH_take (i := 5) (v := .slice (some ⟨b2, o2, none⟩) k c2) rfl (by kernel_rfl) (by kernel_rfl) (by kernel_rfl) (fun _ _ _ h => h) (Or.inl ⟨by kernel_rfl, ?_⟩) hHeld ?_
  · intro w' hSw; obtain ⟨z0, z1, -, -⟩ := hSw; go_simp
  try simp only [Act.put, List.setIfInBounds_toArray, List.set_cons_zero, List.set_cons_succ]
  refine wpAnyH_ready (rs := [0]) (by kernel_rfl) (by simp) ?_
  refine AllReadyH.cons rfl (fun K hK => ?_) AllReadyH.nil
  go_simp
  obtain ⟨u1, h6, P0, b', z6⟩ := boxed u0 2 #[]
  rw [h6]
  clear h6 z6
  replace A1 := A1.below b'
  replace A2 := A2.below b'
  replace Z := Z.trans (b'.mono Z.size)
  have o0 : u1.ownsRow u0.heap.size 2 1 (.slice (some ⟨u0.heap.size, 0, none⟩) 0 0) 0 (iCells (cat n f h) 0) := ⟨rfl, .inr ⟨u0.heap.size, 0, #[], rfl, Nat.le_refl _, P0, Nat.le_refl _, Nat.zero_le _, rfl, rfl⟩⟩
  have zu := b'.size
  clear b'
  clear hHeld
  refine hK.out _ _ (two2_mk A1 A2) (fun hHeld => ?_)
  clear hK K
  try simp only [List.setIfInBounds_toArray, List.set_cons_zero]
  refine wpAnyH_ready (rs := [3]) (by kernel_rfl) (by simp) ?_
  refine AllReadyH.cons rfl (fun K hK => ?_) AllReadyH.nil
  refine step_append_own _ (by rfl) _ _ _ (by rfl) u0.heap.size 2 i0 _ 1 8 Try.underlying22 hi0 hz0 hz1 hz2 rfl (by omega) (.slice (some ⟨u0.heap.size, 0, none⟩) 0 0) 0 (iCells (cat n f h) 0) (by rfl) o0 ⟨b1, o1, none⟩ n c1 (iCells f n) (by rfl) (by rw [iCells_len]; omega) (ints_news (i1.below l1 Z)) (iCells_one _ _) (by unfold maxLen; omega) (by omega) (by omega) ?_
  intro v2 u2 hown1 hgrow1 hne1
  have Bg1 : Below u0.heap.size u1 u2 := Below.grown (Below.refl _ _) hgrow1 (by omega) (fun x hx => ownBlock_ge o0 hx)
  replace A1 := A1.belowN Bg1 (by omega)
  replace A2 := A2.belowN Bg1 (by omega)
  replace Z := Z.trans (Bg1.mono (by omega))
  have zg1 := hgrow1.size
  have ho1 : u2.ownsRow u0.heap.size 2 1 v2 n (iCells (cat n f h) n) := by rw [iCells_cat0]; simpa [iCells] using hown1
  obtain ⟨va1, vc1, rfl⟩ := own_form ho1
  clear hHeld
  refine hK.out _ _ (two2_mk A1 A2) (fun hHeld => ?_)
  clear hK K hown1 hgrow1 hne1 o0
  try simp only [Act.put, List.setIfInBounds_toArray, List.set_cons_zero, List.set_cons_succ]
  refine wpAnyH_ready (rs := [6]) (by kernel_rfl) (by simp) ?_
  refine AllReadyH.cons rfl (fun K hK => ?_) AllReadyH.nil
  refine step_append_own _ (by rfl) _ _ _ (by rfl) u0.heap.size 2 i0 _ 1 8 Try.underlying22 hi0 hz0 hz1 hz2 rfl (by omega) (.slice va1 n vc1) n (iCells (cat n f h) n) (by rfl) ho1 ⟨b2, o2, none⟩ k c2 (iCells h k) (by rfl) (by rw [iCells_len]; omega) (ints_news (i2.below l2 Z)) (iCells_one _ _) (by unfold maxLen; omega) (by omega) (by omega) ?_
  intro v3 u3 hown2 hgrow2 hne2
  have Bg2 : Below u0.heap.size u2 u3 := Below.grown (Below.refl _ _) hgrow2 (by omega) (fun x hx => ownBlock_ge ho1 hx)
  replace A1 := A1.belowN Bg2 (by omega)
  replace A2 := A2.belowN Bg2 (by omega)
  replace Z := Z.trans (Bg2.mono (by omega))
  have zg2 := hgrow2.size
  have ho2 : u3.ownsRow u0.heap.size 2 1 v3 (n + k) (iCells (cat n f h) (n + k)) := by rw [iCells_cat, ← iCells_cat0 n f h]; exact hown2
  obtain ⟨d5, e5, rfl⟩ := own_form ho2
  clear hHeld
  refine hK.out _ _ (two2_mk A1 A2) (fun hHeld => ?_)
  clear hK K hown2 hgrow2 hne2 ho1
  try simp only [Act.put, List.setIfInBounds_toArray, List.set_cons_zero, List.set_cons_succ]
  refine wpAnyH_ready (rs := [7]) (by kernel_rfl) (by simp) ?_
  refine AllReadyH.cons rfl (fun K hK => ?_) AllReadyH.nil
  go_simp
  clear hHeld
  refine hK.out _ _ (two2_mk A1 A2) (fun hHeld => ?_)
  clear hK K
  try simp only [List.setIfInBounds_toArray, List.set_cons_zero, List.set_cons_succ]
  refine wpAnyH_done (by kernel_rfl) ?_ _
  clear hHeld
  obtain ⟨w9, e9, a1, a2, B, R5⟩ : ∃ w9, u3 = w9 ∧ At 26 w9 w.heap.size #[.slice (some ⟨b1, o1, none⟩) n c1, .slice (some ⟨b2, o2, none⟩) k c2] ∧ At 26 w9 W1.heap.size #[.slice (some ⟨b3, o3, none⟩) n' c3, .slice (some ⟨b4, o4, none⟩) k' c4] ∧ Below w.heap.size w w9 ∧ Arr w9 w.heap.size w9.heap.size (.slice d5 (n + k) e5) (n + k) (cat n f h) := ⟨_, rfl, A1, A2, Z, (arr_of_owns ho2).wide (show w.heap.size ≤ u0.heap.size by omega) (Nat.le_refl _)⟩
  rw [e9]
  clear e9 A1 A2 Z ho2 Bg1 Bg2 P0 zu zg1 zg2
  go_wp2_with fail
  obtain ⟨u0, hu0, s90', A1, A2, Z, O5⟩ : ∃ u0, w9.drew = u0 ∧ w9.heap.size ≤ u0.heap.size ∧ At 26 u0 w.heap.size #[.slice (some ⟨b1, o1, none⟩) n c1, .slice (some ⟨b2, o2, none⟩) k c2] ∧ At 26 u0 W1.heap.size #[.slice (some ⟨b3, o3, none⟩) n' c3, .slice (some ⟨b4, o4, none⟩) k' c4] ∧ Below w.heap.size w u0 ∧ Arr u0 w.heap.size w9.heap.size (.slice d5 (n + k) e5) (n + k) (cat n f h) := ⟨_, rfl, Nat.le_refl _, a1, a2, B.drew, R5.below (Below.refl _ _).drew⟩
  refine wp_region_held_drew (S := Two2 w.heap.size (.slice (some ⟨b1, o1, none⟩) n c1) (.slice (some ⟨b2, o2, none⟩) k c2) W1.heap.size (.slice (some ⟨b3, o3, none⟩) n' c3) (.slice (some ⟨b4, o4, none⟩) k' c4)) (by kernel_rfl) (by rw [hu0]; exact two2_mk A1 A2) (fun hHeld => ?_)
  rw [hu0] at hHeld ⊢
  clear hu0 a1 a2 B
  have sA2 := A1.lt
  have sB2 := A2.lt
  have s90 : w9.heap.size ≤ u0.heap.size := s90'
  change wpAnyH _ _ _ _ _ 8 #[false, false, false, false, false, false, false, false] _ _
  refine wpAnyH_take (i := 1) (v := .pointer (some ⟨W1.heap.size, 0, none⟩)) rfl (by kernel_rfl) (by kernel_rfl) (by kernel_rfl) (fun _ _ _ h => h) (Or.inl ⟨by kernel_rfl, ?_⟩) hHeld ?_
  · intro w' hSw; go_simp
  try simp only [Act.put, List.setIfInBounds_toArray, List.set_cons_zero, List.set_cons_succ]
  refine wpAnyH_take (i := 2) (v := .slice (some ⟨b3, o3, none⟩) n' c3) rfl (by kernel_rfl) (by kernel_rfl) (by kernel_rfl) (fun _ _ _ h => h) (Or.inl ⟨by kernel_rfl, ?_⟩) hHeld ?_
  · intro w' hSw; obtain ⟨-, -, z0, z1⟩ := hSw; go_simp
  try simp only [Act.put, List.setIfInBounds_toArray, List.set_cons_zero, List.set_cons_succ]
  refine wpAnyH_take (i := 4) (v := .pointer (some ⟨W1.heap.size, 1, none⟩)) rfl (by kernel_rfl) (by kernel_rfl) (by kernel_rfl) (fun _ _ _ h => h) (Or.inl ⟨by kernel_rfl, ?_⟩) hHeld ?_
  · intro w' hSw; go_simp
  try simp only [Act.put, List.setIfInBounds_toArray, List.set_cons_zero, List.set_cons_succ]
  refine wpAnyH_take (i := 5) (v := .slice (some ⟨b4, o4, none⟩) k' c4) rfl (by kernel_rfl) (by kernel_rfl) (by kernel_rfl) (fun _ _ _ h => h) (Or.inl ⟨by kernel_rfl, ?_⟩) hHeld ?_
  · intro w' hSw; obtain ⟨-, -, z0, z1⟩ := hSw; go_simp
  try simp only [Act.put, List.setIfInBounds_toArray, List.set_cons_zero, List.set_cons_succ]
  refine wpAnyH_ready (rs := [0]) (by kernel_rfl) (by simp) ?_
  refine AllReadyH.cons rfl (fun K hK => ?_) AllReadyH.nil
  go_simp
  obtain ⟨u1, h6, P0, b', z6⟩ := boxed u0 2 #[]
  rw [h6]
  clear h6 z6
  replace A1 := A1.below b'
  replace A2 := A2.below b'
  replace Z := Z.trans (b'.mono Z.size)
  replace O5 := O5.below b'
  have o0 : u1.ownsRow u0.heap.size 2 1 (.slice (some ⟨u0.heap.size, 0, none⟩) 0 0) 0 (iCells (cat n' f' h') 0) := ⟨rfl, .inr ⟨u0.heap.size, 0, #[], rfl, Nat.le_refl _, P0, Nat.le_refl _, Nat.zero_le _, rfl, rfl⟩⟩
  have zu := b'.size
  clear b'
  clear hHeld
  refine hK.out _ _ (two2_mk A1 A2) (fun hHeld => ?_)
  clear hK K
  try simp only [List.setIfInBounds_toArray, List.set_cons_zero]
  refine wpAnyH_ready (rs := [3]) (by kernel_rfl) (by simp) ?_
  refine AllReadyH.cons rfl (fun K hK => ?_) AllReadyH.nil
  refine step_append_own _ (by rfl) _ _ _ (by rfl) u0.heap.size 2 i0 _ 1 8 Try.underlying22 hi0 hz0 hz1 hz2 rfl (by omega) (.slice (some ⟨u0.heap.size, 0, none⟩) 0 0) 0 (iCells (cat n' f' h') 0) (by rfl) o0 ⟨b3, o3, none⟩ n' c3 (iCells f' n') (by rfl) (by rw [iCells_len]; omega) (ints_news (i3.below l3 Z)) (iCells_one _ _) (by unfold maxLen; omega) (by omega) (by omega) ?_
  intro v2 u2 hown1 hgrow1 hne1
  have Bg1 : Below u0.heap.size u1 u2 := Below.grown (Below.refl _ _) hgrow1 (by omega) (fun x hx => ownBlock_ge o0 hx)
  replace A1 := A1.belowN Bg1 (by omega)
  replace A2 := A2.belowN Bg1 (by omega)
  replace Z := Z.trans (Bg1.mono (by omega))
  replace O5 := O5.belowN Bg1 (by omega)
  have zg1 := hgrow1.size
  have ho1 : u2.ownsRow u0.heap.size 2 1 v2 n' (iCells (cat n' f' h') n') := by rw [iCells_cat0]; simpa [iCells] using hown1
  obtain ⟨va1, vc1, rfl⟩ := own_form ho1
  clear hHeld
  refine hK.out _ _ (two2_mk A1 A2) (fun hHeld => ?_)
  clear hK K hown1 hgrow1 hne1 o0
  try simp only [Act.put, List.setIfInBounds_toArray, List.set_cons_zero, List.set_cons_succ]
  refine wpAnyH_ready (rs := [6]) (by kernel_rfl) (by simp) ?_
  refine AllReadyH.cons rfl (fun K hK => ?_) AllReadyH.nil
  refine step_append_own _ (by rfl) _ _ _ (by rfl) u0.heap.size 2 i0 _ 1 8 Try.underlying22 hi0 hz0 hz1 hz2 rfl (by omega) (.slice va1 n' vc1) n' (iCells (cat n' f' h') n') (by rfl) ho1 ⟨b4, o4, none⟩ k' c4 (iCells h' k') (by rfl) (by rw [iCells_len]; omega) (ints_news (i4.below l4 Z)) (iCells_one _ _) (by unfold maxLen; omega) (by omega) (by omega) ?_
  intro v3 u3 hown2 hgrow2 hne2
  have Bg2 : Below u0.heap.size u2 u3 := Below.grown (Below.refl _ _) hgrow2 (by omega) (fun x hx => ownBlock_ge ho1 hx)
  replace A1 := A1.belowN Bg2 (by omega)
  replace A2 := A2.belowN Bg2 (by omega)
  replace Z := Z.trans (Bg2.mono (by omega))
  replace O5 := O5.belowN Bg2 (by omega)
  have zg2 := hgrow2.size
  have ho2 : u3.ownsRow u0.heap.size 2 1 v3 (n' + k') (iCells (cat n' f' h') (n' + k')) := by rw [iCells_cat, ← iCells_cat0 n' f' h']; exact hown2
  obtain ⟨va2, vc2, rfl⟩ := own_form ho2
  clear hHeld
  refine hK.out _ _ (two2_mk A1 A2) (fun hHeld => ?_)
  clear hK K hown2 hgrow2 hne2 ho1
  try simp only [Act.put, List.setIfInBounds_toArray, List.set_cons_zero, List.set_cons_succ]
  refine wpAnyH_ready (rs := [7]) (by kernel_rfl) (by simp) ?_
  refine AllReadyH.cons rfl (fun K hK => ?_) AllReadyH.nil
  go_simp
  clear hHeld
  refine hK.out _ _ (two2_mk A1 A2) (fun hHeld => ?_)
  clear hK K
  try simp only [List.setIfInBounds_toArray, List.set_cons_zero, List.set_cons_succ]
  refine wpAnyH_done (by kernel_rfl) ?_ _
  clear hHeld
  go_wp2_with fail
  obtain ⟨x5, y5, q5, s5⟩ := O5.src
  obtain ⟨x6, y6, q6, s6⟩ := (arr_of_owns ho2).src
  obtain ⟨rfl, -, rfl⟩ := slice_inj q5
  obtain ⟨rfl, -, rfl⟩ := slice_inj q6
  refine (l3Compare_any s5 s6 (by omega) (by omega)).mono ?_
  rintro e u4 ⟨rfl, b4⟩
  go_wp2
  go_ret
  exact ⟨rfl, Z.trans (b4.mono Z.size)⟩
end Go.Proofs.Ytglkddhifpnniaa
