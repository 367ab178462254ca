/-
  Operators compared, by the program and the specification, walked.
-/
import Derived.Test.YtiocneailhplkaaGreatME
import Derived.Test.YtiocneailhplkaaGreatMC
namespace Go.Proofs.YtiocneailhplkaaGreat
open Go.RowKit

theorem slice_inj {a b : Option Addr} {n m c d : Nat} (h : Value.slice a n c = .slice b m d) : a = b ∧ n = m ∧ c = d := by simpa using h
theorem Arr.belowN {w w' : World} {lo hi N : Nat} {v : Value} {n : Nat} {f : Nat → Int} (h : Arr w lo hi v n f) (hb : Below N w w') (hN : hi ≤ N) : Arr w' lo hi v n f := by
  refine h.imp id ?_
  rintro ⟨g, c, rfl, hl, hh, hc, cur, h1, h2⟩
  exact ⟨g, c, rfl, hl, hh, hc, cur, h1.belowN hb (by omega), h2⟩
theorem step_append_own {P : Program} (w : World) {ops : Array Oper} {o : Oper} {a : Act} {K : Act → World → Prop} {Q : Exit → Act → World → Prop} {E : Prop} (hgd : o.guard = none) (s x : Operand) (t : TypeId)
    (ho : o.op = .call { callee := .builtin .append, args := #[s, x], argTypes := #[t, t] })
    (base : Nat) (e : TypeId) (i : TypeInfo) (z : Value) (size bytes : Nat) (ht : P.underlying t = some (.slice e)) (hi : P.info? e = some i) (hz : i.zero = some z)
    (hsize : i.size = size) (hby : i.bytes = bytes) (hzs : z.cells.size = size) (hsz : 0 < size)
    (v : Value) (n : Nat) (xs : List Value) (hs : a.eval s = v) (hown : w.ownsRow base e size v n xs)
    (ad : Addr) (m c : Nat) (news : List Value) (hx : a.eval x = .slice (some ad) m c) (hl : news.length = m * size) (hnews : ∀ j u, news[j]? = some u → w.cell? (ad.add j) = some u) (h1 : ∀ u ∈ news, u.oneCell' = true)
    (h63 : n + m ≤ maxLen) (hbytes : (n + m) * bytes ≤ 140737488355328) (hbase : base ≤ w.heap.size)
    (h : ∀ v' w', w'.ownsRow base e size v' (n + m) (xs ++ news) → w.grownBy w' v.ownBlock → (v' = .slice none 0 0 ↔ v = .slice none 0 0 ∧ m = 0) → K (a.put o.dst v') w') :
    if Region.wanted o (yielded ops a.tmps) = true then Oper.wp P o a w K Q else E := by
  have hw : Region.wanted o (yielded ops a.tmps) = true := by simp [Region.wanted, hgd]
  rw [if_pos hw]
  exact wp_append_own w s x t ho base e i z size bytes ht hi hz hsize hby hzs hsz v n xs hs hown ad m c news hx hl hnews h1 h63 hbytes hbase h
set_option maxRecDepth 100000 in
set_option maxHeartbeats 1600000 in
theorem specCompare_any {w : World} {b1 o1 b2 o2 b3 o3 b4 o4 n k n' k' : Nat} {f h f' h' : Nat → Int} (c1 c2 c3 c4 : Nat) (i1 : Ints w b1 o1 n f) (i2 : Ints w b2 o2 k h) (i3 : Ints w b3 o3 n' f') (i4 : Ints w b4 o4 k' h') (l1 : b1 < w.heap.size) (l2 : b2 < w.heap.size) (l3 : b3 < w.heap.size) (l4 : b4 < w.heap.size) (hn : n ≤ 1048576) (hk : k ≤ 1048576) (hn' : n' ≤ 1048576) (hk' : k' ≤ 1048576) :
    Calls Tryz.prog 58 #[.agg #[.slice (some ⟨b1, o1, none⟩) n c1, .slice (some ⟨b2, o2, none⟩) k c2], .agg #[.slice (some ⟨b3, o3, none⟩) n' c3, .slice (some ⟨b4, o4, none⟩) k' c4]] w fun e w' => e = .returned (.int .i64 (cmpF (cat n f h) (cat n' f' h') (n + k) (n' + k') (n + k) 0)) ∧ Below w.heap.size w w' := by
  obtain ⟨W1, hW1, a1, B, -⟩ := boxed w 57 #[.slice (some ⟨b1, o1, none⟩) n c1, .slice (some ⟨b2, o2, none⟩) k c2]
  obtain ⟨W2, hW2, a2, B2, -⟩ := boxed W1 57 #[.slice (some ⟨b3, o3, none⟩) n' c3, .slice (some ⟨b4, o4, none⟩) k' c4]
  have s1 := a1.lt
  have s2 := a2.lt
  replace a1 := a1.below B2
  replace B := B.trans (B2.mono B.size)
  go_enter Tryz.func58, Tryz.ntmps58
  go_wp2
  clear hW1 hW2 B2
  obtain ⟨i0, hi0, hz0, hz1, hz2⟩ := info_parts Tryz.info2
  obtain ⟨u0, hu0, A1, A2, Z⟩ : ∃ u0, W2.drew = u0 ∧ At 57 u0 w.heap.size #[.slice (some ⟨b1, o1, none⟩) n c1, .slice (some ⟨b2, o2, none⟩) k c2] ∧ At 57 u0 W1.heap.size #[.slice (some ⟨b3, o3, none⟩) n' c3, .slice (some ⟨b4, o4, none⟩) k' c4] ∧ Below w.heap.size w u0 := ⟨_, rfl, a1, a2, B.drew⟩
  refine wp_region_held_drew (S := Two2 w.heap.size (.slice (some ⟨b1, o1, none⟩) n c1) (.slice (some ⟨b2, o2, none⟩) k c2) W1.heap.size (.slice (some ⟨b3, o3, none⟩) n' c3) (.slice (some ⟨b4, o4, none⟩) k' c4)) (by kernel_rfl) (by rw [hu0]; exact two2_mk A1 A2) (fun hHeld => ?_)
  rw [hu0] at hHeld ⊢
  clear hu0 a1 a2 B
  have sA1 := A1.lt
  have sB1 := A2.lt
  change wpAnyH _ _ _ _ _ 8 #[false, false, false, false, false, false, false, false] _ _
  refine wpAnyH_take (i := 1) (v := .pointer (some ⟨w.heap.size, 0, none⟩)) rfl (by kernel_rfl) (by kernel_rfl) (by kernel_rfl) (fun _ _ _ h => h) (Or.inl ⟨by kernel_rfl, ?_⟩) hHeld ?_
  · intro w' hSw; go_simp
  try simp only [Act.put, List.setIfInBounds_toArray, List.set_cons_zero, List.set_cons_succ]
  refine wpAnyH_take (i := 2) (v := .slice (some ⟨b1, o1, none⟩) n c1) rfl (by kernel_rfl) (by kernel_rfl) (by kernel_rfl) (fun _ _ _ h => h) (Or.inl ⟨by kernel_rfl, ?_⟩) hHeld ?_
  · intro w' hSw; obtain ⟨z0, z1, -, -⟩ := hSw; go_simp
  try simp only [Act.put, List.setIfInBounds_toArray, List.set_cons_zero, List.set_cons_succ]
  refine wpAnyH_take (i := 4) (v := .pointer (some ⟨w.heap.size, 1, none⟩)) rfl (by kernel_rfl) (by kernel_rfl) (by kernel_rfl) (fun _ _ _ h => h) (Or.inl ⟨by kernel_rfl, ?_⟩) hHeld ?_
  · intro w' hSw; go_simp
  try simp only [Act.put, List.setIfInBounds_toArray, List.set_cons_zero, List.set_cons_succ]
  refine wpAnyH_take (i := 5) (v := .slice (some ⟨b2, o2, none⟩) k c2) rfl (by kernel_rfl) (by kernel_rfl) (by kernel_rfl) (fun _ _ _ h => h) (Or.inl ⟨by kernel_rfl, ?_⟩) hHeld ?_
  · intro w' hSw; obtain ⟨z0, z1, -, -⟩ := hSw; go_simp
  try simp only [Act.put, List.setIfInBounds_toArray, List.set_cons_zero, List.set_cons_succ]
  refine wpAnyH_ready (rs := [0]) (by kernel_rfl) (by simp) ?_
  refine AllReadyH.cons rfl (fun K hK => ?_) AllReadyH.nil
  go_simp
  obtain ⟨u1, h6, P0, b', z6⟩ := boxed u0 2 #[]
  rw [h6]
  clear h6 z6
  replace A1 := A1.below b'
  replace A2 := A2.below b'
  replace Z := Z.trans (b'.mono Z.size)
  have o0 : u1.ownsRow u0.heap.size 2 1 (.slice (some ⟨u0.heap.size, 0, none⟩) 0 0) 0 (iCells (cat n f h) 0) := ⟨rfl, .inr ⟨u0.heap.size, 0, #[], rfl, Nat.le_refl _, P0, Nat.le_refl _, Nat.zero_le _, rfl, rfl⟩⟩
  have zu := b'.size
  clear b'
  clear hHeld
  refine hK.out _ _ (two2_mk A1 A2) (fun hHeld => ?_)
  clear hK K
  try simp only [List.setIfInBounds_toArray, List.set_cons_zero]
  refine wpAnyH_ready (rs := [3]) (by kernel_rfl) (by simp) ?_
  refine AllReadyH.cons rfl (fun K hK => ?_) AllReadyH.nil
  refine step_append_own _ (by rfl) _ _ _ (by rfl) u0.heap.size 2 i0 _ 1 8 Tryz.underlying24 hi0 hz0 hz1 hz2 rfl (by omega) (.slice (some ⟨u0.heap.size, 0, none⟩) 0 0) 0 (iCells (cat n f h) 0) (by rfl) o0 ⟨b1, o1, none⟩ n c1 (iCells f n) (by rfl) (by rw [iCells_len]; omega) (ints_news (i1.below l1 Z)) (iCells_one _ _) (by unfold maxLen; omega) (by omega) (by omega) ?_
  intro v2 u2 hown1 hgrow1 hne1
  have Bg1 : Below u0.heap.size u1 u2 := Below.grown (Below.refl _ _) hgrow1 (by omega) (fun x hx => ownBlock_ge o0 hx)
  replace A1 := A1.belowN Bg1 (by omega)
  replace A2 := A2.belowN Bg1 (by omega)
  replace Z := Z.trans (Bg1.mono (by omega))
  have zg1 := hgrow1.size
  have ho1 : u2.ownsRow u0.heap.size 2 1 v2 n (iCells (cat n f h) n) := by rw [iCells_cat0]; simpa [iCells] using hown1
  obtain ⟨va1, vc1, rfl⟩ := own_form ho1
  clear hHeld
  refine hK.out _ _ (two2_mk A1 A2) (fun hHeld => ?_)
  clear hK K hown1 hgrow1 hne1 o0
  try simp only [Act.put, List.setIfInBounds_toArray, List.set_cons_zero, List.set_cons_succ]
  refine wpAnyH_ready (rs := [6]) (by kernel_rfl) (by simp) ?_
  refine AllReadyH.cons rfl (fun K hK => ?_) AllReadyH.nil
  refine step_append_own _ (by rfl) _ _ _ (by rfl) u0.heap.size 2 i0 _ 1 8 Tryz.underlying24 hi0 hz0 hz1 hz2 rfl (by omega) (.slice va1 n vc1) n (iCells (cat n f h) n) (by rfl) ho1 ⟨b2, o2, none⟩ k c2 (iCells h k) (by rfl) (by rw [iCells_len]; omega) (ints_news (i2.below l2 Z)) (iCells_one _ _) (by unfold maxLen; omega) (by omega) (by omega) ?_
  intro v3 u3 hown2 hgrow2 hne2
  have Bg2 : Below u0.heap.size u2 u3 := Below.grown (Below.refl _ _) hgrow2 (by omega) (fun x hx => ownBlock_ge ho1 hx)
  replace A1 := A1.belowN Bg2 (by omega)
  replace A2 := A2.belowN Bg2 (by omega)
  replace Z := Z.trans (Bg2.mono (by omega))
  have zg2 := hgrow2.size
  have ho2 : u3.ownsRow u0.heap.size 2 1 v3 (n + k) (iCells (cat n f h) (n + k)) := by rw [iCells_cat, ← iCells_cat0 n f h]; exact hown2
  obtain ⟨d5, e5, rfl⟩ := own_form ho2
  clear hHeld
  refine hK.out _ _ (two2_mk A1 A2) (fun hHeld => ?_)
  clear hK K hown2 hgrow2 hne2 ho1
  try simp only [Act.put, List.setIfInBounds_toArray, List.set_cons_zero, List.set_cons_succ]
  refine wpAnyH_ready (rs := [7]) (by kernel_rfl) (by simp) ?_
  refine AllReadyH.cons rfl (fun K hK => ?_) AllReadyH.nil
  go_simp
  clear hHeld
  refine hK.out _ _ (two2_mk A1 A2) (fun hHeld => ?_)
  clear hK K
  try simp only [List.setIfInBounds_toArray, List.set_cons_zero, List.set_cons_succ]
  refine wpAnyH_done (by kernel_rfl) ?_ _
  clear hHeld
  obtain ⟨w9, e9, a1, a2, B, R5⟩ : ∃ w9, u3 = w9 ∧ At 57 w9 w.heap.size #[.slice (some ⟨b1, o1, none⟩) n c1, .slice (some ⟨b2, o2, none⟩) k c2] ∧ At 57 w9 W1.heap.size #[.slice (some ⟨b3, o3, none⟩) n' c3, .slice (some ⟨b4, o4, none⟩) k' c4] ∧ Below w.heap.size w w9 ∧ Arr w9 w.heap.size w9.heap.size (.slice d5 (n + k) e5) (n + k) (cat n f h) := ⟨_, rfl, A1, A2, Z, (arr_of_owns ho2).wide (show w.heap.size ≤ u0.heap.size by omega) (Nat.le_refl _)⟩
  rw [e9]
  clear e9 A1 A2 Z ho2 Bg1 Bg2 P0 zu zg1 zg2
  go_wp2_with fail
  obtain ⟨u0, hu0, s90', A1, A2, Z, O5⟩ : ∃ u0, w9.drew = u0 ∧ w9.heap.size ≤ u0.heap.size ∧ At 57 u0 w.heap.size #[.slice (some ⟨b1, o1, none⟩) n c1, .slice (some ⟨b2, o2, none⟩) k c2] ∧ At 57 u0 W1.heap.size #[.slice (some ⟨b3, o3, none⟩) n' c3, .slice (some ⟨b4, o4, none⟩) k' c4] ∧ Below w.heap.size w u0 ∧ Arr u0 w.heap.size w9.heap.size (.slice d5 (n + k) e5) (n + k) (cat n f h) := ⟨_, rfl, Nat.le_refl _, a1, a2, B.drew, R5.below (Below.refl _ _).drew⟩
  refine wp_region_held_drew (S := Two2 w.heap.size (.slice (some ⟨b1, o1, none⟩) n c1) (.slice (some ⟨b2, o2, none⟩) k c2) W1.heap.size (.slice (some ⟨b3, o3, none⟩) n' c3) (.slice (some ⟨b4, o4, none⟩) k' c4)) (by kernel_rfl) (by rw [hu0]; exact two2_mk A1 A2) (fun hHeld => ?_)
  rw [hu0] at hHeld ⊢
  clear hu0 a1 a2 B
  have sA2 := A1.lt
  have sB2 := A2.lt
  have s90 : w9.heap.size ≤ u0.heap.size := s90'
  change wpAnyH _ _ _ _ _ 8 #[false, false, false, false, false, false, false, false] _ _
  refine wpAnyH_take (i := 1) (v := .pointer (some ⟨W1.heap.size, 0, none⟩)) rfl (by kernel_rfl) (by kernel_rfl) (by kernel_rfl) (fun _ _ _ h => h) (Or.inl ⟨by kernel_rfl, ?_⟩) hHeld ?_
  · intro w' hSw; go_simp
  try simp only [Act.put, List.setIfInBounds_toArray, List.set_cons_zero, List.set_cons_succ]
  refine wpAnyH_take (i := 2) (v := .slice (some ⟨b3, o3, none⟩) n' c3) rfl (by kernel_rfl) (by kernel_rfl) (by kernel_rfl) (fun _ _ _ h => h) (Or.inl ⟨by kernel_rfl, ?_⟩) hHeld ?_
  · intro w' hSw; obtain ⟨-, -, z0, z1⟩ := hSw; go_simp
  try simp only [Act.put, List.setIfInBounds_toArray, List.set_cons_zero, List.set_cons_succ]
  refine wpAnyH_take (i := 4) (v := .pointer (some ⟨W1.heap.size, 1, none⟩)) rfl (by kernel_rfl) (by kernel_rfl) (by kernel_rfl) (fun _ _ _ h => h) (Or.inl ⟨by kernel_rfl, ?_⟩) hHeld ?_
  · intro w' hSw; go_simp
  try simp only [Act.put, List.setIfInBounds_toArray, List.set_cons_zero, List.set_cons_succ]
  refine wpAnyH_take (i := 5) (v := .slice (some ⟨b4, o4, none⟩) k' c4) rfl (by kernel_rfl) (by kernel_rfl) (by kernel_rfl) (fun _ _ _ h => h) (Or.inl ⟨by kernel_rfl, ?_⟩) hHeld ?_
  · intro w' hSw; obtain ⟨-, -, z0, z1⟩ := hSw; go_simp
  try simp only [Act.put, List.setIfInBounds_toArray, List.set_cons_zero, List.set_cons_succ]
  refine wpAnyH_ready (rs := [0]) (by kernel_rfl) (by simp) ?_
  refine AllReadyH.cons rfl (fun K hK => ?_) AllReadyH.nil
  go_simp
  obtain ⟨u1, h6, P0, b', z6⟩ := boxed u0 2 #[]
  rw [h6]
  clear h6 z6
  replace A1 := A1.below b'
  replace A2 := A2.below b'
  replace Z := Z.trans (b'.mono Z.size)
  replace O5 := O5.below b'
  have o0 : u1.ownsRow u0.heap.size 2 1 (.slice (some ⟨u0.heap.size, 0, none⟩) 0 0) 0 (iCells (cat n' f' h') 0) := ⟨rfl, .inr ⟨u0.heap.size, 0, #[], rfl, Nat.le_refl _, P0, Nat.le_refl _, Nat.zero_le _, rfl, rfl⟩⟩
  have zu := b'.size
  clear b'
  clear hHeld
  refine hK.out _ _ (two2_mk A1 A2) (fun hHeld => ?_)
  clear hK K
  try simp only [List.setIfInBounds_toArray, List.set_cons_zero]
  refine wpAnyH_ready (rs := [3]) (by kernel_rfl) (by simp) ?_
  refine AllReadyH.cons rfl (fun K hK => ?_) AllReadyH.nil
  refine step_append_own _ (by rfl) _ _ _ (by rfl) u0.heap.size 2 i0 _ 1 8 Tryz.underlying24 hi0 hz0 hz1 hz2 rfl (by omega) (.slice (some ⟨u0.heap.size, 0, none⟩) 0 0) 0 (iCells (cat n' f' h') 0) (by rfl) o0 ⟨b3, o3, none⟩ n' c3 (iCells f' n') (by rfl) (by rw [iCells_len]; omega) (ints_news (i3.below l3 Z)) (iCells_one _ _) (by unfold maxLen; omega) (by omega) (by omega) ?_
  intro v2 u2 hown1 hgrow1 hne1
  have Bg1 : Below u0.heap.size u1 u2 := Below.grown (Below.refl _ _) hgrow1 (by omega) (fun x hx => ownBlock_ge o0 hx)
  replace A1 := A1.belowN Bg1 (by omega)
  replace A2 := A2.belowN Bg1 (by omega)
  replace Z := Z.trans (Bg1.mono (by omega))
  replace O5 := O5.belowN Bg1 (by omega)
  have zg1 := hgrow1.size
  have ho1 : u2.ownsRow u0.heap.size 2 1 v2 n' (iCells (cat n' f' h') n') := by rw [iCells_cat0]; simpa [iCells] using hown1
  obtain ⟨va1, vc1, rfl⟩ := own_form ho1
  clear hHeld
  refine hK.out _ _ (two2_mk A1 A2) (fun hHeld => ?_)
  clear hK K hown1 hgrow1 hne1 o0
  try simp only [Act.put, List.setIfInBounds_toArray, List.set_cons_zero, List.set_cons_succ]
  refine wpAnyH_ready (rs := [6]) (by kernel_rfl) (by simp) ?_
  refine AllReadyH.cons rfl (fun K hK => ?_) AllReadyH.nil
  refine step_append_own _ (by rfl) _ _ _ (by rfl) u0.heap.size 2 i0 _ 1 8 Tryz.underlying24 hi0 hz0 hz1 hz2 rfl (by omega) (.slice va1 n' vc1) n' (iCells (cat n' f' h') n') (by rfl) ho1 ⟨b4, o4, none⟩ k' c4 (iCells h' k') (by rfl) (by rw [iCells_len]; omega) (ints_news (i4.below l4 Z)) (iCells_one _ _) (by unfold maxLen; omega) (by omega) (by omega) ?_
  intro v3 u3 hown2 hgrow2 hne2
  have Bg2 : Below u0.heap.size u2 u3 := Below.grown (Below.refl _ _) hgrow2 (by omega) (fun x hx => ownBlock_ge ho1 hx)
  replace A1 := A1.belowN Bg2 (by omega)
  replace A2 := A2.belowN Bg2 (by omega)
  replace Z := Z.trans (Bg2.mono (by omega))
  replace O5 := O5.belowN Bg2 (by omega)
  have zg2 := hgrow2.size
  have ho2 : u3.ownsRow u0.heap.size 2 1 v3 (n' + k') (iCells (cat n' f' h') (n' + k')) := by rw [iCells_cat, ← iCells_cat0 n' f' h']; exact hown2
  obtain ⟨va2, vc2, rfl⟩ := own_form ho2
  clear hHeld
  refine hK.out _ _ (two2_mk A1 A2) (fun hHeld => ?_)
  clear hK K hown2 hgrow2 hne2 ho1
  try simp only [Act.put, List.setIfInBounds_toArray, List.set_cons_zero, List.set_cons_succ]
  refine wpAnyH_ready (rs := [7]) (by kernel_rfl) (by simp) ?_
  refine AllReadyH.cons rfl (fun K hK => ?_) AllReadyH.nil
  go_simp
  clear hHeld
  refine hK.out _ _ (two2_mk A1 A2) (fun hHeld => ?_)
  clear hK K
  try simp only [List.setIfInBounds_toArray, List.set_cons_zero, List.set_cons_succ]
  refine wpAnyH_done (by kernel_rfl) ?_ _
  clear hHeld
  go_wp2_with fail
  obtain ⟨x5, y5, q5, s5⟩ := O5.src
  obtain ⟨x6, y6, q6, s6⟩ := (arr_of_owns ho2).src
  obtain ⟨rfl, -, rfl⟩ := slice_inj q5
  obtain ⟨rfl, -, rfl⟩ := slice_inj q6
  refine (l3Compare_any s5 s6 (by omega) (by omega)).mono ?_
  rintro e u4 ⟨rfl, b4⟩
  go_wp2
  go_ret
  exact ⟨rfl, Z.trans (b4.mono Z.size)⟩
end Go.Proofs.YtiocneailhplkaaGreat
/-
  The order of operators: twelve numbers, compared from the front. No function of the program.
-/
namespace Go.Proofs.YtiocneailhplkaaGreat
open Go.RowKit

/-- Two rows of n numbers held against each other from place i on. -/
theorem cmpF_cases (f h : Nat → Int) (n : Nat) : ∀ k i, i + k = n → (cmpF f h n n k i = 0 ∧ ∀ j, i ≤ j → j < n → f j = h j) ∨ ∃ p, i ≤ p ∧ p < n ∧ (∀ j, i ≤ j → j < p → f j = h j) ∧ ((f p < h p ∧ cmpF f h n n k i = -1) ∨ (h p < f p ∧ cmpF f h n n k i = 1)) := by
  intro k
  induction k with
  | zero =>
    intro i hi
    refine .inl ⟨?_, fun j h1 h2 => by omega⟩
    obtain rfl : i = n := by omega
    have := cmpF_end (f := f) (h := h) (n := i) (m := i)
    rw [Nat.sub_self] at this
    rw [this, if_neg (by omega)]
  | succ k ih =>
    intro i hi
    have hlt : i < n := by omega
    have hs := cmpF_step (f := f) (h := h) (n := n) (m := n) hlt
    have e1 : n - i = k + 1 := by omega
    have e2 : n - (i + 1) = k := by omega
    rw [e1, e2, if_neg (by omega)] at hs
    by_cases h1 : f i < h i
    · rw [if_pos h1] at hs
      exact .inr ⟨i, Nat.le_refl _, hlt, fun j a b => by omega, .inl ⟨h1, hs⟩⟩
    · rw [if_neg h1] at hs
      by_cases h2 : h i < f i
      · rw [if_pos h2] at hs
        exact .inr ⟨i, Nat.le_refl _, hlt, fun j a b => by omega, .inr ⟨h2, hs⟩⟩
      · rw [if_neg h2] at hs
        have he : f i = h i := by omega
        rcases ih (i + 1) (by omega) with ⟨a, b⟩ | ⟨p, a, b, c, d⟩
        · refine .inl ⟨by rw [hs, a], fun j h3 h4 => ?_⟩
          by_cases e : j = i
          · rw [e, he]
          · exact b j (by omega) h4
        · refine .inr ⟨p, by omega, b, fun j h3 h4 => ?_, by rw [hs]; exact d⟩
          by_cases e : j = i
          · rw [e, he]
          · exact c j (by omega) h4
/-- Two rows of n numbers held against each other. -/
def lexC (n : Nat) (f h : Nat → Int) : Int := cmpF f h n n n 0
theorem lexC_cases (n : Nat) (f h : Nat → Int) : (lexC n f h = 0 ∧ ∀ j, j < n → f j = h j) ∨ ∃ p, p < n ∧ (∀ j, j < p → f j = h j) ∧ ((f p < h p ∧ lexC n f h = -1) ∨ (h p < f p ∧ lexC n f h = 1)) := by
  rcases cmpF_cases f h n n 0 (by omega) with ⟨a, b⟩ | ⟨p, -, b, c, d⟩
  · exact .inl ⟨a, fun j hj => b j (Nat.zero_le _) hj⟩
  · exact .inr ⟨p, b, fun j hj => c j (Nat.zero_le _) hj, d⟩
theorem lexC_zero {n : Nat} {f h : Nat → Int} : lexC n f h = 0 ↔ ∀ j, j < n → f j = h j := by
  rcases lexC_cases n f h with ⟨a, b⟩ | ⟨p, hp, c, d⟩
  · exact ⟨fun _ => b, fun _ => a⟩
  · constructor
    · intro e
      rcases d with ⟨_, d⟩ | ⟨_, d⟩ <;> omega
    · intro e
      have := e p hp
      rcases d with ⟨d, _⟩ | ⟨d, _⟩ <;> omega
theorem lexC_range (n : Nat) (f h : Nat → Int) : lexC n f h = -1 ∨ lexC n f h = 0 ∨ lexC n f h = 1 := by
  rcases lexC_cases n f h with ⟨a, -⟩ | ⟨p, -, -, ⟨-, d⟩ | ⟨-, d⟩⟩
  · exact .inr (.inl a)
  · exact .inl d
  · exact .inr (.inr d)
theorem lexC_neg {n : Nat} {f h : Nat → Int} : lexC n f h < 0 ↔ ∃ p, p < n ∧ (∀ j, j < p → f j = h j) ∧ f p < h p := by
  rcases lexC_cases n f h with ⟨a, b⟩ | ⟨p, hp, c, d⟩
  · constructor
    · intro h1; omega
    · rintro ⟨p, hp, -, hlt⟩
      have := b p hp
      omega
  · constructor
    · intro h1
      rcases d with ⟨d, _⟩ | ⟨_, d⟩
      · exact ⟨p, hp, c, d⟩
      · omega
    · rintro ⟨p', hp', c', hlt⟩
      rcases d with ⟨_, d⟩ | ⟨d, _⟩
      · omega
      · exfalso
        rcases Nat.lt_trichotomy p p' with hh | hh | hh
        · have := c' p hh; omega
        · subst hh; omega
        · have := c p' hh; omega
theorem lexC_trans {n : Nat} {f g h : Nat → Int} (h1 : lexC n f g < 0) (h2 : lexC n g h < 0) : lexC n f h < 0 := by
  obtain ⟨p, hp, a, b⟩ := lexC_neg.1 h1
  obtain ⟨q, hq, c, d⟩ := lexC_neg.1 h2
  rcases Nat.lt_trichotomy p q with hh | hh | hh
  · exact lexC_neg.2 ⟨p, hp, fun j hj => (a j hj).trans (c j (by omega)), by rw [← c p hh]; exact b⟩
  · subst hh
    exact lexC_neg.2 ⟨p, hp, fun j hj => (a j hj).trans (c j hj), by omega⟩
  · exact lexC_neg.2 ⟨q, hq, fun j hj => (a j (by omega)).trans (c j hj), by rw [a q hh]; exact d⟩
theorem lexC_irrefl (n : Nat) (f : Nat → Int) : ¬ lexC n f f < 0 := by
  intro h1
  obtain ⟨p, _, _, h⟩ := lexC_neg.1 h1
  omega
theorem lexC_pos {n : Nat} {f h : Nat → Int} : 0 < lexC n f h ↔ lexC n h f < 0 := by
  rw [lexC_neg]
  rcases lexC_cases n f h with ⟨a, b⟩ | ⟨p, hp, c, d⟩
  · constructor
    · intro h1; omega
    · rintro ⟨p, hp, -, hlt⟩
      have := b p hp
      omega
  · constructor
    · intro h1
      rcases d with ⟨_, d⟩ | ⟨d, _⟩
      · omega
      · exact ⟨p, hp, fun j hj => (c j hj).symm, d⟩
    · rintro ⟨p', hp', c', hlt⟩
      rcases d with ⟨d, _⟩ | ⟨_, d⟩
      · exfalso
        rcases Nat.lt_trichotomy p p' with hh | hh | hh
        · have := c' p hh; omega
        · subst hh; omega
        · have := c p' hh; omega
      · omega
theorem lexC_congr {n : Nat} {f f' h h' : Nat → Int} (h1 : ∀ j, j < n → f j = f' j) (h2 : ∀ j, j < n → h j = h' j) : lexC n f h < 0 ↔ lexC n f' h' < 0 := by
  rw [lexC_neg, lexC_neg]
  constructor
  · rintro ⟨p, hp, a, b⟩
    exact ⟨p, hp, fun j hj => by rw [← h1 j (by omega), ← h2 j (by omega)]; exact a j hj, by rw [← h1 p hp, ← h2 p hp]; exact b⟩
  · rintro ⟨p, hp, a, b⟩
    exact ⟨p, hp, fun j hj => by rw [h1 j (by omega), h2 j (by omega)]; exact a j hj, by rw [h1 p hp, h2 p hp]; exact b⟩
end Go.Proofs.YtiocneailhplkaaGreat
/-
  Lists of operators, by the specification: are all right; where does one stand. Walked.
-/
namespace Go.Proofs.YtiocneailhplkaaGreat
open Go.RowKit

/-- An operator, right or not: how long its lists are, and what they hold. -/
structure OpD where
  n : Nat
  f : Nat → Int
  k : Nat
  h : Nat → Int
/-- Its twelve numbers, if it is right. -/
def OpD.key (o : OpD) : Nat → Int := cat 9 o.f o.h
def OpD.ok (o : OpD) : Prop := isOp o.n o.f o.k o.h
/-- The call tells whether it is so. -/
def Tells (e : Ending) (P : Prop) : Prop := ∃ b : Bool, e = .returned (.bool b) ∧ (b = true ↔ P)
theorem tells_yes {P : Prop} (h : P) : Tells (.returned (.bool true)) P := ⟨true, rfl, ⟨fun _ => h, fun _ => rfl⟩⟩
theorem tells_no {P : Prop} (h : ¬ P) : Tells (.returned (.bool false)) P := ⟨false, rfl, ⟨fun x => absurd x (by decide), fun x => absurd x h⟩⟩
/-- A list of operators. -/
def OpsL (w : World) (g n : Nat) (A : Nat → OpD) : Prop :=
  g < w.heap.size ∧ ∀ i, i < n → ∃ a c b d, w.cell? ⟨g, i * 2, none⟩ = some (.slice a (A i).n c) ∧ w.cell? ⟨g, i * 2 + 1, none⟩ = some (.slice b (A i).k d) ∧ Src w a (A i).n (A i).f ∧ Src w b (A i).k (A i).h
theorem OpsL.below {w w' : World} {g n : Nat} {A : Nat → OpD} (h : OpsL w g n A) (hb : Below w.heap.size w w') : OpsL w' g n A := by
  refine ⟨Nat.lt_of_lt_of_le h.1 hb.size, fun i hi => ?_⟩
  obtain ⟨a, c, b, d, e1, e2, s1, s2⟩ := h.2 i hi
  exact ⟨a, c, b, d, (hb.cell (p := ⟨g, i * 2, none⟩) h.1).trans e1, (hb.cell (p := ⟨g, i * 2 + 1, none⟩) h.1).trans e2, s1.below hb, s2.below hb⟩
set_option maxRecDepth 100000 in
theorem l4Ops_any {w : World} {g n c : Nat} {A : Nat → OpD} (hL : OpsL w g n A) (hn : n ≤ 1048576) :
    Calls Tryz.prog 55 #[.slice (some ⟨g, 0, none⟩) n c] w fun e w' => Tells e (∀ i, i < n → (A i).ok) ∧ Below w.heap.size w w' := by
  have hn' : (n : Int) ≤ 1048576 := by omega
  go_enter Tryz.func55, Tryz.ntmps55
  go_wp2
  go_loopw [3] (fun s wr => ∃ k : Nat, k ≤ n ∧ s = .int .i64 k ∧ Hid (∀ i, i < k → (A i).ok) ∧ Below w.heap.size w wr) (fun s _ => n - (intOf s).toNat)
  case atStart => exact ⟨0, Nat.zero_le _, rfl, fun i hi => by omega, Below.refl _ _⟩
  case round =>
    obtain ⟨k, hk, rfl, hok, B⟩ := hrel
    by_cases hlt : k < n
    · have hlt' : (k : Int) < (n : Int) := by omega
      obtain ⟨a, c1, b, d, e1, e2, s1, s2⟩ := (hL.below B).2 k hlt
      obtain ⟨N, hN⟩ : ∃ N, (A k).n = N := ⟨_, rfl⟩
      obtain ⟨K, hK⟩ : ∃ N, (A k).k = N := ⟨_, rfl⟩
      rw [hN] at e1 s1
      rw [hK] at e2 s2
      go_wp2_with fail
      refine (specOk_any c1 d s1 s2).mono ?_
      rintro e w3 ⟨rfl, b3⟩
      clear e1 e2
      replace B := B.trans (b3.mono B.size)
      have hiff : isOp N (A k).f K (A k).h ↔ (A k).ok := by rw [← hN, ← hK]; exact Iff.rfl
      by_cases ho : isOp N (A k).f K (A k).h
      · simp only [decide_eq_true ho]
        have HO : Hid (∀ i, i < k + 1 → (A i).ok) := fun i hi => by
          by_cases e : i = k
          · rw [e]; exact hiff.1 ho
          · exact hok.out i (by omega)
        clear hiff s1 s2 b3
        go_wp2
        exact ⟨⟨k + 1, by omega, by go_num, HO, B⟩, by simp [intOf]; omega⟩
      · simp only [decide_eq_false ho]
        have HO : Hid (¬ ∀ i, i < n → (A i).ok) := fun h => ho (hiff.2 (h k hlt))
        clear hiff s1 s2 b3 hok
        go_wp2
        go_ret
        exact ⟨tells_no HO.out, B⟩
    · have hlt' : ¬ (k : Int) < (n : Int) := by omega
      obtain rfl : k = n := by omega
      go_wp2
      go_ret
      exact ⟨tells_yes hok.out, B⟩
end Go.Proofs.YtiocneailhplkaaGreat
/-
  Where an operator stands in a list, by the specification. Walked.
-/
namespace Go.Proofs.YtiocneailhplkaaGreat
open Go.RowKit

/-- Right operators compared. -/
theorem cmpR_any {w : World} {a b a' b' : Option Addr} {c1 c2 c3 c4 : Nat} {f h f' h' : Nat → Int} (s1 : Src w a 9 f) (s2 : Src w b 3 h) (s3 : Src w a' 9 f') (s4 : Src w b' 3 h') :
    Calls Tryz.prog 58 #[.agg #[.slice a 9 c1, .slice b 3 c2], .agg #[.slice a' 9 c3, .slice b' 3 c4]] w fun e w' => e = .returned (.int .i64 (lexC 12 (cat 9 f h) (cat 9 f' h'))) ∧ Below w.heap.size w w' := by
  rcases s1 with h0 | ⟨b1, o1, rfl, l1, i1⟩
  · omega
  rcases s2 with h0 | ⟨b2, o2, rfl, l2, i2⟩
  · omega
  rcases s3 with h0 | ⟨b3, o3, rfl, l3, i3⟩
  · omega
  rcases s4 with h0 | ⟨b4, o4, rfl, l4, i4⟩
  · omega
  exact specCompare_any c1 c2 c3 c4 i1 i2 i3 i4 l1 l2 l3 l4 (by omega) (by omega) (by omega) (by omega)
/-- Four cells hold this. -/
def Cells4 (p1 : Addr) (v1 : Value) (p2 : Addr) (v2 : Value) (q : Nat) (v3 v4 : Value) (w' : World) : Prop := w'.cell? p1 = some v1 ∧ w'.cell? p2 = some v2 ∧ w'.cell? ⟨q, 0, none⟩ = some v3 ∧ w'.cell? ⟨q, 1, none⟩ = some v4
theorem cells4_mk {t : TypeId} {w' : World} {p1 p2 : Addr} {v1 v2 v3 v4 : Value} {q : Nat} (h1 : w'.cell? p1 = some v1) (h2 : w'.cell? p2 = some v2) (h3 : At t w' q #[v3, v4]) : Cells4 p1 v1 p2 v2 q v3 v4 w' := ⟨h1, h2, h3.open2.1, h3.open2.2.1⟩
/-- The list rises strictly. -/
def Rises (n : Nat) (A : Nat → OpD) : Prop := ∀ i, i + 1 < n → lexC 12 (A i).key (A (i + 1)).key < 0
theorem Rises.lt {n : Nat} {A : Nat → OpD} (h : Rises n A) {i j : Nat} (hij : i < j) (hj : j < n) : lexC 12 (A i).key (A j).key < 0 := by
  obtain ⟨d, rfl⟩ : ∃ d, j = i + 1 + d := ⟨j - i - 1, by omega⟩
  induction d with
  | zero => exact h i (by omega)
  | succ d ih => exact lexC_trans (ih (by omega) (by omega)) (h (i + 1 + d) (by omega))
/-- What is told of the search: a place where it stands, or that it stands nowhere, if the list rises. -/
def AtOk (n : Nat) (A : Nat → OpD) (k : Nat → Int) (v : Int) : Prop :=
  (v = -1 ∧ (Rises n A → ∀ i, i < n → lexC 12 (A i).key k ≠ 0)) ∨ ∃ i : Nat, v = i ∧ i < n ∧ lexC 12 (A i).key k = 0
set_option maxRecDepth 100000 in
set_option maxHeartbeats 800000 in
theorem l4At_any {w : World} {g n c : Nat} {A : Nat → OpD} {a b : Option Addr} {c1 c2 : Nat} {f h : Nat → Int} (hL : OpsL w g n A) (hA : ∀ i, i < n → (A i).ok) (s1 : Src w a 9 f) (s2 : Src w b 3 h) (hn : n ≤ 1048576) :
    Calls Tryz.prog 56 #[.slice (some ⟨g, 0, none⟩) n c, .agg #[.slice a 9 c1, .slice b 3 c2]] w fun e w' => ∃ v : Int, e = .returned (.int .i64 v) ∧ AtOk n A (cat 9 f h) v ∧ Below w.heap.size w w' := by
  have hn' : (n : Int) ≤ 1048576 := by omega
  obtain ⟨W1, hW1, q1, B1, -⟩ := boxed w 57 #[.slice a 9 c1, .slice b 3 c2]
  have HA : Hid (∀ i, i < n → (A i).ok) := hA
  clear hA
  go_enter Tryz.func56, Tryz.ntmps56
  go_wp2
  clear hW1
  go_loopw [5, 6] (fun s t wr => ∃ (lo hi : Nat), lo ≤ hi ∧ hi ≤ n ∧ s = .int .i64 lo ∧ t = .int .i64 hi ∧ Hid (Rises n A → (∀ i, i < lo → lexC 12 (A i).key (cat 9 f h) < 0) ∧ ∀ i, hi ≤ i → i < n → 0 < lexC 12 (A i).key (cat 9 f h)) ∧ At 57 wr w.heap.size #[.slice a 9 c1, .slice b 3 c2] ∧ Below w.heap.size w wr) (fun s t _ => (intOf t).toNat - (intOf s).toNat)
  case atStart => exact ⟨0, n, Nat.zero_le _, Nat.le_refl _, rfl, rfl, fun _ => ⟨fun i hi => by omega, fun i h1 h2 => by omega⟩, q1, B1⟩
  case round =>
    clear q1 B1
    obtain ⟨lo, hi, hlh, hhi, rfl, rfl, hinv, q1, B⟩ := hrel
    by_cases hlt : lo < hi
    · have hlt' : (lo : Int) < (hi : Int) := by omega
      have hhi' : (hi : Int) ≤ (n : Int) := by omega
      obtain ⟨m, hm⟩ : ∃ m, (lo + hi) / 2 = m := ⟨_, rfl⟩
      have hm1 : ((lo : Int) + (hi : Int)).tdiv 2 = (m : Int) := by
        rw [Int.tdiv_eq_ediv_of_nonneg (by omega)]
        omega
      have hmb : lo ≤ m ∧ m < hi := by omega
      have hmn : (m : Int) < (n : Int) := by omega
      obtain ⟨x, c3, y, d3, e1, e2, t1, t2⟩ := (hL.below B).2 m (by omega)
      obtain ⟨k1, k2, k3⟩ := HA.out m (by omega)
      rw [k1] at e1 t1
      rw [k2] at e2 t2
      obtain ⟨d0, d1, -⟩ := q1.open2
      clear hm
      go_wp2_with fail
      obtain ⟨u0, hu0, Z⟩ : ∃ u0, wr.drew = u0 ∧ Below wr.heap.size wr u0 := ⟨_, rfl, (Below.refl _ _).drew⟩
      have HL := (hL.below B).below Z
      replace q1 := q1.below Z
      replace t1 := t1.below Z
      replace t2 := t2.below Z
      have s1' := (s1.below B).below Z
      have s2' := (s2.below B).below Z
      replace e1 := (Z.cell (p := ⟨g, m * 2, none⟩) (hL.below B).1).trans e1
      replace e2 := (Z.cell (p := ⟨g, m * 2 + 1, none⟩) (hL.below B).1).trans e2
      replace B := B.trans (Z.mono B.size)
      clear d0 d1 Z
      refine wp_region_held_drew (S := Cells4 ⟨g, m * 2, none⟩ (.slice x 9 c3) ⟨g, m * 2 + 1, none⟩ (.slice y 3 d3) w.heap.size (.slice a 9 c1) (.slice b 3 c2)) (by kernel_rfl) (by rw [hu0]; exact cells4_mk e1 e2 q1) (fun hHeld => ?_)
      rw [hu0] at hHeld ⊢
      clear hu0
      change wpAnyH _ _ _ _ _ 7 #[false, false, false, false, false, false, false] _ _
      refine wpAnyH_take (i := 0) (v := .slice (some ⟨g, 0, none⟩) n c) rfl (by kernel_rfl) (by kernel_rfl) (by kernel_rfl) (fun _ _ _ h => h) (Or.inl ⟨by kernel_rfl, ?_⟩) hHeld ?_
      · intro w' hSw; go_simp
      try simp only [Act.put, List.setIfInBounds_toArray, List.set_cons_zero]
      refine wpAnyH_take (i := 1) (v := .int .i64 (m : Int)) rfl (by kernel_rfl) (by kernel_rfl) (by kernel_rfl) (fun _ _ _ h => h) (Or.inl ⟨by kernel_rfl, ?_⟩) hHeld ?_
      · intro w' hSw; go_simp
      try simp only [Act.put, List.setIfInBounds_toArray, List.set_cons_zero, List.set_cons_succ]
      refine wpAnyH_take (i := 2) (v := .pointer (some ⟨g, m * 2, none⟩)) rfl (by kernel_rfl) (by kernel_rfl) (by kernel_rfl) (fun _ _ _ h => h) (Or.inl ⟨by kernel_rfl, ?_⟩) hHeld ?_
      · intro w' hSw; go_simp
      try simp only [Act.put, List.setIfInBounds_toArray, List.set_cons_zero, List.set_cons_succ]
      refine wpAnyH_take (i := 3) (v := .agg #[.slice x 9 c3, .slice y 3 d3]) rfl (by kernel_rfl) (by kernel_rfl) (by kernel_rfl) (fun _ _ _ h => h) (Or.inl ⟨by kernel_rfl, ?_⟩) hHeld ?_
      · intro w' hSw; obtain ⟨z0, z1, -, -⟩ := hSw; go_simp
      try simp only [Act.put, List.setIfInBounds_toArray, List.set_cons_zero, List.set_cons_succ]
      refine wpAnyH_take (i := 4) (v := .agg #[.slice a 9 c1, .slice b 3 c2]) rfl (by kernel_rfl) (by kernel_rfl) (by kernel_rfl) (fun _ _ _ h => h) (Or.inl ⟨by kernel_rfl, ?_⟩) hHeld ?_
      · intro w' hSw; obtain ⟨-, -, z0, z1⟩ := hSw; go_simp
      try simp only [Act.put, List.setIfInBounds_toArray, List.set_cons_zero, List.set_cons_succ]
      refine wpAnyH_ready (rs := [5]) (by kernel_rfl) (by simp) ?_
      refine AllReadyH.cons rfl (fun KK hK' => ?_) AllReadyH.nil
      go_simp
      refine (cmpR_any t1 t2 s1' s2').mono ?_
      rintro e u1 ⟨rfl, bb⟩
      replace e1 := (bb.cell (p := ⟨g, m * 2, none⟩) HL.1).trans e1
      replace e2 := (bb.cell (p := ⟨g, m * 2 + 1, none⟩) HL.1).trans e2
      replace q1 := q1.below bb
      replace B := B.trans (bb.mono B.size)
      clear bb
      try go_wp2_with fail
      clear hHeld
      refine hK'.out _ _ (cells4_mk e1 e2 q1) (fun hHeld => ?_)
      clear hK' KK
      try simp only [List.setIfInBounds_toArray, List.set_cons_zero, List.set_cons_succ]
      refine wpAnyH_ready (rs := [6]) (by kernel_rfl) (by simp) ?_
      refine AllReadyH.cons rfl (fun KK hK' => ?_) AllReadyH.nil
      go_simp
      clear hHeld
      refine hK'.out _ _ (cells4_mk e1 e2 q1) (fun hHeld => ?_)
      clear hK' KK
      try simp only [List.setIfInBounds_toArray, List.set_cons_zero, List.set_cons_succ]
      clear hHeld e1 e2 t1 t2 s1' s2' HL
      refine wpAnyH_done (by kernel_rfl) ?_ _
      have hkey : cat 9 (A m).f (A m).h = (A m).key := rfl
      rw [hkey]
      obtain ⟨D, hD⟩ : ∃ D, lexC 12 (A m).key (cat 9 f h) = D := ⟨_, rfl⟩
      rw [hD]
      have HD : Hid (lexC 12 (A m).key (cat 9 f h) = D) := hD
      have hr := lexC_range 12 (A m).key (cat 9 f h)
      rw [hD] at hr
      clear hD hkey
      rcases hr with rfl | rfl | rfl
      · go_wp2
        have hm2 : (m : Int) + 1 ≤ 1048577 := by omega
        refine ⟨⟨m + 1, hi, by omega, hhi, by go_num, rfl, ?_, q1, B⟩, by simp [intOf]; omega⟩
        intro hR
        refine ⟨fun i hi' => ?_, (hinv.out hR).2⟩
        by_cases e : i = m
        · rw [e, HD.out]; omega
        · exact lexC_trans (hR.lt (show i < m by omega) (by omega)) (by rw [HD.out]; omega)
      · go_wp2
        go_ret
        exact ⟨_, rfl, .inr ⟨m, rfl, by omega, HD.out⟩, B⟩
      · go_wp2
        refine ⟨⟨lo, m, by omega, by omega, rfl, rfl, ?_, q1, B⟩, by simp [intOf]; omega⟩
        intro hR
        refine ⟨(hinv.out hR).1, fun i h1 h2 => ?_⟩
        by_cases e : i = m
        · rw [e, HD.out]; omega
        · rw [lexC_pos]
          exact lexC_trans (lexC_pos.1 (by rw [HD.out]; omega)) (hR.lt (show m < i by omega) h2)
    · have hlt' : ¬ (lo : Int) < (hi : Int) := by omega
      obtain rfl : lo = hi := by omega
      go_wp2
      go_ret
      refine ⟨_, rfl, .inl ⟨rfl, fun hR i hi => ?_⟩, B⟩
      rcases Nat.lt_or_ge i lo with h1 | h1
      · have := (hinv.out hR).1 i h1
        omega
      · have := (hinv.out hR).2 i h1 hi
        omega
end Go.Proofs.YtiocneailhplkaaGreat
