/-
  Small functions of the laws over operators, walked.
-/
import Derived.Test.YtiocneailhplkaaGreatMG
import Derived.Test.YtiocneailhplkaaGreatML
import Derived.Test.YtiocneailhplkaaGreatNJ
namespace Go.Proofs.YtiocneailhplkaaGreat
open Go.RowKit

theorem sameInts_true {w : World} {a1 a2 : Option Addr} {n c1 c2 : Nat} {f h : Nat → Int} (h1 : Src w a1 n f) (h2 : Src w a2 n h) (hfh : ∀ i, i < n → f i = h i) (hn : n ≤ 1048576) :
    Calls Tryz.prog 39 #[.slice a1 n c1, .slice a2 n c2] w fun e w' => e = .returned (.bool true) ∧ Below w.heap.size w w' := by
  go_enter Tryz.func39, Tryz.ntmps39
  go_wp2
  go_loopw [5] (fun s wr => ∃ k : Nat, k ≤ n ∧ s = .int .i64 k ∧ Below w.heap.size w wr) (fun s _ => n - (intOf s).toNat)
  case atStart => exact ⟨0, Nat.zero_le _, rfl, Below.refl _ _⟩
  case round =>
    obtain ⟨k, hk, rfl, hbel⟩ := hrel
    by_cases hlt : k < n
    · have hlt' : (k : Int) < (n : Int) := by omega
      have hk0 : (0 : Int) ≤ (k : Int) := by omega
      rcases h1 with h0 | ⟨g1, o1, rfl, l1, r1⟩
      · omega
      rcases h2 with h0 | ⟨g2, o2, rfl, l2, r2⟩
      · omega
      have a0 := (hbel.cell (p := ⟨g1, o1 + k, none⟩) l1).trans (r1 k hlt)
      have a2 := (hbel.cell (p := ⟨g2, o2 + k, none⟩) l2).trans (r2 k hlt)
      rw [hfh k hlt] at a0
      go_wp2
      go_quiet (fail)
      go_wp2
      go_roundw
      case rel => exact ⟨k + 1, by omega, by go_num, below_drewN hbel _⟩
      case measure => simp [intOf]; omega
    · have hlt' : ¬ (k : Int) < (n : Int) := by omega
      go_wp2
      go_ret
      exact ⟨rfl, hbel⟩
set_option maxRecDepth 100000 in
theorem ints_any {w : World} {b o c n : Nat} {f : Nat → Int} (h : Ints w b o n f) (hb : b < w.heap.size) (hn : n ≤ 1048576) :
    Calls Tryz.prog 37 #[.slice (some ⟨b, o, none⟩) n c] w fun e w' => ∃ g' c', e = .returned (.slice (some ⟨g', 0, none⟩) n c') ∧ w.heap.size ≤ g' ∧ (n ≤ c' ∧ c' ≤ maxLen) ∧ Made w' g' c' n f ∧ Below w.heap.size w w' := by
  have hbs : ∀ w, (Instr.buildSlice 24 0 #[]).run Tryz.prog w = .ok (.slice (some ⟨w.heap.size, 0, none⟩) 0 0) (w.alloc (.cells #[] 2)) := fun _ => by kernel_rfl
  have hm1 : Ints (w.alloc (.cells #[] 2)) b o n f := h.below hb (below_alloc _ _)
  have o0 : (w.alloc (.cells #[] 2)).ownsRow w.heap.size 2 1 (.slice (some ⟨w.heap.size, 0, none⟩) 0 0) 0 [] :=
    ⟨rfl, .inr ⟨w.heap.size, 0, #[], rfl, Nat.le_refl _, heap_alloc_new _ _, Nat.le_refl _, Nat.zero_le _, rfl, rfl⟩⟩
  obtain ⟨i0, hi0, hz0, hz1, hz2⟩ := info_parts Tryz.info2
  have hn' : (n : Int) ≤ 1048576 := by omega
  clear h hb
  go_enter Tryz.func37, Tryz.ntmps37
  go_wp2_with (at_builtin; refine wpList_append_own _ rfl _ _ _ rfl w.heap.size 2 i0 _ 1 8 Tryz.underlying24 hi0 hz0 hz1 hz2 rfl (by omega) (.slice (some ⟨w.heap.size, 0, none⟩) 0 0) 0 [] rfl o0 ⟨b, o, none⟩ n c (iCells f n) rfl (by rw [iCells_len]; omega) (ints_news hm1) (iCells_one f n) (by unfold maxLen; omega) (by omega) (by simp) ?_; intro v2 w2 hown2 hgrow2 hne2)
  simp only [Nat.zero_add, List.nil_append] at hown2
  obtain ⟨g', c', rfl, hg', hc', hm'⟩ := made_of hown2 (fun h => ne_nil _ _ _ (hne2.1 h).1)
  go_ret
  exact ⟨g', c', rfl, hg', ⟨hc', own_room hown2⟩, hm', (below_alloc w (.cells #[] 2)).grown hgrow2 (by simp) (fun k hk => by cases hk; exact Nat.le_refl _)⟩
theorem made_src' {w : World} {g c n : Nat} {f : Nat → Int} (h : Made w g c n f) : Src w (some ⟨g, 0, none⟩) n f := by
  have hl := h.lt
  obtain ⟨cur, h1, h2, h3⟩ := h
  refine .inr ⟨g, 0, rfl, hl, fun i hi => ?_⟩
  have := h1.cell i (h3 i hi)
  simpa using this
set_option maxRecDepth 100000 in
theorem copyOpA_any {w : World} {b1 b2 c1 c2 : Nat} {o1 o2 : Nat} {f h : Nat → Int} (m : Ints w b1 o1 9 f) (t : Ints w b2 o2 3 h) (l1 : b1 < w.heap.size) (l2 : b2 < w.heap.size) :
    Calls Tryz.prog 38 #[.agg #[.slice (some ⟨b1, o1, none⟩) 9 c1, .slice (some ⟨b2, o2, none⟩) 3 c2]] w fun e w' => ∃ a c b d, e = .returned (.agg #[.slice a 9 c, .slice b 3 d]) ∧ Arr w' w.heap.size w'.heap.size (.slice a 9 c) 9 f ∧ Arr w' w.heap.size w'.heap.size (.slice b 3 d) 3 h ∧ Below w.heap.size w w' := by
  obtain ⟨W1, hW1, x1, B, z1⟩ := boxed w 57 #[.slice (some ⟨b1, o1, none⟩) 9 c1, .slice (some ⟨b2, o2, none⟩) 3 c2]
  obtain ⟨W2, hW2, x2, B2, z2⟩ := boxed W1 57 #[.slice none 0 0, .slice none 0 0]
  have hs1 : w.heap.size < W1.heap.size := by omega
  have hs2 : W1.heap.size < W2.heap.size := by omega
  replace m := (m.below l1 B).below (by omega) B2
  replace t := (t.below l2 B).below (by omega) B2
  replace x1 := x1.below B2
  replace B := B.trans (B2.mono B.size)
  clear z1 z2 B2
  go_enter Tryz.func38, Tryz.ntmps38
  obtain ⟨e0, e1, -⟩ := x1.open2
  go_wp2_with fail
  obtain ⟨u0, hu0, X1, X2, M, T, BB, zu⟩ : ∃ u0, W2.drew = u0 ∧ At 57 u0 w.heap.size #[.slice (some ⟨b1, o1, none⟩) 9 c1, .slice (some ⟨b2, o2, none⟩) 3 c2] ∧ At 57 u0 W1.heap.size #[.slice none 0 0, .slice none 0 0] ∧ Ints u0 b1 o1 9 f ∧ Ints u0 b2 o2 3 h ∧ Below w.heap.size w u0 ∧ W2.heap.size ≤ u0.heap.size := ⟨_, rfl, x1, x2, m, t, B.drew, Nat.le_refl _⟩
  clear x1 x2 m t B e0 e1
  refine wp_region_held_drew (S := One2 w.heap.size (.slice (some ⟨b1, o1, none⟩) 9 c1) (.slice (some ⟨b2, o2, none⟩) 3 c2)) (by kernel_rfl) (by rw [hu0]; exact one2_mk X1) (fun hHeld => ?_)
  rw [hu0] at hHeld ⊢
  clear hu0
  change wpAnyH _ _ _ _ _ 8 #[false, false, false, false, false, false, false, false] _ _
  refine wpAnyH_take (i := 0) (v := .pointer (some ⟨w.heap.size, 0, none⟩)) rfl (by kernel_rfl) (by kernel_rfl) (by kernel_rfl) (fun _ _ _ h => h) (Or.inl ⟨by kernel_rfl, ?_⟩) hHeld ?_
  · intro w' hSw; go_simp
  try simp only [Act.put, List.setIfInBounds_toArray, List.set_cons_zero]
  refine wpAnyH_take (i := 1) (v := .slice (some ⟨b1, o1, none⟩) 9 c1) rfl (by kernel_rfl) (by kernel_rfl) (by kernel_rfl) (fun _ _ _ h => h) (Or.inl ⟨by kernel_rfl, ?_⟩) hHeld ?_
  · intro w' hSw; obtain ⟨z0, z1⟩ := hSw; go_simp
  try simp only [Act.put, List.setIfInBounds_toArray, List.set_cons_zero, List.set_cons_succ]
  refine wpAnyH_take (i := 3) (v := .pointer (some ⟨w.heap.size, 1, none⟩)) rfl (by kernel_rfl) (by kernel_rfl) (by kernel_rfl) (fun _ _ _ h => h) (Or.inl ⟨by kernel_rfl, ?_⟩) hHeld ?_
  · intro w' hSw; go_simp
  try simp only [Act.put, List.setIfInBounds_toArray, List.set_cons_zero, List.set_cons_succ]
  refine wpAnyH_take (i := 4) (v := .slice (some ⟨b2, o2, none⟩) 3 c2) rfl (by kernel_rfl) (by kernel_rfl) (by kernel_rfl) (fun _ _ _ h => h) (Or.inl ⟨by kernel_rfl, ?_⟩) hHeld ?_
  · intro w' hSw; obtain ⟨z0, z1⟩ := hSw; go_simp
  try simp only [Act.put, List.setIfInBounds_toArray, List.set_cons_zero, List.set_cons_succ]
  refine wpAnyH_ready (rs := [2]) (by kernel_rfl) (by simp) ?_
  refine AllReadyH.cons rfl (fun KK hK' => ?_) AllReadyH.nil
  go_simp
  refine (ints_any M (by omega) (by omega)).mono ?_
  rintro e u1 ⟨g, g', rfl, lg, ng, Mg, bb⟩
  replace X1 := X1.below bb
  replace X2 := X2.below bb
  replace M := M.below (by omega) bb
  replace T := T.below (by omega) bb
  have zu1 := bb.size
  replace BB := BB.trans (bb.mono BB.size)
  clear bb
  try go_wp2_with fail
  clear hHeld
  refine hK'.out _ _ (one2_mk X1) (fun hHeld => ?_)
  clear hK' KK
  try simp only [List.setIfInBounds_toArray, List.set_cons_zero, List.set_cons_succ]
  refine wpAnyH_ready (rs := [5]) (by kernel_rfl) (by simp) ?_
  refine AllReadyH.cons rfl (fun KK hK' => ?_) AllReadyH.nil
  go_simp
  refine (ints_any T (by omega) (by omega)).mono ?_
  rintro e u2 ⟨k, k', rfl, lk, nk, Mk, bb⟩
  replace X1 := X1.below bb
  replace X2 := X2.below bb
  replace M := M.below (by omega) bb
  replace T := T.below (by omega) bb
  replace Mg := Mg.below bb
  have zu2 := bb.size
  replace BB := BB.trans (bb.mono BB.size)
  clear bb
  try go_wp2_with fail
  clear hHeld
  refine hK'.out _ _ (one2_mk X1) (fun hHeld => ?_)
  clear hK' KK
  try simp only [List.setIfInBounds_toArray, List.set_cons_zero, List.set_cons_succ]
  refine wpAnyH_take (i := 6) (v := .agg #[.slice (some ⟨g, 0, none⟩) 9 g', .slice (some ⟨k, 0, none⟩) 3 k']) rfl (by kernel_rfl) (by kernel_rfl) (by kernel_rfl) (fun _ _ _ h => h) (Or.inl ⟨by kernel_rfl, ?_⟩) hHeld ?_
  · intro w' hSw; go_simp
  try simp only [Act.put, List.setIfInBounds_toArray, List.set_cons_zero, List.set_cons_succ]
  refine wpAnyH_ready (rs := [7]) (by kernel_rfl) (by simp) ?_
  refine AllReadyH.cons rfl (fun KK hK' => ?_) AllReadyH.nil
  obtain ⟨d0, d1, f0, f1⟩ := X2.open2
  go_simp
  clear d0 d1 f0 f1
  replace X1 := (X1.setOther (p := W1.heap.size) (i := 0) (by omega) (.slice (some ⟨g, 0, none⟩) 9 g')).setOther (p := W1.heap.size) (i := 1) (by omega) (.slice (some ⟨k, 0, none⟩) 3 k')
  have a8 := nil2_at X2 (.slice (some ⟨g, 0, none⟩) 9 g') (.slice (some ⟨k, 0, none⟩) 3 k')
  have Qg := (Mg.setOther (q := W1.heap.size) (i := 0) (by omega) (.slice (some ⟨g, 0, none⟩) 9 g')).setOther (q := W1.heap.size) (i := 1) (by omega) (.slice (some ⟨k, 0, none⟩) 3 k')
  have Qk := (Mk.setOther (q := W1.heap.size) (i := 0) (by omega) (.slice (some ⟨g, 0, none⟩) 9 g')).setOther (q := W1.heap.size) (i := 1) (by omega) (.slice (some ⟨k, 0, none⟩) 3 k')
  replace BB := (BB.setCell (p := ⟨W1.heap.size, 0, none⟩) (by show w.heap.size ≤ W1.heap.size; omega) (.slice (some ⟨g, 0, none⟩) 9 g')).setCell (p := ⟨W1.heap.size, 1, none⟩) (by show w.heap.size ≤ W1.heap.size; omega) (.slice (some ⟨k, 0, none⟩) 3 k')
  clear hHeld
  refine hK'.out _ _ (one2_mk X1) (fun hHeld => ?_)
  clear hK' KK
  try simp only [List.setIfInBounds_toArray, List.set_cons_zero, List.set_cons_succ]
  clear hHeld
  refine wpAnyH_done (by kernel_rfl) ?_ _
  go_wp2
  obtain ⟨p0, p1, -⟩ := a8.open2
  exact bodyPost_ret (v := .agg #[.slice (some ⟨g, 0, none⟩) 9 g', .slice (some ⟨k, 0, none⟩) 3 k']) (by simp [results, Tryz.results38, go_sem, p0, p1]) rfl ⟨_, _, _, _, rfl, arr_of_made Qg ng.1 (by omega) ng.2, arr_of_made Qk nk.1 (by omega) nk.2, BB⟩
end Go.Proofs.YtiocneailhplkaaGreat
/-
  Lists of operators copied, and drawn groups handed out: walked.
-/
namespace Go.Proofs.YtiocneailhplkaaGreat
open Go.RowKit

/-- What is told of copies. -/
def CopG (w : World) (n : Nat) (A : Nat → OpD) (e : Ending) (w' : World) : Prop :=
  (∃ X Y v, e = .returned v ∧ OpsP w' w.heap.size v n X Y A) ∧ Below w.heap.size w w'
theorem OpsP.alikeP {w : World} {lo n : Nat} {v : Value} {X Y : Nat → Value} {A A' : Nat → OpD} (h : OpsP w lo v n X Y A) (e : ∀ i, i < n → A i = A' i) : OpsP w lo v n X Y A' :=
  ⟨h.row, h.nn, fun i hi => e i hi ▸ h.xs i hi, fun i hi => e i hi ▸ h.ys i hi, fun i hi => e i hi ▸ h.nk i hi⟩
set_option maxRecDepth 100000 in
set_option maxHeartbeats 3000000 in
theorem copyOps_any {w : World} {g n c : Nat} {A : Nat → OpD} (hL : OpsL w g n A) (hn : n ≤ 192) (ok : ∀ i, i < n → (A i).ok) :
    Calls Tryz.prog 10 #[.slice (some ⟨g, 0, none⟩) n c] w (CopG w n A) := by
  have hbs : ∀ w, (Instr.buildSlice 27 0 #[]).run Tryz.prog w = .ok (.slice (some ⟨w.heap.size, 0, none⟩) 0 0) (w.alloc (.cells #[] 57)) := fun _ => by kernel_rfl
  obtain ⟨i0, hi0, hz0, hz1, hz2⟩ := info_parts Tryz.info57
  have hn' : (n : Int) ≤ 192 := by omega
  obtain ⟨W1, hW1, a1, B1, -⟩ := boxed w 57 #[]
  obtain ⟨g0, hg0⟩ : ∃ q, w.heap.size = q := ⟨_, rfl⟩
  have O1 : OpsP W1 w.heap.size (.slice (some ⟨g0, 0, none⟩) 0 0) 0 (fun _ => undef) (fun _ => undef) A := by
    rw [← hg0]; exact opsP_new1 a1
  clear a1
  have HL := hid_of hL
  have HO := hid_of ok
  clear hL ok
  go_enter Tryz.func10, Tryz.ntmps10
  go_wp2
  clear hW1 hg0
  go_loopw [3, 4] (fun v s wr => ∃ (i : Nat), i ≤ n ∧ s = .int .i64 (i : Int) ∧ Hid ((∃ X Y, OpsP wr w.heap.size v i X Y A) ∧ Below w.heap.size w wr)) (fun _ s _ => n - (intOf s).toNat)
  case atStart => exact ⟨0, Nat.zero_le _, rfl, ⟨_, _, O1⟩, B1⟩
  case round =>
    clear O1 B1
    obtain ⟨i, hi, rfl, I⟩ := hrel
    obtain ⟨⟨X, Y, O⟩, B⟩ := I.out
    clear I
    by_cases hlt : i < n
    · have hlt' : (i : Int) < (n : Int) := by omega
      have hm1 : i + 1 ≤ maxLen := by unfold maxLen; omega
      have hm2 : (i + 1) * 48 ≤ 140737488355328 := by omega
      have hLB := HL.out.below B
      have okk := HO.out i hlt
      obtain ⟨xa, xc, xb, xd, f0, f1, s1, s2⟩ := hLB.2 i hlt
      rw [okk.1] at f0 s1
      rw [okk.2.1] at f1 s2
      have rk : (A i).n = 9 ∧ (A i).k = 3 := ⟨okk.1, okk.2.1⟩
      rcases s1 with s1 | ⟨b1, o1, rfl, l1, i1⟩
      · omega
      rcases s2 with s2 | ⟨b2, o2, rfl, l2, i2⟩
      · omega
      have CP := copyOpA_any (c1 := xc) (c2 := xd) i1 i2 l1 l2
      clear hLB okk i1 i2
      go_wp2_with fail
      refine CP.mono ?_
      rintro e w3 ⟨x3, l3, x4, l4, rfl, t1, t2, b3⟩
      clear CP f0 f1
      obtain ⟨W6, hW6, a6, b6, -⟩ := boxed w3 57 #[.slice x3 9 l3, .slice x4 3 l4]
      have O6 := (O.below b3).below b6
      have B6 := (B.trans (b3.mono B.size)).trans (b6.mono (B.trans (b3.mono B.size)).size)
      have rx6 := ((t1.wide B.size (Nat.le_refl _)).below b6).wide (Nat.le_refl _) b6.size
      have ry6 := ((t2.wide B.size (Nat.le_refl _)).below b6).wide (Nat.le_refl _) b6.size
      have hnw : ∀ j u, [Value.slice x3 9 l3, Value.slice x4 3 l4][j]? = some u → W6.cell? ((⟨w3.heap.size, 0, none⟩ : Addr).add j) = some u := by
        intro j u hu
        match j with
        | 0 => cases hu; exact a6.cell 0 rfl
        | 1 => cases hu; exact a6.cell 1 rfl
        | j + 2 => cases hu
      have h1c : ∀ u ∈ [Value.slice x3 9 l3, Value.slice x4 3 l4], u.oneCell' = true := by
        intro u hu
        simp at hu
        rcases hu with rfl | rfl <;> rfl
      have hm3 : w.heap.size ≤ W6.heap.size := B6.size
      clear O t1 t2 b3 b6 B
      go_wp2_with (at_builtin; refine Hid.out (?_ : Hid _))
      refine (?_ : wpList _ _ _ _ _ _)
      refine wpList_append_own_at _ rfl _ _ _ rfl w.heap.size 57 i0 _ 2 48 Tryz.underlying27 hi0 hz0 hz1 hz2 rfl (by omega) u3 i _ rfl O6.row ⟨w3.heap.size, 0, none⟩ 1 1 [.slice x3 9 l3, .slice x4 3 l4] rfl rfl hnw h1c hm1 hm2 hm3 ?_
      intro v3 w7 hown3 hgrow3 hne3 hblk3
      have e3 : v3 ≠ .slice none 0 0 := by
        intro e
        have := (hne3.1 e).2
        omega
      have B7 := B6.grown hgrow3 hm3 (fun x hx => ownBlock_ge O6.row hx)
      have O7 := O6.snoc (o := A i) rx6 ry6 rk hgrow3 hown3 e3
      have I7 : Hid ((∃ X Y, OpsP w7 w.heap.size v3 (i + 1) X Y A) ∧ Below w.heap.size w w7) := ⟨⟨_, _, O7.alikeP (fun j hj => by
        by_cases e : j = i
        · subst e; exact snoc_at _ _ _
        · exact snoc_lo (by omega))⟩, B7⟩
      clear O6 rx6 ry6 hnw h1c hm3 hown3 hgrow3 hne3 hblk3 e3 hm1 hm2 a6 hW6 rk B6 B7 O7
      go_wp2
      exact ⟨⟨i + 1, by omega, by go_num, I7⟩, by simp [intOf]; omega⟩
    · have hlt' : ¬ (i : Int) < (n : Int) := by omega
      obtain rfl : i = n := by omega
      have N : Hid (CopG w i A (.returned u3) wr) := ⟨⟨X, Y, _, rfl, O⟩, B⟩
      clear O B
      go_wp2
      go_ret
      exact N.out
end Go.Proofs.YtiocneailhplkaaGreat
