/-
  Numbers of any list copied: walked.
-/
import Derived.Test.YtpolnkjmojofoaaNN
import Derived.Test.YtpolnkjmojofoaaNL
namespace Go.Proofs.Ytpolnkjmojofoaa
open Go.RowKit

theorem src_news {w : World} {ad : Addr} {n : Nat} {f : Nat → Int} (h : Src w (some ad) n f) : ∀ j u, (iCells f n)[j]? = some u → w.cell? (ad.add j) = some u := by
  rcases h with h | ⟨b, o, e, hb, hi⟩
  · subst h
    intro j u hu
    simp [iCells] at hu
  · cases e
    intro j u hu
    have hj : j < n := by
      have := (List.getElem?_eq_some_iff.1 hu).1
      rwa [iCells_len] at this
    rw [iCells_at f hj] at hu
    have hc := hi j hj
    rw [hu] at hc
    by_cases e : j = 0
    · subst e; simpa [Addr.add] using hc
    · simpa [Addr.add, e] using hc
set_option maxRecDepth 100000 in
theorem intsZ_any {w : World} {a : Option Addr} {n c : Nat} {f : Nat → Int} (h : Src w a n f) (hn : n ≤ 1048576) :
    Calls Try.prog 36 #[.slice a n c] w fun e w' => ∃ g' c', e = .returned (.slice (some ⟨g', 0, none⟩) n c') ∧ w.heap.size ≤ g' ∧ (n ≤ c' ∧ c' ≤ maxLen) ∧ Made w' g' c' n f ∧ Below w.heap.size w w' := by
  have hbs : ∀ w, (Instr.buildSlice 31 0 #[]).run Try.prog w = .ok (.slice (some ⟨w.heap.size, 0, none⟩) 0 0) (w.alloc (.cells #[] 2)) := fun _ => by kernel_rfl
  have hs := h.below (below_alloc w (.cells #[] 2))
  have o0 : (w.alloc (.cells #[] 2)).ownsRow w.heap.size 2 1 (.slice (some ⟨w.heap.size, 0, none⟩) 0 0) 0 [] :=
    ⟨rfl, .inr ⟨w.heap.size, 0, #[], rfl, Nat.le_refl _, heap_alloc_new _ _, Nat.le_refl _, Nat.zero_le _, rfl, rfl⟩⟩
  obtain ⟨i0, hi0, hz0, hz1, hz2⟩ := info_parts Try.info2
  have hn' : (n : Int) ≤ 1048576 := by omega
  cases a with
  | none =>
    have hn0 : n = 0 := by
      rcases h with h | ⟨b, o, e, -⟩
      · exact h
      · cases e
    subst hn0
    have hm : Made (w.alloc (.cells #[] 2)) w.heap.size 0 0 f := ⟨#[], at_new _ _ _, rfl, fun i hi => by omega⟩
    clear h hs o0
    go_enter Try.func36, Try.ntmps36
    go_wp2
    go_ret
    exact ⟨_, _, rfl, Nat.le_refl _, ⟨Nat.le_refl _, Nat.zero_le _⟩, hm, below_alloc _ _⟩
  | some ad =>
    clear h
    go_enter Try.func36, Try.ntmps36
    go_wp2_with (at_builtin; refine wpList_append_own _ rfl _ _ _ rfl w.heap.size 2 i0 _ 1 8 Try.underlying31 hi0 hz0 hz1 hz2 rfl (by omega) (.slice (some ⟨w.heap.size, 0, none⟩) 0 0) 0 [] rfl o0 ad n c (iCells f n) rfl (by rw [iCells_len]; omega) (src_news hs) (iCells_one f n) (by unfold maxLen; omega) (by omega) (by simp) ?_; intro v2 w2 hown2 hgrow2 hne2)
    simp only [Nat.zero_add, List.nil_append] at hown2
    have hcap := hown2
    obtain ⟨g', c', rfl, hg', hc', hm'⟩ := made_of hown2 (fun h => ne_nil _ _ _ (hne2.1 h).1)
    have hml : c' ≤ maxLen := by
      rcases hcap.2 with ⟨h1, _⟩ | ⟨g2, c2, cur2, e2, hb2, hh2, hc1, hc2, _⟩
      · cases h1
      · cases e2; exact hc2
    go_ret
    exact ⟨g', c', rfl, hg', ⟨hc', hml⟩, hm', (below_alloc w (.cells #[] 2)).grown hgrow2 (by simp) (fun k hk => by cases hk; exact Nat.le_refl _)⟩
set_option maxRecDepth 100000 in
theorem copyOpZ_any {w : World} {x y : Option Addr} {n1 n2 c1 c2 : Nat} {f h : Nat → Int} (m : Src w x n1 f) (t : Src w y n2 h) (hn1 : n1 ≤ 1048576) (hn2 : n2 ≤ 1048576) :
    Calls Try.prog 13 #[.agg #[.slice x n1 c1, .slice y n2 c2]] w fun e w' => ∃ g1 c g2 d, e = .returned (.agg #[.slice (some ⟨g1, 0, none⟩) n1 c, .slice (some ⟨g2, 0, none⟩) n2 d]) ∧ Made w' g1 c n1 f ∧ Made w' g2 d n2 h ∧ Below w.heap.size w w' := by
  obtain ⟨W1, hW1, x1, B, z1⟩ := boxed w 33 #[.slice x n1 c1, .slice y n2 c2]
  obtain ⟨W2, hW2, x2, B2, z2⟩ := boxed W1 33 #[.slice none 0 0, .slice none 0 0]
  have hs1 : w.heap.size < W1.heap.size := by omega
  have hs2 : W1.heap.size < W2.heap.size := by omega
  replace m := (m.below B).below B2
  replace t := (t.below B).below B2
  replace x1 := x1.below B2
  replace B := B.trans (B2.mono B.size)
  clear z1 z2 B2
  go_enter Try.func13, Try.ntmps13
  obtain ⟨e0, e1, -⟩ := x1.open2
  go_wp2_with fail
  obtain ⟨u0, hu0, X1, X2, M, T, BB, zu⟩ : ∃ u0, W2.drew = u0 ∧ At 33 u0 w.heap.size #[.slice x n1 c1, .slice y n2 c2] ∧ At 33 u0 W1.heap.size #[.slice none 0 0, .slice none 0 0] ∧ Src u0 x n1 f ∧ Src u0 y n2 h ∧ Below w.heap.size w u0 ∧ W2.heap.size ≤ u0.heap.size := ⟨_, rfl, x1, x2, m, t, B.drew, Nat.le_refl _⟩
  clear x1 x2 m t B e0 e1
  refine wp_region_held_drew (S := One2 w.heap.size (.slice x n1 c1) (.slice y n2 c2)) (by kernel_rfl) (by rw [hu0]; exact one2_mk X1) (fun hHeld => ?_)
  rw [hu0] at hHeld ⊢
  clear hu0
  change wpAnyH _ _ _ _ _ 8 #[false, false, false, false, false, false, false, false] _ _
  refine wpAnyH_take (i := 0) (v := .pointer (some ⟨w.heap.size, 0, none⟩)) rfl (by kernel_rfl) (by kernel_rfl) (by kernel_rfl) (fun _ _ _ h => h) (Or.inl ⟨by kernel_rfl, ?_⟩) hHeld ?_
  · intro w' hSw; go_simp
  try simp only [Act.put, List.setIfInBounds_toArray, List.set_cons_zero]
  refine wpAnyH_take (i := 1) (v := .slice x n1 c1) rfl (by kernel_rfl) (by kernel_rfl) (by kernel_rfl) (fun _ _ _ h => h) (Or.inl ⟨by kernel_rfl, ?_⟩) hHeld ?_
  · intro w' hSw; obtain ⟨z0, z1⟩ := hSw; go_simp
  try simp only [Act.put, List.setIfInBounds_toArray, List.set_cons_zero, List.set_cons_succ]
  refine wpAnyH_take (i := 3) (v := .pointer (some ⟨w.heap.size, 1, none⟩)) rfl (by kernel_rfl) (by kernel_rfl) (by kernel_rfl) (fun _ _ _ h => h) (Or.inl ⟨by kernel_rfl, ?_⟩) hHeld ?_
  · intro w' hSw; go_simp
  try simp only [Act.put, List.setIfInBounds_toArray, List.set_cons_zero, List.set_cons_succ]
  refine wpAnyH_take (i := 4) (v := .slice y n2 c2) rfl (by kernel_rfl) (by kernel_rfl) (by kernel_rfl) (fun _ _ _ h => h) (Or.inl ⟨by kernel_rfl, ?_⟩) hHeld ?_
  · intro w' hSw; obtain ⟨z0, z1⟩ := hSw; go_simp
  try simp only [Act.put, List.setIfInBounds_toArray, List.set_cons_zero, List.set_cons_succ]
  refine wpAnyH_ready (rs := [2]) (by kernel_rfl) (by simp) ?_
  refine AllReadyH.cons rfl (fun KK hK' => ?_) AllReadyH.nil
  go_simp
  refine (intsZ_any M hn1).mono ?_
  rintro e u1 ⟨g, g', rfl, lg, ng, Mg, bb⟩
  replace X1 := X1.below bb
  replace X2 := X2.below bb
  replace M := M.below bb
  replace T := T.below bb
  have zu1 := bb.size
  replace BB := BB.trans (bb.mono BB.size)
  clear bb
  try go_wp2_with fail
  clear hHeld
  refine hK'.out _ _ (one2_mk X1) (fun hHeld => ?_)
  clear hK' KK
  try simp only [List.setIfInBounds_toArray, List.set_cons_zero, List.set_cons_succ]
  refine wpAnyH_ready (rs := [5]) (by kernel_rfl) (by simp) ?_
  refine AllReadyH.cons rfl (fun KK hK' => ?_) AllReadyH.nil
  go_simp
  refine (intsZ_any T hn2).mono ?_
  rintro e u2 ⟨k, k', rfl, lk, nk, Mk, bb⟩
  replace X1 := X1.below bb
  replace X2 := X2.below bb
  replace M := M.below bb
  replace T := T.below bb
  replace Mg := Mg.below bb
  have zu2 := bb.size
  replace BB := BB.trans (bb.mono BB.size)
  clear bb
  try go_wp2_with fail
  clear hHeld
  refine hK'.out _ _ (one2_mk X1) (fun hHeld => ?_)
  clear hK' KK
  try simp only [List.setIfInBounds_toArray, List.set_cons_zero, List.set_cons_succ]
  refine wpAnyH_take (i := 6) (v := .agg #[.slice (some ⟨g, 0, none⟩) n1 g', .slice (some ⟨k, 0, none⟩) n2 k']) rfl (by kernel_rfl) (by kernel_rfl) (by kernel_rfl) (fun _ _ _ h => h) (Or.inl ⟨by kernel_rfl, ?_⟩) hHeld ?_
  · intro w' hSw; go_simp
  try simp only [Act.put, List.setIfInBounds_toArray, List.set_cons_zero, List.set_cons_succ]
  refine wpAnyH_ready (rs := [7]) (by kernel_rfl) (by simp) ?_
  refine AllReadyH.cons rfl (fun KK hK' => ?_) AllReadyH.nil
  obtain ⟨d0, d1, f0, f1⟩ := X2.open2
  go_simp
  clear d0 d1 f0 f1
  replace X1 := (X1.setOther (p := W1.heap.size) (i := 0) (by omega) (.slice (some ⟨g, 0, none⟩) n1 g')).setOther (p := W1.heap.size) (i := 1) (by omega) (.slice (some ⟨k, 0, none⟩) n2 k')
  have a8 := nil2_at X2 (.slice (some ⟨g, 0, none⟩) n1 g') (.slice (some ⟨k, 0, none⟩) n2 k')
  have Qg := (Mg.setOther (q := W1.heap.size) (i := 0) (by omega) (.slice (some ⟨g, 0, none⟩) n1 g')).setOther (q := W1.heap.size) (i := 1) (by omega) (.slice (some ⟨k, 0, none⟩) n2 k')
  have Qk := (Mk.setOther (q := W1.heap.size) (i := 0) (by omega) (.slice (some ⟨g, 0, none⟩) n1 g')).setOther (q := W1.heap.size) (i := 1) (by omega) (.slice (some ⟨k, 0, none⟩) n2 k')
  replace BB := (BB.setCell (p := ⟨W1.heap.size, 0, none⟩) (by show w.heap.size ≤ W1.heap.size; omega) (.slice (some ⟨g, 0, none⟩) n1 g')).setCell (p := ⟨W1.heap.size, 1, none⟩) (by show w.heap.size ≤ W1.heap.size; omega) (.slice (some ⟨k, 0, none⟩) n2 k')
  clear hHeld
  refine hK'.out _ _ (one2_mk X1) (fun hHeld => ?_)
  clear hK' KK
  try simp only [List.setIfInBounds_toArray, List.set_cons_zero, List.set_cons_succ]
  clear hHeld
  refine wpAnyH_done (by kernel_rfl) ?_ _
  go_wp2
  obtain ⟨p0, p1, -⟩ := a8.open2
  exact bodyPost_ret (v := .agg #[.slice (some ⟨g, 0, none⟩) n1 g', .slice (some ⟨k, 0, none⟩) n2 k']) (by simp [results, Try.results13, go_sem, p0, p1]) rfl ⟨_, _, _, _, rfl, Qg, Qk, BB⟩
theorem made_op {w w' : World} {g c n : Nat} {f : Nat → Int} {row : Option Nat} (h : Made w g c n f) (hg : w.grownBy w' row) (hr : ∀ k, row = some k → ∃ cur, At 33 w k cur) : Made w' g c n f := by
  obtain ⟨cur, h1, h2⟩ := h
  refine ⟨cur, (hg.block g h1.lt (fun e => ?_)).trans h1, h2⟩
  obtain ⟨cur', a⟩ := hr g e.symm
  have := (show _ = _ from h1).symm.trans a
  simp at this
/-- A list of copies of operators, right or wrong. -/
structure OpsM (w : World) (lo : Nat) (v : Value) (n : Nat) (X Y : Nat → Value) (A : Nat → OpD) : Prop where
  row : w.ownsRow lo 33 2 v n (pc X Y n)
  nn : v ≠ .slice none 0 0
  xs : ∀ i, i < n → ∃ g c, X i = .slice (some ⟨g, 0, none⟩) (A i).n c ∧ Made w g c (A i).n (A i).f
  ys : ∀ i, i < n → ∃ g c, Y i = .slice (some ⟨g, 0, none⟩) (A i).k c ∧ Made w g c (A i).k (A i).h
theorem OpsM.below {w w' : World} {lo n : Nat} {v : Value} {X Y : Nat → Value} {A : Nat → OpD} (h : OpsM w lo v n X Y A) (hb : Below w.heap.size w w') : OpsM w' lo v n X Y A := by
  refine ⟨own_below h.row hb, h.nn, fun i hi => ?_, fun i hi => ?_⟩
  · obtain ⟨g, c, e, m⟩ := h.xs i hi
    exact ⟨g, c, e, m.below hb⟩
  · obtain ⟨g, c, e, m⟩ := h.ys i hi
    exact ⟨g, c, e, m.below hb⟩
theorem OpsM.opsL {w : World} {lo n : Nat} {v : Value} {X Y : Nat → Value} {A : Nat → OpD} (h : OpsM w lo v n X Y A) : ∃ g c, v = .slice (some ⟨g, 0, none⟩) n c ∧ lo ≤ g ∧ OpsL w g n A := by
  rcases h.row.2 with ⟨h1, _⟩ | ⟨g, c, cur, e, hb, hh, h3, h4, h5, h6⟩
  · exact absurd h1 h.nn
  · have get : ∀ j, j < n * 2 → cur[j]? = (pc X Y n)[j]? := fun j hj => by
      have := congrArg (fun L => L[j]?) h6
      simp only [List.getElem?_take] at this
      rw [if_pos (by omega)] at this
      simpa using this
    have a : At 33 w g cur := hh
    refine ⟨g, c, e, hb, a.lt, fun i hi => ?_⟩
    obtain ⟨g1, c1, e1, m1⟩ := h.xs i hi
    obtain ⟨g2, c2, e2, m2⟩ := h.ys i hi
    obtain ⟨p1, p2⟩ := pc_get X Y hi
    exact ⟨_, c1, _, c2, a.cell _ ((get _ (by omega)).trans (p1.trans (congrArg some e1))), a.cell _ ((get _ (by omega)).trans (p2.trans (congrArg some e2))), made_src' m1, made_src' m2⟩
theorem OpsM.snoc {w w' : World} {lo n : Nat} {v v' x y : Value} {X Y : Nat → Value} {A : Nat → OpD} (h : OpsM w lo v n X Y A) (r1 : ∃ g c, x = .slice (some ⟨g, 0, none⟩) (A n).n c ∧ Made w g c (A n).n (A n).f) (r2 : ∃ g c, y = .slice (some ⟨g, 0, none⟩) (A n).k c ∧ Made w g c (A n).k (A n).h) (hg : w.grownBy w' v.ownBlock) (hrow : w'.ownsRow lo 33 2 v' (n + 1) (pc X Y n ++ [x, y])) (hne : v' ≠ .slice none 0 0) : ∃ X' Y', OpsM w' lo v' (n + 1) X' Y' A := by
  have hr : ∀ k, v.ownBlock = some k → ∃ cur, At 33 w k cur := row_blkAt h.row h.nn
  refine ⟨fun i => if i = n then x else X i, fun i => if i = n then y else Y i, ?_, hne, fun i hi => ?_, fun i hi => ?_⟩
  · have e : pc (fun i => if i = n then x else X i) (fun i => if i = n then y else Y i) (n + 1) = pc X Y n ++ [x, y] := by
      have e0 : ∀ m, m ≤ n → pc (fun i => if i = n then x else X i) (fun i => if i = n then y else Y i) m = pc X Y m := fun m => by
        induction m with
        | zero => intro _; rfl
        | succ m ih =>
          intro hm
          show pc _ _ m ++ [if m = n then x else X m, if m = n then y else Y m] = pc X Y m ++ [X m, Y m]
          rw [ih (by omega), if_neg (by omega), if_neg (by omega)]
      show pc _ _ n ++ [if n = n then x else X n, if n = n then y else Y n] = _
      rw [e0 n (Nat.le_refl _), if_pos rfl, if_pos rfl]
    rw [e]; exact hrow
  · by_cases e : i = n
    · subst e
      obtain ⟨g, c, e1, m⟩ := r1
      exact ⟨g, c, by rw [if_pos rfl]; exact e1, made_op m hg hr⟩
    · obtain ⟨g, c, e1, m⟩ := h.xs i (by omega)
      exact ⟨g, c, by rw [if_neg e]; exact e1, made_op m hg hr⟩
  · by_cases e : i = n
    · subst e
      obtain ⟨g, c, e1, m⟩ := r2
      exact ⟨g, c, by rw [if_pos rfl]; exact e1, made_op m hg hr⟩
    · obtain ⟨g, c, e1, m⟩ := h.ys i (by omega)
      exact ⟨g, c, by rw [if_neg e]; exact e1, made_op m hg hr⟩
/-- What is told of copies. -/
def CopM (w : World) (n : Nat) (A : Nat → OpD) (e : Ending) (w' : World) : Prop :=
  (∃ g c, e = .returned (.slice (some ⟨g, 0, none⟩) n c) ∧ OpsL w' g n A) ∧ Below w.heap.size w w'
theorem opsM_new1 {w W : World} {A : Nat → OpD} (a1 : At 33 W w.heap.size #[]) : OpsM W w.heap.size (.slice (some ⟨w.heap.size, 0, none⟩) 0 0) 0 (fun _ => undef) (fun _ => undef) A :=
  ⟨⟨rfl, .inr ⟨w.heap.size, 0, #[], rfl, Nat.le_refl _, a1, Nat.le_refl _, Nat.zero_le _, rfl, rfl⟩⟩, ne_nil _ _ _, fun i hi => by omega, fun i hi => by omega⟩
set_option maxRecDepth 100000 in
set_option maxHeartbeats 3000000 in
theorem copyOpsZ_any {w : World} {g n c : Nat} {A : Nat → OpD} (hL : OpsL w g n A) (hn : n ≤ 200) (ok : ∀ i, i < n → (A i).n ≤ 9 ∧ (A i).k ≤ 9) :
    Calls Try.prog 10 #[.slice (some ⟨g, 0, none⟩) n c] w (CopM w n A) := by
  have hbs : ∀ w, (Instr.buildSlice 24 0 #[]).run Try.prog w = .ok (.slice (some ⟨w.heap.size, 0, none⟩) 0 0) (w.alloc (.cells #[] 33)) := fun _ => by kernel_rfl
  obtain ⟨i0, hi0, hz0, hz1, hz2⟩ := info_parts Try.info33
  have hn' : (n : Int) ≤ 200 := by omega
  obtain ⟨W1, hW1, a1, B1, -⟩ := boxed w 33 #[]
  obtain ⟨g0, hg0⟩ : ∃ q, w.heap.size = q := ⟨_, rfl⟩
  have O1 : OpsM W1 w.heap.size (.slice (some ⟨g0, 0, none⟩) 0 0) 0 (fun _ => undef) (fun _ => undef) A := by
    rw [← hg0]; exact opsM_new1 a1
  clear a1
  have HL := hid_of hL
  have HO := hid_of ok
  clear hL ok
  go_enter Try.func10, Try.ntmps10
  go_wp2
  clear hW1 hg0
  go_loopw [3, 4] (fun v s wr => ∃ (i : Nat), i ≤ n ∧ s = .int .i64 (i : Int) ∧ Hid ((∃ X Y, OpsM wr w.heap.size v i X Y A) ∧ Below w.heap.size w wr)) (fun _ s _ => n - (intOf s).toNat)
  case atStart => exact ⟨0, Nat.zero_le _, rfl, ⟨_, _, O1⟩, B1⟩
  case round =>
    clear O1 B1
    obtain ⟨i, hi, rfl, I⟩ := hrel
    obtain ⟨⟨X, Y, O⟩, B⟩ := I.out
    clear I
    by_cases hlt : i < n
    · have hlt' : (i : Int) < (n : Int) := by omega
      have hm1 : i + 1 ≤ maxLen := by unfold maxLen; omega
      have hm2 : (i + 1) * 48 ≤ 140737488355328 := by omega
      have hLB := HL.out.below B
      have okk := HO.out i hlt
      obtain ⟨xa, xc, xb, xd, f0, f1, s1, s2⟩ := hLB.2 i hlt
      have CP := copyOpZ_any (c1 := xc) (c2 := xd) s1 s2 (by omega) (by omega)
      generalize hAn : (A i).n = n1 at CP f0
      generalize hAk : (A i).k = n2 at CP f1
      have HN1 := hid_of hAn
      have HN2 := hid_of hAk
      clear hAn hAk
      clear hLB okk s1 s2
      go_wp2_with fail
      refine CP.mono ?_
      rintro e w3 ⟨x3, l3, x4, l4, rfl, t1, t2, b3⟩
      clear CP f0 f1
      obtain ⟨W6, hW6, a6, b6, -⟩ := boxed w3 33 #[.slice (some ⟨x3, 0, none⟩) n1 l3, .slice (some ⟨x4, 0, none⟩) n2 l4]
      have O6 := (O.below b3).below b6
      have B6 := (B.trans (b3.mono B.size)).trans (b6.mono (B.trans (b3.mono B.size)).size)
      have rx6 := hid_of (t1.below b6)
      have ry6 := hid_of (t2.below b6)
      have hnw : ∀ j u, [Value.slice (some ⟨x3, 0, none⟩) n1 l3, Value.slice (some ⟨x4, 0, none⟩) n2 l4][j]? = some u → W6.cell? ((⟨w3.heap.size, 0, none⟩ : Addr).add j) = some u := by
        intro j u hu
        match j with
        | 0 => cases hu; exact a6.cell 0 rfl
        | 1 => cases hu; exact a6.cell 1 rfl
        | j + 2 => cases hu
      have h1c : ∀ u ∈ [Value.slice (some ⟨x3, 0, none⟩) n1 l3, Value.slice (some ⟨x4, 0, none⟩) n2 l4], u.oneCell' = true := by
        intro u hu
        simp at hu
        rcases hu with rfl | rfl <;> rfl
      have hm3 : w.heap.size ≤ W6.heap.size := B6.size
      clear O t1 t2 b3 b6 B
      go_wp2_with (at_builtin; refine Hid.out (?_ : Hid _))
      refine (?_ : wpList _ _ _ _ _ _)
      refine wpList_append_own_at _ rfl _ _ _ rfl w.heap.size 33 i0 _ 2 48 Try.underlying24 hi0 hz0 hz1 hz2 rfl (by omega) u3 i _ rfl O6.row ⟨w3.heap.size, 0, none⟩ 1 1 [.slice (some ⟨x3, 0, none⟩) n1 l3, .slice (some ⟨x4, 0, none⟩) n2 l4] rfl rfl hnw h1c hm1 hm2 hm3 ?_
      intro v3 w7 hown3 hgrow3 hne3 hblk3
      have e3 : v3 ≠ .slice none 0 0 := by
        intro e
        have := (hne3.1 e).2
        omega
      have B7 := B6.grown hgrow3 hm3 (fun x hx => ownBlock_ge O6.row hx)
      have I7 : Hid ((∃ X Y, OpsM w7 w.heap.size v3 (i + 1) X Y A) ∧ Below w.heap.size w w7) := ⟨O6.snoc ⟨x3, l3, by rw [HN1.out], by rw [HN1.out]; exact rx6.out⟩ ⟨x4, l4, by rw [HN2.out], by rw [HN2.out]; exact ry6.out⟩ hgrow3 hown3 e3, B7⟩
      clear O6 rx6 ry6 hnw h1c hm3 hown3 hgrow3 hne3 hblk3 e3 hm1 hm2 a6 hW6 B6 B7
      go_wp2
      exact ⟨⟨i + 1, by omega, by go_num, I7⟩, by simp [intOf]; omega⟩
    · have hlt' : ¬ (i : Int) < (n : Int) := by omega
      obtain rfl : i = n := by omega
      obtain ⟨gz, cz, rfl, -, Lz⟩ := O.opsL
      have N : Hid (CopM w i A (.returned (.slice (some ⟨gz, 0, none⟩) i cz)) wr) := ⟨⟨_, _, rfl, Lz⟩, B⟩
      clear Lz
      clear O B
      go_wp2
      go_ret
      exact N.out
end Go.Proofs.Ytpolnkjmojofoaa
