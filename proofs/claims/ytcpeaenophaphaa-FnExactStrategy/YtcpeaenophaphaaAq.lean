/-
  A plan grown by one number, walked.
-/
import Derived.Test.YtcpeaenophaphaaAp
namespace Go.Proofs.Ytcpeaenophaphaa
open Go.RowKit

theorem own_keepA {w w' : World} {B : Nat} {e : TypeId} {k : Nat} {v : Value} {n : Nat} {xs : List Value} (h : w.ownsRow B e k v n xs) (hk : ∀ j, v.ownBlock = some j → w'.heap[j]? = w.heap[j]?) : w'.ownsRow B e k v n xs := by
  refine ⟨h.1, h.2.imp id ?_⟩
  rintro ⟨g, cap, cur, rfl, h1, h2, h3⟩
  exact ⟨g, cap, cur, rfl, h1, (hk g rfl).trans h2, h3⟩

set_option linter.unusedSimpArgs false in
set_option maxRecDepth 100000 in
set_option maxHeartbeats 4000000 in
theorem pGrown_any {w : World} {g c : Nat} {l : List Nat} (s1 s2 : Int) (k : Nat) (I1 : Ints w g 0 l.length (fun i => (toI l).getD i 0)) (L1 : g < w.heap.size) (hn : l.length ≤ 1000) (hk : k < 1000) :
    Calls Try.prog 42 #[.agg #[.slice (some ⟨g, 0, none⟩) l.length c, .int .u64 s1], .int .i64 (k : Int), .int .u64 s2] w fun e w' => ∃ g' c', e = .returned (.agg #[.slice (some ⟨g', 0, none⟩) (l.length + 1) c', .int .u64 (bits .or .u64 s1 s2)]) ∧ w'.ownsRow w.heap.size 2 1 (.slice (some ⟨g', 0, none⟩) (l.length + 1) c') (l.length + 1) (lCells (toI (l ++ [k]))) ∧ Below w.heap.size w w' := by
  obtain ⟨i0, hi0, hz0, hz1, hz2⟩ := info_parts infoI
  have HCP : Hid (∀ w, Ints w g 0 l.length (fun i => (toI l).getD i 0) → g < w.heap.size → _) := fun w h1 h2 => copyL_any (w := w) (c := c) h1 h2 hn
  have hb2 : ∀ w, (Instr.buildSlice 25 1 #[(0, .int .i64 (k : Int))]).run Try.prog w = .ok (.slice (some ⟨w.heap.size, 0, none⟩) 1 1) (w.alloc (.cells #[.int .i64 (k : Int)] 2)) := fun _ => by kernel_rfl
  obtain ⟨X, hX⟩ : ∃ X, bits .or .u64 s1 s2 = X := ⟨_, rfl⟩
  generalize l.length = m at *
  have hk' : (k : Int) < 1000 := by omega
  obtain ⟨W, hW, b3, b6, bW, -⟩ := boxed2 w 56 56 #[.slice (some ⟨g, 0, none⟩) m c, .int .u64 s1] #[.slice none 0 0, .int .u64 0]
  rw [hX, toI_add]
  go_enter Try.func42, Try.ntmps42
  go_wp2_with fail
  clear hW
  replace I1 := I1.below L1 bW
  replace L1 := Nat.lt_of_lt_of_le L1 bW.size
  obtain ⟨q3, e1⟩ : ∃ z, w.heap.size = z := ⟨_, rfl⟩
  obtain ⟨q6, e2⟩ : ∃ z, q3 + 1 = z := ⟨_, rfl⟩
  have h36 : q3 ≠ q6 := by omega
  have HQ : Hid (w.heap.size ≤ q6) := by rw [e1, ← e2]; exact Nat.le_succ _
  have BW : Hid (Below w.heap.size w W) := bW
  rw [e1] at b3 b6 ⊢
  rw [e2] at b6 ⊢
  clear e1 e2
  obtain ⟨u0, hu0, bb⟩ : ∃ uu, W.drew = uu ∧ Below W.heap.size W uu := ⟨_, rfl, (Below.refl _ _).drew⟩
  replace b3 := b3.below bb
  replace b6 := b6.below bb
  replace I1 := I1.below L1 bb
  replace L1 := Nat.lt_of_lt_of_le L1 bb.size
  replace bW := bW.trans (bb.mono bW.size)
  have h3 : q3 < u0.heap.size := b3.lt
  have h6 : q6 < u0.heap.size := b6.lt
  have bu : Kb u0 u0 := Below.refl _ _
  clear bb
  refine wp_region_held_drew (S := fun w' => At 56 w' q3 #[.slice (some ⟨g, 0, none⟩) m c, .int .u64 s1]) (by kernel_rfl) (by rw [hu0]; exact b3) (fun hHeld => ?_)
  rw [hu0] at hHeld ⊢
  clear hu0
  change wpAnyH _ _ _ _ _ 12 #[false, false, false, false, false, false, false, false, false, false, false, false] _ _
  refine wpAnyH_take (i := 0) (v := .pointer (some ⟨q3, 0, none⟩)) rfl (by kernel_rfl) (by kernel_rfl) (by kernel_rfl) (fun _ _ _ h => h) (Or.inl ⟨by kernel_rfl, ?_⟩) hHeld ?_
  · intro w' hSw; go_simp
  try simp only [Act.put, List.setIfInBounds_toArray, List.set_cons_zero, List.set_cons_succ, List.getElem_toArray, List.getElem_cons_zero]
  refine wpAnyH_take (i := 1) (v := .slice ((some ⟨g, 0, none⟩)) m c) rfl (by kernel_rfl) (by kernel_rfl) (by kernel_rfl) (fun _ _ _ h => h) (Or.inl ⟨by kernel_rfl, ?_⟩) hHeld ?_
  · intro w' hSw; obtain ⟨z0, z1, -⟩ := hSw.open2; go_simp
  try simp only [Act.put, List.setIfInBounds_toArray, List.set_cons_zero, List.set_cons_succ, List.getElem_toArray, List.getElem_cons_succ, List.getElem_cons_zero]
  refine wpAnyH_take (i := 3) (v := .int .i64 ((k : Int))) rfl (by kernel_rfl) (by kernel_rfl) (by kernel_rfl) (fun _ _ _ h => h) (Or.inl ⟨by kernel_rfl, ?_⟩) hHeld ?_
  · intro w' hSw; go_simp
  try simp only [Act.put, List.setIfInBounds_toArray, List.set_cons_zero, List.set_cons_succ, List.getElem_toArray, List.getElem_cons_succ, List.getElem_cons_zero]
  refine wpAnyH_take (i := 6) (v := .pointer (some ⟨q3, 1, none⟩)) rfl (by kernel_rfl) (by kernel_rfl) (by kernel_rfl) (fun _ _ _ h => h) (Or.inl ⟨by kernel_rfl, ?_⟩) hHeld ?_
  · intro w' hSw; go_simp
  try simp only [Act.put, List.setIfInBounds_toArray, List.set_cons_zero, List.set_cons_succ, List.getElem_toArray, List.getElem_cons_succ, List.getElem_cons_zero]
  refine wpAnyH_take (i := 7) (v := .int .u64 s1) rfl (by kernel_rfl) (by kernel_rfl) (by kernel_rfl) (fun _ _ _ h => h) (Or.inl ⟨by kernel_rfl, ?_⟩) hHeld ?_
  · intro w' hSw; obtain ⟨z0, z1, -⟩ := hSw.open2; go_simp
  try simp only [Act.put, List.setIfInBounds_toArray, List.set_cons_zero, List.set_cons_succ, List.getElem_toArray, List.getElem_cons_succ, List.getElem_cons_zero]
  refine wpAnyH_take (i := 8) (v := .int .u64 s2) rfl (by kernel_rfl) (by kernel_rfl) (by kernel_rfl) (fun _ _ _ h => h) (Or.inl ⟨by kernel_rfl, ?_⟩) hHeld ?_
  · intro w' hSw; go_simp
  try simp only [Act.put, List.setIfInBounds_toArray, List.set_cons_zero, List.set_cons_succ, List.getElem_toArray, List.getElem_cons_succ, List.getElem_cons_zero]
  refine wpAnyH_take (i := 9) (v := .int .u64 X) rfl (by kernel_rfl) (by kernel_rfl) (by kernel_rfl) (fun _ _ _ h => h) (Or.inl ⟨by kernel_rfl, ?_⟩) hHeld ?_
  · intro w' hSw; go_simp
  try simp only [Act.put, List.setIfInBounds_toArray, List.set_cons_zero, List.set_cons_succ, List.getElem_toArray, List.getElem_cons_succ, List.getElem_cons_zero]
  refine wpAnyH_ready (rs := [2, 4]) (by kernel_rfl) (by simp) ?_
  refine AllReadyH.cons rfl (fun KK hK' => ?_) (AllReadyH.cons rfl (fun KK hK' => ?_) AllReadyH.nil)
  · go_simp
    refine (HCP.out _ I1 L1).mono ?_
    rintro e u1 ⟨gc, cc, rfl, hO, bb⟩
    replace hO := own_downA hO bu.size
    replace b3 := b3.below bb
    replace b6 := b6.below bb
    replace bu : Kb u0 u1 := bu.trans (bb.mono bu.size)
    replace I1 := I1.below L1 bb
    replace L1 := Nat.lt_of_lt_of_le L1 bb.size
    clear bb
    try go_wp2_with fail
    clear hHeld
    refine hK'.out _ _ (b3) (fun hHeld => ?_)
    clear hK' KK
    try simp only [List.setIfInBounds_toArray, List.set_cons_zero, List.set_cons_succ]
    refine wpAnyH_ready (rs := [4]) (by kernel_rfl) (by simp) ?_
    refine AllReadyH.cons rfl (fun KK hK' => ?_) AllReadyH.nil
    go_simp
    obtain ⟨UU, hUU, A9, bb, -⟩ := boxed u1 2 #[.int .i64 (k : Int)]
    rw [hUU]
    obtain ⟨gA, hgA⟩ : ∃ z, u1.heap.size = z := ⟨_, rfl⟩
    rw [hgA] at A9 ⊢
    replace b3 := b3.below bb
    replace b6 := b6.below bb
    replace I1 := I1.below L1 bb
    replace L1 := Nat.lt_of_lt_of_le L1 bb.size
    replace hO := own_below hO bb
    replace bu : Kb u0 UU := bu.trans (bb.mono bu.size)
    clear bb hUU hgA
    clear hHeld
    refine hK'.out _ _ (b3) (fun hHeld => ?_)
    clear hK' KK
    try simp only [List.setIfInBounds_toArray, List.set_cons_zero, List.set_cons_succ]
    refine wpAnyH_ready (rs := [5]) (by kernel_rfl) (by simp) ?_
    refine AllReadyH.cons rfl (fun KK hK' => ?_) AllReadyH.nil
    have hs5 : u0.heap.size ≤ UU.heap.size := bu.size
    refine step_append_at _ (by rfl) _ _ _ (by rfl) u0.heap.size 2 i0 _ 1 8 Try.underlying25 hi0 hz0 hz1 hz2 rfl (by omega) (.slice (some ⟨gc, 0, none⟩) m cc) m (lCells (toI l)) (by rfl) hO ⟨gA, 0, none⟩ 1 1 (lCells [(k : Int)]) (by rfl) (by rfl) (news1 A9) (lCells_one _) (by unfold maxLen; omega) (by omega) hs5 ?_
    intro v2 w9 hown2 hgrow2 hne2 _hat
    obtain ⟨gn, cn, rfl⟩ : ∃ g6 c6, v2 = .slice (some ⟨g6, 0, none⟩) (m + 1) c6 := by
      rcases hown2.2 with ⟨e1, -⟩ | ⟨gg, cd, cur, e1, -⟩
      · exact absurd (hne2.1 e1).1 (fun h => by cases h)
      · exact ⟨gg, cd, e1⟩
    have bb6 : Below u0.heap.size UU w9 := (Below.refl _ _).grown hgrow2 hs5 (fun x hx => ownBlock_ge hO hx)
    replace b3 := b3.belowN bb6 h3
    replace b6 := b6.belowN bb6 h6
    replace bu : Kb u0 w9 := bu.trans bb6
    clear bb6 hgrow2 hne2 _hat hO A9 hs5 I1 L1
    clear hHeld
    refine hK'.out _ _ (b3) (fun hHeld => ?_)
    clear hK' KK
    try simp only [List.setIfInBounds_toArray, List.set_cons_zero, List.set_cons_succ]
    refine wpAnyH_take (i := 10) (v := .agg #[.slice (some ⟨gn, 0, none⟩) (m + 1) cn, .int .u64 X]) rfl (by kernel_rfl) (by kernel_rfl) (by kernel_rfl) (fun _ _ _ h => h) (Or.inl ⟨by kernel_rfl, ?_⟩) hHeld ?_
    · intro w' hSw; go_simp
    try simp only [Act.put, List.setIfInBounds_toArray, List.set_cons_zero, List.set_cons_succ, List.getElem_toArray, List.getElem_cons_succ, List.getElem_cons_zero]
    refine wpAnyH_ready (rs := [11]) (by kernel_rfl) (by simp) ?_
    refine AllReadyH.cons rfl (fun KK hK' => ?_) AllReadyH.nil
    obtain ⟨y0, y1, y2, y3⟩ := b6.open2
    go_simp
    clear y0 y1 y2 y3
    replace b3 := (b3.setOther (i := 0) h36 (.slice (some ⟨gn, 0, none⟩) (m + 1) cn)).setOther (i := 1) h36 (.int .u64 X)
    clear hHeld
    refine hK'.out _ _ (b3) (fun hHeld => ?_)
    clear hK' KK
    try simp only [List.setIfInBounds_toArray, List.set_cons_zero, List.set_cons_succ]
    refine wpAnyH_done (by kernel_rfl) ?_ _
    clear hHeld
    have b7 : At 56 ((w9.setCell ⟨q6, 0, none⟩ (.slice (some ⟨gn, 0, none⟩) (m + 1) cn)).setCell ⟨q6, 1, none⟩ (.int .u64 X)) q6 #[.slice (some ⟨gn, 0, none⟩) (m + 1) cn, .int .u64 X] := by simpa using (b6.set 0 (.slice (some ⟨gn, 0, none⟩) (m + 1) cn)).set 1 (.int .u64 X)
    have hO2 : World.ownsRow ((w9.setCell ⟨q6, 0, none⟩ (.slice (some ⟨gn, 0, none⟩) (m + 1) cn)).setCell ⟨q6, 1, none⟩ (.int .u64 X)) u0.heap.size 2 1 (.slice (some ⟨gn, 0, none⟩) (m + 1) cn) (m + 1) (lCells (toI l) ++ lCells [(k : Int)]) := own_keepA (own_keepA hown2 (fun j hj => Below.heap_setCell _ _ _ _ (show j ≠ q6 by have := ownBlock_ge hown2 hj; omega))) (fun j hj => Below.heap_setCell _ _ _ _ (show j ≠ q6 by have := ownBlock_ge hown2 hj; omega))
    have bZ : Below w.heap.size w ((w9.setCell ⟨q6, 0, none⟩ (.slice (some ⟨gn, 0, none⟩) (m + 1) cn)).setCell ⟨q6, 1, none⟩ (.int .u64 X)) := ((bW.trans (Below.mono bu bW.size)).setCell (p := ⟨q6, 0, none⟩) HQ.out _).setCell (p := ⟨q6, 1, none⟩) HQ.out _
    have hO3 := own_downA hO2 bW.size
    clear hO2 hown2 b6 b3 bu
    obtain ⟨r0, r1, -⟩ := b7.open2
    go_wp2
    exact bodyPost_ret (v := .agg #[.slice (some ⟨gn, 0, none⟩) (m + 1) cn, .int .u64 X]) (by simp [results, Try.results42, go_sem, r0, r1]) rfl ⟨gn, cn, rfl, by rw [lCells, List.map_append]; exact hO3, bZ⟩
  · go_simp
    obtain ⟨UU, hUU, A9, bb, -⟩ := boxed u0 2 #[.int .i64 (k : Int)]
    rw [hUU]
    obtain ⟨gA, hgA⟩ : ∃ z, u0.heap.size = z := ⟨_, rfl⟩
    rw [hgA] at A9 ⊢
    replace b3 := b3.below bb
    replace b6 := b6.below bb
    replace I1 := I1.below L1 bb
    replace L1 := Nat.lt_of_lt_of_le L1 bb.size
    replace bu : Kb u0 UU := bu.trans (bb.mono bu.size)
    clear bb hUU hgA
    clear hHeld
    refine hK'.out _ _ (b3) (fun hHeld => ?_)
    clear hK' KK
    try simp only [List.setIfInBounds_toArray, List.set_cons_zero, List.set_cons_succ]
    refine wpAnyH_ready (rs := [2]) (by kernel_rfl) (by simp) ?_
    refine AllReadyH.cons rfl (fun KK hK' => ?_) AllReadyH.nil
    go_simp
    refine (HCP.out _ I1 L1).mono ?_
    rintro e u2 ⟨gc, cc, rfl, hO, bb⟩
    replace hO := own_downA hO bu.size
    replace b3 := b3.below bb
    replace b6 := b6.below bb
    replace A9 := A9.below bb
    replace bu : Kb u0 u2 := bu.trans (bb.mono bu.size)
    clear bb
    try go_wp2_with fail
    clear hHeld
    refine hK'.out _ _ (b3) (fun hHeld => ?_)
    clear hK' KK
    try simp only [List.setIfInBounds_toArray, List.set_cons_zero, List.set_cons_succ]
    refine wpAnyH_ready (rs := [5]) (by kernel_rfl) (by simp) ?_
    refine AllReadyH.cons rfl (fun KK hK' => ?_) AllReadyH.nil
    have hs5 : u0.heap.size ≤ u2.heap.size := bu.size
    refine step_append_at _ (by rfl) _ _ _ (by rfl) u0.heap.size 2 i0 _ 1 8 Try.underlying25 hi0 hz0 hz1 hz2 rfl (by omega) (.slice (some ⟨gc, 0, none⟩) m cc) m (lCells (toI l)) (by rfl) hO ⟨gA, 0, none⟩ 1 1 (lCells [(k : Int)]) (by rfl) (by rfl) (news1 A9) (lCells_one _) (by unfold maxLen; omega) (by omega) hs5 ?_
    intro v2 w9 hown2 hgrow2 hne2 _hat
    obtain ⟨gn, cn, rfl⟩ : ∃ g6 c6, v2 = .slice (some ⟨g6, 0, none⟩) (m + 1) c6 := by
      rcases hown2.2 with ⟨e1, -⟩ | ⟨gg, cd, cur, e1, -⟩
      · exact absurd (hne2.1 e1).1 (fun h => by cases h)
      · exact ⟨gg, cd, e1⟩
    have bb6 : Below u0.heap.size u2 w9 := (Below.refl _ _).grown hgrow2 hs5 (fun x hx => ownBlock_ge hO hx)
    replace b3 := b3.belowN bb6 h3
    replace b6 := b6.belowN bb6 h6
    replace bu : Kb u0 w9 := bu.trans bb6
    clear bb6 hgrow2 hne2 _hat hO A9 hs5 I1 L1
    clear hHeld
    refine hK'.out _ _ (b3) (fun hHeld => ?_)
    clear hK' KK
    try simp only [List.setIfInBounds_toArray, List.set_cons_zero, List.set_cons_succ]
    refine wpAnyH_take (i := 10) (v := .agg #[.slice (some ⟨gn, 0, none⟩) (m + 1) cn, .int .u64 X]) rfl (by kernel_rfl) (by kernel_rfl) (by kernel_rfl) (fun _ _ _ h => h) (Or.inl ⟨by kernel_rfl, ?_⟩) hHeld ?_
    · intro w' hSw; go_simp
    try simp only [Act.put, List.setIfInBounds_toArray, List.set_cons_zero, List.set_cons_succ, List.getElem_toArray, List.getElem_cons_succ, List.getElem_cons_zero]
    refine wpAnyH_ready (rs := [11]) (by kernel_rfl) (by simp) ?_
    refine AllReadyH.cons rfl (fun KK hK' => ?_) AllReadyH.nil
    obtain ⟨y0, y1, y2, y3⟩ := b6.open2
    go_simp
    clear y0 y1 y2 y3
    replace b3 := (b3.setOther (i := 0) h36 (.slice (some ⟨gn, 0, none⟩) (m + 1) cn)).setOther (i := 1) h36 (.int .u64 X)
    clear hHeld
    refine hK'.out _ _ (b3) (fun hHeld => ?_)
    clear hK' KK
    try simp only [List.setIfInBounds_toArray, List.set_cons_zero, List.set_cons_succ]
    refine wpAnyH_done (by kernel_rfl) ?_ _
    clear hHeld
    have b7 : At 56 ((w9.setCell ⟨q6, 0, none⟩ (.slice (some ⟨gn, 0, none⟩) (m + 1) cn)).setCell ⟨q6, 1, none⟩ (.int .u64 X)) q6 #[.slice (some ⟨gn, 0, none⟩) (m + 1) cn, .int .u64 X] := by simpa using (b6.set 0 (.slice (some ⟨gn, 0, none⟩) (m + 1) cn)).set 1 (.int .u64 X)
    have hO2 : World.ownsRow ((w9.setCell ⟨q6, 0, none⟩ (.slice (some ⟨gn, 0, none⟩) (m + 1) cn)).setCell ⟨q6, 1, none⟩ (.int .u64 X)) u0.heap.size 2 1 (.slice (some ⟨gn, 0, none⟩) (m + 1) cn) (m + 1) (lCells (toI l) ++ lCells [(k : Int)]) := own_keepA (own_keepA hown2 (fun j hj => Below.heap_setCell _ _ _ _ (show j ≠ q6 by have := ownBlock_ge hown2 hj; omega))) (fun j hj => Below.heap_setCell _ _ _ _ (show j ≠ q6 by have := ownBlock_ge hown2 hj; omega))
    have bZ : Below w.heap.size w ((w9.setCell ⟨q6, 0, none⟩ (.slice (some ⟨gn, 0, none⟩) (m + 1) cn)).setCell ⟨q6, 1, none⟩ (.int .u64 X)) := ((bW.trans (Below.mono bu bW.size)).setCell (p := ⟨q6, 0, none⟩) HQ.out _).setCell (p := ⟨q6, 1, none⟩) HQ.out _
    have hO3 := own_downA hO2 bW.size
    clear hO2 hown2 b6 b3 bu
    obtain ⟨r0, r1, -⟩ := b7.open2
    go_wp2
    exact bodyPost_ret (v := .agg #[.slice (some ⟨gn, 0, none⟩) (m + 1) cn, .int .u64 X]) (by simp [results, Try.results42, go_sem, r0, r1]) rfl ⟨gn, cn, rfl, by rw [lCells, List.map_append]; exact hO3, bZ⟩
end Go.Proofs.Ytcpeaenophaphaa
