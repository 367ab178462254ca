/-
  Detectors: blank ones, copies, told as frames, walked.
-/
import Derived.Test.YtlofbgkefalpoaaVb
import Derived.Test.YtlofbgkefalpoaaLa
import Derived.Laws.CopyOwn
import Derived.Laws.OwnMore
namespace Go.Proofs.Ytlofbgkefalpoaa
open Go.RowKit

theorem make_zeros (M : Nat) (hM : M ≤ 1048576) : ∀ w, (Instr.makeSlice 26 (.int .i64 (M : Int)) (.int .i64 (M : Int))).run Try.prog w = .ok (.slice (some ⟨w.heap.size, 0, none⟩) M M) (w.alloc (.cells (madeCells #[.int .i64 0] M) 2)) := by
  obtain ⟨i0, hi0, hz0, hz1, hz2⟩ := info_parts infoI
  intro w
  have := run_make (P := Try.prog) w 26 2 i0 _ Try.underlying26 hi0 hz0 .i64 .i64 (M : Int) (M : Int) (by omega) (by omega) (by rw [hz2]; omega) (by omega)
  rw [this, hz1]
  simp [Value.cells]
theorem zeros_at {M i : Nat} (h : i < M) : (madeCells #[Value.int .i64 0] M)[i]? = some (.int .i64 0) := by
  rw [← Array.getElem?_toList, toList_madeCells_one]
  simp [h]
set_option maxHeartbeats 4000000 in
theorem blank_any (W H : Int) (n : Nat) (w : World) (hW : 1 ≤ W ∧ W ≤ 64) (hH : 1 ≤ H ∧ H ≤ 64) (hn : (n : Int) = W * H) : Calls Try.prog 37 #[gV W H] w fun e w' => ∃ g, e = .returned (fV W H (.slice (some ⟨g, 0, none⟩) n n)) ∧ w.heap.size ≤ g ∧ Own w' g n (fun _ => 0) ∧ Below w.heap.size w w' := by
  have p1 := mul_in (a := W) (b := H) (x := 64) (y := 64) (by omega) (by omega)
  have hmk := make_zeros n (by omega)
  rw [hn] at hmk
  clear hn
  obtain ⟨V, hV, b0, bV, -⟩ := boxed w 60 #[.int .i64 W, .int .i64 H]
  obtain ⟨V2, hV2, b2, bV2, -⟩ := boxed V 62 #[.int .i64 0, .int .i64 0, .slice none 0 0]
  have s0 := b0.lt
  have s2 := b2.lt
  go_enter Try.func37, Try.ntmps37
  go_wp2_with fail
  obtain ⟨u0, hu0, bb⟩ : ∃ uu, V2.drew = uu ∧ Below V2.heap.size V2 uu := ⟨_, rfl, (Below.refl _ _).drew⟩
  replace b2 := b2.below bb
  replace bV2 := bV2.trans (bb.mono bV2.size)
  have bu : Kb V u0 := bV2
  clear bb
  refine wp_region_held_drew (S := Kb V) (by kernel_rfl) (by rw [hu0]; exact bu) (fun hHeld => ?_)
  rw [hu0] at hHeld ⊢
  clear hu0
  change wpAnyH _ _ _ _ _ 6 #[false, false, false, false, false, false] _ _
  refine wpAnyH_take (i := 0) (v := .agg #[.int .i64 (W), .int .i64 (H)]) rfl (by kernel_rfl) (by kernel_rfl) (by kernel_rfl) (fun _ _ _ h => h) (Or.inl ⟨by kernel_rfl, ?_⟩) hHeld ?_
  · intro w' hSw; obtain ⟨z0, z1, -⟩ := (b0.below hSw).open2; go_simp
  try simp only [Act.put, List.setIfInBounds_toArray, List.set_cons_zero, List.set_cons_succ, List.getElem_toArray, List.getElem_cons_zero]
  refine wpAnyH_take (i := 1) (v := .agg #[.int .i64 (W), .int .i64 (H)]) rfl (by kernel_rfl) (by kernel_rfl) (by kernel_rfl) (fun _ _ _ h => h) (Or.inl ⟨by kernel_rfl, ?_⟩) hHeld ?_
  · intro w' hSw; obtain ⟨z0, z1, -⟩ := (b0.below hSw).open2; go_simp
  try simp only [Act.put, List.setIfInBounds_toArray, List.set_cons_zero, List.set_cons_succ, List.getElem_toArray, List.getElem_cons_succ, List.getElem_cons_zero]
  refine wpAnyH_ready (rs := [2]) (by kernel_rfl) (by simp) ?_
  refine AllReadyH.cons rfl (fun KK hK' => ?_) AllReadyH.nil
  go_simp
  refine (size_any W H _ hW hH).mono ?_
  rintro e u1 ⟨rfl, bb⟩
  replace b2 := b2.below bb
  have lt1 := b2.lt
  replace bu : Kb V u1 := bu.trans (bb.mono bu.size)
  clear bb
  try go_wp2_with fail
  clear hHeld
  refine hK'.out _ _ bu (fun hHeld => ?_)
  clear hK' KK
  try simp only [List.setIfInBounds_toArray, List.set_cons_zero, List.set_cons_succ]
  refine wpAnyH_ready (rs := [3]) (by kernel_rfl) (by simp) ?_
  refine AllReadyH.cons rfl (fun KK hK' => ?_) AllReadyH.nil
  go_simp
  obtain ⟨u2, hu2, m2, bb, s2⟩ := boxed u1 2 (madeCells #[.int .i64 0] n)
  rw [hu2]
  clear hu2
  replace b2 := b2.below bb
  have hg := bu.size
  replace bu : Kb V u2 := bu.trans (bb.mono bu.size)
  clear bb
  clear hHeld
  refine hK'.out _ _ (bu) (fun hHeld => ?_)
  clear hK' KK
  try simp only [List.setIfInBounds_toArray, List.set_cons_zero, List.set_cons_succ]
  refine wpAnyH_take (i := 4) (v := .agg #[.int .i64 (W), .int .i64 (H), .slice ((some ⟨u1.heap.size, 0, none⟩)) n n]) rfl (by kernel_rfl) (by kernel_rfl) (by kernel_rfl) (fun _ _ _ h => h) (Or.inl ⟨by kernel_rfl, ?_⟩) hHeld ?_
  · intro w' hSw; go_simp
  try simp only [Act.put, List.setIfInBounds_toArray, List.set_cons_zero, List.set_cons_succ, List.getElem_toArray, List.getElem_cons_succ, List.getElem_cons_zero]
  refine wpAnyH_ready (rs := [5]) (by kernel_rfl) (by simp) ?_
  refine AllReadyH.cons rfl (fun KK hK' => ?_) AllReadyH.nil
  obtain ⟨d0, d1, d2, f0, f1, f2⟩ := b2.open3
  go_simp
  clear hHeld
  refine hK'.out _ _ (below_put3 bu (Nat.le_refl _) _ _ _) (fun hHeld => ?_)
  clear hK' KK
  try simp only [List.setIfInBounds_toArray, List.set_cons_zero, List.set_cons_succ]
  refine wpAnyH_done (by kernel_rfl) ?_ _
  clear hHeld
  go_wp2
  have a7 := put3_at b2 (.int .i64 W) (.int .i64 H) (.slice (some ⟨u1.heap.size, 0, none⟩) n n)
  obtain ⟨p0, p1, p2, -⟩ := a7.open3
  refine bodyPost_ret (v := fV W H (.slice (some ⟨u1.heap.size, 0, none⟩) n n)) (by simp [results, Try.results37, go_sem, p0, p1, p2]) rfl ?_
  refine ⟨_, rfl, by omega, ⟨_, ((m2.setOther (by omega) _).setOther (by omega) _).setOther (by omega) _, by simp [madeCells], fun i hi => zeros_at hi⟩, ?_⟩
  exact bV.trans ((below_put3 bu (Nat.le_refl _) _ _ _).mono bV.size)
theorem frame_any (W H : Int) (a : Option Addr) (n c : Nat) (w : World) : Calls Try.prog 41 #[fV W H (.slice a n c)] w fun e w' => e = .returned (fV W H (.slice a n c)) ∧ Below w.heap.size w w' := by
  obtain ⟨V, hV, b0, bV, -⟩ := boxed w 62 #[.int .i64 W, .int .i64 H, .slice a n c]
  obtain ⟨V2, hV2, b2, bV2, -⟩ := boxed V 28 #[.int .i64 0, .int .i64 0, .slice none 0 0]
  have s0 := b0.lt
  replace b0 := b0.below bV2
  replace bV := bV.trans (bV2.mono bV.size)
  obtain ⟨c0, c1, c2, -⟩ := b0.open3
  obtain ⟨d0, d1, d2, f0, f1, f2⟩ := b2.open3
  go_enter Try.func41, Try.ntmps41
  go_wp2
  have a7 := put3_at b2 (.int .i64 W) (.int .i64 H) (.slice a n c)
  obtain ⟨p0, p1, p2, -⟩ := a7.open3
  refine bodyPost_ret (v := fV W H (.slice a n c)) (by simp [results, Try.results41, go_sem, p0, p1, p2]) rfl ?_
  exact ⟨rfl, below_put3 bV (by omega) _ _ _⟩
theorem kept_setRow (w : World) (g : Nat) (cs : Array Value) : Kept g w (w.setRow g cs) := ⟨rfl, rfl, rfl, by simp [World.setRow], fun k _ hk => setRow_other w g k cs hk⟩
/-- A copy into a row of its own: the row's block alone has turned. -/
theorem wpList_copy_kept {P : Program} {w : World} {ops : Array Oper} {rest : List Oper} {o : Oper} {a : Act} {Q : Exit → Act → World → Prop} (hgd : o.guard = none) (d s : Operand) (dT sT : TypeId)
    (ho : o.op = .call { callee := .builtin .copy, args := #[d, s], argTypes := #[dT, sT] }) (elem : TypeId) (hu : P.underlying dT = some (.slice elem)) (hsz : (P.info? elem).map (·.size) = some 1)
    (dp sp : Option Addr) (dLen dCap sLen sCap : Nat) (hd : a.eval d = .slice dp dLen dCap) (hs : a.eval s = .slice sp sLen sCap)
    (g off : Nat) (cur : List Value) (t : TypeId) (hg : w.heap[g]? = some (.cells cur.toArray t (0, 0))) (cs : List Value) (hn : cs.length = Nat.min sLen dLen)
    (hpos : 0 < cs.length → dp = some ⟨g, off, none⟩ ∧ ∃ ad, sp = some ad ∧ ∀ j v, cs[j]? = some v → w.cell? (ad.add j) = some v)
    (hfit : off + cs.length ≤ cur.length) (h1 : ∀ v ∈ cs, v.oneCell' = true)
    (h : ∀ w', Hid (w'.heap[g]? = some (.cells (splice cur off cs).toArray t (0, 0))) → Hid (Kept g w w') → wpList P ops Q rest (a.put o.dst (goInt cs.length)) w') :
    wpList P ops Q (o :: rest) a w := by
  by_cases h0 : cs.length = 0
  · obtain rfl : cs = [] := List.eq_nil_of_length_eq_zero h0
    refine wpList_copy_nothing hgd d s dT sT ho elem hu hsz dp sp dLen dCap sLen sCap hd hs (by simpa using hn.symm) ?_
    exact h w (show _ = _ by simpa [splice] using hg) (Kept.refl _ _)
  · obtain ⟨rfl, ad, rfl, hsrc⟩ := hpos (by omega)
    refine wpList_copy_own hgd d s dT sT ho elem hu hsz g off dLen dCap ad sLen sCap hd hs cur.toArray t hg cs hn hsrc (by simpa using hfit) h1 ?_
    exact h _ (show _ = _ by simpa [splice] using setRow_heap w g _ _ t _ hg) (kept_setRow _ _ _)
theorem At.kept {t : TypeId} {w w' : World} {q p : Nat} {vs : Array Value} (h : At t w q vs) (hk : Kept p w w') (hq : q ≠ p) : At t w' q vs := (hk.block q h.lt hq).trans h
theorem int1 : (Try.prog.info? 2).map (·.size) = some 1 := by kernel_rfl
set_option maxHeartbeats 4000000 in
theorem copied_any {w : World} {a : Option Addr} {n c : Nat} {f : Nat → Int} (W H : Int) (hW : 1 ≤ W ∧ W ≤ 64) (hH : 1 ≤ H ∧ H ≤ 64) (hn : (n : Int) = W * H) (hs : Src w a n f) : Calls Try.prog 48 #[fV W H (.slice a n c)] w fun e w' => ∃ g, e = .returned (fV W H (.slice (some ⟨g, 0, none⟩) n n)) ∧ w.heap.size ≤ g ∧ Own w' g n f ∧ Below w.heap.size w w' := by
  have p1 := mul_in (a := W) (b := H) (x := 64) (y := 64) (by omega) (by omega)
  obtain ⟨V, hV, b0, bV, -⟩ := boxed w 62 #[.int .i64 W, .int .i64 H, .slice a n c]
  obtain ⟨V2, hV2, b2, bV2, -⟩ := boxed V 62 #[.int .i64 0, .int .i64 0, .slice none 0 0]
  have s0 := b0.lt
  have s2 := b2.lt
  replace b0 := b0.below bV2
  replace bV := bV.trans (bV2.mono bV.size)
  replace hs := hs.below bV
  clear bV2
  obtain ⟨c0, c1, c2, -⟩ := b0.open3
  go_enter Try.func48, Try.ntmps48
  go_wp2_with fail
  refine (blank_any W H n _ hW hH hn).mono ?_
  rintro e w3 ⟨g, rfl, hg, o3, b3⟩
  replace b0 := b0.below b3
  replace b2 := b2.below b3
  replace hs := hs.below b3
  replace bV := bV.trans (b3.mono bV.size)
  have l3 := o3.lt
  have s3 := b3.size
  clear c0 c1 c2 b3 hV hV2
  obtain ⟨V4, hV4, x0, bV4, -⟩ := boxed w3 62 #[.int .i64 W, .int .i64 H, .slice (some ⟨g, 0, none⟩) n n]
  replace b0 := b0.below bV4
  replace b2 := b2.below bV4
  replace hs := hs.below bV4
  replace o3 := o3.below bV4
  have s4 := x0.lt
  replace bV := bV.trans (bV4.mono bV.size)
  obtain ⟨c0, c1, c2, -⟩ := b0.open3
  obtain ⟨e0, e1, e2, -⟩ := x0.open3
  obtain ⟨cur, o1, o2, -⟩ := o3
  rcases hs with h1 | ⟨b, off, rfl, hb, hr⟩
  · exfalso
    have := Int.mul_pos (show (0 : Int) < W by omega) (show (0 : Int) < H by omega)
    omega
  have hrun := run_copy_row (P := Try.prog) V4 26 26 3 2 g 0 n n ⟨b, off, none⟩ n c cur 2 (iCells f n) Try.underlying26 int1 o1 (by rw [iCells_len]; simp) (ints_news hr) (by rw [iCells_len]; omega) (iCells_one f n)
  rw [iCells_len] at hrun
  obtain ⟨w5, hw5, HK, o5⟩ : ∃ w5, V4.setRow g (cur.toList.take 0 ++ iCells f n ++ cur.toList.drop (0 + n)).toArray = w5 ∧ Kept g V4 w5 ∧ Own w5 g n f := by
    refine ⟨_, rfl, kept_setRow _ _ _, _, setRow_heap V4 g _ _ _ _ o1, ?_, fun i hi => ?_⟩
    · simp [iCells_len]; omega
    · have e := iCells_at f hi
      have e2 : (cur.toList.take 0 ++ iCells f n ++ cur.toList.drop (0 + n)).toArray[i]? = (iCells f n)[i]? := by
        simp only [List.take_zero, List.nil_append, List.getElem?_toArray]
        exact List.getElem?_append_left (by rw [iCells_len]; exact hi)
      exact e2.trans e
  rw [hw5] at hrun
  clear hw5
  replace x0 := x0.kept HK (by omega)
  replace b2 := b2.kept HK (by omega)
  replace bV := bV.trans (HK.below (N := w.heap.size) (by omega) (by omega))
  clear b0 HK o1 o2 bV4
  obtain ⟨y0, y1, y2, -⟩ := x0.open3
  obtain ⟨d0, d1, d2, f0, f1, f2⟩ := b2.open3
  go_wp2
  have a7 := put3_at b2 (.int .i64 W) (.int .i64 H) (.slice (some ⟨g, 0, none⟩) n n)
  obtain ⟨p0, p1, p2, -⟩ := a7.open3
  refine bodyPost_ret (v := fV W H (.slice (some ⟨g, 0, none⟩) n n)) (by simp [results, Try.results48, go_sem, p0, p1, p2]) rfl ?_
  exact ⟨_, rfl, by omega, Made.setOther (Made.setOther (Made.setOther o5 (by omega) _) (by omega) _) (by omega) _, below_put3 bV (by omega) _ _ _⟩
end Go.Proofs.Ytlofbgkefalpoaa
