/-
  Nets copied for the program, lists that may be nil among them: walked.
-/
import Derived.Test.YtlmgdcoknpakcaaDb
namespace Go.Proofs.Ytlmgdcoknpakcaa
open Go.RowKit

set_option maxRecDepth 100000 in
theorem ints_nil (w : World) : Calls Try.prog 27 #[.slice none 0 0] w fun e w' => ∃ g', e = .returned (.slice (some ⟨g', 0, none⟩) 0 0) ∧ w.heap.size ≤ g' ∧ At 2 w' g' #[] ∧ Below w.heap.size w w' := by
  have hbs : ∀ w, (Instr.buildSlice 30 0 #[]).run Try.prog w = .ok (.slice (some ⟨w.heap.size, 0, none⟩) 0 0) (w.alloc (.cells #[] 2)) := fun _ => by kernel_rfl
  go_enter Try.func27, Try.ntmps27
  go_wp2
  go_ret
  exact ⟨_, rfl, Nat.le_refl _, at_new _ _ _, below_alloc _ _⟩
theorem intsR_any {w : World} {B : Nat} {v : Value} {n : Nat} {f : Nat → Int} (h : Rw w B v n f) (hn : n ≤ 1048576) :
    Calls Try.prog 27 #[v] w fun e w' => ∃ g c, e = .returned (.slice (some ⟨g, 0, none⟩) n c) ∧ w.heap.size ≤ g ∧ n ≤ c ∧ Made w' g c n f ∧ Below w.heap.size w w' := by
  rcases h with ⟨rfl, rfl⟩ | ⟨g, c, rfl, -, -, m⟩
  · refine (ints_nil w).mono ?_
    rintro e w' ⟨g', rfl, h1, h2, h3⟩
    exact ⟨g', 0, rfl, h1, Nat.le_refl _, ⟨#[], h2, rfl, fun i hi => by omega⟩, h3⟩
  · exact intsC_any m.ints m.lt hn
set_option maxRecDepth 100000 in
set_option maxHeartbeats 1600000 in
theorem copyNet_any {w : World} {B1 B2 : Nat} {v1 v2 : Value} {n k : Nat} {f h : Nat → Int} (W H : Int) (i1 : Rw w B1 v1 n f) (i2 : Rw w B2 v2 k h) (hn : n ≤ 1048576) (hk : k ≤ 1048576) :
    Calls Try.prog 17 #[nV W H v1 v2] w fun e w' => ∃ g1 e1 g2 e2, e = .returned (nV W H (.slice (some ⟨g1, 0, none⟩) n e1) (.slice (some ⟨g2, 0, none⟩) k e2)) ∧ Two w.heap.size w' g1 e1 n f g2 e2 k h ∧ Below w.heap.size w w' := by
  obtain ⟨W1, hW1, A1, B, -⟩ := boxed w 32 #[.int .i64 W, .int .i64 H, v1, v2]
  obtain ⟨W2, hW2, A2, B2, -⟩ := boxed W1 32 #[.int .i64 0, .int .i64 0, .slice none 0 0, .slice none 0 0]
  have s1 := A1.lt
  have s2 := A2.lt
  replace A1 := A1.below B2
  replace B := B.trans (B2.mono B.size)
  obtain ⟨q1, hq1⟩ : ∃ q, w.heap.size = q := ⟨_, rfl⟩
  obtain ⟨q2, hq2⟩ : ∃ q, W1.heap.size = q := ⟨_, rfl⟩
  go_enter Try.func17, Try.ntmps17
  go_wp2_with fail
  clear hW1 hW2 B2
  obtain ⟨u0, hu0, bb⟩ : ∃ u0, W2.drew = u0 ∧ Below W2.heap.size W2 u0 := ⟨_, rfl, (Below.refl _ _).drew⟩
  replace A1 := A1.below bb
  replace A2 := A2.below bb
  replace B := B.trans (bb.mono B.size)
  have z0 := bb.size
  clear bb
  rw [hq1] at A1
  rw [hq2] at A2
  refine wp_region_held_drew (S := One4 q1 W H (v1) (v2)) (by kernel_rfl) (by rw [hu0]; exact one4_mk A1) (fun hHeld => ?_)
  rw [hu0] at hHeld ⊢
  clear hu0
  change wpAnyH _ _ _ _ _ 12 #[false, false, false, false, false, false, false, false, false, false, false, false] _ _
  refine wpAnyH_take (i := 0) (v := .pointer (some ⟨q1, 0, none⟩)) rfl (by kernel_rfl) (by kernel_rfl) (by kernel_rfl) (fun _ _ _ h => h) (Or.inl ⟨by kernel_rfl, ?_⟩) hHeld ?_
  · intro w' hSw; go_simp
  try simp only [Act.put, List.setIfInBounds_toArray, List.set_cons_zero, List.set_cons_succ, List.getElem_toArray, List.getElem_cons_zero]
  refine wpAnyH_take (i := 1) (v := .int .i64 W) rfl (by kernel_rfl) (by kernel_rfl) (by kernel_rfl) (fun _ _ _ h => h) (Or.inl ⟨by kernel_rfl, ?_⟩) hHeld ?_
  · intro w' hSw; obtain ⟨z0, z1, z2, z3⟩ := hSw; go_simp
  try simp only [Act.put, List.setIfInBounds_toArray, List.set_cons_zero, List.set_cons_succ, List.getElem_toArray, List.getElem_cons_succ, List.getElem_cons_zero]
  refine wpAnyH_take (i := 2) (v := .pointer (some ⟨q1, 1, none⟩)) rfl (by kernel_rfl) (by kernel_rfl) (by kernel_rfl) (fun _ _ _ h => h) (Or.inl ⟨by kernel_rfl, ?_⟩) hHeld ?_
  · intro w' hSw; go_simp
  try simp only [Act.put, List.setIfInBounds_toArray, List.set_cons_zero, List.set_cons_succ, List.getElem_toArray, List.getElem_cons_succ, List.getElem_cons_zero]
  refine wpAnyH_take (i := 3) (v := .int .i64 H) rfl (by kernel_rfl) (by kernel_rfl) (by kernel_rfl) (fun _ _ _ h => h) (Or.inl ⟨by kernel_rfl, ?_⟩) hHeld ?_
  · intro w' hSw; obtain ⟨z0, z1, z2, z3⟩ := hSw; go_simp
  try simp only [Act.put, List.setIfInBounds_toArray, List.set_cons_zero, List.set_cons_succ, List.getElem_toArray, List.getElem_cons_succ, List.getElem_cons_zero]
  refine wpAnyH_take (i := 4) (v := .pointer (some ⟨q1, 2, none⟩)) rfl (by kernel_rfl) (by kernel_rfl) (by kernel_rfl) (fun _ _ _ h => h) (Or.inl ⟨by kernel_rfl, ?_⟩) hHeld ?_
  · intro w' hSw; go_simp
  try simp only [Act.put, List.setIfInBounds_toArray, List.set_cons_zero, List.set_cons_succ, List.getElem_toArray, List.getElem_cons_succ, List.getElem_cons_zero]
  refine wpAnyH_take (i := 5) (v := v1) rfl (by kernel_rfl) (by kernel_rfl) (by kernel_rfl) (fun _ _ _ h => h) (Or.inl ⟨by kernel_rfl, ?_⟩) hHeld ?_
  · intro w' hSw; obtain ⟨z0, z1, z2, z3⟩ := hSw; go_simp
  try simp only [Act.put, List.setIfInBounds_toArray, List.set_cons_zero, List.set_cons_succ, List.getElem_toArray, List.getElem_cons_succ, List.getElem_cons_zero]
  refine wpAnyH_take (i := 7) (v := .pointer (some ⟨q1, 3, none⟩)) rfl (by kernel_rfl) (by kernel_rfl) (by kernel_rfl) (fun _ _ _ h => h) (Or.inl ⟨by kernel_rfl, ?_⟩) hHeld ?_
  · intro w' hSw; go_simp
  try simp only [Act.put, List.setIfInBounds_toArray, List.set_cons_zero, List.set_cons_succ, List.getElem_toArray, List.getElem_cons_succ, List.getElem_cons_zero]
  refine wpAnyH_take (i := 8) (v := v2) rfl (by kernel_rfl) (by kernel_rfl) (by kernel_rfl) (fun _ _ _ h => h) (Or.inl ⟨by kernel_rfl, ?_⟩) hHeld ?_
  · intro w' hSw; obtain ⟨z0, z1, z2, z3⟩ := hSw; go_simp
  try simp only [Act.put, List.setIfInBounds_toArray, List.set_cons_zero, List.set_cons_succ, List.getElem_toArray, List.getElem_cons_succ, List.getElem_cons_zero]
  refine wpAnyH_ready (rs := [6]) (by kernel_rfl) (by simp) ?_
  refine AllReadyH.cons rfl (fun KK hK' => ?_) AllReadyH.nil
  go_simp
  refine (intsR_any (i1.below (B.mono (Nat.le_refl _))) hn).mono ?_
  rintro e y1 ⟨g1, e1, rfl, hg1, hc1, m1, bb⟩
  replace A1 := A1.below bb
  replace A2 := A2.below bb
  replace B := B.trans (bb.mono B.size)
  have z1 := bb.size
  have lg1 := m1.lt
  clear bb
  try go_wp2_with fail
  clear hHeld
  refine hK'.out _ _ (one4_mk A1) (fun hHeld => ?_)
  clear hK' KK
  try simp only [List.setIfInBounds_toArray, List.set_cons_zero, List.set_cons_succ]
  refine wpAnyH_ready (rs := [9]) (by kernel_rfl) (by simp) ?_
  refine AllReadyH.cons rfl (fun KK hK' => ?_) AllReadyH.nil
  go_simp
  refine (intsR_any (i2.below (B.mono (Nat.le_refl _))) hk).mono ?_
  rintro e y2 ⟨g2, e2, rfl, hg2, hc2, m2, bb⟩
  replace A1 := A1.below bb
  replace A2 := A2.below bb
  replace B := B.trans (bb.mono B.size)
  replace m1 : Made y2 g1 e1 n f := m1.bel bb
  have z2 := bb.size
  have lg2 := m2.lt
  clear bb
  try go_wp2_with fail
  clear hHeld
  refine hK'.out _ _ (one4_mk A1) (fun hHeld => ?_)
  clear hK' KK
  try simp only [List.setIfInBounds_toArray, List.set_cons_zero, List.set_cons_succ]
  refine wpAnyH_take (i := 10) (v := nV W H (.slice (some ⟨g1, 0, none⟩) n e1) (.slice (some ⟨g2, 0, none⟩) k e2)) rfl (by kernel_rfl) (by kernel_rfl) (by kernel_rfl) (fun _ _ _ h => h) (Or.inl ⟨by kernel_rfl, ?_⟩) hHeld ?_
  · intro w' hSw; go_simp
  try simp only [Act.put, List.setIfInBounds_toArray, List.set_cons_zero, List.set_cons_succ, List.getElem_toArray, List.getElem_cons_succ, List.getElem_cons_zero]
  refine wpAnyH_ready (rs := [11]) (by kernel_rfl) (by simp) ?_
  refine AllReadyH.cons rfl (fun K hK => ?_) AllReadyH.nil
  obtain ⟨x0, x1, x2, x3, y0, y1, y2, y3⟩ := A2.open4
  go_simp
  clear x0 x1 x2 x3 y0 y1 y2 y3 hHeld
  have A8 := put4_at A2 (.int .i64 W) (.int .i64 H) (.slice (some ⟨g1, 0, none⟩) n e1) (.slice (some ⟨g2, 0, none⟩) k e2)
  have A9 : At 32 ((((y2.setCell ⟨q2, 0, none⟩ (.int .i64 W)).setCell ⟨q2, 1, none⟩ (.int .i64 H)).setCell ⟨q2, 2, none⟩ (.slice (some ⟨g1, 0, none⟩) n e1)).setCell ⟨q2, 3, none⟩ (.slice (some ⟨g2, 0, none⟩) k e2)) q1 #[.int .i64 W, .int .i64 H, v1, v2] := (((A1.setOther (by omega) (.int .i64 W)).setOther (by omega) (.int .i64 H)).setOther (by omega) (.slice (some ⟨g1, 0, none⟩) n e1)).setOther (by omega) (.slice (some ⟨g2, 0, none⟩) k e2)
  have m1' : Made ((((y2.setCell ⟨q2, 0, none⟩ (.int .i64 W)).setCell ⟨q2, 1, none⟩ (.int .i64 H)).setCell ⟨q2, 2, none⟩ (.slice (some ⟨g1, 0, none⟩) n e1)).setCell ⟨q2, 3, none⟩ (.slice (some ⟨g2, 0, none⟩) k e2)) g1 e1 n f := (((m1.setOther (by omega) (.int .i64 W)).setOther (by omega) (.int .i64 H)).setOther (by omega) (.slice (some ⟨g1, 0, none⟩) n e1)).setOther (by omega) (.slice (some ⟨g2, 0, none⟩) k e2)
  have m2' : Made ((((y2.setCell ⟨q2, 0, none⟩ (.int .i64 W)).setCell ⟨q2, 1, none⟩ (.int .i64 H)).setCell ⟨q2, 2, none⟩ (.slice (some ⟨g1, 0, none⟩) n e1)).setCell ⟨q2, 3, none⟩ (.slice (some ⟨g2, 0, none⟩) k e2)) g2 e2 k h := (((m2.setOther (by omega) (.int .i64 W)).setOther (by omega) (.int .i64 H)).setOther (by omega) (.slice (some ⟨g1, 0, none⟩) n e1)).setOther (by omega) (.slice (some ⟨g2, 0, none⟩) k e2)
  refine hK.out _ _ (one4_mk A9) (fun hHeld => ?_)
  clear hK K hHeld
  try simp only [List.setIfInBounds_toArray, List.set_cons_zero, List.set_cons_succ]
  refine wpAnyH_done (by kernel_rfl) ?_ _
  obtain ⟨r0, r1, r2, r3, -⟩ := A8.open4
  go_wp2
  refine bodyPost_ret (v := nV W H (.slice (some ⟨g1, 0, none⟩) n e1) (.slice (some ⟨g2, 0, none⟩) k e2)) (by simp [results, Try.results17, go_sem, r0, r1, r2, r3]) rfl ⟨_, _, _, _, rfl, ⟨by omega, by omega, by omega, by omega, by omega, m1', m2'⟩, ?_⟩
  exact below_put4 B (by omega) _ _ _ _
end Go.Proofs.Ytlmgdcoknpakcaa
