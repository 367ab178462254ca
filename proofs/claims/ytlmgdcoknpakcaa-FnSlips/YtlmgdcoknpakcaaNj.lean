/-
  Nets copied by the program and by the specification, walked.
-/
import Derived.Test.YtlmgdcoknpakcaaNd
import Derived.Test.YtlmgdcoknpakcaaLa
namespace Go.Proofs.Ytlmgdcoknpakcaa
open Go.RowKit

/-- Two lists of one's own, apart. -/
structure Two (lo : Nat) (w : World) (g1 e1 n : Nat) (f : Nat → Int) (g2 e2 k : Nat) (h : Nat → Int) : Prop where
  ne : g1 ≠ g2
  lo1 : lo ≤ g1
  lo2 : lo ≤ g2
  c1 : n ≤ e1
  c2 : k ≤ e2
  m1 : Made w g1 e1 n f
  m2 : Made w g2 e2 k h
/-- What a region reads of a net's box. -/
def One4 (q : Nat) (W H : Int) (a b : Value) (w : World) : Prop := w.cell? ⟨q, 0, none⟩ = some (.int .i64 W) ∧ w.cell? ⟨q, 1, none⟩ = some (.int .i64 H) ∧ w.cell? ⟨q, 2, none⟩ = some a ∧ w.cell? ⟨q, 3, none⟩ = some b
theorem one4_mk {s : TypeId} {w : World} {q : Nat} {W H : Int} {a b : Value} (h1 : At s w q #[.int .i64 W, .int .i64 H, a, b]) : One4 q W H a b w := ⟨h1.cell 0 rfl, h1.cell 1 rfl, h1.cell 2 rfl, h1.cell 3 rfl⟩
set_option maxRecDepth 100000 in
set_option maxHeartbeats 1600000 in
theorem copied_any {w : World} {b1 o1 b2 o2 n k : Nat} {f h : Nat → Int} (W H : Int) (c1 c2 : Nat) (i1 : Ints w b1 o1 n f) (i2 : Ints w b2 o2 k h) (l1 : b1 < w.heap.size) (l2 : b2 < w.heap.size) (hn : n ≤ 1048576) (hk : k ≤ 1048576) :
    Calls Try.prog 60 #[nV W H (.slice (some ⟨b1, o1, none⟩) n c1) (.slice (some ⟨b2, o2, none⟩) k c2)] w fun e w' => ∃ g1 e1 g2 e2, e = .returned (nV W H (.slice (some ⟨g1, 0, none⟩) n e1) (.slice (some ⟨g2, 0, none⟩) k e2)) ∧ Two w.heap.size w' g1 e1 n f g2 e2 k h ∧ Below w.heap.size w w' := by
  obtain ⟨W1, hW1, A1, B, -⟩ := boxed w 32 #[.int .i64 W, .int .i64 H, .slice (some ⟨b1, o1, none⟩) n c1, .slice (some ⟨b2, o2, none⟩) k c2]
  obtain ⟨W2, hW2, A2, B2, -⟩ := boxed W1 32 #[.int .i64 0, .int .i64 0, .slice none 0 0, .slice none 0 0]
  have s1 := A1.lt
  have s2 := A2.lt
  replace A1 := A1.below B2
  replace B := B.trans (B2.mono B.size)
  obtain ⟨q1, hq1⟩ : ∃ q, w.heap.size = q := ⟨_, rfl⟩
  obtain ⟨q2, hq2⟩ : ∃ q, W1.heap.size = q := ⟨_, rfl⟩
  go_enter Try.func60, Try.ntmps60
  go_wp2_with fail
  clear hW1 hW2 B2
  obtain ⟨u0, hu0, bb⟩ : ∃ u0, W2.drew = u0 ∧ Below W2.heap.size W2 u0 := ⟨_, rfl, (Below.refl _ _).drew⟩
  replace A1 := A1.below bb
  replace A2 := A2.below bb
  replace B := B.trans (bb.mono B.size)
  have z0 := bb.size
  clear bb
  rw [hq1] at A1
  rw [hq2] at A2
  refine wp_region_held_drew (S := One4 q1 W H (.slice (some ⟨b1, o1, none⟩) n c1) (.slice (some ⟨b2, o2, none⟩) k c2)) (by kernel_rfl) (by rw [hu0]; exact one4_mk A1) (fun hHeld => ?_)
  rw [hu0] at hHeld ⊢
  clear hu0
  change wpAnyH _ _ _ _ _ 12 #[false, false, false, false, false, false, false, false, false, false, false, false] _ _
  refine wpAnyH_take (i := 0) (v := .pointer (some ⟨q1, 0, none⟩)) rfl (by kernel_rfl) (by kernel_rfl) (by kernel_rfl) (fun _ _ _ h => h) (Or.inl ⟨by kernel_rfl, ?_⟩) hHeld ?_
  · intro w' hSw; go_simp
  try simp only [Act.put, List.setIfInBounds_toArray, List.set_cons_zero, List.set_cons_succ, List.getElem_toArray, List.getElem_cons_zero]
  refine wpAnyH_take (i := 1) (v := .int .i64 W) rfl (by kernel_rfl) (by kernel_rfl) (by kernel_rfl) (fun _ _ _ h => h) (Or.inl ⟨by kernel_rfl, ?_⟩) hHeld ?_
  · intro w' hSw; obtain ⟨z0, z1, z2, z3⟩ := hSw; go_simp
  try simp only [Act.put, List.setIfInBounds_toArray, List.set_cons_zero, List.set_cons_succ, List.getElem_toArray, List.getElem_cons_succ, List.getElem_cons_zero]
  refine wpAnyH_take (i := 2) (v := .pointer (some ⟨q1, 1, none⟩)) rfl (by kernel_rfl) (by kernel_rfl) (by kernel_rfl) (fun _ _ _ h => h) (Or.inl ⟨by kernel_rfl, ?_⟩) hHeld ?_
  · intro w' hSw; go_simp
  try simp only [Act.put, List.setIfInBounds_toArray, List.set_cons_zero, List.set_cons_succ, List.getElem_toArray, List.getElem_cons_succ, List.getElem_cons_zero]
  refine wpAnyH_take (i := 3) (v := .int .i64 H) rfl (by kernel_rfl) (by kernel_rfl) (by kernel_rfl) (fun _ _ _ h => h) (Or.inl ⟨by kernel_rfl, ?_⟩) hHeld ?_
  · intro w' hSw; obtain ⟨z0, z1, z2, z3⟩ := hSw; go_simp
  try simp only [Act.put, List.setIfInBounds_toArray, List.set_cons_zero, List.set_cons_succ, List.getElem_toArray, List.getElem_cons_succ, List.getElem_cons_zero]
  refine wpAnyH_take (i := 4) (v := .pointer (some ⟨q1, 2, none⟩)) rfl (by kernel_rfl) (by kernel_rfl) (by kernel_rfl) (fun _ _ _ h => h) (Or.inl ⟨by kernel_rfl, ?_⟩) hHeld ?_
  · intro w' hSw; go_simp
  try simp only [Act.put, List.setIfInBounds_toArray, List.set_cons_zero, List.set_cons_succ, List.getElem_toArray, List.getElem_cons_succ, List.getElem_cons_zero]
  refine wpAnyH_take (i := 5) (v := .slice (some ⟨b1, o1, none⟩) n c1) rfl (by kernel_rfl) (by kernel_rfl) (by kernel_rfl) (fun _ _ _ h => h) (Or.inl ⟨by kernel_rfl, ?_⟩) hHeld ?_
  · intro w' hSw; obtain ⟨z0, z1, z2, z3⟩ := hSw; go_simp
  try simp only [Act.put, List.setIfInBounds_toArray, List.set_cons_zero, List.set_cons_succ, List.getElem_toArray, List.getElem_cons_succ, List.getElem_cons_zero]
  refine wpAnyH_take (i := 7) (v := .pointer (some ⟨q1, 3, none⟩)) rfl (by kernel_rfl) (by kernel_rfl) (by kernel_rfl) (fun _ _ _ h => h) (Or.inl ⟨by kernel_rfl, ?_⟩) hHeld ?_
  · intro w' hSw; go_simp
  try simp only [Act.put, List.setIfInBounds_toArray, List.set_cons_zero, List.set_cons_succ, List.getElem_toArray, List.getElem_cons_succ, List.getElem_cons_zero]
  refine wpAnyH_take (i := 8) (v := .slice (some ⟨b2, o2, none⟩) k c2) rfl (by kernel_rfl) (by kernel_rfl) (by kernel_rfl) (fun _ _ _ h => h) (Or.inl ⟨by kernel_rfl, ?_⟩) hHeld ?_
  · intro w' hSw; obtain ⟨z0, z1, z2, z3⟩ := hSw; go_simp
  try simp only [Act.put, List.setIfInBounds_toArray, List.set_cons_zero, List.set_cons_succ, List.getElem_toArray, List.getElem_cons_succ, List.getElem_cons_zero]
  refine wpAnyH_ready (rs := [6]) (by kernel_rfl) (by simp) ?_
  refine AllReadyH.cons rfl (fun KK hK' => ?_) AllReadyH.nil
  go_simp
  refine (copyOfC_any (i1.below l1 B) (by have := B.size; omega) hn).mono ?_
  rintro e v1 ⟨g1, e1, rfl, hg1, hc1, m1, bb⟩
  replace A1 := A1.below bb
  replace A2 := A2.below bb
  replace B := B.trans (bb.mono B.size)
  have z1 := bb.size
  have lg1 := m1.lt
  clear bb
  try go_wp2_with fail
  clear hHeld
  refine hK'.out _ _ (one4_mk A1) (fun hHeld => ?_)
  clear hK' KK
  try simp only [List.setIfInBounds_toArray, List.set_cons_zero, List.set_cons_succ]
  refine wpAnyH_ready (rs := [9]) (by kernel_rfl) (by simp) ?_
  refine AllReadyH.cons rfl (fun KK hK' => ?_) AllReadyH.nil
  go_simp
  refine (copyOfC_any (i2.below l2 B) (by have := B.size; omega) hk).mono ?_
  rintro e v2 ⟨g2, e2, rfl, hg2, hc2, m2, bb⟩
  replace A1 := A1.below bb
  replace A2 := A2.below bb
  replace B := B.trans (bb.mono B.size)
  replace m1 : Made v2 g1 e1 n f := by obtain ⟨cur, y1, y2⟩ := m1; exact ⟨cur, y1.below bb, y2⟩
  have z2 := bb.size
  have lg2 := m2.lt
  clear bb
  try go_wp2_with fail
  clear hHeld
  refine hK'.out _ _ (one4_mk A1) (fun hHeld => ?_)
  clear hK' KK
  try simp only [List.setIfInBounds_toArray, List.set_cons_zero, List.set_cons_succ]
  refine wpAnyH_take (i := 10) (v := nV W H (.slice (some ⟨g1, 0, none⟩) n e1) (.slice (some ⟨g2, 0, none⟩) k e2)) rfl (by kernel_rfl) (by kernel_rfl) (by kernel_rfl) (fun _ _ _ h => h) (Or.inl ⟨by kernel_rfl, ?_⟩) hHeld ?_
  · intro w' hSw; go_simp
  try simp only [Act.put, List.setIfInBounds_toArray, List.set_cons_zero, List.set_cons_succ, List.getElem_toArray, List.getElem_cons_succ, List.getElem_cons_zero]
  refine wpAnyH_ready (rs := [11]) (by kernel_rfl) (by simp) ?_
  refine AllReadyH.cons rfl (fun K hK => ?_) AllReadyH.nil
  obtain ⟨x0, x1, x2, x3, y0, y1, y2, y3⟩ := A2.open4
  go_simp
  clear x0 x1 x2 x3 y0 y1 y2 y3 hHeld
  have A8 := put4_at A2 (.int .i64 W) (.int .i64 H) (.slice (some ⟨g1, 0, none⟩) n e1) (.slice (some ⟨g2, 0, none⟩) k e2)
  have A9 : At 32 ((((v2.setCell ⟨q2, 0, none⟩ (.int .i64 W)).setCell ⟨q2, 1, none⟩ (.int .i64 H)).setCell ⟨q2, 2, none⟩ (.slice (some ⟨g1, 0, none⟩) n e1)).setCell ⟨q2, 3, none⟩ (.slice (some ⟨g2, 0, none⟩) k e2)) q1 #[.int .i64 W, .int .i64 H, .slice (some ⟨b1, o1, none⟩) n c1, .slice (some ⟨b2, o2, none⟩) k c2] := (((A1.setOther (by omega) (.int .i64 W)).setOther (by omega) (.int .i64 H)).setOther (by omega) (.slice (some ⟨g1, 0, none⟩) n e1)).setOther (by omega) (.slice (some ⟨g2, 0, none⟩) k e2)
  have m1' : Made ((((v2.setCell ⟨q2, 0, none⟩ (.int .i64 W)).setCell ⟨q2, 1, none⟩ (.int .i64 H)).setCell ⟨q2, 2, none⟩ (.slice (some ⟨g1, 0, none⟩) n e1)).setCell ⟨q2, 3, none⟩ (.slice (some ⟨g2, 0, none⟩) k e2)) g1 e1 n f := (((m1.setOther (by omega) (.int .i64 W)).setOther (by omega) (.int .i64 H)).setOther (by omega) (.slice (some ⟨g1, 0, none⟩) n e1)).setOther (by omega) (.slice (some ⟨g2, 0, none⟩) k e2)
  have m2' : Made ((((v2.setCell ⟨q2, 0, none⟩ (.int .i64 W)).setCell ⟨q2, 1, none⟩ (.int .i64 H)).setCell ⟨q2, 2, none⟩ (.slice (some ⟨g1, 0, none⟩) n e1)).setCell ⟨q2, 3, none⟩ (.slice (some ⟨g2, 0, none⟩) k e2)) g2 e2 k h := (((m2.setOther (by omega) (.int .i64 W)).setOther (by omega) (.int .i64 H)).setOther (by omega) (.slice (some ⟨g1, 0, none⟩) n e1)).setOther (by omega) (.slice (some ⟨g2, 0, none⟩) k e2)
  refine hK.out _ _ (one4_mk A9) (fun hHeld => ?_)
  clear hK K hHeld
  try simp only [List.setIfInBounds_toArray, List.set_cons_zero, List.set_cons_succ]
  refine wpAnyH_done (by kernel_rfl) ?_ _
  obtain ⟨r0, r1, r2, r3, -⟩ := A8.open4
  go_wp2
  refine bodyPost_ret (v := nV W H (.slice (some ⟨g1, 0, none⟩) n e1) (.slice (some ⟨g2, 0, none⟩) k e2)) (by simp [results, Try.results60, go_sem, r0, r1, r2, r3]) rfl ⟨_, _, _, _, rfl, ⟨by omega, by omega, by omega, by omega, by omega, m1', m2'⟩, ?_⟩
  exact below_put4 B (by omega) _ _ _ _
set_option maxRecDepth 100000 in
set_option maxHeartbeats 3200000 in
theorem l10Copy_any {w : World} {b1 o1 b2 o2 n k : Nat} {f h : Nat → Int} (W H : Int) (c1 c2 : Nat) (i1 : Ints w b1 o1 n f) (i2 : Ints w b2 o2 k h) (l1 : b1 < w.heap.size) (l2 : b2 < w.heap.size) (hn : n ≤ 1048576) (hk : k ≤ 1048576) :
    Calls Try.prog 58 #[nV W H (.slice (some ⟨b1, o1, none⟩) n c1) (.slice (some ⟨b2, o2, none⟩) k c2)] w fun e w' => ∃ g1 e1 g2 e2, e = .returned (nV W H (.slice (some ⟨g1, 0, none⟩) n e1) (.slice (some ⟨g2, 0, none⟩) k e2)) ∧ Two w.heap.size w' g1 e1 n f g2 e2 k h ∧ Below w.heap.size w w' := by
  obtain ⟨i0, hi0, hz0, hz1, hz2⟩ := info_parts infoI
  obtain ⟨W1, hW1, A1, B, -⟩ := boxed w 32 #[.int .i64 W, .int .i64 H, .slice (some ⟨b1, o1, none⟩) n c1, .slice (some ⟨b2, o2, none⟩) k c2]
  obtain ⟨W2, hW2, A2, B2, -⟩ := boxed W1 32 #[.int .i64 0, .int .i64 0, .slice none 0 0, .slice none 0 0]
  have s1 := A1.lt
  have s2 := A2.lt
  replace A1 := A1.below B2
  replace B := B.trans (B2.mono B.size)
  obtain ⟨q1, hq1⟩ : ∃ q, w.heap.size = q := ⟨_, rfl⟩
  obtain ⟨q2, hq2⟩ : ∃ q, W1.heap.size = q := ⟨_, rfl⟩
  go_enter Try.func58, Try.ntmps58
  go_wp2_with fail
  clear hW1 hW2 B2
  obtain ⟨u0, hu0, bb⟩ : ∃ u0, W2.drew = u0 ∧ Below W2.heap.size W2 u0 := ⟨_, rfl, (Below.refl _ _).drew⟩
  replace A1 := A1.below bb
  replace A2 := A2.below bb
  replace B := B.trans (bb.mono B.size)
  have z0 := bb.size
  clear bb
  rw [hq1] at A1
  rw [hq2] at A2
  refine wp_region_held_drew (S := One4 q1 W H (.slice (some ⟨b1, o1, none⟩) n c1) (.slice (some ⟨b2, o2, none⟩) k c2)) (by kernel_rfl) (by rw [hu0]; exact one4_mk A1) (fun hHeld => ?_)
  rw [hu0] at hHeld ⊢
  clear hu0
  change wpAnyH _ _ _ _ _ 14 #[false, false, false, false, false, false, false, false, false, false, false, false, false, false] _ _
  refine wpAnyH_take (i := 0) (v := .pointer (some ⟨q1, 0, none⟩)) rfl (by kernel_rfl) (by kernel_rfl) (by kernel_rfl) (fun _ _ _ h => h) (Or.inl ⟨by kernel_rfl, ?_⟩) hHeld ?_
  · intro w' hSw; go_simp
  try simp only [Act.put, List.setIfInBounds_toArray, List.set_cons_zero, List.set_cons_succ, List.getElem_toArray, List.getElem_cons_zero]
  refine wpAnyH_take (i := 1) (v := .int .i64 W) rfl (by kernel_rfl) (by kernel_rfl) (by kernel_rfl) (fun _ _ _ h => h) (Or.inl ⟨by kernel_rfl, ?_⟩) hHeld ?_
  · intro w' hSw; obtain ⟨z0, z1, z2, z3⟩ := hSw; go_simp
  try simp only [Act.put, List.setIfInBounds_toArray, List.set_cons_zero, List.set_cons_succ, List.getElem_toArray, List.getElem_cons_succ, List.getElem_cons_zero]
  refine wpAnyH_take (i := 2) (v := .pointer (some ⟨q1, 1, none⟩)) rfl (by kernel_rfl) (by kernel_rfl) (by kernel_rfl) (fun _ _ _ h => h) (Or.inl ⟨by kernel_rfl, ?_⟩) hHeld ?_
  · intro w' hSw; go_simp
  try simp only [Act.put, List.setIfInBounds_toArray, List.set_cons_zero, List.set_cons_succ, List.getElem_toArray, List.getElem_cons_succ, List.getElem_cons_zero]
  refine wpAnyH_take (i := 3) (v := .int .i64 H) rfl (by kernel_rfl) (by kernel_rfl) (by kernel_rfl) (fun _ _ _ h => h) (Or.inl ⟨by kernel_rfl, ?_⟩) hHeld ?_
  · intro w' hSw; obtain ⟨z0, z1, z2, z3⟩ := hSw; go_simp
  try simp only [Act.put, List.setIfInBounds_toArray, List.set_cons_zero, List.set_cons_succ, List.getElem_toArray, List.getElem_cons_succ, List.getElem_cons_zero]
  refine wpAnyH_take (i := 5) (v := .pointer (some ⟨q1, 2, none⟩)) rfl (by kernel_rfl) (by kernel_rfl) (by kernel_rfl) (fun _ _ _ h => h) (Or.inl ⟨by kernel_rfl, ?_⟩) hHeld ?_
  · intro w' hSw; go_simp
  try simp only [Act.put, List.setIfInBounds_toArray, List.set_cons_zero, List.set_cons_succ, List.getElem_toArray, List.getElem_cons_succ, List.getElem_cons_zero]
  refine wpAnyH_take (i := 6) (v := .slice (some ⟨b1, o1, none⟩) n c1) rfl (by kernel_rfl) (by kernel_rfl) (by kernel_rfl) (fun _ _ _ h => h) (Or.inl ⟨by kernel_rfl, ?_⟩) hHeld ?_
  · intro w' hSw; obtain ⟨z0, z1, z2, z3⟩ := hSw; go_simp
  try simp only [Act.put, List.setIfInBounds_toArray, List.set_cons_zero, List.set_cons_succ, List.getElem_toArray, List.getElem_cons_succ, List.getElem_cons_zero]
  refine wpAnyH_take (i := 9) (v := .pointer (some ⟨q1, 3, none⟩)) rfl (by kernel_rfl) (by kernel_rfl) (by kernel_rfl) (fun _ _ _ h => h) (Or.inl ⟨by kernel_rfl, ?_⟩) hHeld ?_
  · intro w' hSw; go_simp
  try simp only [Act.put, List.setIfInBounds_toArray, List.set_cons_zero, List.set_cons_succ, List.getElem_toArray, List.getElem_cons_succ, List.getElem_cons_zero]
  refine wpAnyH_take (i := 10) (v := .slice (some ⟨b2, o2, none⟩) k c2) rfl (by kernel_rfl) (by kernel_rfl) (by kernel_rfl) (fun _ _ _ h => h) (Or.inl ⟨by kernel_rfl, ?_⟩) hHeld ?_
  · intro w' hSw; obtain ⟨z0, z1, z2, z3⟩ := hSw; go_simp
  try simp only [Act.put, List.setIfInBounds_toArray, List.set_cons_zero, List.set_cons_succ, List.getElem_toArray, List.getElem_cons_succ, List.getElem_cons_zero]
  refine wpAnyH_ready (rs := [4, 8]) (by kernel_rfl) (by simp) ?_
  refine AllReadyH.cons rfl (fun K hK => ?_) ?_
  · go_simp
    obtain ⟨u1, h6, P4, b', z6⟩ := boxed u0 2 #[]
    rw [h6]
    clear h6
    replace A1 := A1.below b'
    replace A2 := A2.below b'
    replace B := B.trans (b'.mono B.size)
    obtain ⟨p4, hp4⟩ : ∃ q, u0.heap.size = q := ⟨_, rfl⟩
    have O4 : u1.ownsRow p4 2 1 (.slice (some ⟨p4, 0, none⟩) 0 0) 0 [] := ⟨rfl, .inr ⟨p4, 0, #[], rfl, Nat.le_refl _, hp4 ▸ P4, Nat.le_refl _, Nat.zero_le _, rfl, rfl⟩⟩
    have zz0 : p4 < u1.heap.size ∧ u0.heap.size ≤ p4 := by omega
    try rw [hp4]
    clear hp4 P4 b' z6
    clear hHeld
    refine hK.out _ _ (one4_mk A1) (fun hHeld => ?_)
    clear hK K
    try simp only [List.setIfInBounds_toArray, List.set_cons_zero, List.set_cons_succ]
    refine wpAnyH_ready (rs := [7, 8]) (by kernel_rfl) (by simp) ?_
    refine AllReadyH.cons rfl (fun K hK => ?_) ?_
    · refine step_append_at _ (by rfl) _ _ _ (by rfl) p4 2 i0 _ 1 8 Try.underlying30 hi0 hz0 hz1 hz2 rfl (by omega) (.slice (some ⟨p4, 0, none⟩) 0 0) 0 [] (by rfl) O4 ⟨b1, o1, none⟩ n c1 (iCells f n) (by rfl) (by rw [iCells_len]; omega) (ints_news (i1.below l1 B)) (iCells_one _ _) (by unfold maxLen; omega) (by omega) (by omega) ?_
      intro v7 u2 hown hgrow hne hat
      have Q7 : u2.ownsRow p4 2 1 v7 n (iCells f n) := by simpa using hown
      have hv7 : v7 ≠ .slice none 0 0 := fun h => ne_nil _ _ _ (hne.1 h).1
      have Bg : Below W2.heap.size u1 u2 := Below.grown (Below.refl _ _) hgrow (by omega) (fun x hx => by have := ownBlock_ge O4 hx; omega)
      replace A1 := A1.belowN Bg (by omega)
      replace A2 := A2.belowN Bg (by omega)
      replace B := B.trans (Bg.mono (by omega))
      obtain ⟨g7, e7, rfl, hg7, hc7, hm7⟩ := made_of Q7 hv7
      have hl7 := hm7.lt
      have hw7 : g7 = p4 ∨ g7 = u1.heap.size := by simpa only [Value.ownBlock, Option.some.injEq] using hat
      clear hat hm7 hv7
      have zz1 := hgrow.size
      clear hown hgrow hne Bg
      clear hHeld
      refine hK.out _ _ (one4_mk A1) (fun hHeld => ?_)
      clear hK K
      try simp only [List.setIfInBounds_toArray, List.set_cons_zero, List.set_cons_succ]
      refine wpAnyH_ready (rs := [8]) (by kernel_rfl) (by simp) ?_
      refine AllReadyH.cons rfl (fun K hK => ?_) AllReadyH.nil
      go_simp
      obtain ⟨u3, h6, P8, b', z6⟩ := boxed u2 2 #[]
      rw [h6]
      clear h6
      replace A1 := A1.below b'
      replace A2 := A2.below b'
      replace B := B.trans (b'.mono B.size)
      replace Q7 := own_below Q7 b'
      obtain ⟨p8, hp8⟩ : ∃ q, u2.heap.size = q := ⟨_, rfl⟩
      have O8 : u3.ownsRow p8 2 1 (.slice (some ⟨p8, 0, none⟩) 0 0) 0 [] := ⟨rfl, .inr ⟨p8, 0, #[], rfl, Nat.le_refl _, hp8 ▸ P8, Nat.le_refl _, Nat.zero_le _, rfl, rfl⟩⟩
      have zz2 : p8 < u3.heap.size ∧ u2.heap.size ≤ p8 := by omega
      try rw [hp8]
      clear hp8 P8 b' z6
      clear hHeld
      refine hK.out _ _ (one4_mk A1) (fun hHeld => ?_)
      clear hK K
      try simp only [List.setIfInBounds_toArray, List.set_cons_zero, List.set_cons_succ]
      refine wpAnyH_ready (rs := [11]) (by kernel_rfl) (by simp) ?_
      refine AllReadyH.cons rfl (fun K hK => ?_) AllReadyH.nil
      refine step_append_at _ (by rfl) _ _ _ (by rfl) p8 2 i0 _ 1 8 Try.underlying30 hi0 hz0 hz1 hz2 rfl (by omega) (.slice (some ⟨p8, 0, none⟩) 0 0) 0 [] (by rfl) O8 ⟨b2, o2, none⟩ k c2 (iCells h k) (by rfl) (by rw [iCells_len]; omega) (ints_news (i2.below l2 B)) (iCells_one _ _) (by unfold maxLen; omega) (by omega) (by omega) ?_
      intro v11 u4 hown hgrow hne hat
      have Q11 : u4.ownsRow p8 2 1 v11 k (iCells h k) := by simpa using hown
      have hv11 : v11 ≠ .slice none 0 0 := fun h => ne_nil _ _ _ (hne.1 h).1
      have Bg : Below W2.heap.size u3 u4 := Below.grown (Below.refl _ _) hgrow (by omega) (fun x hx => by have := ownBlock_ge O8 hx; omega)
      replace A1 := A1.belowN Bg (by omega)
      replace A2 := A2.belowN Bg (by omega)
      replace B := B.trans (Bg.mono (by omega))
      replace Q7 := own_far Q7 hgrow (by simp only [Value.ownBlock, ne_eq, Option.some.injEq]; omega)
      obtain ⟨g11, e11, rfl, hg11, hc11, hm11⟩ := made_of Q11 hv11
      have hl11 := hm11.lt
      have hw11 : g11 = p8 ∨ g11 = u3.heap.size := by simpa only [Value.ownBlock, Option.some.injEq] using hat
      clear hat hm11 hv11
      have zz3 := hgrow.size
      clear hown hgrow hne Bg
      clear hHeld
      refine hK.out _ _ (one4_mk A1) (fun hHeld => ?_)
      clear hK K
      try simp only [List.setIfInBounds_toArray, List.set_cons_zero, List.set_cons_succ]
      obtain ⟨j7, k7, m1⟩ := made_of' Q7
      obtain ⟨j11, k11, m2⟩ := made_of' Q11
      refine wpAnyH_take (i := 12) (v := nV W H (.slice (some ⟨g7, 0, none⟩) n e7) (.slice (some ⟨g11, 0, none⟩) k e11)) rfl (by kernel_rfl) (by kernel_rfl) (by kernel_rfl) (fun _ _ _ h => h) (Or.inl ⟨by kernel_rfl, ?_⟩) hHeld ?_
      · intro w' hSw; go_simp
      try simp only [Act.put, List.setIfInBounds_toArray, List.set_cons_zero, List.set_cons_succ, List.getElem_toArray, List.getElem_cons_succ, List.getElem_cons_zero]
      refine wpAnyH_ready (rs := [13]) (by kernel_rfl) (by simp) ?_
      refine AllReadyH.cons rfl (fun K hK => ?_) AllReadyH.nil
      obtain ⟨x0, x1, x2, x3, y0, y1, y2, y3⟩ := A2.open4
      go_simp
      clear x0 x1 x2 x3 y0 y1 y2 y3 hHeld
      have A8 := put4_at A2 (.int .i64 W) (.int .i64 H) (.slice (some ⟨g7, 0, none⟩) n e7) (.slice (some ⟨g11, 0, none⟩) k e11)
      have A9 : At 32 ((((u4.setCell ⟨q2, 0, none⟩ (.int .i64 W)).setCell ⟨q2, 1, none⟩ (.int .i64 H)).setCell ⟨q2, 2, none⟩ (.slice (some ⟨g7, 0, none⟩) n e7)).setCell ⟨q2, 3, none⟩ (.slice (some ⟨g11, 0, none⟩) k e11)) q1 #[.int .i64 W, .int .i64 H, .slice (some ⟨b1, o1, none⟩) n c1, .slice (some ⟨b2, o2, none⟩) k c2] := (((A1.setOther (by omega) (.int .i64 W)).setOther (by omega) (.int .i64 H)).setOther (by omega) (.slice (some ⟨g7, 0, none⟩) n e7)).setOther (by omega) (.slice (some ⟨g11, 0, none⟩) k e11)
      have m1' : Made ((((u4.setCell ⟨q2, 0, none⟩ (.int .i64 W)).setCell ⟨q2, 1, none⟩ (.int .i64 H)).setCell ⟨q2, 2, none⟩ (.slice (some ⟨g7, 0, none⟩) n e7)).setCell ⟨q2, 3, none⟩ (.slice (some ⟨g11, 0, none⟩) k e11)) g7 e7 n f := (((m1.setOther (by omega) (.int .i64 W)).setOther (by omega) (.int .i64 H)).setOther (by omega) (.slice (some ⟨g7, 0, none⟩) n e7)).setOther (by omega) (.slice (some ⟨g11, 0, none⟩) k e11)
      have m2' : Made ((((u4.setCell ⟨q2, 0, none⟩ (.int .i64 W)).setCell ⟨q2, 1, none⟩ (.int .i64 H)).setCell ⟨q2, 2, none⟩ (.slice (some ⟨g7, 0, none⟩) n e7)).setCell ⟨q2, 3, none⟩ (.slice (some ⟨g11, 0, none⟩) k e11)) g11 e11 k h := (((m2.setOther (by omega) (.int .i64 W)).setOther (by omega) (.int .i64 H)).setOther (by omega) (.slice (some ⟨g7, 0, none⟩) n e7)).setOther (by omega) (.slice (some ⟨g11, 0, none⟩) k e11)
      refine hK.out _ _ (one4_mk A9) (fun hHeld => ?_)
      clear hK K hHeld
      try simp only [List.setIfInBounds_toArray, List.set_cons_zero, List.set_cons_succ]
      refine wpAnyH_done (by kernel_rfl) ?_ _
      obtain ⟨r0, r1, r2, r3, -⟩ := A8.open4
      go_wp2
      refine bodyPost_ret (v := nV W H (.slice (some ⟨g7, 0, none⟩) n e7) (.slice (some ⟨g11, 0, none⟩) k e11)) (by simp [results, Try.results58, go_sem, r0, r1, r2, r3]) rfl ⟨_, _, _, _, rfl, ⟨by omega, by omega, by omega, by omega, by omega, m1', m2'⟩, ?_⟩
      exact below_put4 B (by omega) _ _ _ _
    refine AllReadyH.cons rfl (fun K hK => ?_) AllReadyH.nil
    go_simp
    obtain ⟨u2, h6, P8, b', z6⟩ := boxed u1 2 #[]
    rw [h6]
    clear h6
    replace A1 := A1.below b'
    replace A2 := A2.below b'
    replace B := B.trans (b'.mono B.size)
    replace O4 := own_below O4 b'
    obtain ⟨p8, hp8⟩ : ∃ q, u1.heap.size = q := ⟨_, rfl⟩
    have O8 : u2.ownsRow p8 2 1 (.slice (some ⟨p8, 0, none⟩) 0 0) 0 [] := ⟨rfl, .inr ⟨p8, 0, #[], rfl, Nat.le_refl _, hp8 ▸ P8, Nat.le_refl _, Nat.zero_le _, rfl, rfl⟩⟩
    have zz1 : p8 < u2.heap.size ∧ u1.heap.size ≤ p8 := by omega
    try rw [hp8]
    clear hp8 P8 b' z6
    clear hHeld
    refine hK.out _ _ (one4_mk A1) (fun hHeld => ?_)
    clear hK K
    try simp only [List.setIfInBounds_toArray, List.set_cons_zero, List.set_cons_succ]
    refine wpAnyH_ready (rs := [7]) (by kernel_rfl) (by simp) ?_
    refine AllReadyH.cons rfl (fun K hK => ?_) AllReadyH.nil
    refine step_append_at _ (by rfl) _ _ _ (by rfl) p4 2 i0 _ 1 8 Try.underlying30 hi0 hz0 hz1 hz2 rfl (by omega) (.slice (some ⟨p4, 0, none⟩) 0 0) 0 [] (by rfl) O4 ⟨b1, o1, none⟩ n c1 (iCells f n) (by rfl) (by rw [iCells_len]; omega) (ints_news (i1.below l1 B)) (iCells_one _ _) (by unfold maxLen; omega) (by omega) (by omega) ?_
    intro v7 u3 hown hgrow hne hat
    have Q7 : u3.ownsRow p4 2 1 v7 n (iCells f n) := by simpa using hown
    have hv7 : v7 ≠ .slice none 0 0 := fun h => ne_nil _ _ _ (hne.1 h).1
    have Bg : Below W2.heap.size u2 u3 := Below.grown (Below.refl _ _) hgrow (by omega) (fun x hx => by have := ownBlock_ge O4 hx; omega)
    replace A1 := A1.belowN Bg (by omega)
    replace A2 := A2.belowN Bg (by omega)
    replace B := B.trans (Bg.mono (by omega))
    replace O8 := own_far O8 hgrow (by simp only [Value.ownBlock, ne_eq, Option.some.injEq]; omega)
    obtain ⟨g7, e7, rfl, hg7, hc7, hm7⟩ := made_of Q7 hv7
    have hl7 := hm7.lt
    have hw7 : g7 = p4 ∨ g7 = u2.heap.size := by simpa only [Value.ownBlock, Option.some.injEq] using hat
    clear hat hm7 hv7
    have zz2 := hgrow.size
    clear hown hgrow hne Bg
    clear hHeld
    refine hK.out _ _ (one4_mk A1) (fun hHeld => ?_)
    clear hK K
    try simp only [List.setIfInBounds_toArray, List.set_cons_zero, List.set_cons_succ]
    refine wpAnyH_ready (rs := [11]) (by kernel_rfl) (by simp) ?_
    refine AllReadyH.cons rfl (fun K hK => ?_) AllReadyH.nil
    refine step_append_at _ (by rfl) _ _ _ (by rfl) p8 2 i0 _ 1 8 Try.underlying30 hi0 hz0 hz1 hz2 rfl (by omega) (.slice (some ⟨p8, 0, none⟩) 0 0) 0 [] (by rfl) O8 ⟨b2, o2, none⟩ k c2 (iCells h k) (by rfl) (by rw [iCells_len]; omega) (ints_news (i2.below l2 B)) (iCells_one _ _) (by unfold maxLen; omega) (by omega) (by omega) ?_
    intro v11 u4 hown hgrow hne hat
    have Q11 : u4.ownsRow p8 2 1 v11 k (iCells h k) := by simpa using hown
    have hv11 : v11 ≠ .slice none 0 0 := fun h => ne_nil _ _ _ (hne.1 h).1
    have Bg : Below W2.heap.size u3 u4 := Below.grown (Below.refl _ _) hgrow (by omega) (fun x hx => by have := ownBlock_ge O8 hx; omega)
    replace A1 := A1.belowN Bg (by omega)
    replace A2 := A2.belowN Bg (by omega)
    replace B := B.trans (Bg.mono (by omega))
    replace Q7 := own_far Q7 hgrow (by simp only [Value.ownBlock, ne_eq, Option.some.injEq]; omega)
    obtain ⟨g11, e11, rfl, hg11, hc11, hm11⟩ := made_of Q11 hv11
    have hl11 := hm11.lt
    have hw11 : g11 = p8 ∨ g11 = u3.heap.size := by simpa only [Value.ownBlock, Option.some.injEq] using hat
    clear hat hm11 hv11
    have zz3 := hgrow.size
    clear hown hgrow hne Bg
    clear hHeld
    refine hK.out _ _ (one4_mk A1) (fun hHeld => ?_)
    clear hK K
    try simp only [List.setIfInBounds_toArray, List.set_cons_zero, List.set_cons_succ]
    obtain ⟨j7, k7, m1⟩ := made_of' Q7
    obtain ⟨j11, k11, m2⟩ := made_of' Q11
    refine wpAnyH_take (i := 12) (v := nV W H (.slice (some ⟨g7, 0, none⟩) n e7) (.slice (some ⟨g11, 0, none⟩) k e11)) rfl (by kernel_rfl) (by kernel_rfl) (by kernel_rfl) (fun _ _ _ h => h) (Or.inl ⟨by kernel_rfl, ?_⟩) hHeld ?_
    · intro w' hSw; go_simp
    try simp only [Act.put, List.setIfInBounds_toArray, List.set_cons_zero, List.set_cons_succ, List.getElem_toArray, List.getElem_cons_succ, List.getElem_cons_zero]
    refine wpAnyH_ready (rs := [13]) (by kernel_rfl) (by simp) ?_
    refine AllReadyH.cons rfl (fun K hK => ?_) AllReadyH.nil
    obtain ⟨x0, x1, x2, x3, y0, y1, y2, y3⟩ := A2.open4
    go_simp
    clear x0 x1 x2 x3 y0 y1 y2 y3 hHeld
    have A8 := put4_at A2 (.int .i64 W) (.int .i64 H) (.slice (some ⟨g7, 0, none⟩) n e7) (.slice (some ⟨g11, 0, none⟩) k e11)
    have A9 : At 32 ((((u4.setCell ⟨q2, 0, none⟩ (.int .i64 W)).setCell ⟨q2, 1, none⟩ (.int .i64 H)).setCell ⟨q2, 2, none⟩ (.slice (some ⟨g7, 0, none⟩) n e7)).setCell ⟨q2, 3, none⟩ (.slice (some ⟨g11, 0, none⟩) k e11)) q1 #[.int .i64 W, .int .i64 H, .slice (some ⟨b1, o1, none⟩) n c1, .slice (some ⟨b2, o2, none⟩) k c2] := (((A1.setOther (by omega) (.int .i64 W)).setOther (by omega) (.int .i64 H)).setOther (by omega) (.slice (some ⟨g7, 0, none⟩) n e7)).setOther (by omega) (.slice (some ⟨g11, 0, none⟩) k e11)
    have m1' : Made ((((u4.setCell ⟨q2, 0, none⟩ (.int .i64 W)).setCell ⟨q2, 1, none⟩ (.int .i64 H)).setCell ⟨q2, 2, none⟩ (.slice (some ⟨g7, 0, none⟩) n e7)).setCell ⟨q2, 3, none⟩ (.slice (some ⟨g11, 0, none⟩) k e11)) g7 e7 n f := (((m1.setOther (by omega) (.int .i64 W)).setOther (by omega) (.int .i64 H)).setOther (by omega) (.slice (some ⟨g7, 0, none⟩) n e7)).setOther (by omega) (.slice (some ⟨g11, 0, none⟩) k e11)
    have m2' : Made ((((u4.setCell ⟨q2, 0, none⟩ (.int .i64 W)).setCell ⟨q2, 1, none⟩ (.int .i64 H)).setCell ⟨q2, 2, none⟩ (.slice (some ⟨g7, 0, none⟩) n e7)).setCell ⟨q2, 3, none⟩ (.slice (some ⟨g11, 0, none⟩) k e11)) g11 e11 k h := (((m2.setOther (by omega) (.int .i64 W)).setOther (by omega) (.int .i64 H)).setOther (by omega) (.slice (some ⟨g7, 0, none⟩) n e7)).setOther (by omega) (.slice (some ⟨g11, 0, none⟩) k e11)
    refine hK.out _ _ (one4_mk A9) (fun hHeld => ?_)
    clear hK K hHeld
    try simp only [List.setIfInBounds_toArray, List.set_cons_zero, List.set_cons_succ]
    refine wpAnyH_done (by kernel_rfl) ?_ _
    obtain ⟨r0, r1, r2, r3, -⟩ := A8.open4
    go_wp2
    refine bodyPost_ret (v := nV W H (.slice (some ⟨g7, 0, none⟩) n e7) (.slice (some ⟨g11, 0, none⟩) k e11)) (by simp [results, Try.results58, go_sem, r0, r1, r2, r3]) rfl ⟨_, _, _, _, rfl, ⟨by omega, by omega, by omega, by omega, by omega, m1', m2'⟩, ?_⟩
    exact below_put4 B (by omega) _ _ _ _
  refine AllReadyH.cons rfl (fun K hK => ?_) AllReadyH.nil
  go_simp
  obtain ⟨u1, h6, P8, b', z6⟩ := boxed u0 2 #[]
  rw [h6]
  clear h6
  replace A1 := A1.below b'
  replace A2 := A2.below b'
  replace B := B.trans (b'.mono B.size)
  obtain ⟨p8, hp8⟩ : ∃ q, u0.heap.size = q := ⟨_, rfl⟩
  have O8 : u1.ownsRow p8 2 1 (.slice (some ⟨p8, 0, none⟩) 0 0) 0 [] := ⟨rfl, .inr ⟨p8, 0, #[], rfl, Nat.le_refl _, hp8 ▸ P8, Nat.le_refl _, Nat.zero_le _, rfl, rfl⟩⟩
  have zz0 : p8 < u1.heap.size ∧ u0.heap.size ≤ p8 := by omega
  try rw [hp8]
  clear hp8 P8 b' z6
  clear hHeld
  refine hK.out _ _ (one4_mk A1) (fun hHeld => ?_)
  clear hK K
  try simp only [List.setIfInBounds_toArray, List.set_cons_zero, List.set_cons_succ]
  refine wpAnyH_ready (rs := [4]) (by kernel_rfl) (by simp) ?_
  refine AllReadyH.cons rfl (fun K hK => ?_) AllReadyH.nil
  go_simp
  obtain ⟨u2, h6, P4, b', z6⟩ := boxed u1 2 #[]
  rw [h6]
  clear h6
  replace A1 := A1.below b'
  replace A2 := A2.below b'
  replace B := B.trans (b'.mono B.size)
  replace O8 := own_below O8 b'
  obtain ⟨p4, hp4⟩ : ∃ q, u1.heap.size = q := ⟨_, rfl⟩
  have O4 : u2.ownsRow p4 2 1 (.slice (some ⟨p4, 0, none⟩) 0 0) 0 [] := ⟨rfl, .inr ⟨p4, 0, #[], rfl, Nat.le_refl _, hp4 ▸ P4, Nat.le_refl _, Nat.zero_le _, rfl, rfl⟩⟩
  have zz1 : p4 < u2.heap.size ∧ u1.heap.size ≤ p4 := by omega
  try rw [hp4]
  clear hp4 P4 b' z6
  clear hHeld
  refine hK.out _ _ (one4_mk A1) (fun hHeld => ?_)
  clear hK K
  try simp only [List.setIfInBounds_toArray, List.set_cons_zero, List.set_cons_succ]
  refine wpAnyH_ready (rs := [7]) (by kernel_rfl) (by simp) ?_
  refine AllReadyH.cons rfl (fun K hK => ?_) AllReadyH.nil
  refine step_append_at _ (by rfl) _ _ _ (by rfl) p4 2 i0 _ 1 8 Try.underlying30 hi0 hz0 hz1 hz2 rfl (by omega) (.slice (some ⟨p4, 0, none⟩) 0 0) 0 [] (by rfl) O4 ⟨b1, o1, none⟩ n c1 (iCells f n) (by rfl) (by rw [iCells_len]; omega) (ints_news (i1.below l1 B)) (iCells_one _ _) (by unfold maxLen; omega) (by omega) (by omega) ?_
  intro v7 u3 hown hgrow hne hat
  have Q7 : u3.ownsRow p4 2 1 v7 n (iCells f n) := by simpa using hown
  have hv7 : v7 ≠ .slice none 0 0 := fun h => ne_nil _ _ _ (hne.1 h).1
  have Bg : Below W2.heap.size u2 u3 := Below.grown (Below.refl _ _) hgrow (by omega) (fun x hx => by have := ownBlock_ge O4 hx; omega)
  replace A1 := A1.belowN Bg (by omega)
  replace A2 := A2.belowN Bg (by omega)
  replace B := B.trans (Bg.mono (by omega))
  replace O8 := own_far O8 hgrow (by simp only [Value.ownBlock, ne_eq, Option.some.injEq]; omega)
  obtain ⟨g7, e7, rfl, hg7, hc7, hm7⟩ := made_of Q7 hv7
  have hl7 := hm7.lt
  have hw7 : g7 = p4 ∨ g7 = u2.heap.size := by simpa only [Value.ownBlock, Option.some.injEq] using hat
  clear hat hm7 hv7
  have zz2 := hgrow.size
  clear hown hgrow hne Bg
  clear hHeld
  refine hK.out _ _ (one4_mk A1) (fun hHeld => ?_)
  clear hK K
  try simp only [List.setIfInBounds_toArray, List.set_cons_zero, List.set_cons_succ]
  refine wpAnyH_ready (rs := [11]) (by kernel_rfl) (by simp) ?_
  refine AllReadyH.cons rfl (fun K hK => ?_) AllReadyH.nil
  refine step_append_at _ (by rfl) _ _ _ (by rfl) p8 2 i0 _ 1 8 Try.underlying30 hi0 hz0 hz1 hz2 rfl (by omega) (.slice (some ⟨p8, 0, none⟩) 0 0) 0 [] (by rfl) O8 ⟨b2, o2, none⟩ k c2 (iCells h k) (by rfl) (by rw [iCells_len]; omega) (ints_news (i2.below l2 B)) (iCells_one _ _) (by unfold maxLen; omega) (by omega) (by omega) ?_
  intro v11 u4 hown hgrow hne hat
  have Q11 : u4.ownsRow p8 2 1 v11 k (iCells h k) := by simpa using hown
  have hv11 : v11 ≠ .slice none 0 0 := fun h => ne_nil _ _ _ (hne.1 h).1
  have Bg : Below W2.heap.size u3 u4 := Below.grown (Below.refl _ _) hgrow (by omega) (fun x hx => by have := ownBlock_ge O8 hx; omega)
  replace A1 := A1.belowN Bg (by omega)
  replace A2 := A2.belowN Bg (by omega)
  replace B := B.trans (Bg.mono (by omega))
  replace Q7 := own_far Q7 hgrow (by simp only [Value.ownBlock, ne_eq, Option.some.injEq]; omega)
  obtain ⟨g11, e11, rfl, hg11, hc11, hm11⟩ := made_of Q11 hv11
  have hl11 := hm11.lt
  have hw11 : g11 = p8 ∨ g11 = u3.heap.size := by simpa only [Value.ownBlock, Option.some.injEq] using hat
  clear hat hm11 hv11
  have zz3 := hgrow.size
  clear hown hgrow hne Bg
  clear hHeld
  refine hK.out _ _ (one4_mk A1) (fun hHeld => ?_)
  clear hK K
  try simp only [List.setIfInBounds_toArray, List.set_cons_zero, List.set_cons_succ]
  obtain ⟨j7, k7, m1⟩ := made_of' Q7
  obtain ⟨j11, k11, m2⟩ := made_of' Q11
  refine wpAnyH_take (i := 12) (v := nV W H (.slice (some ⟨g7, 0, none⟩) n e7) (.slice (some ⟨g11, 0, none⟩) k e11)) rfl (by kernel_rfl) (by kernel_rfl) (by kernel_rfl) (fun _ _ _ h => h) (Or.inl ⟨by kernel_rfl, ?_⟩) hHeld ?_
  · intro w' hSw; go_simp
  try simp only [Act.put, List.setIfInBounds_toArray, List.set_cons_zero, List.set_cons_succ, List.getElem_toArray, List.getElem_cons_succ, List.getElem_cons_zero]
  refine wpAnyH_ready (rs := [13]) (by kernel_rfl) (by simp) ?_
  refine AllReadyH.cons rfl (fun K hK => ?_) AllReadyH.nil
  obtain ⟨x0, x1, x2, x3, y0, y1, y2, y3⟩ := A2.open4
  go_simp
  clear x0 x1 x2 x3 y0 y1 y2 y3 hHeld
  have A8 := put4_at A2 (.int .i64 W) (.int .i64 H) (.slice (some ⟨g7, 0, none⟩) n e7) (.slice (some ⟨g11, 0, none⟩) k e11)
  have A9 : At 32 ((((u4.setCell ⟨q2, 0, none⟩ (.int .i64 W)).setCell ⟨q2, 1, none⟩ (.int .i64 H)).setCell ⟨q2, 2, none⟩ (.slice (some ⟨g7, 0, none⟩) n e7)).setCell ⟨q2, 3, none⟩ (.slice (some ⟨g11, 0, none⟩) k e11)) q1 #[.int .i64 W, .int .i64 H, .slice (some ⟨b1, o1, none⟩) n c1, .slice (some ⟨b2, o2, none⟩) k c2] := (((A1.setOther (by omega) (.int .i64 W)).setOther (by omega) (.int .i64 H)).setOther (by omega) (.slice (some ⟨g7, 0, none⟩) n e7)).setOther (by omega) (.slice (some ⟨g11, 0, none⟩) k e11)
  have m1' : Made ((((u4.setCell ⟨q2, 0, none⟩ (.int .i64 W)).setCell ⟨q2, 1, none⟩ (.int .i64 H)).setCell ⟨q2, 2, none⟩ (.slice (some ⟨g7, 0, none⟩) n e7)).setCell ⟨q2, 3, none⟩ (.slice (some ⟨g11, 0, none⟩) k e11)) g7 e7 n f := (((m1.setOther (by omega) (.int .i64 W)).setOther (by omega) (.int .i64 H)).setOther (by omega) (.slice (some ⟨g7, 0, none⟩) n e7)).setOther (by omega) (.slice (some ⟨g11, 0, none⟩) k e11)
  have m2' : Made ((((u4.setCell ⟨q2, 0, none⟩ (.int .i64 W)).setCell ⟨q2, 1, none⟩ (.int .i64 H)).setCell ⟨q2, 2, none⟩ (.slice (some ⟨g7, 0, none⟩) n e7)).setCell ⟨q2, 3, none⟩ (.slice (some ⟨g11, 0, none⟩) k e11)) g11 e11 k h := (((m2.setOther (by omega) (.int .i64 W)).setOther (by omega) (.int .i64 H)).setOther (by omega) (.slice (some ⟨g7, 0, none⟩) n e7)).setOther (by omega) (.slice (some ⟨g11, 0, none⟩) k e11)
  refine hK.out _ _ (one4_mk A9) (fun hHeld => ?_)
  clear hK K hHeld
  try simp only [List.setIfInBounds_toArray, List.set_cons_zero, List.set_cons_succ]
  refine wpAnyH_done (by kernel_rfl) ?_ _
  obtain ⟨r0, r1, r2, r3, -⟩ := A8.open4
  go_wp2
  refine bodyPost_ret (v := nV W H (.slice (some ⟨g7, 0, none⟩) n e7) (.slice (some ⟨g11, 0, none⟩) k e11)) (by simp [results, Try.results58, go_sem, r0, r1, r2, r3]) rfl ⟨_, _, _, _, rfl, ⟨by omega, by omega, by omega, by omega, by omega, m1', m2'⟩, ?_⟩
  exact below_put4 B (by omega) _ _ _ _
theorem told_any {w : World} {a a' : Option Addr} {lr lu cr cu : Nat} {r u : Nat → Int} (W H : Int) (hr : Src w a lr r) (hu : Src w a' lu u) (hlr : lr ≤ 1048576) (hlu : lu ≤ 1048576) :
    Calls Try.prog 62 #[nV W H (.slice a lr cr) (.slice a' lu cu)] w fun e w' => e = .returned (if netOk W H lr r lu u then .tuple #[nV W H (.slice a lr cr) (.slice a' lu cu), .bool true] else .tuple #[nV 0 0 (.slice none 0 0) (.slice none 0 0), .bool false]) ∧ Below w.heap.size w w' := by
  obtain ⟨V, hV, A1, B1, -⟩ := boxed w 32 #[.int .i64 W, .int .i64 H, .slice a lr cr, .slice a' lu cu]
  obtain ⟨V2, hV2, A2, B2, -⟩ := boxed V 32 #[.int .i64 0, .int .i64 0, .slice none 0 0, .slice none 0 0]
  have s1 := A1.lt
  have s2 := A2.lt
  replace A1 := A1.below B2
  replace B1 := B1.trans (B2.mono B1.size)
  rcases hok : netOk W H lr r lu u with _ | _
  all_goals
    obtain ⟨c0, c1, c2, c3, -⟩ := A1.open4
    go_enter Try.func62, Try.ntmps62
    go_wp2_with fail
    refine (implNetOk_any W H (hr.below B1) (hu.below B1) hlr hlu).mono ?_
    rintro e w1 ⟨rfl, b1⟩
    rw [hok]
    clear hV hV2 c0 c1 c2 c3 B2
    replace A1 := A1.below b1
    replace A2 := A2.below b1
    replace B1 := B1.trans (b1.mono B1.size)
    obtain ⟨c0, c1, c2, c3, -⟩ := A1.open4
    obtain ⟨d0, d1, d2, d3, f0, f1, f2, f3⟩ := A2.open4
    go_wp2
    first
    | (have A8 := put4_at A2 (.int .i64 0) (.int .i64 0) (.slice none 0 0) (.slice none 0 0)
       obtain ⟨r0, r1, r2, r3, -⟩ := A8.open4
       exact bodyPost_ret (v := .tuple #[nV 0 0 (.slice none 0 0) (.slice none 0 0), .bool false]) (by simp [results, Try.results62, go_sem, r0, r1, r2, r3]) rfl ⟨rfl, below_put4 B1 (by omega) _ _ _ _⟩)
    | (have A8 := put4_at A2 (.int .i64 W) (.int .i64 H) (.slice a lr cr) (.slice a' lu cu)
       obtain ⟨r0, r1, r2, r3, -⟩ := A8.open4
       exact bodyPost_ret (v := .tuple #[nV W H (.slice a lr cr) (.slice a' lu cu), .bool true]) (by simp [results, Try.results62, go_sem, r0, r1, r2, r3]) rfl ⟨rfl, below_put4 B1 (by omega) _ _ _ _⟩)
end Go.Proofs.Ytlmgdcoknpakcaa
