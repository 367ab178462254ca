/-
  Products of cyclotomic numbers by the program: walked.
-/
import Derived.Test.YtbninbeccgdemaaDoorMk
namespace Go.Proofs.YtbninbeccgdemaaDoor
open Go.RowKit

theorem pt_in {a b c d : Int} (h : cOk a b c d = true) : ∀ j, j < 4 → -1000000000000 ≤ pt a b c d j ∧ pt a b c d j ≤ 1000000000000 := fun j hj => (cOk_iff a b c d).1 h j hj
theorem pt_map (g : Int → Int) (a b c d : Int) (j : Nat) : pt (g a) (g b) (g c) (g d) j = g (pt a b c d j) := by
  unfold pt
  split <;> rfl
theorem hi_in {a b c d : Int} (h : cOk a b c d = true) : ∀ j, j < 4 → -1000000 ≤ pt (a / 1000000) (b / 1000000) (c / 1000000) (d / 1000000) j ∧ pt (a / 1000000) (b / 1000000) (c / 1000000) (d / 1000000) j ≤ 1000000 := by
  intro j hj
  have := pt_in h j hj
  rw [pt_map (· / 1000000)]
  omega
theorem lo_in (a b c d : Int) : ∀ j, j < 4 → -1000000 ≤ pt (a % 1000000) (b % 1000000) (c % 1000000) (d % 1000000) j ∧ pt (a % 1000000) (b % 1000000) (c % 1000000) (d % 1000000) j ≤ 1000000 := by
  intro j _
  rw [pt_map (· % 1000000)]
  omega
/-- The product, by halves. -/
theorem mul_halves (a b c d : Int) (y : Nat → Int) (i : Nat) : mulN (pt a b c d) y i = 1000000 * mulN (pt (a / 1000000) (b / 1000000) (c / 1000000) (d / 1000000)) y i + mulN (pt (a % 1000000) (b % 1000000) (c % 1000000) (d % 1000000)) y i :=
  mul_split 1000000 y (fun j _ => by rw [pt_map (· / 1000000), pt_map (· % 1000000)]; omega) i
/-- What is told of a product. -/
def mulT (a b c d x y z u : Int) : Value := told (mulN (pt a b c d) (pt x y z u) 0) (mulN (pt a b c d) (pt x y z u) 1) (mulN (pt a b c d) (pt x y z u) 2) (mulN (pt a b c d) (pt x y z u) 3)
theorem told_parts (p q r s : Int) : ∃ p' q' r' s' k, told p q r s = .tuple #[cV p' q' r' s', .bool k] := by
  unfold told
  split
  · exact ⟨_, _, _, _, _, rfl⟩
  · exact ⟨_, _, _, _, _, rfl⟩
set_option maxRecDepth 100000 in
set_option maxHeartbeats 1600000 in
theorem implMul_no (a b c d x y z u : Int) (w : World) (hno : (cOk a b c d && cOk x y z u) = false) :
    Calls Tryd.prog 12 #[cV a b c d, cV x y z u] w fun e w' => e = .returned (.tuple #[cV 0 0 0 0, .bool false]) ∧ Below w.heap.size w w' := by
  obtain ⟨W, hW, b0, b1, b2, bW, sW⟩ := boxed3 w 33 33 33 #[.int .i64 a, .int .i64 b, .int .i64 c, .int .i64 d] #[.int .i64 x, .int .i64 y, .int .i64 z, .int .i64 u] #[.int .i64 0, .int .i64 0, .int .i64 0, .int .i64 0]
  obtain ⟨c0, c1, c2, c3, -⟩ := b0.open4
  go_enter Tryd.func12, Tryd.ntmps12
  go_wp2_with fail
  refine (implOk_any _ _ _ _ _).mono ?_
  rintro e w2 ⟨rfl, hb2⟩
  replace b1 := b1.below hb2
  replace b2 := b2.below hb2
  replace bW := bW.trans (hb2.mono bW.size)
  clear hb2 c0 c1 c2 c3 hW b0
  cases h1 : cOk a b c d
  · clear hno
    obtain ⟨d0, d1, d2, d3, f0, f1, f2, f3⟩ := b2.open4
    go_wp2
    all_goals first
      | contradiction
      | (obtain ⟨p0, p1, p2, p3, -⟩ := (put4_at b2 (.int .i64 0) (.int .i64 0) (.int .i64 0) (.int .i64 0)).open4
         exact bodyPost_ret (v := .tuple #[cV 0 0 0 0, .bool false]) (by simp [results, Tryd.results12, go_sem, p0, p1, p2, p3]) rfl ⟨rfl, below_put4 bW (by omega) _ _ _ _⟩)
  · have h2 : cOk x y z u = false := by rw [h1] at hno; exact hno
    clear hno
    obtain ⟨c0, c1, c2, c3, -⟩ := b1.open4
    go_wp2_with fail
    refine (implOk_any _ _ _ _ _).mono ?_
    rintro e w3 ⟨rfl, hb3⟩
    rw [h2]
    replace b2 := b2.below hb3
    replace bW := bW.trans (hb3.mono bW.size)
    clear hb3 c0 c1 c2 c3 b1
    obtain ⟨d0, d1, d2, d3, f0, f1, f2, f3⟩ := b2.open4
    go_wp2
    all_goals first
      | contradiction
      | (obtain ⟨p0, p1, p2, p3, -⟩ := (put4_at b2 (.int .i64 0) (.int .i64 0) (.int .i64 0) (.int .i64 0)).open4
         exact bodyPost_ret (v := .tuple #[cV 0 0 0 0, .bool false]) (by simp [results, Tryd.results12, go_sem, p0, p1, p2, p3]) rfl ⟨rfl, below_put4 bW (by omega) _ _ _ _⟩)
set_option maxRecDepth 100000 in
set_option maxHeartbeats 3200000 in
theorem implMul_yes (a b c d x y z u : Int) (w : World) (ht : Tab w) (h1 : cOk a b c d = true) (h2 : cOk x y z u = true) :
    Calls Tryd.prog 12 #[cV a b c d, cV x y z u] w fun e w' => e = .returned (mulT a b c d x y z u) ∧ Below w.heap.size w w' := by
  obtain ⟨i0, i1, i2, i3⟩ : inC a ∧ inC b ∧ inC c ∧ inC d := by
    have := (cOk_iff a b c d).1 h1
    exact ⟨this 0 (by decide), this 1 (by decide), this 2 (by decide), this 3 (by decide)⟩
  have HV := fun w => halves_any a b c d w i0 i1 i2 i3
  have T1 := fun (w : World) (h : Tab w) => times_any (a / 1000000) (b / 1000000) (c / 1000000) (d / 1000000) x y z u w h (hi_in h1) (pt_in h2)
  have T2 := fun (w : World) (h : Tab w) => times_any (a % 1000000) (b % 1000000) (c % 1000000) (d % 1000000) x y z u w h (lo_in a b c d) (pt_in h2)
  have hb : ∀ i, i < 4 → big (mulN (pt (a / 1000000) (b / 1000000) (c / 1000000) (d / 1000000)) (pt x y z u) i) := fun i hi => mul_num (hi_in h1) (pt_in h2) i hi
  have lb : ∀ i, i < 4 → big (mulN (pt (a % 1000000) (b % 1000000) (c % 1000000) (d % 1000000)) (pt x y z u) i) := fun i hi => mul_num (lo_in a b c d) (pt_in h2) i hi
  have hT := told_jn (mul_halves a b c d (pt x y z u) 0) (mul_halves a b c d (pt x y z u) 1) (mul_halves a b c d (pt x y z u) 2) (mul_halves a b c d (pt x y z u) 3)
  have J := fun w => joinHalves_any _ _ _ _ _ _ _ _ w (hb 0 (by decide)) (hb 1 (by decide)) (hb 2 (by decide)) (hb 3 (by decide)) (lb 0 (by decide)) (lb 1 (by decide)) (lb 2 (by decide)) (lb 3 (by decide))
  have R := fun w => inRange_any (jn (mulN (pt (a / 1000000) (b / 1000000) (c / 1000000) (d / 1000000)) (pt x y z u) 0) (mulN (pt (a % 1000000) (b % 1000000) (c % 1000000) (d % 1000000)) (pt x y z u) 0)) (jn (mulN (pt (a / 1000000) (b / 1000000) (c / 1000000) (d / 1000000)) (pt x y z u) 1) (mulN (pt (a % 1000000) (b % 1000000) (c % 1000000) (d % 1000000)) (pt x y z u) 1)) (jn (mulN (pt (a / 1000000) (b / 1000000) (c / 1000000) (d / 1000000)) (pt x y z u) 2) (mulN (pt (a % 1000000) (b % 1000000) (c % 1000000) (d % 1000000)) (pt x y z u) 2)) (jn (mulN (pt (a / 1000000) (b / 1000000) (c / 1000000) (d / 1000000)) (pt x y z u) 3) (mulN (pt (a % 1000000) (b % 1000000) (c % 1000000) (d % 1000000)) (pt x y z u) 3)) w
  rw [hT] at R
  obtain ⟨p', q', r', s', k', he⟩ := told_parts (mulN (pt a b c d) (pt x y z u) 0) (mulN (pt a b c d) (pt x y z u) 1) (mulN (pt a b c d) (pt x y z u) 2) (mulN (pt a b c d) (pt x y z u) 3)
  unfold mulT
  rw [he] at R ⊢
  clear he hT hb lb
  generalize mulN (pt (a / 1000000) (b / 1000000) (c / 1000000) (d / 1000000)) (pt x y z u) 0 = m0 at *
  generalize mulN (pt (a % 1000000) (b % 1000000) (c % 1000000) (d % 1000000)) (pt x y z u) 0 = n0 at *
  generalize mulN (pt (a / 1000000) (b / 1000000) (c / 1000000) (d / 1000000)) (pt x y z u) 1 = m1 at *
  generalize mulN (pt (a % 1000000) (b % 1000000) (c % 1000000) (d % 1000000)) (pt x y z u) 1 = n1 at *
  generalize mulN (pt (a / 1000000) (b / 1000000) (c / 1000000) (d / 1000000)) (pt x y z u) 2 = m2 at *
  generalize mulN (pt (a % 1000000) (b % 1000000) (c % 1000000) (d % 1000000)) (pt x y z u) 2 = n2 at *
  generalize mulN (pt (a / 1000000) (b / 1000000) (c / 1000000) (d / 1000000)) (pt x y z u) 3 = m3 at *
  generalize mulN (pt (a % 1000000) (b % 1000000) (c % 1000000) (d % 1000000)) (pt x y z u) 3 = n3 at *
  generalize a / 1000000 = aq at *
  generalize a % 1000000 = ar at *
  generalize b / 1000000 = bq at *
  generalize b % 1000000 = br at *
  generalize c / 1000000 = cq at *
  generalize c % 1000000 = cr at *
  generalize d / 1000000 = dq at *
  generalize d % 1000000 = dr at *
  clear i0 i1 i2 i3
  obtain ⟨W, hW, b0, b1, b2, bW, sW⟩ := boxed3 w 33 33 33 #[.int .i64 a, .int .i64 b, .int .i64 c, .int .i64 d] #[.int .i64 x, .int .i64 y, .int .i64 z, .int .i64 u] #[.int .i64 0, .int .i64 0, .int .i64 0, .int .i64 0]
  have t := ht.below bW
  obtain ⟨c0, c1, c2, c3, -⟩ := b0.open4
  go_enter Tryd.func12, Tryd.ntmps12
  go_wp2_with fail
  refine (implOk_any _ _ _ _ _).mono ?_
  rintro e w2 ⟨rfl, hb2⟩
  rw [h1]
  replace b0 := b0.below hb2
  replace b1 := b1.below hb2
  replace b2 := b2.below hb2
  replace t := t.below hb2
  replace bW := bW.trans (hb2.mono bW.size)
  clear hb2 c0 c1 c2 c3 hW
  obtain ⟨c0, c1, c2, c3, -⟩ := b1.open4
  go_wp2_with fail
  refine (implOk_any _ _ _ _ _).mono ?_
  rintro e w3 ⟨rfl, hb3⟩
  rw [h2]
  replace b0 := b0.below hb3
  replace b1 := b1.below hb3
  replace b2 := b2.below hb3
  replace t := t.below hb3
  replace bW := bW.trans (hb3.mono bW.size)
  clear hb3 c0 c1 c2 c3
  obtain ⟨c0, c1, c2, c3, -⟩ := b0.open4
  go_wp2_with fail
  refine (HV _).mono ?_
  rintro e w4 ⟨rfl, hb4⟩
  replace b1 := b1.below hb4
  replace b2 := b2.below hb4
  replace t := t.below hb4
  replace bW := bW.trans (hb4.mono bW.size)
  clear hb4 c0 c1 c2 c3 b0 HV h1 h2
  go_wp2_with fail
  obtain ⟨V, hV, g0, g1, bV, -⟩ := boxed2 w4 33 33 #[.int .i64 aq, .int .i64 bq, .int .i64 cq, .int .i64 dq] #[.int .i64 ar, .int .i64 br, .int .i64 cr, .int .i64 dr]
  have l1 := b1.lt
  have l2 := b2.lt
  have ls := bW.size
  replace b1 := b1.below bV
  replace b2 := b2.below bV
  replace t := t.below bV
  replace bW := bW.trans (bV.mono bW.size)
  rw [hV]
  clear hV bV
  obtain ⟨o, ho⟩ : ∃ o, w4.heap.size = o := ⟨_, rfl⟩
  rw [ho] at g0 g1 l1 l2 ls ⊢
  clear ho
  obtain ⟨u0, hu0, bb⟩ : ∃ u0, V.drew = u0 ∧ Below V.heap.size V u0 := ⟨_, rfl, (Below.refl _ _).drew⟩
  replace g0 := g0.below bb
  replace g1 := g1.below bb
  replace b1 := b1.below bb
  replace b2 := b2.below bb
  replace t := t.below bb
  replace bW := bW.trans (bb.mono bW.size)
  clear bb
  refine wp_region_held_drew (S := fun w' => R8 o (o + 1) aq bq cq dq ar br cr dr w' ∧ R4c (w.heap.size + 1) x y z u w') (by kernel_rfl) (by rw [hu0]; exact ⟨r8_of g0 g1, r4_of b1⟩) (fun hHeld => ?_)
  rw [hu0] at hHeld ⊢
  clear hu0
  change wpAnyH _ _ _ _ _ 12 #[false, false, false, false, false, false, false, false, false, false, false, false] _ _
  refine wpAnyH_take (i := 0) (v := cV aq bq cq dq) rfl (by kernel_rfl) (by kernel_rfl) (by kernel_rfl) (fun _ _ _ h => h) (Or.inl ⟨by kernel_rfl, ?_⟩) hHeld ?_
  · intro w' hSw; obtain ⟨⟨⟨z0, z1, z2, z3⟩, -⟩, -⟩ := hSw; go_simp
  try simp only [Act.put, List.setIfInBounds_toArray, List.set_cons_zero, List.set_cons_succ, List.getElem_toArray, List.getElem_cons_zero]
  refine wpAnyH_take (i := 1) (v := cV x y z u) rfl (by kernel_rfl) (by kernel_rfl) (by kernel_rfl) (fun _ _ _ h => h) (Or.inl ⟨by kernel_rfl, ?_⟩) hHeld ?_
  · intro w' hSw; obtain ⟨-, z0, z1, z2, z3⟩ := hSw; go_simp
  try simp only [Act.put, List.setIfInBounds_toArray, List.set_cons_zero, List.set_cons_succ, List.getElem_toArray, List.getElem_cons_succ, List.getElem_cons_zero]
  refine wpAnyH_take (i := 3) (v := cV ar br cr dr) rfl (by kernel_rfl) (by kernel_rfl) (by kernel_rfl) (fun _ _ _ h => h) (Or.inl ⟨by kernel_rfl, ?_⟩) hHeld ?_
  · intro w' hSw; obtain ⟨⟨-, z0, z1, z2, z3⟩, -⟩ := hSw; go_simp
  try simp only [Act.put, List.setIfInBounds_toArray, List.set_cons_zero, List.set_cons_succ, List.getElem_toArray, List.getElem_cons_succ, List.getElem_cons_zero]
  refine wpAnyH_take (i := 4) (v := cV x y z u) rfl (by kernel_rfl) (by kernel_rfl) (by kernel_rfl) (fun _ _ _ h => h) (Or.inl ⟨by kernel_rfl, ?_⟩) hHeld ?_
  · intro w' hSw; obtain ⟨-, z0, z1, z2, z3⟩ := hSw; go_simp
  try simp only [Act.put, List.setIfInBounds_toArray, List.set_cons_zero, List.set_cons_succ, List.getElem_toArray, List.getElem_cons_succ, List.getElem_cons_zero]
  refine wpAnyH_ready (rs := [2]) (by kernel_rfl) (by simp) ?_
  refine AllReadyH.cons rfl (fun KK hK' => ?_) AllReadyH.nil
  go_simp
  refine (T1 _ t).mono ?_
  rintro e u1 ⟨rfl, bb⟩
  replace g0 := g0.below bb
  replace g1 := g1.below bb
  replace b1 := b1.below bb
  replace b2 := b2.below bb
  replace t := t.below bb
  replace bW := bW.trans (bb.mono bW.size)
  clear bb
  try go_wp2_with fail
  clear hHeld
  refine hK'.out _ _ (⟨r8_of g0 g1, r4_of b1⟩) (fun hHeld => ?_)
  clear hK' KK
  try simp only [List.setIfInBounds_toArray, List.set_cons_zero, List.set_cons_succ]
  refine wpAnyH_ready (rs := [5]) (by kernel_rfl) (by simp) ?_
  refine AllReadyH.cons rfl (fun KK hK' => ?_) AllReadyH.nil
  go_simp
  refine (T2 _ t).mono ?_
  rintro e u2 ⟨rfl, bb⟩
  replace g0 := g0.below bb
  replace g1 := g1.below bb
  replace b1 := b1.below bb
  replace b2 := b2.below bb
  replace t := t.below bb
  replace bW := bW.trans (bb.mono bW.size)
  clear bb
  try go_wp2_with fail
  clear hHeld
  refine hK'.out _ _ (⟨r8_of g0 g1, r4_of b1⟩) (fun hHeld => ?_)
  clear hK' KK
  try simp only [List.setIfInBounds_toArray, List.set_cons_zero, List.set_cons_succ]
  refine wpAnyH_ready (rs := [6]) (by kernel_rfl) (by simp) ?_
  refine AllReadyH.cons rfl (fun KK hK' => ?_) AllReadyH.nil
  go_simp
  refine (J _).mono ?_
  rintro e u3 ⟨rfl, bb⟩
  replace g0 := g0.below bb
  replace g1 := g1.below bb
  replace b1 := b1.below bb
  replace b2 := b2.below bb
  replace t := t.below bb
  replace bW := bW.trans (bb.mono bW.size)
  clear bb
  try go_wp2_with fail
  clear hHeld
  refine hK'.out _ _ (⟨r8_of g0 g1, r4_of b1⟩) (fun hHeld => ?_)
  clear hK' KK
  try simp only [List.setIfInBounds_toArray, List.set_cons_zero, List.set_cons_succ]
  refine wpAnyH_ready (rs := [7]) (by kernel_rfl) (by simp) ?_
  refine AllReadyH.cons rfl (fun KK hK' => ?_) AllReadyH.nil
  go_simp
  refine (R _).mono ?_
  rintro e u4 ⟨rfl, bb⟩
  replace g0 := g0.below bb
  replace g1 := g1.below bb
  replace b1 := b1.below bb
  replace b2 := b2.below bb
  replace t := t.below bb
  replace bW := bW.trans (bb.mono bW.size)
  clear bb
  try go_wp2_with fail
  clear hHeld
  refine hK'.out _ _ (⟨r8_of g0 g1, r4_of b1⟩) (fun hHeld => ?_)
  clear hK' KK
  try simp only [List.setIfInBounds_toArray, List.set_cons_zero, List.set_cons_succ]
  refine wpAnyH_take (i := 8) (v := cV p' q' r' s') rfl (by kernel_rfl) (by kernel_rfl) (by kernel_rfl) (fun _ _ _ h => h) (Or.inl ⟨by kernel_rfl, ?_⟩) hHeld ?_
  · intro w' hSw; go_simp
  try simp only [Act.put, List.setIfInBounds_toArray, List.set_cons_zero, List.set_cons_succ, List.getElem_toArray, List.getElem_cons_succ, List.getElem_cons_zero]
  refine wpAnyH_take (i := 9) (v := .bool k') rfl (by kernel_rfl) (by kernel_rfl) (by kernel_rfl) (fun _ _ _ h => h) (Or.inl ⟨by kernel_rfl, ?_⟩) hHeld ?_
  · intro w' hSw; go_simp
  try simp only [Act.put, List.setIfInBounds_toArray, List.set_cons_zero, List.set_cons_succ, List.getElem_toArray, List.getElem_cons_succ, List.getElem_cons_zero]
  obtain ⟨y0, y1, y2, y3, f0, f1, f2, f3⟩ := b2.open4
  refine wpAnyH_ready (rs := [10]) (by kernel_rfl) (by simp) ?_
  refine AllReadyH.cons rfl (fun KK hK' => ?_) AllReadyH.nil
  go_simp
  obtain ⟨u5, hu, a1, a2, a3, a4, B'⟩ : ∃ u5, _ = u5 ∧ At 33 u5 o _ ∧ At 33 u5 (o + 1) _ ∧ At 33 u5 (w.heap.size + 1) _ ∧ At 33 u5 (w.heap.size + 2) _ ∧ Below w.heap.size w u5 := ⟨_, rfl, put4_other (p := w.heap.size + 2) g0 (by omega) (.int .i64 p') (.int .i64 q') (.int .i64 r') (.int .i64 s'), put4_other (p := w.heap.size + 2) g1 (by omega) (.int .i64 p') (.int .i64 q') (.int .i64 r') (.int .i64 s'), put4_other (p := w.heap.size + 2) b1 (by omega) (.int .i64 p') (.int .i64 q') (.int .i64 r') (.int .i64 s'), put4_at b2 (.int .i64 p') (.int .i64 q') (.int .i64 r') (.int .i64 s'), below_put4 (q := w.heap.size + 2) bW (by omega) (.int .i64 p') (.int .i64 q') (.int .i64 r') (.int .i64 s')⟩
  rw [hu]
  clear hu g0 g1 b1 b2 bW y0 y1 y2 y3 f0 f1 f2 f3 t
  have g0 := a1
  have g1 := a2
  have b1 := a3
  have b2 := a4
  have bW := B'
  clear a1 a2 a3 a4 B'
  clear hHeld
  refine hK'.out _ _ (⟨r8_of g0 g1, r4_of b1⟩) (fun hHeld => ?_)
  clear hK' KK
  try simp only [List.setIfInBounds_toArray, List.set_cons_zero, List.set_cons_succ]
  refine wpAnyH_ready (rs := [11]) (by kernel_rfl) (by simp) ?_
  refine AllReadyH.cons rfl (fun KK hK' => ?_) AllReadyH.nil
  go_simp
  clear hHeld
  refine hK'.out _ _ (⟨r8_of g0 g1, r4_of b1⟩) (fun hHeld => ?_)
  clear hK' KK
  try simp only [List.setIfInBounds_toArray, List.set_cons_zero, List.set_cons_succ]
  refine wpAnyH_done (by kernel_rfl) ?_ _
  clear hHeld
  obtain ⟨c0, c1, c2, c3, -⟩ := b2.open4
  go_wp2
  exact bodyPost_ret (v := .tuple #[cV p' q' r' s', .bool k']) (by simp [results, Tryd.results12, go_sem, c0, c1, c2, c3]) rfl ⟨rfl, bW⟩
end Go.Proofs.YtbninbeccgdemaaDoor
