/-
  Powers of structure factors, by the program and by the specification: walked.
-/
import Derived.Test.YtmpakpdbkojkaaaDoorEg
import Derived.Test.YtmpakpdbkojkaaaDoorCo
namespace Go.Proofs.YtmpakpdbkojkaaaDoor
open Go.RowKit

/-- The factor's numbers. -/
def Se4 (qe : Nat) (x y z u : Int) (w : World) : Prop := w.cell? ⟨qe, 0, none⟩ = some (.int .i64 x) ∧ w.cell? ⟨qe, 1, none⟩ = some (.int .i64 y) ∧ w.cell? ⟨qe, 2, none⟩ = some (.int .i64 z) ∧ w.cell? ⟨qe, 3, none⟩ = some (.int .i64 u)
theorem se4_of {t : TypeId} {w : World} {q : Nat} {x y z u : Int} (h : At t w q #[.int .i64 x, .int .i64 y, .int .i64 z, .int .i64 u]) : Se4 q x y z u w := ⟨h.cell 0 rfl, h.cell 1 rfl, h.cell 2 rfl, h.cell 3 rfl⟩
set_option maxRecDepth 100000 in
set_option maxHeartbeats 1600000 in
theorem specPower_of {w : World} {g n c : Nat} {f : Nat → Int} (h k l : Int) (hq : Quads w g n f) {p q r s p' q' r' s' m0 m1 m2 m3 : Int} {v mb : Bool}
    (E : ∀ w, Quads w g n f → Calls Tryd.prog 23 #[.slice (some ⟨g, 0, none⟩) n c, hV h k l] w fun e w' => e = .returned (.tuple #[cV p q r s, .bool v]) ∧ Below w.heap.size w w')
    (C : ∀ w, Calls Tryd.prog 24 #[cV p q r s] w fun e w' => e = .returned (cV p' q' r' s') ∧ Below w.heap.size w w')
    (M : ∀ w, Calls Tryd.prog 5 #[cV p q r s, cV p' q' r' s'] w fun e w' => e = .returned (.tuple #[cV m0 m1 m2 m3, .bool mb]) ∧ Below w.heap.size w w') :
    Calls Tryd.prog 10 #[.slice (some ⟨g, 0, none⟩) n c, hV h k l] w fun e w' => e = .returned (.tuple #[if v then cV m0 m1 m2 m3 else cV 0 0 0 0, .bool (v && mb)]) ∧ Below w.heap.size w w' := by
  obtain ⟨W, hW, b0, b1, bW, -⟩ := boxed2 w 37 24 #[.int .i64 h, .int .i64 k, .int .i64 l] #[.int .i64 0, .int .i64 0, .int .i64 0, .int .i64 0]
  obtain ⟨c0, c1, c2, -⟩ := b0.open3
  go_enter Tryd.func10, Tryd.ntmps10
  go_wp2_with fail
  refine (E W (hq.below bW)).mono ?_
  rintro e w2 ⟨rfl, hb2⟩
  replace b1 := b1.below hb2
  replace bW := bW.trans (hb2.mono bW.size)
  clear hb2 c0 c1 c2 hW b0 E
  cases v
  · obtain ⟨d0, d1, d2, d3, f0, f1, f2, f3⟩ := b1.open4
    have l1 := b1.lt
    go_wp2
    have q1 := put4_at b1 (.int .i64 0) (.int .i64 0) (.int .i64 0) (.int .i64 0)
    have B1 := below_put4 bW (q := w.heap.size + 1) (by omega) (.int .i64 0) (.int .i64 0) (.int .i64 0) (.int .i64 0)
    obtain ⟨p0, p1, p2, p3, -⟩ := (q1.below (below_alloc _ (.cells #[.int .i64 p, .int .i64 q, .int .i64 r, .int .i64 s] 24))).open4
    exact bodyPost_ret (v := .tuple #[cV 0 0 0 0, .bool false]) (by simp [results, Tryd.results10, go_sem, p0, p1, p2, p3]) rfl ⟨rfl, B1.alloc B1.size _⟩
  · have l1 := b1.lt
    go_wp2_with fail
    obtain ⟨w3, hw3, be, bb, -⟩ := boxed w2 24 #[.int .i64 p, .int .i64 q, .int .i64 r, .int .i64 s]
    rw [hw3]
    obtain ⟨qe, hqe⟩ : ∃ g, w2.heap.size = g := ⟨_, rfl⟩
    rw [hqe] at be l1
    try rw [hqe]
    have hne : qe ≠ w.heap.size + 1 := by omega
    replace b1 := b1.below bb
    replace bW := bW.trans (bb.mono bW.size)
    clear bb hw3 hqe
    obtain ⟨u0, hu0, bb⟩ : ∃ u0, w3.drew = u0 ∧ Below w3.heap.size w3 u0 := ⟨_, rfl, (Below.refl _ _).drew⟩
    replace b1 := b1.below bb
    replace be := be.below bb
    replace bW := bW.trans (bb.mono bW.size)
    clear bb
    refine wp_region_held_drew (S := Se4 qe p q r s) (by kernel_rfl) (by rw [hu0]; exact se4_of be) (fun hHeld => ?_)
    rw [hu0] at hHeld ⊢
    clear hu0
    change wpAnyH _ _ _ _ _ 8 #[false, false, false, false, false, false, false, false] _ _
    refine wpAnyH_take (i := 0) (v := .agg #[.int .i64 p, .int .i64 q, .int .i64 r, .int .i64 s]) rfl (by kernel_rfl) (by kernel_rfl) (by kernel_rfl) (fun _ _ _ h => h) (Or.inl ⟨by kernel_rfl, ?_⟩) hHeld ?_
    · intro w' hSw; obtain ⟨z0, z1, z2, z3⟩ := hSw; go_simp
    try simp only [Act.put, List.setIfInBounds_toArray, List.set_cons_zero, List.set_cons_succ, List.getElem_toArray, List.getElem_cons_zero]
    refine wpAnyH_take (i := 1) (v := .agg #[.int .i64 p, .int .i64 q, .int .i64 r, .int .i64 s]) rfl (by kernel_rfl) (by kernel_rfl) (by kernel_rfl) (fun _ _ _ h => h) (Or.inl ⟨by kernel_rfl, ?_⟩) hHeld ?_
    · intro w' hSw; obtain ⟨z0, z1, z2, z3⟩ := hSw; go_simp
    try simp only [Act.put, List.setIfInBounds_toArray, List.set_cons_zero, List.set_cons_succ, List.getElem_toArray, List.getElem_cons_succ, List.getElem_cons_zero]
    refine wpAnyH_ready (rs := [2]) (by kernel_rfl) (by simp) ?_
    refine AllReadyH.cons rfl (fun KK hK' => ?_) AllReadyH.nil
    go_simp
    refine (C _).mono ?_
    rintro e u1 ⟨rfl, bb⟩
    replace b1 := b1.below bb
    replace be := be.below bb
    replace bW := bW.trans (bb.mono bW.size)
    clear bb
    try go_wp2_with fail
    clear hHeld
    refine hK'.out _ _ (se4_of be) (fun hHeld => ?_)
    clear hK' KK
    try simp only [List.setIfInBounds_toArray, List.set_cons_zero, List.set_cons_succ]
    refine wpAnyH_ready (rs := [3]) (by kernel_rfl) (by simp) ?_
    refine AllReadyH.cons rfl (fun KK hK' => ?_) AllReadyH.nil
    go_simp
    refine (M _).mono ?_
    rintro e u2 ⟨rfl, bb⟩
    replace b1 := b1.below bb
    replace be := be.below bb
    replace bW := bW.trans (bb.mono bW.size)
    clear bb
    try go_wp2_with fail
    clear hHeld
    refine hK'.out _ _ (se4_of be) (fun hHeld => ?_)
    clear hK' KK
    try simp only [List.setIfInBounds_toArray, List.set_cons_zero, List.set_cons_succ]
    refine wpAnyH_take (i := 4) (v := cV m0 m1 m2 m3) rfl (by kernel_rfl) (by kernel_rfl) (by kernel_rfl) (fun _ _ _ h => h) (Or.inl ⟨by kernel_rfl, ?_⟩) hHeld ?_
    · intro w' hSw; go_simp
    try simp only [Act.put, List.setIfInBounds_toArray, List.set_cons_zero, List.set_cons_succ, List.getElem_toArray, List.getElem_cons_succ, List.getElem_cons_zero]
    refine wpAnyH_take (i := 5) (v := .bool mb) rfl (by kernel_rfl) (by kernel_rfl) (by kernel_rfl) (fun _ _ _ h => h) (Or.inl ⟨by kernel_rfl, ?_⟩) hHeld ?_
    · intro w' hSw; go_simp
    try simp only [Act.put, List.setIfInBounds_toArray, List.set_cons_zero, List.set_cons_succ, List.getElem_toArray, List.getElem_cons_succ, List.getElem_cons_zero]
    obtain ⟨d0, d1, d2, d3, f0, f1, f2, f3⟩ := b1.open4
    refine wpAnyH_ready (rs := [6]) (by kernel_rfl) (by simp) ?_
    refine AllReadyH.cons rfl (fun KK hK' => ?_) AllReadyH.nil
    go_simp
    obtain ⟨u3, hu3⟩ : ∃ u3, (((u2.setCell ⟨w.heap.size + 1, 0, none⟩ (.int .i64 m0)).setCell ⟨w.heap.size + 1, 1, none⟩ (.int .i64 m1)).setCell ⟨w.heap.size + 1, 2, none⟩ (.int .i64 m2)).setCell ⟨w.heap.size + 1, 3, none⟩ (.int .i64 m3) = u3 := ⟨_, rfl⟩
    rw [hu3]
    have b2 : At 24 u3 (w.heap.size + 1) #[.int .i64 m0, .int .i64 m1, .int .i64 m2, .int .i64 m3] := hu3 ▸ put4_at b1 _ _ _ _
    have be2 : At 24 u3 qe #[.int .i64 p, .int .i64 q, .int .i64 r, .int .i64 s] := hu3 ▸ (((be.setOther hne _).setOther hne _).setOther hne _).setOther hne _
    replace bW : Below w.heap.size w u3 := hu3 ▸ below_put4 bW (by omega) _ _ _ _
    clear d0 d1 d2 d3 f0 f1 f2 f3 hu3 b1 be
    clear hHeld
    refine hK'.out _ _ (se4_of be2) (fun hHeld => ?_)
    clear hK' KK
    try simp only [List.setIfInBounds_toArray, List.set_cons_zero, List.set_cons_succ]
    refine wpAnyH_ready (rs := [7]) (by kernel_rfl) (by simp) ?_
    refine AllReadyH.cons rfl (fun KK hK' => ?_) AllReadyH.nil
    go_simp
    clear hHeld
    refine hK'.out _ _ (se4_of be2) (fun hHeld => ?_)
    clear hK' KK
    try simp only [List.setIfInBounds_toArray, List.set_cons_zero, List.set_cons_succ]
    refine wpAnyH_done (by kernel_rfl) ?_ _
    clear hHeld
    go_wp2
    obtain ⟨p0, p1, p2, p3, -⟩ := b2.open4
    exact bodyPost_ret (v := .tuple #[cV m0 m1 m2 m3, .bool mb]) (by simp [results, Tryd.results10, go_sem, p0, p1, p2, p3]) rfl ⟨by simp, bW⟩
set_option maxRecDepth 100000 in
set_option maxHeartbeats 1600000 in
theorem implPower_of {w : World} {g n c : Nat} {f : Nat → Int} (h k l : Int) (hq : Quads w g n f) (T : Tab w) {p q r s p' q' r' s' m0 m1 m2 m3 : Int} {v mb : Bool}
    (E : ∀ w, Quads w g n f → Tab w → Calls Tryd.prog 26 #[.slice (some ⟨g, 0, none⟩) n c, hV h k l] w fun e w' => e = .returned (.tuple #[cV p q r s, .bool v]) ∧ Below w.heap.size w w')
    (C : ∀ w, Tab w → Calls Tryd.prog 27 #[cV p q r s] w fun e w' => e = .returned (cV p' q' r' s') ∧ Below w.heap.size w w')
    (M : ∀ w, Tab w → Calls Tryd.prog 7 #[cV p q r s, cV p' q' r' s'] w fun e w' => e = .returned (.tuple #[cV m0 m1 m2 m3, .bool mb]) ∧ Below w.heap.size w w') :
    Calls Tryd.prog 13 #[.slice (some ⟨g, 0, none⟩) n c, hV h k l] w fun e w' => e = .returned (.tuple #[if v then cV m0 m1 m2 m3 else cV 0 0 0 0, .bool (v && mb)]) ∧ Below w.heap.size w w' := by
  obtain ⟨W, hW, b0, b1, bW, -⟩ := boxed2 w 37 24 #[.int .i64 h, .int .i64 k, .int .i64 l] #[.int .i64 0, .int .i64 0, .int .i64 0, .int .i64 0]
  obtain ⟨c0, c1, c2, -⟩ := b0.open3
  replace T := T.below bW
  go_enter Tryd.func13, Tryd.ntmps13
  go_wp2_with fail
  refine (E W (hq.below bW) T).mono ?_
  rintro e w2 ⟨rfl, hb2⟩
  replace b1 := b1.below hb2
  replace T := T.below hb2
  replace bW := bW.trans (hb2.mono bW.size)
  clear hb2 c0 c1 c2 hW b0 E
  cases v
  · obtain ⟨d0, d1, d2, d3, f0, f1, f2, f3⟩ := b1.open4
    have l1 := b1.lt
    go_wp2
    have q1 := put4_at b1 (.int .i64 0) (.int .i64 0) (.int .i64 0) (.int .i64 0)
    have B1 := below_put4 bW (q := w.heap.size + 1) (by omega) (.int .i64 0) (.int .i64 0) (.int .i64 0) (.int .i64 0)
    obtain ⟨p0, p1, p2, p3, -⟩ := (q1.below (below_alloc _ (.cells #[.int .i64 p, .int .i64 q, .int .i64 r, .int .i64 s] 24))).open4
    exact bodyPost_ret (v := .tuple #[cV 0 0 0 0, .bool false]) (by simp [results, Tryd.results13, go_sem, p0, p1, p2, p3]) rfl ⟨rfl, B1.alloc B1.size _⟩
  · have l1 := b1.lt
    go_wp2_with fail
    obtain ⟨w3, hw3, be, bb, -⟩ := boxed w2 24 #[.int .i64 p, .int .i64 q, .int .i64 r, .int .i64 s]
    rw [hw3]
    obtain ⟨qe, hqe⟩ : ∃ g, w2.heap.size = g := ⟨_, rfl⟩
    rw [hqe] at be l1
    try rw [hqe]
    have hne : qe ≠ w.heap.size + 1 := by omega
    replace b1 := b1.below bb
    replace T := T.below bb
    replace bW := bW.trans (bb.mono bW.size)
    clear bb hw3 hqe
    obtain ⟨u0, hu0, bb⟩ : ∃ u0, w3.drew = u0 ∧ Below w3.heap.size w3 u0 := ⟨_, rfl, (Below.refl _ _).drew⟩
    replace b1 := b1.below bb
    replace be := be.below bb
    replace T := T.below bb
    replace bW := bW.trans (bb.mono bW.size)
    clear bb
    refine wp_region_held_drew (S := Se4 qe p q r s) (by kernel_rfl) (by rw [hu0]; exact se4_of be) (fun hHeld => ?_)
    rw [hu0] at hHeld ⊢
    clear hu0
    change wpAnyH _ _ _ _ _ 8 #[false, false, false, false, false, false, false, false] _ _
    refine wpAnyH_take (i := 0) (v := .agg #[.int .i64 p, .int .i64 q, .int .i64 r, .int .i64 s]) rfl (by kernel_rfl) (by kernel_rfl) (by kernel_rfl) (fun _ _ _ h => h) (Or.inl ⟨by kernel_rfl, ?_⟩) hHeld ?_
    · intro w' hSw; obtain ⟨z0, z1, z2, z3⟩ := hSw; go_simp
    try simp only [Act.put, List.setIfInBounds_toArray, List.set_cons_zero, List.set_cons_succ, List.getElem_toArray, List.getElem_cons_zero]
    refine wpAnyH_take (i := 1) (v := .agg #[.int .i64 p, .int .i64 q, .int .i64 r, .int .i64 s]) rfl (by kernel_rfl) (by kernel_rfl) (by kernel_rfl) (fun _ _ _ h => h) (Or.inl ⟨by kernel_rfl, ?_⟩) hHeld ?_
    · intro w' hSw; obtain ⟨z0, z1, z2, z3⟩ := hSw; go_simp
    try simp only [Act.put, List.setIfInBounds_toArray, List.set_cons_zero, List.set_cons_succ, List.getElem_toArray, List.getElem_cons_succ, List.getElem_cons_zero]
    refine wpAnyH_ready (rs := [2]) (by kernel_rfl) (by simp) ?_
    refine AllReadyH.cons rfl (fun KK hK' => ?_) AllReadyH.nil
    go_simp
    refine (C _ T).mono ?_
    rintro e u1 ⟨rfl, bb⟩
    replace b1 := b1.below bb
    replace be := be.below bb
    replace T := T.below bb
    replace bW := bW.trans (bb.mono bW.size)
    clear bb
    try go_wp2_with fail
    clear hHeld
    refine hK'.out _ _ (se4_of be) (fun hHeld => ?_)
    clear hK' KK
    try simp only [List.setIfInBounds_toArray, List.set_cons_zero, List.set_cons_succ]
    refine wpAnyH_ready (rs := [3]) (by kernel_rfl) (by simp) ?_
    refine AllReadyH.cons rfl (fun KK hK' => ?_) AllReadyH.nil
    go_simp
    refine (M _ T).mono ?_
    rintro e u2 ⟨rfl, bb⟩
    replace b1 := b1.below bb
    replace be := be.below bb
    replace T := T.below bb
    replace bW := bW.trans (bb.mono bW.size)
    clear bb
    try go_wp2_with fail
    clear hHeld
    refine hK'.out _ _ (se4_of be) (fun hHeld => ?_)
    clear hK' KK
    try simp only [List.setIfInBounds_toArray, List.set_cons_zero, List.set_cons_succ]
    refine wpAnyH_take (i := 4) (v := cV m0 m1 m2 m3) rfl (by kernel_rfl) (by kernel_rfl) (by kernel_rfl) (fun _ _ _ h => h) (Or.inl ⟨by kernel_rfl, ?_⟩) hHeld ?_
    · intro w' hSw; go_simp
    try simp only [Act.put, List.setIfInBounds_toArray, List.set_cons_zero, List.set_cons_succ, List.getElem_toArray, List.getElem_cons_succ, List.getElem_cons_zero]
    refine wpAnyH_take (i := 5) (v := .bool mb) rfl (by kernel_rfl) (by kernel_rfl) (by kernel_rfl) (fun _ _ _ h => h) (Or.inl ⟨by kernel_rfl, ?_⟩) hHeld ?_
    · intro w' hSw; go_simp
    try simp only [Act.put, List.setIfInBounds_toArray, List.set_cons_zero, List.set_cons_succ, List.getElem_toArray, List.getElem_cons_succ, List.getElem_cons_zero]
    obtain ⟨d0, d1, d2, d3, f0, f1, f2, f3⟩ := b1.open4
    refine wpAnyH_ready (rs := [6]) (by kernel_rfl) (by simp) ?_
    refine AllReadyH.cons rfl (fun KK hK' => ?_) AllReadyH.nil
    go_simp
    obtain ⟨u3, hu3⟩ : ∃ u3, (((u2.setCell ⟨w.heap.size + 1, 0, none⟩ (.int .i64 m0)).setCell ⟨w.heap.size + 1, 1, none⟩ (.int .i64 m1)).setCell ⟨w.heap.size + 1, 2, none⟩ (.int .i64 m2)).setCell ⟨w.heap.size + 1, 3, none⟩ (.int .i64 m3) = u3 := ⟨_, rfl⟩
    rw [hu3]
    have b2 : At 24 u3 (w.heap.size + 1) #[.int .i64 m0, .int .i64 m1, .int .i64 m2, .int .i64 m3] := hu3 ▸ put4_at b1 _ _ _ _
    have be2 : At 24 u3 qe #[.int .i64 p, .int .i64 q, .int .i64 r, .int .i64 s] := hu3 ▸ (((be.setOther hne _).setOther hne _).setOther hne _).setOther hne _
    replace bW : Below w.heap.size w u3 := hu3 ▸ below_put4 bW (by omega) _ _ _ _
    clear d0 d1 d2 d3 f0 f1 f2 f3 hu3 b1 be
    clear hHeld
    refine hK'.out _ _ (se4_of be2) (fun hHeld => ?_)
    clear hK' KK
    try simp only [List.setIfInBounds_toArray, List.set_cons_zero, List.set_cons_succ]
    refine wpAnyH_ready (rs := [7]) (by kernel_rfl) (by simp) ?_
    refine AllReadyH.cons rfl (fun KK hK' => ?_) AllReadyH.nil
    go_simp
    clear hHeld
    refine hK'.out _ _ (se4_of be2) (fun hHeld => ?_)
    clear hK' KK
    try simp only [List.setIfInBounds_toArray, List.set_cons_zero, List.set_cons_succ]
    refine wpAnyH_done (by kernel_rfl) ?_ _
    clear hHeld
    go_wp2
    obtain ⟨p0, p1, p2, p3, -⟩ := b2.open4
    exact bodyPost_ret (v := .tuple #[cV m0 m1 m2 m3, .bool mb]) (by simp [results, Tryd.results13, go_sem, p0, p1, p2, p3]) rfl ⟨by simp, bW⟩
end Go.Proofs.YtmpakpdbkojkaaaDoor
