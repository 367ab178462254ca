/-
  Structure factors by the program: walked.
-/
import Derived.Test.YtmpakpdbkojkaaaDoorEe
namespace Go.Proofs.YtmpakpdbkojkaaaDoor
open Go.RowKit

/-- What is told of a structure and a reflection. -/
def exT (b : Bool) (f : Nat → Int) (h k l : Int) (n : Nat) : Value :=
  .tuple #[if b && hOk h k l then cV (es (amt f) (pw f h k l) 0 n) (es (amt f) (pw f h k l) 1 n) (es (amt f) (pw f h k l) 2 n) (es (amt f) (pw f h k l) 3 n) else cV 0 0 0 0, .bool (b && hOk h k l)]
/-- The cells of an atom's box and of a reflection's. -/
def Rd (qa qh : Nat) (x y z f h k l : Int) (w : World) : Prop :=
  (w.cell? ⟨qa, 0, none⟩ = some (.int .i64 x) ∧ w.cell? ⟨qa, 1, none⟩ = some (.int .i64 y) ∧ w.cell? ⟨qa, 2, none⟩ = some (.int .i64 z) ∧ w.cell? ⟨qa, 3, none⟩ = some (.int .i64 f)) ∧
  (w.cell? ⟨qh, 0, none⟩ = some (.int .i64 h) ∧ w.cell? ⟨qh, 1, none⟩ = some (.int .i64 k) ∧ w.cell? ⟨qh, 2, none⟩ = some (.int .i64 l))
theorem rd_of {t u : TypeId} {w : World} {qa qh : Nat} {x y z f h k l : Int} (a : At t w qa #[.int .i64 x, .int .i64 y, .int .i64 z, .int .i64 f]) (b : At u w qh #[.int .i64 h, .int .i64 k, .int .i64 l]) : Rd qa qh x y z f h k l w := by
  obtain ⟨a0, a1, a2, a3, -⟩ := a.open4
  obtain ⟨b0, b1, b2, -⟩ := b.open3
  exact ⟨⟨a0, a1, a2, a3⟩, b0, b1, b2⟩
theorem At.heap {t : TypeId} {w w' : World} {q : Nat} {vs : Array Value} (h : At t w q vs) (e : w'.heap = w.heap) : At t w' q vs := by
  unfold At at *
  rw [e]
  exact h
theorem tab_set {w : World} {q i d : Nat} (h : Tab w) (hq : q ≠ 0) (v : Value) : Tab ((w.setCell ⟨q, i, none⟩ v).drewN d) :=
  ⟨by simp [World.setCell, World.drewN]; exact h.1, fun j hj => (World.cell?_of_block (w := w) (Below.heap_setCell _ _ _ _ (Ne.symm hq))).trans (h.2 j hj)⟩
theorem quads_set {w : World} {g n q i : Nat} {f : Nat → Int} (h : Quads w g n f) (hq : g ≠ q) (v : Value) (d : Nat) : Quads ((w.setCell ⟨q, i, none⟩ v).drewN d) g n f :=
  ⟨by simpa [World.setCell, World.drewN] using h.1, fun j hj => (World.cell?_of_block (w := w) (Below.heap_setCell _ _ _ _ hq)).trans (h.2 j hj)⟩
set_option maxRecDepth 100000 in
set_option maxHeartbeats 3200000 in
theorem implExact_no {w : World} {g n c : Nat} {f : Nat → Int} (h k l : Int) (hq : Quads w g n f) (hn : n ≤ 1048576) (ht : Tab w) (b : Bool) (hb : b = true ↔ AOk n f) (hno : (b && hOk h k l) = false) :
    Calls Tryd.prog 26 #[.slice (some ⟨g, 0, none⟩) n c, hV h k l] w fun e w' => e = .returned (.tuple #[cV 0 0 0 0, .bool false]) ∧ Below w.heap.size w w' := by
  obtain ⟨W, hW, b0, b1, bW, sW⟩ := boxed2 w 37 24 #[.int .i64 h, .int .i64 k, .int .i64 l] #[.int .i64 0, .int .i64 0, .int .i64 0, .int .i64 0]
  have t := ht.below bW
  have L := hq.below bW
  go_enter Tryd.func26, Tryd.ntmps26
  go_wp2_with fail
  refine (implAtoms_any L hn b hb).mono ?_
  rintro e w2 ⟨rfl, hb2⟩
  replace b0 := b0.below hb2
  replace b1 := b1.below hb2
  replace t := t.below hb2
  replace L := L.below hb2
  have sz2 := Nat.lt_of_lt_of_le sW hb2.size
  replace bW := bW.trans (hb2.mono bW.size)
  clear hb2 hW sW ht
  cases b
  · clear t hno hb L
    obtain ⟨d0, d1, d2, d3, f0, f1, f2, f3⟩ := b1.open4
    go_wp2
    all_goals first
      | contradiction
      | (obtain ⟨p0, p1, p2, p3, -⟩ := (put4_at b1 (.int .i64 0) (.int .i64 0) (.int .i64 0) (.int .i64 0)).open4
         exact bodyPost_ret (v := .tuple #[cV 0 0 0 0, .bool false]) (by simp [results, Tryd.results26, go_sem, p0, p1, p2, p3]) rfl ⟨rfl, below_put4 bW (by omega) _ _ _ _⟩)

  · have hh : hOk h k l = false := hno
    clear hno hb
    obtain ⟨e0, e1, e2, -⟩ := b0.open3
    go_wp2_with fail
    refine (hright_any _ _ _ _).mono ?_
    rintro e w3 ⟨rfl, hb3⟩
    replace b0 := b0.below hb3
    replace b1 := b1.below hb3
    replace t := t.below hb3
    replace L := L.below hb3
    replace sz2 := Nat.lt_of_lt_of_le sz2 hb3.size
    replace bW := bW.trans (hb3.mono bW.size)
    clear hb3 e0 e1 e2
    rw [hh]
    obtain ⟨d0, d1, d2, d3, f0, f1, f2, f3⟩ := b1.open4
    go_wp2
    all_goals first
      | contradiction
      | (obtain ⟨p0, p1, p2, p3, -⟩ := (put4_at b1 (.int .i64 0) (.int .i64 0) (.int .i64 0) (.int .i64 0)).open4
         exact bodyPost_ret (v := .tuple #[cV 0 0 0 0, .bool false]) (by simp [results, Tryd.results26, go_sem, p0, p1, p2, p3]) rfl ⟨rfl, below_put4 bW (by omega) _ _ _ _⟩)
set_option maxRecDepth 100000 in
set_option maxHeartbeats 3200000 in
theorem implExact_yes {w : World} {g n c : Nat} {f : Nat → Int} (h k l : Int) (hq : Quads w g n f) (ht : Tab w) (hok : AOk n f) (hh : hOk h k l = true) :
    Calls Tryd.prog 26 #[.slice (some ⟨g, 0, none⟩) n c, hV h k l] w fun e w' => e = .returned (.tuple #[cV (es (amt f) (pw f h k l) 0 n) (es (amt f) (pw f h k l) 1 n) (es (amt f) (pw f h k l) 2 n) (es (amt f) (pw f h k l) 3 n), .bool true]) ∧ Below w.heap.size w w' := by
  obtain ⟨hn2, hok'⟩ := hok
  obtain ⟨i1, i2, i3⟩ := hOk_in hh
  have hgl := hq.1
  obtain ⟨W, hW, b0, b1, bW, sW⟩ := boxed2 w 37 24 #[.int .i64 h, .int .i64 k, .int .i64 l] #[.int .i64 0, .int .i64 0, .int .i64 0, .int .i64 0]
  have t := ht.below bW
  have L := hq.below bW
  go_enter Tryd.func26, Tryd.ntmps26
  go_wp2_with fail
  refine (implAtoms_any L (by omega) true (by simp only [AOk, true_iff]; exact ⟨hn2, hok'⟩)).mono ?_
  rintro e w2 ⟨rfl, hb2⟩
  replace b0 := b0.below hb2
  replace b1 := b1.below hb2
  replace t := t.below hb2
  replace L := L.below hb2
  have sz2 := Nat.lt_of_lt_of_le sW hb2.size
  replace bW := bW.trans (hb2.mono bW.size)
  clear hb2 hW sW ht
  obtain ⟨e0, e1, e2, -⟩ := b0.open3
  go_wp2_with fail
  refine (hright_any _ _ _ _).mono ?_
  rintro e w3 ⟨rfl, hb3⟩
  replace b0 := b0.below hb3
  replace b1 := b1.below hb3
  replace t := t.below hb3
  replace L := L.below hb3
  replace sz2 := Nat.lt_of_lt_of_le sz2 hb3.size
  replace bW := bW.trans (hb3.mono bW.size)
  clear hb3 e0 e1 e2
  rw [hh]
  obtain ⟨W4, hW4, b2, bW4, -⟩ := boxed w3 66 #[.int .i64 0, .int .i64 0, .int .i64 0, .int .i64 0, .int .i64 0, .int .i64 0, .int .i64 0, .int .i64 0, .int .i64 0, .int .i64 0, .int .i64 0, .int .i64 0]
  go_wp2
  clear hW4
  replace b0 := b0.below bW4
  replace b1 := b1.below bW4
  replace t := t.below bW4
  replace L := L.below bW4
  replace bW := bW.trans (bW4.mono bW.size)
  obtain ⟨q, hq'⟩ : ∃ q, w3.heap.size = q := ⟨_, rfl⟩
  rw [hq'] at b2 sz2 ⊢
  clear bW4 hq' hq
  go_loopw [20] (fun s wr => ∃ j : Nat, j ≤ n ∧ s = .int .i64 j ∧ At 66 wr q (a12 (cnt (amt f) (pw f h k l) j)) ∧ At 24 wr (w.heap.size + 1) #[.int .i64 0, .int .i64 0, .int .i64 0, .int .i64 0] ∧ At 37 wr w.heap.size #[.int .i64 h, .int .i64 k, .int .i64 l] ∧ Quads wr g n f ∧ Tab wr ∧ Below w.heap.size w wr) (fun s _ => n - (intOf s).toNat)
  case atStart => exact ⟨0, Nat.zero_le _, rfl, b2, b1, b0, L, t, bW⟩
  case round =>
    clear b0 b1 b2 t L bW
    obtain ⟨j, hj, rfl, b2, b1, b0, L, t, bW⟩ := hrel
    by_cases hlt : j < n
    · have hlt' : (j : Int) < (n : Int) := by omega
      obtain ⟨c0, c1, c2, c3⟩ := L.open j hlt
      have hl := L.1
      obtain ⟨o1, o2, o3, o4⟩ := aOk_in (hok' j hlt)
      obtain ⟨p1, p2, p3⟩ := power_num o1 o2 o3 i1 i2 i3
      have hpm := pw_eq f h k l j
      have hset := cnt_set (amt f) (pw f h k l) j (pw_lt f h k l j)
      have hcn := cnt_num (B := 1000) (amt f) (pw f h k l) j (fun i hi => (aOk_in (hok' i (by omega))).2.2.2) (pw f h k l j) (by decide)
      have hlt12 := pw_lt f h k l j
      have hget := a12_get (cnt (amt f) (pw f h k l) j) (pw f h k l j) hlt12
      have hamt : amt f j = f (j * 4 + 3) := rfl
      rw [hamt] at hset
      obtain ⟨V, hV, a5, bV, -⟩ := boxed wr 55 #[.int .i64 (f (j * 4)), .int .i64 (f (j * 4 + 1)), .int .i64 (f (j * 4 + 2)), .int .i64 (f (j * 4 + 3))]
      generalize f (j * 4) = x at *
      generalize f (j * 4 + 1) = y at *
      generalize f (j * 4 + 2) = z at *
      generalize f (j * 4 + 3) = fa at *
      go_wp2_with fail
      obtain ⟨u0, hu0, bb⟩ : ∃ u0, V.drew = u0 ∧ Below V.heap.size V u0 := ⟨_, rfl, (Below.refl _ _).drew⟩
      have hwr := b2.lt
      replace bV := bV.trans (bb.mono bV.size)
      replace b0 := b0.below bV
      replace b1 := b1.below bV
      replace b2 := b2.below bV
      replace L := L.below bV
      replace t := t.below bV
      replace a5 := a5.below bb
      replace bW := bW.trans (bV.mono bW.size)
      clear bb c0 c1 c2 c3 hV
      refine wp_region_held_drew (S := Rd wr.heap.size w.heap.size x y z fa h k l) (by kernel_rfl) (by rw [hu0]; exact rd_of a5 b0) (fun hHeld => ?_)
      rw [hu0] at hHeld ⊢
      clear hu0
      change wpAnyH _ _ _ _ _ 6 #[false, false, false, false, false, false] _ _
      refine wpAnyH_take (i := 0) (v := cV x y z fa) rfl (by kernel_rfl) (by kernel_rfl) (by kernel_rfl) (fun _ _ _ h => h) (Or.inl ⟨by kernel_rfl, ?_⟩) hHeld ?_
      · intro w' hSw; obtain ⟨⟨z0, z1, z2, z3⟩, -⟩ := hSw; go_simp
      try simp only [Act.put, List.setIfInBounds_toArray, List.set_cons_zero]
      refine wpAnyH_take (i := 1) (v := hV h k l) rfl (by kernel_rfl) (by kernel_rfl) (by kernel_rfl) (fun _ _ _ h => h) (Or.inl ⟨by kernel_rfl, ?_⟩) hHeld ?_
      · intro w' hSw; obtain ⟨-, z0, z1, z2⟩ := hSw; go_simp
      try simp only [Act.put, List.setIfInBounds_toArray, List.set_cons_zero, List.set_cons_succ]
      refine wpAnyH_take (i := 3) (v := .pointer (some ⟨wr.heap.size, 3, none⟩)) rfl (by kernel_rfl) (by kernel_rfl) (by kernel_rfl) (fun _ _ _ h => h) (Or.inl ⟨by kernel_rfl, ?_⟩) hHeld ?_
      · intro w' hSw; go_simp
      try simp only [Act.put, List.setIfInBounds_toArray, List.set_cons_zero, List.set_cons_succ]
      refine wpAnyH_take (i := 4) (v := .int .i64 fa) rfl (by kernel_rfl) (by kernel_rfl) (by kernel_rfl) (fun _ _ _ h => h) (Or.inl ⟨by kernel_rfl, ?_⟩) hHeld ?_
      · intro w' hSw; obtain ⟨⟨z0, z1, z2, z3⟩, -⟩ := hSw; go_simp
      try simp only [Act.put, List.setIfInBounds_toArray, List.set_cons_zero, List.set_cons_succ]
      refine wpAnyH_ready (rs := [2]) (by kernel_rfl) (by simp) ?_
      refine AllReadyH.cons rfl (fun KK hK' => ?_) AllReadyH.nil
      go_simp
      refine (power_any _ _ _ _ _ _ _ _ p1 p2 p3).mono ?_
      rintro e u1 ⟨rfl, bb⟩
      replace a5 := a5.below bb
      replace b0 := b0.below bb
      replace b1 := b1.below bb
      replace b2 := b2.below bb
      replace L := L.below bb
      replace t := t.below bb
      replace bW := bW.trans (bb.mono bW.size)
      clear bb
      try go_wp2_with fail
      clear hHeld
      refine hK'.out _ _ (rd_of a5 b0) (fun hHeld => ?_)
      clear hK' KK
      try simp only [List.setIfInBounds_toArray, List.set_cons_zero, List.set_cons_succ]
      refine wpAnyH_ready (rs := [5]) (by kernel_rfl) (by simp) ?_
      refine AllReadyH.cons rfl (fun KK hK' => ?_) AllReadyH.nil
      go_simp
      refine (add_any (w := u1) (q := q) (pw f h k l j) (h * x + k * y + l * z) fa _ ⟨by omega, by omega⟩ hlt12 hpm ⟨by omega, by omega⟩ b2 hget).mono ?_
      rintro e u2 ⟨rfl, dd, rfl⟩
      try go_wp2_with fail
      have A5 : At 55 ((u1.setCell ⟨q, pw f h k l j, none⟩ (.int .i64 (cnt (amt f) (pw f h k l) j (pw f h k l j) + fa))).drewN dd) wr.heap.size #[.int .i64 x, .int .i64 y, .int .i64 z, .int .i64 fa] := a5.setOther (by omega) _
      have B0 : At 37 ((u1.setCell ⟨q, pw f h k l j, none⟩ (.int .i64 (cnt (amt f) (pw f h k l) j (pw f h k l j) + fa))).drewN dd) w.heap.size #[.int .i64 h, .int .i64 k, .int .i64 l] := b0.setOther (by omega) _
      have B1 : At 24 ((u1.setCell ⟨q, pw f h k l j, none⟩ (.int .i64 (cnt (amt f) (pw f h k l) j (pw f h k l j) + fa))).drewN dd) (w.heap.size + 1) #[.int .i64 0, .int .i64 0, .int .i64 0, .int .i64 0] := b1.setOther (by omega) _
      have B2 : At 66 ((u1.setCell ⟨q, pw f h k l j, none⟩ (.int .i64 (cnt (amt f) (pw f h k l) j (pw f h k l j) + fa))).drewN dd) q (a12 (cnt (amt f) (pw f h k l) (j + 1))) := by
        have := b2.set (pw f h k l j) (.int .i64 (cnt (amt f) (pw f h k l) j (pw f h k l j) + fa))
        rw [hset] at this
        exact this
      have L' : Quads ((u1.setCell ⟨q, pw f h k l j, none⟩ (.int .i64 (cnt (amt f) (pw f h k l) j (pw f h k l j) + fa))).drewN dd) g n f := quads_set L (by omega) _ dd
      have T' : Tab ((u1.setCell ⟨q, pw f h k l j, none⟩ (.int .i64 (cnt (amt f) (pw f h k l) j (pw f h k l j) + fa))).drewN dd) := tab_set t (by omega) _
      have W' : Below w.heap.size w ((u1.setCell ⟨q, pw f h k l j, none⟩ (.int .i64 (cnt (amt f) (pw f h k l) j (pw f h k l j) + fa))).drewN dd) := below_drewN (bW.setCell (by show _ ≤ q; omega) _) _
      clear b0 b1 b2 a5 L t bW hset hcn hget hHeld
      generalize (u1.setCell ⟨q, pw f h k l j, none⟩ (.int .i64 (cnt (amt f) (pw f h k l) j (pw f h k l j) + fa))).drewN dd = u3 at *
      refine hK'.out _ _ (rd_of A5 B0) (fun hHeld => ?_)
      clear hK' KK hHeld A5
      try simp only [List.setIfInBounds_toArray, List.set_cons_zero, List.set_cons_succ]
      refine wpAnyH_done (by kernel_rfl) ?_ _
      go_wp2
      exact ⟨⟨j + 1, by omega, by go_num, B2, B1, B0, L', T', W'⟩, by simp [intOf]; omega⟩
    · have hlt' : ¬ (j : Int) < (n : Int) := by omega
      obtain rfl : j = n := by omega
      obtain ⟨fn, fs⟩ := cnt_fits (B := 1000) (amt f) (pw f h k l) j (by omega) (by decide) (by decide) (fun i hi => (aOk_in (hok' i hi)).2.2.2)
      have C := fun (w' : World) (h' : Tab w') => cyc_any (w := w') (cnt (amt f) (pw f h k l) j) h' fn fs
      have cs := fun i => cnt_sum (amt f) (pw f h k l) i j (fun i _ => pw_lt f h k l i)
      rw [cs 0, cs 1, cs 2, cs 3] at C
      clear cs fn fs
      have g0 := b2.cell 0 (a12_get (cnt (amt f) (pw f h k l) j) 0 (by decide))
      have g1 := b2.cell 1 (a12_get (cnt (amt f) (pw f h k l) j) 1 (by decide))
      have g2 := b2.cell 2 (a12_get (cnt (amt f) (pw f h k l) j) 2 (by decide))
      have g3 := b2.cell 3 (a12_get (cnt (amt f) (pw f h k l) j) 3 (by decide))
      have g4 := b2.cell 4 (a12_get (cnt (amt f) (pw f h k l) j) 4 (by decide))
      have g5 := b2.cell 5 (a12_get (cnt (amt f) (pw f h k l) j) 5 (by decide))
      have g6 := b2.cell 6 (a12_get (cnt (amt f) (pw f h k l) j) 6 (by decide))
      have g7 := b2.cell 7 (a12_get (cnt (amt f) (pw f h k l) j) 7 (by decide))
      have g8 := b2.cell 8 (a12_get (cnt (amt f) (pw f h k l) j) 8 (by decide))
      have g9 := b2.cell 9 (a12_get (cnt (amt f) (pw f h k l) j) 9 (by decide))
      have g10 := b2.cell 10 (a12_get (cnt (amt f) (pw f h k l) j) 10 (by decide))
      have g11 := b2.cell 11 (a12_get (cnt (amt f) (pw f h k l) j) 11 (by decide))
      go_wp2_with (fail)
      refine (C _ t).mono ?_
      rintro e w5 ⟨rfl, hb5⟩
      replace b1 := b1.below hb5
      replace bW := bW.trans (hb5.mono bW.size)
      clear hb5 C g0 g1 g2 g3 g4 g5 g6 g7 g8 g9 g10 g11 b2 t
      obtain ⟨d0, d1, d2, d3, f0, f1, f2, f3⟩ := b1.open4
      go_wp2
      all_goals first
        | contradiction
        | (obtain ⟨p0, p1, p2, p3, -⟩ := (put4_at b1 (.int .i64 (es (amt f) (pw f h k l) 0 j)) (.int .i64 (es (amt f) (pw f h k l) 1 j)) (.int .i64 (es (amt f) (pw f h k l) 2 j)) (.int .i64 (es (amt f) (pw f h k l) 3 j))).open4
           exact bodyPost_ret (v := .tuple #[cV (es (amt f) (pw f h k l) 0 j) (es (amt f) (pw f h k l) 1 j) (es (amt f) (pw f h k l) 2 j) (es (amt f) (pw f h k l) 3 j), .bool true]) (by simp [results, Tryd.results26, go_sem, p0, p1, p2, p3]) rfl ⟨rfl, below_put4 bW (by omega) _ _ _ _⟩)
end Go.Proofs.YtmpakpdbkojkaaaDoor
