/-
  Structure factors by the specification: walked.
-/
import Derived.Test.YtmpakpdbkojkaaaDoorEf
namespace Go.Proofs.YtmpakpdbkojkaaaDoor
open Go.RowKit

/-- The cells of a reflection's box and of the places of atom j. -/
def Rd3 (qh g j : Nat) (x y z h k l : Int) (w : World) : Prop :=
  (w.cell? ⟨qh, 0, none⟩ = some (.int .i64 h) ∧ w.cell? ⟨qh, 1, none⟩ = some (.int .i64 k) ∧ w.cell? ⟨qh, 2, none⟩ = some (.int .i64 l)) ∧
  (w.cell? ⟨g, j * 4, none⟩ = some (.int .i64 x) ∧ w.cell? ⟨g, j * 4 + 1, none⟩ = some (.int .i64 y) ∧ w.cell? ⟨g, j * 4 + 2, none⟩ = some (.int .i64 z))
theorem rd3_of {u : TypeId} {w : World} {qh g n j : Nat} {f : Nat → Int} {x y z h k l : Int} (b : At u w qh #[.int .i64 h, .int .i64 k, .int .i64 l]) (L : Quads w g n f) (hj : j < n) (hx : f (j * 4) = x) (hy : f (j * 4 + 1) = y) (hz : f (j * 4 + 2) = z) : Rd3 qh g j x y z h k l w := by
  obtain ⟨b0, b1, b2, -⟩ := b.open3
  obtain ⟨a0, a1, a2, -⟩ := L.open j hj
  rw [hx] at a0
  rw [hy] at a1
  rw [hz] at a2
  exact ⟨⟨b0, b1, b2⟩, a0, a1, a2⟩
/-- What the loop keeps: the sum so far, the answer's box, the reflection, the atoms. -/
def Fr (w : World) (q g n : Nat) (f : Nat → Int) (h k l s0 s1 s2 s3 : Int) (wr : World) : Prop :=
  At 24 wr q #[.int .i64 s0, .int .i64 s1, .int .i64 s2, .int .i64 s3] ∧ At 24 wr (w.heap.size + 1) #[.int .i64 0, .int .i64 0, .int .i64 0, .int .i64 0] ∧ At 37 wr w.heap.size #[.int .i64 h, .int .i64 k, .int .i64 l] ∧ Quads wr g n f ∧ Below w.heap.size w wr
theorem Fr.below {w wr wr' : World} {q g n : Nat} {f : Nat → Int} {h k l s0 s1 s2 s3 : Int} (F : Fr w q g n f h k l s0 s1 s2 s3 wr) (b : Below wr.heap.size wr wr') : Fr w q g n f h k l s0 s1 s2 s3 wr' := by
  obtain ⟨f1, f2, f3, f4, f5⟩ := F
  exact ⟨f1.below b, f2.below b, f3.below b, f4.below b, f5.trans (b.mono f5.size)⟩
theorem Fr.lt {w wr : World} {q g n : Nat} {f : Nat → Int} {h k l s0 s1 s2 s3 : Int} (F : Fr w q g n f h k l s0 s1 s2 s3 wr) : q < wr.heap.size ∧ w.heap.size + 1 < wr.heap.size ∧ g < wr.heap.size := ⟨F.1.lt, F.2.1.lt, F.2.2.2.1.1⟩
theorem Quads.setOther {w : World} {g n q i : Nat} {f : Nat → Int} (h : Quads w g n f) (hq : g ≠ q) (v : Value) : Quads (w.setCell ⟨q, i, none⟩ v) g n f :=
  ⟨by simpa [World.setCell] using h.1, fun j hj => (World.cell?_of_block (w := w) (Below.heap_setCell _ _ _ _ hq)).trans (h.2 j hj)⟩
theorem Fr.set {w wr : World} {q g n p i : Nat} {f : Nat → Int} {h k l s0 s1 s2 s3 : Int} (F : Fr w q g n f h k l s0 s1 s2 s3 wr) (h1 : q ≠ p) (h2 : w.heap.size + 1 < p) (h3 : g ≠ p) (v : Value) : Fr w q g n f h k l s0 s1 s2 s3 (wr.setCell ⟨p, i, none⟩ v) := by
  obtain ⟨f1, f2, f3, f4, f5⟩ := F
  exact ⟨f1.setOther h1 v, f2.setOther (by omega) v, f3.setOther (by omega) v, f4.setOther h3 v, f5.setCell (by show _ ≤ p; omega) v⟩
/-- A new box is filled. -/
theorem Fr.fill {w wr : World} {q g n p : Nat} {f : Nat → Int} {h k l s0 s1 s2 s3 : Int} {t : TypeId} {u0 u1 u2 u3 : Value} (F : Fr w q g n f h k l s0 s1 s2 s3 wr) (h1 : q < p) (h2 : w.heap.size + 1 < p) (h3 : g < p) (rb : At t wr p #[u0, u1, u2, u3]) (v0 v1 v2 v3 : Value) :
    ∃ u, (((wr.setCell ⟨p, 0, none⟩ v0).setCell ⟨p, 1, none⟩ v1).setCell ⟨p, 2, none⟩ v2).setCell ⟨p, 3, none⟩ v3 = u ∧ At t u p #[v0, v1, v2, v3] ∧ Fr w q g n f h k l s0 s1 s2 s3 u :=
  ⟨_, rfl, put4_at rb _ _ _ _, (((F.set (by omega) h2 (by omega) _).set (by omega) h2 (by omega) _).set (by omega) h2 (by omega) _).set (by omega) h2 (by omega) _⟩
/-- The sum's own box is filled. -/
theorem Fr.next {w wr : World} {q g n : Nat} {f : Nat → Int} {h k l s0 s1 s2 s3 : Int} (F : Fr w q g n f h k l s0 s1 s2 s3 wr) (h2 : w.heap.size + 1 < q) (h3 : g ≠ q) (r0 r1 r2 r3 : Int) :
    Fr w q g n f h k l r0 r1 r2 r3 ((((wr.setCell ⟨q, 0, none⟩ (.int .i64 r0)).setCell ⟨q, 1, none⟩ (.int .i64 r1)).setCell ⟨q, 2, none⟩ (.int .i64 r2)).setCell ⟨q, 3, none⟩ (.int .i64 r3)) := by
  obtain ⟨f1, f2, f3, f4, f5⟩ := F
  exact ⟨put4_at f1 _ _ _ _, (((f2.setOther (by omega) _).setOther (by omega) _).setOther (by omega) _).setOther (by omega) _, (((f3.setOther (by omega) _).setOther (by omega) _).setOther (by omega) _).setOther (by omega) _, (((f4.setOther h3 _).setOther h3 _).setOther h3 _).setOther h3 _, below_put4 f5 (by omega) _ _ _ _⟩
set_option maxRecDepth 100000 in
set_option maxHeartbeats 3200000 in
theorem specExact_no {w : World} {g n c : Nat} {f : Nat → Int} (h k l : Int) (hq : Quads w g n f) (hn : n ≤ 1048576) (b : Bool) (hb : b = true ↔ AOk n f) (hno : (b && hOk h k l) = false) :
    Calls Tryd.prog 23 #[.slice (some ⟨g, 0, none⟩) n c, hV h k l] w fun e w' => e = .returned (.tuple #[cV 0 0 0 0, .bool false]) ∧ Below w.heap.size w w' := by
  obtain ⟨W, hW, b0, b1, bW, sW⟩ := boxed2 w 37 24 #[.int .i64 h, .int .i64 k, .int .i64 l] #[.int .i64 0, .int .i64 0, .int .i64 0, .int .i64 0]
  have L := hq.below bW
  go_enter Tryd.func23, Tryd.ntmps23
  go_wp2_with fail
  refine (specAtoms_any L hn b hb).mono ?_
  rintro e w2 ⟨rfl, hb2⟩
  replace b0 := b0.below hb2
  replace b1 := b1.below hb2
  replace L := L.below hb2
  have sz2 := Nat.lt_of_lt_of_le sW hb2.size
  replace bW := bW.trans (hb2.mono bW.size)
  clear hb2 hW sW
  cases b
  · clear hno hb L
    obtain ⟨d0, d1, d2, d3, f0, f1, f2, f3⟩ := b1.open4
    go_wp2
    all_goals first
      | contradiction
      | (obtain ⟨p0, p1, p2, p3, -⟩ := (put4_at b1 (.int .i64 0) (.int .i64 0) (.int .i64 0) (.int .i64 0)).open4
         exact bodyPost_ret (v := .tuple #[cV 0 0 0 0, .bool false]) (by simp [results, Tryd.results23, go_sem, p0, p1, p2, p3]) rfl ⟨rfl, below_put4 bW (by omega) _ _ _ _⟩)
  · have hh : hOk h k l = false := hno
    clear hno hb
    obtain ⟨e0, e1, e2, -⟩ := b0.open3
    go_wp2_with fail
    refine (l5Hkl_any _ _ _ _).mono ?_
    rintro e w3 ⟨rfl, hb3⟩
    replace b0 := b0.below hb3
    replace b1 := b1.below hb3
    replace L := L.below hb3
    replace sz2 := Nat.lt_of_lt_of_le sz2 hb3.size
    replace bW := bW.trans (hb3.mono bW.size)
    clear hb3 e0 e1 e2
    rw [hh]
    obtain ⟨d0, d1, d2, d3, f0, f1, f2, f3⟩ := b1.open4
    go_wp2
    all_goals first
      | contradiction
      | (obtain ⟨p0, p1, p2, p3, -⟩ := (put4_at b1 (.int .i64 0) (.int .i64 0) (.int .i64 0) (.int .i64 0)).open4
         exact bodyPost_ret (v := .tuple #[cV 0 0 0 0, .bool false]) (by simp [results, Tryd.results23, go_sem, p0, p1, p2, p3]) rfl ⟨rfl, below_put4 bW (by omega) _ _ _ _⟩)
set_option maxRecDepth 100000 in
set_option maxHeartbeats 3200000 in
theorem specExact_yes {w : World} {g n c : Nat} {f : Nat → Int} (h k l : Int) (hq : Quads w g n f) (hok : AOk n f) (hh : hOk h k l = true) :
    Calls Tryd.prog 23 #[.slice (some ⟨g, 0, none⟩) n c, hV h k l] w fun e w' => e = .returned (.tuple #[cV (es (amt f) (pw f h k l) 0 n) (es (amt f) (pw f h k l) 1 n) (es (amt f) (pw f h k l) 2 n) (es (amt f) (pw f h k l) 3 n), .bool true]) ∧ Below w.heap.size w w' := by
  obtain ⟨hn2, hok'⟩ := hok
  obtain ⟨i1, i2, i3⟩ := hOk_in hh
  have hgl := hq.1
  obtain ⟨W, hW, b0, b1, bW, sW⟩ := boxed2 w 37 24 #[.int .i64 h, .int .i64 k, .int .i64 l] #[.int .i64 0, .int .i64 0, .int .i64 0, .int .i64 0]
  have L := hq.below bW
  go_enter Tryd.func23, Tryd.ntmps23
  go_wp2_with fail
  refine (specAtoms_any L (by omega) true (by simp only [AOk, true_iff]; exact ⟨hn2, hok'⟩)).mono ?_
  rintro e w2 ⟨rfl, hb2⟩
  replace b0 := b0.below hb2
  replace b1 := b1.below hb2
  replace L := L.below hb2
  have sz2 := Nat.lt_of_lt_of_le sW hb2.size
  replace bW := bW.trans (hb2.mono bW.size)
  clear hb2 hW sW
  obtain ⟨e0, e1, e2, -⟩ := b0.open3
  go_wp2_with fail
  refine (l5Hkl_any _ _ _ _).mono ?_
  rintro e w3 ⟨rfl, hb3⟩
  replace b0 := b0.below hb3
  replace b1 := b1.below hb3
  replace L := L.below hb3
  replace sz2 := Nat.lt_of_lt_of_le sz2 hb3.size
  replace bW := bW.trans (hb3.mono bW.size)
  clear hb3 e0 e1 e2
  rw [hh]
  go_wp2
  obtain ⟨W4, hW4, b2, bW4, -⟩ := boxed w3 24 #[.int .i64 0, .int .i64 0, .int .i64 0, .int .i64 0]
  rw [hW4]
  replace b0 := b0.below bW4
  replace b1 := b1.below bW4
  replace L := L.below bW4
  replace bW := bW.trans (bW4.mono bW.size)
  obtain ⟨q, hq'⟩ : ∃ q, w3.heap.size = q := ⟨_, rfl⟩
  rw [hq'] at b2 sz2 ⊢
  clear bW4 hq' hq hW4
  have F : Fr w q g n f h k l 0 0 0 0 W4 := ⟨b2, b1, b0, L, bW⟩
  have hq0 : w.heap.size + 1 < q := sz2
  clear b0 b1 b2 L bW sz2
  go_loopw [7] (fun s wr => ∃ j : Nat, j ≤ n ∧ s = .int .i64 j ∧ Fr w q g n f h k l (es (amt f) (pw f h k l) 0 j) (es (amt f) (pw f h k l) 1 j) (es (amt f) (pw f h k l) 2 j) (es (amt f) (pw f h k l) 3 j) wr) (fun s _ => n - (intOf s).toNat)
  case atStart => exact ⟨0, Nat.zero_le _, rfl, F⟩
  case round =>
    clear F
    obtain ⟨j, hj, rfl, F⟩ := hrel
    by_cases hlt : j < n
    · have hlt' : (j : Int) < (n : Int) := by omega
      obtain ⟨o1, o2, o3, o4⟩ := aOk_in (hok' j hlt)
      obtain ⟨p1, p2, p3⟩ := power_num o1 o2 o3 i1 i2 i3
      have hpm := pw_eq f h k l j
      have hlt12 := pw_lt f h k l j
      have R := fun w => specRoot_any (h * f (j * 4) + k * f (j * 4 + 1) + l * f (j * 4 + 2)) ⟨by omega, by omega⟩ (pw f h k l j) hlt12 hpm w
      obtain ⟨x, hx⟩ : ∃ x, f (j * 4) = x := ⟨_, rfl⟩
      obtain ⟨y, hy⟩ : ∃ x, f (j * 4 + 1) = x := ⟨_, rfl⟩
      obtain ⟨z, hz⟩ : ∃ x, f (j * 4 + 2) = x := ⟨_, rfl⟩
      rw [hx] at p1 R
      rw [hy] at p2 R
      rw [hz] at p3 R
      have k1 : IntKind.i64.wrap (h * x) = h * x := by rw [IntKind.wrap_i64]; omega
      have k2 : IntKind.i64.wrap (k * y) = k * y := by rw [IntKind.wrap_i64]; omega
      have k3 : IntKind.i64.wrap (l * z) = l * z := by rw [IntKind.wrap_i64]; omega
      have k4 : IntKind.i64.wrap (h * x + k * y) = h * x + k * y := by rw [IntKind.wrap_i64]; omega
      have k5 : IntKind.i64.wrap (h * x + k * y + l * z) = h * x + k * y + l * z := by rw [IntKind.wrap_i64]; omega
      clear hpm
      go_wp2_with fail
      obtain ⟨u0, hu0, bb⟩ : ∃ u0, wr.drew = u0 ∧ Below wr.heap.size wr u0 := ⟨_, rfl, (Below.refl _ _).drew⟩
      replace F := F.below bb
      clear bb
      refine wp_region_held_drew (S := Rd3 w.heap.size g j x y z h k l) (by kernel_rfl) (by rw [hu0]; exact rd3_of F.2.2.1 F.2.2.2.1 hlt hx hy hz) (fun hHeld => ?_)
      rw [hu0] at hHeld ⊢
      clear hu0
      change wpAnyH _ _ _ _ _ 29 #[false, false, false, false, false, false, false, false, false, false, false, false, false, false, false, false, false, false, false, false, false, false, false, false, false, false, false, false, false] _ _
      refine wpAnyH_take (i := 0) (v := .pointer (some ⟨w.heap.size, 0, none⟩)) rfl (by kernel_rfl) (by kernel_rfl) (by kernel_rfl) (fun _ _ _ h => h) (Or.inl ⟨by kernel_rfl, ?_⟩) hHeld ?_
      · intro w' hSw; go_simp
      try simp only [Act.put, List.setIfInBounds_toArray, List.set_cons_zero, List.set_cons_succ, List.getElem_toArray, List.getElem_cons_zero]
      refine wpAnyH_take (i := 1) (v := .int .i64 h) rfl (by kernel_rfl) (by kernel_rfl) (by kernel_rfl) (fun _ _ _ h => h) (Or.inl ⟨by kernel_rfl, ?_⟩) hHeld ?_
      · intro w' hSw; obtain ⟨⟨z0, z1, z2⟩, -⟩ := hSw; go_simp
      try simp only [Act.put, List.setIfInBounds_toArray, List.set_cons_zero, List.set_cons_succ, List.getElem_toArray, List.getElem_cons_succ, List.getElem_cons_zero]
      refine wpAnyH_take (i := 2) (v := .slice (some ⟨g, 0, none⟩) n c) rfl (by kernel_rfl) (by kernel_rfl) (by kernel_rfl) (fun _ _ _ h => h) (Or.inl ⟨by kernel_rfl, ?_⟩) hHeld ?_
      · intro w' hSw; go_simp
      try simp only [Act.put, List.setIfInBounds_toArray, List.set_cons_zero, List.set_cons_succ, List.getElem_toArray, List.getElem_cons_succ, List.getElem_cons_zero]
      refine wpAnyH_take (i := 3) (v := .int .i64 (j : Int)) rfl (by kernel_rfl) (by kernel_rfl) (by kernel_rfl) (fun _ _ _ h => h) (Or.inl ⟨by kernel_rfl, ?_⟩) hHeld ?_
      · intro w' hSw; go_simp
      try simp only [Act.put, List.setIfInBounds_toArray, List.set_cons_zero, List.set_cons_succ, List.getElem_toArray, List.getElem_cons_succ, List.getElem_cons_zero]
      refine wpAnyH_take (i := 4) (v := .pointer (some ⟨g, j * 4, none⟩)) rfl (by kernel_rfl) (by kernel_rfl) (by kernel_rfl) (fun _ _ _ h => h) (Or.inl ⟨by kernel_rfl, ?_⟩) hHeld ?_
      · intro w' hSw; go_simp
      try simp only [Act.put, List.setIfInBounds_toArray, List.set_cons_zero, List.set_cons_succ, List.getElem_toArray, List.getElem_cons_succ, List.getElem_cons_zero]
      refine wpAnyH_take (i := 5) (v := .pointer (some ⟨g, j * 4, none⟩)) rfl (by kernel_rfl) (by kernel_rfl) (by kernel_rfl) (fun _ _ _ h => h) (Or.inl ⟨by kernel_rfl, ?_⟩) hHeld ?_
      · intro w' hSw; go_simp
      try simp only [Act.put, List.setIfInBounds_toArray, List.set_cons_zero, List.set_cons_succ, List.getElem_toArray, List.getElem_cons_succ, List.getElem_cons_zero]
      refine wpAnyH_take (i := 6) (v := .int .i64 x) rfl (by kernel_rfl) (by kernel_rfl) (by kernel_rfl) (fun _ _ _ h => h) (Or.inl ⟨by kernel_rfl, ?_⟩) hHeld ?_
      · intro w' hSw; obtain ⟨-, z0, z1, z2⟩ := hSw; go_simp
      try simp only [Act.put, List.setIfInBounds_toArray, List.set_cons_zero, List.set_cons_succ, List.getElem_toArray, List.getElem_cons_succ, List.getElem_cons_zero]
      refine wpAnyH_take (i := 7) (v := .int .i64 (h * x)) rfl (by kernel_rfl) (by kernel_rfl) (by kernel_rfl) (fun _ _ _ h => h) (Or.inl ⟨by kernel_rfl, ?_⟩) hHeld ?_
      · intro w' hSw; go_simp
      try simp only [Act.put, List.setIfInBounds_toArray, List.set_cons_zero, List.set_cons_succ, List.getElem_toArray, List.getElem_cons_succ, List.getElem_cons_zero]
      refine wpAnyH_take (i := 8) (v := .pointer (some ⟨w.heap.size, 1, none⟩)) rfl (by kernel_rfl) (by kernel_rfl) (by kernel_rfl) (fun _ _ _ h => h) (Or.inl ⟨by kernel_rfl, ?_⟩) hHeld ?_
      · intro w' hSw; go_simp
      try simp only [Act.put, List.setIfInBounds_toArray, List.set_cons_zero, List.set_cons_succ, List.getElem_toArray, List.getElem_cons_succ, List.getElem_cons_zero]
      refine wpAnyH_take (i := 9) (v := .int .i64 k) rfl (by kernel_rfl) (by kernel_rfl) (by kernel_rfl) (fun _ _ _ h => h) (Or.inl ⟨by kernel_rfl, ?_⟩) hHeld ?_
      · intro w' hSw; obtain ⟨⟨z0, z1, z2⟩, -⟩ := hSw; go_simp
      try simp only [Act.put, List.setIfInBounds_toArray, List.set_cons_zero, List.set_cons_succ, List.getElem_toArray, List.getElem_cons_succ, List.getElem_cons_zero]
      refine wpAnyH_take (i := 10) (v := .slice (some ⟨g, 0, none⟩) n c) rfl (by kernel_rfl) (by kernel_rfl) (by kernel_rfl) (fun _ _ _ h => h) (Or.inl ⟨by kernel_rfl, ?_⟩) hHeld ?_
      · intro w' hSw; go_simp
      try simp only [Act.put, List.setIfInBounds_toArray, List.set_cons_zero, List.set_cons_succ, List.getElem_toArray, List.getElem_cons_succ, List.getElem_cons_zero]
      refine wpAnyH_take (i := 11) (v := .int .i64 (j : Int)) rfl (by kernel_rfl) (by kernel_rfl) (by kernel_rfl) (fun _ _ _ h => h) (Or.inl ⟨by kernel_rfl, ?_⟩) hHeld ?_
      · intro w' hSw; go_simp
      try simp only [Act.put, List.setIfInBounds_toArray, List.set_cons_zero, List.set_cons_succ, List.getElem_toArray, List.getElem_cons_succ, List.getElem_cons_zero]
      refine wpAnyH_take (i := 12) (v := .pointer (some ⟨g, j * 4, none⟩)) rfl (by kernel_rfl) (by kernel_rfl) (by kernel_rfl) (fun _ _ _ h => h) (Or.inl ⟨by kernel_rfl, ?_⟩) hHeld ?_
      · intro w' hSw; go_simp
      try simp only [Act.put, List.setIfInBounds_toArray, List.set_cons_zero, List.set_cons_succ, List.getElem_toArray, List.getElem_cons_succ, List.getElem_cons_zero]
      refine wpAnyH_take (i := 13) (v := .pointer (some ⟨g, j * 4 + 1, none⟩)) rfl (by kernel_rfl) (by kernel_rfl) (by kernel_rfl) (fun _ _ _ h => h) (Or.inl ⟨by kernel_rfl, ?_⟩) hHeld ?_
      · intro w' hSw; go_simp
      try simp only [Act.put, List.setIfInBounds_toArray, List.set_cons_zero, List.set_cons_succ, List.getElem_toArray, List.getElem_cons_succ, List.getElem_cons_zero]
      refine wpAnyH_take (i := 14) (v := .int .i64 y) rfl (by kernel_rfl) (by kernel_rfl) (by kernel_rfl) (fun _ _ _ h => h) (Or.inl ⟨by kernel_rfl, ?_⟩) hHeld ?_
      · intro w' hSw; obtain ⟨-, z0, z1, z2⟩ := hSw; go_simp
      try simp only [Act.put, List.setIfInBounds_toArray, List.set_cons_zero, List.set_cons_succ, List.getElem_toArray, List.getElem_cons_succ, List.getElem_cons_zero]
      refine wpAnyH_take (i := 15) (v := .int .i64 (k * y)) rfl (by kernel_rfl) (by kernel_rfl) (by kernel_rfl) (fun _ _ _ h => h) (Or.inl ⟨by kernel_rfl, ?_⟩) hHeld ?_
      · intro w' hSw; go_simp
      try simp only [Act.put, List.setIfInBounds_toArray, List.set_cons_zero, List.set_cons_succ, List.getElem_toArray, List.getElem_cons_succ, List.getElem_cons_zero]
      refine wpAnyH_take (i := 16) (v := .int .i64 (h * x + k * y)) rfl (by kernel_rfl) (by kernel_rfl) (by kernel_rfl) (fun _ _ _ h => h) (Or.inl ⟨by kernel_rfl, ?_⟩) hHeld ?_
      · intro w' hSw; go_simp
      try simp only [Act.put, List.setIfInBounds_toArray, List.set_cons_zero, List.set_cons_succ, List.getElem_toArray, List.getElem_cons_succ, List.getElem_cons_zero]
      refine wpAnyH_take (i := 17) (v := .pointer (some ⟨w.heap.size, 2, none⟩)) rfl (by kernel_rfl) (by kernel_rfl) (by kernel_rfl) (fun _ _ _ h => h) (Or.inl ⟨by kernel_rfl, ?_⟩) hHeld ?_
      · intro w' hSw; go_simp
      try simp only [Act.put, List.setIfInBounds_toArray, List.set_cons_zero, List.set_cons_succ, List.getElem_toArray, List.getElem_cons_succ, List.getElem_cons_zero]
      refine wpAnyH_take (i := 18) (v := .int .i64 l) rfl (by kernel_rfl) (by kernel_rfl) (by kernel_rfl) (fun _ _ _ h => h) (Or.inl ⟨by kernel_rfl, ?_⟩) hHeld ?_
      · intro w' hSw; obtain ⟨⟨z0, z1, z2⟩, -⟩ := hSw; go_simp
      try simp only [Act.put, List.setIfInBounds_toArray, List.set_cons_zero, List.set_cons_succ, List.getElem_toArray, List.getElem_cons_succ, List.getElem_cons_zero]
      refine wpAnyH_take (i := 19) (v := .slice (some ⟨g, 0, none⟩) n c) rfl (by kernel_rfl) (by kernel_rfl) (by kernel_rfl) (fun _ _ _ h => h) (Or.inl ⟨by kernel_rfl, ?_⟩) hHeld ?_
      · intro w' hSw; go_simp
      try simp only [Act.put, List.setIfInBounds_toArray, List.set_cons_zero, List.set_cons_succ, List.getElem_toArray, List.getElem_cons_succ, List.getElem_cons_zero]
      refine wpAnyH_take (i := 20) (v := .int .i64 (j : Int)) rfl (by kernel_rfl) (by kernel_rfl) (by kernel_rfl) (fun _ _ _ h => h) (Or.inl ⟨by kernel_rfl, ?_⟩) hHeld ?_
      · intro w' hSw; go_simp
      try simp only [Act.put, List.setIfInBounds_toArray, List.set_cons_zero, List.set_cons_succ, List.getElem_toArray, List.getElem_cons_succ, List.getElem_cons_zero]
      refine wpAnyH_take (i := 21) (v := .pointer (some ⟨g, j * 4, none⟩)) rfl (by kernel_rfl) (by kernel_rfl) (by kernel_rfl) (fun _ _ _ h => h) (Or.inl ⟨by kernel_rfl, ?_⟩) hHeld ?_
      · intro w' hSw; go_simp
      try simp only [Act.put, List.setIfInBounds_toArray, List.set_cons_zero, List.set_cons_succ, List.getElem_toArray, List.getElem_cons_succ, List.getElem_cons_zero]
      refine wpAnyH_take (i := 22) (v := .pointer (some ⟨g, j * 4 + 2, none⟩)) rfl (by kernel_rfl) (by kernel_rfl) (by kernel_rfl) (fun _ _ _ h => h) (Or.inl ⟨by kernel_rfl, ?_⟩) hHeld ?_
      · intro w' hSw; go_simp
      try simp only [Act.put, List.setIfInBounds_toArray, List.set_cons_zero, List.set_cons_succ, List.getElem_toArray, List.getElem_cons_succ, List.getElem_cons_zero]
      refine wpAnyH_take (i := 23) (v := .int .i64 z) rfl (by kernel_rfl) (by kernel_rfl) (by kernel_rfl) (fun _ _ _ h => h) (Or.inl ⟨by kernel_rfl, ?_⟩) hHeld ?_
      · intro w' hSw; obtain ⟨-, z0, z1, z2⟩ := hSw; go_simp
      try simp only [Act.put, List.setIfInBounds_toArray, List.set_cons_zero, List.set_cons_succ, List.getElem_toArray, List.getElem_cons_succ, List.getElem_cons_zero]
      refine wpAnyH_take (i := 24) (v := .int .i64 (l * z)) rfl (by kernel_rfl) (by kernel_rfl) (by kernel_rfl) (fun _ _ _ h => h) (Or.inl ⟨by kernel_rfl, ?_⟩) hHeld ?_
      · intro w' hSw; go_simp
      try simp only [Act.put, List.setIfInBounds_toArray, List.set_cons_zero, List.set_cons_succ, List.getElem_toArray, List.getElem_cons_succ, List.getElem_cons_zero]
      refine wpAnyH_take (i := 25) (v := .int .i64 (h * x + k * y + l * z)) rfl (by kernel_rfl) (by kernel_rfl) (by kernel_rfl) (fun _ _ _ h => h) (Or.inl ⟨by kernel_rfl, ?_⟩) hHeld ?_
      · intro w' hSw; go_simp
      try simp only [Act.put, List.setIfInBounds_toArray, List.set_cons_zero, List.set_cons_succ, List.getElem_toArray, List.getElem_cons_succ, List.getElem_cons_zero]
      refine wpAnyH_ready (rs := [26, 27]) (by kernel_rfl) (by simp) ?_
      refine AllReadyH.cons rfl (fun KK hK' => ?_) (AllReadyH.cons rfl (fun KK hK' => ?_) AllReadyH.nil)
      · go_simp
        refine (R _).mono ?_
        rintro e u1 ⟨rfl, bb⟩
        replace F := F.below bb
        clear bb
        try go_wp2_with fail
        clear hHeld
        refine hK'.out _ _ (rd3_of F.2.2.1 F.2.2.2.1 hlt hx hy hz) (fun hHeld => ?_)
        clear hK' KK
        try simp only [List.setIfInBounds_toArray, List.set_cons_zero, List.set_cons_succ]
        refine wpAnyH_ready (rs := [27]) (by kernel_rfl) (by simp) ?_
        refine AllReadyH.cons rfl (fun KK hK' => ?_) AllReadyH.nil
        go_simp
        have lp := F.lt
        obtain ⟨V, hV, rb, bb, -⟩ := boxed u1 24 #[.int .i64 0, .int .i64 0, .int .i64 0, .int .i64 0]
        rw [hV]
        replace F := F.below bb
        clear bb hV
        generalize u1.heap.size = p at *
        clear hHeld
        refine hK'.out _ _ (rd3_of F.2.2.1 F.2.2.2.1 hlt hx hy hz) (fun hHeld => ?_)
        clear hK' KK
        try simp only [List.setIfInBounds_toArray, List.set_cons_zero, List.set_cons_succ]
        refine wpAnyH_ready (rs := [28]) (by kernel_rfl) (by simp) ?_
        refine AllReadyH.cons rfl (fun KK hK' => ?_) AllReadyH.nil
        obtain ⟨y0, y1, y2, y3, g0, g1, g2, g3⟩ := rb.open4
        go_simp
        obtain ⟨u3, hu3, rb3, F3⟩ := F.fill lp.1 lp.2.1 lp.2.2 rb (.int .i64 (rp (pw f h k l j * 4))) (.int .i64 (rp (pw f h k l j * 4 + 1))) (.int .i64 (rp (pw f h k l j * 4 + 2))) (.int .i64 (rp (pw f h k l j * 4 + 3)))
        rw [hu3]
        clear hu3 F rb y0 y1 y2 y3 g0 g1 g2 g3
        have F := F3
        clear F3
        clear hHeld
        refine hK'.out _ _ (rd3_of F.2.2.1 F.2.2.2.1 hlt hx hy hz) (fun hHeld => ?_)
        clear hK' KK
        try simp only [List.setIfInBounds_toArray, List.set_cons_zero, List.set_cons_succ]
        refine wpAnyH_done (by kernel_rfl) ?_ _
        obtain ⟨c0, c1, c2, c3⟩ := F.2.2.2.1.open j hlt
        have hlg := F.lt.2.2
        clear hHeld R k1 k2 k3 k4 k5 c0 c1 c2
        obtain ⟨y0, y1, y2, y3, g0, g1, g2, g3⟩ := F.1.open4
        obtain ⟨v0, v1, v2, v3, -⟩ := rb3.open4
        have F' : Hid (Fr w q g n f h k l _ _ _ _ u3) := F
        clear F rb3
        obtain ⟨s0, hs0⟩ : ∃ s, es (amt f) (pw f h k l) 0 j = s := ⟨_, rfl⟩
        obtain ⟨r0, hr0⟩ : ∃ r, rp (pw f h k l j * 4) = r := ⟨_, rfl⟩
        have bs0 := es_num (B := 1000) (amt f) (pw f h k l) 0 (by decide) j (fun i _ => pw_lt f h k l i) (fun i hi => (aOk_in (hok' i (by omega))).2.2.2)
        have br0 := rp_num (pw f h k l j * 4) (by omega)
        have he0 : es (amt f) (pw f h k l) 0 (j + 1) = es (amt f) (pw f h k l) 0 j + f (j * 4 + 3) * rp (pw f h k l j * 4) := rfl
        have bp0 := prod_le (x := f (j * 4 + 3)) (y := rp (pw f h k l j * 4)) (M := 1000) (N := 1) o4 br0
        obtain ⟨s1, hs1⟩ : ∃ s, es (amt f) (pw f h k l) 1 j = s := ⟨_, rfl⟩
        obtain ⟨r1, hr1⟩ : ∃ r, rp (pw f h k l j * 4 + 1) = r := ⟨_, rfl⟩
        have bs1 := es_num (B := 1000) (amt f) (pw f h k l) 1 (by decide) j (fun i _ => pw_lt f h k l i) (fun i hi => (aOk_in (hok' i (by omega))).2.2.2)
        have br1 := rp_num (pw f h k l j * 4 + 1) (by omega)
        have he1 : es (amt f) (pw f h k l) 1 (j + 1) = es (amt f) (pw f h k l) 1 j + f (j * 4 + 3) * rp (pw f h k l j * 4 + 1) := rfl
        have bp1 := prod_le (x := f (j * 4 + 3)) (y := rp (pw f h k l j * 4 + 1)) (M := 1000) (N := 1) o4 br1
        obtain ⟨s2, hs2⟩ : ∃ s, es (amt f) (pw f h k l) 2 j = s := ⟨_, rfl⟩
        obtain ⟨r2, hr2⟩ : ∃ r, rp (pw f h k l j * 4 + 2) = r := ⟨_, rfl⟩
        have bs2 := es_num (B := 1000) (amt f) (pw f h k l) 2 (by decide) j (fun i _ => pw_lt f h k l i) (fun i hi => (aOk_in (hok' i (by omega))).2.2.2)
        have br2 := rp_num (pw f h k l j * 4 + 2) (by omega)
        have he2 : es (amt f) (pw f h k l) 2 (j + 1) = es (amt f) (pw f h k l) 2 j + f (j * 4 + 3) * rp (pw f h k l j * 4 + 2) := rfl
        have bp2 := prod_le (x := f (j * 4 + 3)) (y := rp (pw f h k l j * 4 + 2)) (M := 1000) (N := 1) o4 br2
        obtain ⟨s3, hs3⟩ : ∃ s, es (amt f) (pw f h k l) 3 j = s := ⟨_, rfl⟩
        obtain ⟨r3, hr3⟩ : ∃ r, rp (pw f h k l j * 4 + 3) = r := ⟨_, rfl⟩
        have bs3 := es_num (B := 1000) (amt f) (pw f h k l) 3 (by decide) j (fun i _ => pw_lt f h k l i) (fun i hi => (aOk_in (hok' i (by omega))).2.2.2)
        have br3 := rp_num (pw f h k l j * 4 + 3) (by omega)
        have he3 : es (amt f) (pw f h k l) 3 (j + 1) = es (amt f) (pw f h k l) 3 j + f (j * 4 + 3) * rp (pw f h k l j * 4 + 3) := rfl
        have bp3 := prod_le (x := f (j * 4 + 3)) (y := rp (pw f h k l j * 4 + 3)) (M := 1000) (N := 1) o4 br3
        rw [hs0, hr0] at he0
        rw [hs0] at bs0 y0 F'
        rw [hr0] at bp0 v0
        rw [hs1, hr1] at he1
        rw [hs1] at bs1 y1 F'
        rw [hr1] at bp1 v1
        rw [hs2, hr2] at he2
        rw [hs2] at bs2 y2 F'
        rw [hr2] at bp2 v2
        rw [hs3, hr3] at he3
        rw [hs3] at bs3 y3 F'
        rw [hr3] at bp3 v3
        generalize hfa : f (j * 4 + 3) = fa at *
        clear o1 o2 o3 p1 p2 p3
        have HE : Hid (es (amt f) (pw f h k l) 0 (j + 1) = s0 + fa * r0 ∧ es (amt f) (pw f h k l) 1 (j + 1) = s1 + fa * r1 ∧ es (amt f) (pw f h k l) 2 (j + 1) = s2 + fa * r2 ∧ es (amt f) (pw f h k l) 3 (j + 1) = s3 + fa * r3) := ⟨he0, he1, he2, he3⟩
        clear he0 he1 he2 he3 hs0 hs1 hs2 hs3 hr0 hr1 hr2 hr3 br0 br1 br2 br3
        go_wp2
        all_goals first
          | contradiction
          | (obtain ⟨q0, q1, q2, q3⟩ := HE.out
             refine ⟨⟨j + 1, by omega, by go_num, ?_⟩, by simp [intOf]; omega⟩
             rw [q0, q1, q2, q3]
             exact F'.out.next hq0 (by omega) _ _ _ _)
      · go_simp
        have lp := F.lt
        obtain ⟨V, hV, rb, bb, -⟩ := boxed u0 24 #[.int .i64 0, .int .i64 0, .int .i64 0, .int .i64 0]
        rw [hV]
        replace F := F.below bb
        clear bb hV
        generalize u0.heap.size = p at *
        clear hHeld
        refine hK'.out _ _ (rd3_of F.2.2.1 F.2.2.2.1 hlt hx hy hz) (fun hHeld => ?_)
        clear hK' KK
        try simp only [List.setIfInBounds_toArray, List.set_cons_zero, List.set_cons_succ]
        refine wpAnyH_ready (rs := [26]) (by kernel_rfl) (by simp) ?_
        refine AllReadyH.cons rfl (fun KK hK' => ?_) AllReadyH.nil
        go_simp
        refine (R _).mono ?_
        rintro e u1 ⟨rfl, bb⟩
        replace F := F.below bb
        replace rb := rb.below bb
        clear bb
        try go_wp2_with fail
        clear hHeld
        refine hK'.out _ _ (rd3_of F.2.2.1 F.2.2.2.1 hlt hx hy hz) (fun hHeld => ?_)
        clear hK' KK
        try simp only [List.setIfInBounds_toArray, List.set_cons_zero, List.set_cons_succ]
        refine wpAnyH_ready (rs := [28]) (by kernel_rfl) (by simp) ?_
        refine AllReadyH.cons rfl (fun KK hK' => ?_) AllReadyH.nil
        obtain ⟨y0, y1, y2, y3, g0, g1, g2, g3⟩ := rb.open4
        go_simp
        obtain ⟨u3, hu3, rb3, F3⟩ := F.fill lp.1 lp.2.1 lp.2.2 rb (.int .i64 (rp (pw f h k l j * 4))) (.int .i64 (rp (pw f h k l j * 4 + 1))) (.int .i64 (rp (pw f h k l j * 4 + 2))) (.int .i64 (rp (pw f h k l j * 4 + 3)))
        rw [hu3]
        clear hu3 F rb y0 y1 y2 y3 g0 g1 g2 g3
        have F := F3
        clear F3
        clear hHeld
        refine hK'.out _ _ (rd3_of F.2.2.1 F.2.2.2.1 hlt hx hy hz) (fun hHeld => ?_)
        clear hK' KK
        try simp only [List.setIfInBounds_toArray, List.set_cons_zero, List.set_cons_succ]
        refine wpAnyH_done (by kernel_rfl) ?_ _
        obtain ⟨c0, c1, c2, c3⟩ := F.2.2.2.1.open j hlt
        have hlg := F.lt.2.2
        clear hHeld R k1 k2 k3 k4 k5 c0 c1 c2
        obtain ⟨y0, y1, y2, y3, g0, g1, g2, g3⟩ := F.1.open4
        obtain ⟨v0, v1, v2, v3, -⟩ := rb3.open4
        have F' : Hid (Fr w q g n f h k l _ _ _ _ u3) := F
        clear F rb3
        obtain ⟨s0, hs0⟩ : ∃ s, es (amt f) (pw f h k l) 0 j = s := ⟨_, rfl⟩
        obtain ⟨r0, hr0⟩ : ∃ r, rp (pw f h k l j * 4) = r := ⟨_, rfl⟩
        have bs0 := es_num (B := 1000) (amt f) (pw f h k l) 0 (by decide) j (fun i _ => pw_lt f h k l i) (fun i hi => (aOk_in (hok' i (by omega))).2.2.2)
        have br0 := rp_num (pw f h k l j * 4) (by omega)
        have he0 : es (amt f) (pw f h k l) 0 (j + 1) = es (amt f) (pw f h k l) 0 j + f (j * 4 + 3) * rp (pw f h k l j * 4) := rfl
        have bp0 := prod_le (x := f (j * 4 + 3)) (y := rp (pw f h k l j * 4)) (M := 1000) (N := 1) o4 br0
        obtain ⟨s1, hs1⟩ : ∃ s, es (amt f) (pw f h k l) 1 j = s := ⟨_, rfl⟩
        obtain ⟨r1, hr1⟩ : ∃ r, rp (pw f h k l j * 4 + 1) = r := ⟨_, rfl⟩
        have bs1 := es_num (B := 1000) (amt f) (pw f h k l) 1 (by decide) j (fun i _ => pw_lt f h k l i) (fun i hi => (aOk_in (hok' i (by omega))).2.2.2)
        have br1 := rp_num (pw f h k l j * 4 + 1) (by omega)
        have he1 : es (amt f) (pw f h k l) 1 (j + 1) = es (amt f) (pw f h k l) 1 j + f (j * 4 + 3) * rp (pw f h k l j * 4 + 1) := rfl
        have bp1 := prod_le (x := f (j * 4 + 3)) (y := rp (pw f h k l j * 4 + 1)) (M := 1000) (N := 1) o4 br1
        obtain ⟨s2, hs2⟩ : ∃ s, es (amt f) (pw f h k l) 2 j = s := ⟨_, rfl⟩
        obtain ⟨r2, hr2⟩ : ∃ r, rp (pw f h k l j * 4 + 2) = r := ⟨_, rfl⟩
        have bs2 := es_num (B := 1000) (amt f) (pw f h k l) 2 (by decide) j (fun i _ => pw_lt f h k l i) (fun i hi => (aOk_in (hok' i (by omega))).2.2.2)
        have br2 := rp_num (pw f h k l j * 4 + 2) (by omega)
        have he2 : es (amt f) (pw f h k l) 2 (j + 1) = es (amt f) (pw f h k l) 2 j + f (j * 4 + 3) * rp (pw f h k l j * 4 + 2) := rfl
        have bp2 := prod_le (x := f (j * 4 + 3)) (y := rp (pw f h k l j * 4 + 2)) (M := 1000) (N := 1) o4 br2
        obtain ⟨s3, hs3⟩ : ∃ s, es (amt f) (pw f h k l) 3 j = s := ⟨_, rfl⟩
        obtain ⟨r3, hr3⟩ : ∃ r, rp (pw f h k l j * 4 + 3) = r := ⟨_, rfl⟩
        have bs3 := es_num (B := 1000) (amt f) (pw f h k l) 3 (by decide) j (fun i _ => pw_lt f h k l i) (fun i hi => (aOk_in (hok' i (by omega))).2.2.2)
        have br3 := rp_num (pw f h k l j * 4 + 3) (by omega)
        have he3 : es (amt f) (pw f h k l) 3 (j + 1) = es (amt f) (pw f h k l) 3 j + f (j * 4 + 3) * rp (pw f h k l j * 4 + 3) := rfl
        have bp3 := prod_le (x := f (j * 4 + 3)) (y := rp (pw f h k l j * 4 + 3)) (M := 1000) (N := 1) o4 br3
        rw [hs0, hr0] at he0
        rw [hs0] at bs0 y0 F'
        rw [hr0] at bp0 v0
        rw [hs1, hr1] at he1
        rw [hs1] at bs1 y1 F'
        rw [hr1] at bp1 v1
        rw [hs2, hr2] at he2
        rw [hs2] at bs2 y2 F'
        rw [hr2] at bp2 v2
        rw [hs3, hr3] at he3
        rw [hs3] at bs3 y3 F'
        rw [hr3] at bp3 v3
        generalize hfa : f (j * 4 + 3) = fa at *
        clear o1 o2 o3 p1 p2 p3
        have HE : Hid (es (amt f) (pw f h k l) 0 (j + 1) = s0 + fa * r0 ∧ es (amt f) (pw f h k l) 1 (j + 1) = s1 + fa * r1 ∧ es (amt f) (pw f h k l) 2 (j + 1) = s2 + fa * r2 ∧ es (amt f) (pw f h k l) 3 (j + 1) = s3 + fa * r3) := ⟨he0, he1, he2, he3⟩
        clear he0 he1 he2 he3 hs0 hs1 hs2 hs3 hr0 hr1 hr2 hr3 br0 br1 br2 br3
        go_wp2
        all_goals first
          | contradiction
          | (obtain ⟨q0, q1, q2, q3⟩ := HE.out
             refine ⟨⟨j + 1, by omega, by go_num, ?_⟩, by simp [intOf]; omega⟩
             rw [q0, q1, q2, q3]
             exact F'.out.next hq0 (by omega) _ _ _ _)
    · have hlt' : ¬ (j : Int) < (n : Int) := by omega
      obtain rfl : j = n := by omega
      obtain ⟨y0, y1, y2, y3, -⟩ := F.1.open4
      obtain ⟨d0, d1, d2, d3, f0, f1, f2, f3⟩ := F.2.1.open4
      have F' : Hid (Fr w q g j f h k l _ _ _ _ wr) := F
      clear F
      go_wp2
      all_goals first
        | contradiction
        | (obtain ⟨p0, p1, p2, p3, -⟩ := (put4_at F'.out.2.1 (.int .i64 (es (amt f) (pw f h k l) 0 j)) (.int .i64 (es (amt f) (pw f h k l) 1 j)) (.int .i64 (es (amt f) (pw f h k l) 2 j)) (.int .i64 (es (amt f) (pw f h k l) 3 j))).open4
           exact bodyPost_ret (v := .tuple #[cV (es (amt f) (pw f h k l) 0 j) (es (amt f) (pw f h k l) 1 j) (es (amt f) (pw f h k l) 2 j) (es (amt f) (pw f h k l) 3 j), .bool true]) (by simp [results, Tryd.results23, go_sem, p0, p1, p2, p3]) rfl ⟨rfl, below_put4 F'.out.2.2.2.2 (by omega) _ _ _ _⟩)
end Go.Proofs.YtmpakpdbkojkaaaDoor
