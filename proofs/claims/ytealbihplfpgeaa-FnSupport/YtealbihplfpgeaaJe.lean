/-
  The law of Support, drawn: walked.
-/
import Derived.Test.YtealbihplfpgeaaJd
import Derived.Test.YtealbihplfpgeaaJc
namespace Go.Proofs.Ytealbihplfpgeaa
open Go.RowKit

set_option maxRecDepth 100000 in
set_option maxHeartbeats 4000000 in
theorem support_walk {w : World} {a : Option Addr} {len cap : Nat} (hr : Row w w.heap.size a len) :
    Calls Try.prog 4 #[.slice a len cap] w fun e w' => e = .returned (.bool true) ∧ Below w.heap.size w w' := by
  go_enter Try.func4, Try.ntmps4
  go_wp2_with fail
  refine (big_any a len cap _ hr.1).mono ?_
  rintro e w1 ⟨rfl, rfl⟩
  by_cases hbig : 1048576 < len
  · rw [decide_eq_true hbig]
    go_wp2
    go_ret
    exact ⟨rfl, Below.refl _ _⟩
  rw [decide_eq_false hbig]
  go_wp2_with fail
  refine (drawSupport_any hr).mono ?_
  rintro e w2 ⟨g, c, m, f, x, y, rfl, hm, -, F, B⟩
  have L := F.trips
  have hmc := F.1
  clear F
  go_wp2_with fail
  refine (specSupport_any L (by omega) x y).mono ?_
  rintro e w3 ⟨⟨p, q, rfl, hS⟩, b3⟩
  replace L := L.below b3
  replace B := B.trans (b3.mono B.size)
  clear b3
  by_cases hq : q = 0
  · subst hq
    go_wp2
    go_ret
    exact ⟨rfl, B⟩
  have hq' : (q == 0) = false := by rw [beq_eq_false_iff_ne]; exact hq
  go_wp2_with fail
  refine (copyFacets_any L (by omega)).mono ?_
  rintro e w4 ⟨⟨g4, c4, rfl, hc4, L4⟩, b4⟩
  replace L := L.below b4
  replace B := B.trans (b4.mono B.size)
  clear b4
  go_wp2_with fail
  refine (implSupport_any L4 hc4 (by omega) x y).mono ?_
  rintro e w5 ⟨⟨p', q', rfl, hI⟩, b5⟩
  obtain ⟨rfl, rfl⟩ := hS.one hI
  replace L := L.below b5
  replace B := B.trans (b5.mono B.size)
  clear b5 hI L4 hc4
  have hC : SOk m f ∧ (-50 ≤ x ∧ x ≤ 50) ∧ (-50 ≤ y ∧ y ≤ 50) := Classical.byContradiction fun h => hq (hS.2 h).2
  have S := hC.1
  obtain ⟨a1, ha1, sh1⟩ := shape_some S
  obtain ⟨M, hM⟩ : ∃ M, (shl f m).length = M := ⟨_, rfl⟩
  have hpos : 0 < M := by rw [← hM]; exact List.length_pos_of_mem (mem_shl.2 ⟨ha1, sh1⟩)
  obtain ⟨a0, ha0⟩ : ∃ a, sI f m 0 = a := ⟨_, rfl⟩
  have ain := sI_in (f := f) (n := m) (k := 0) (by omega)
  rw [ha0] at ain
  clear ha1 sh1
  have far := hS.far hq ain.1 ain.2
  rw [hM] at far
  go_wp2_with fail
  refine (specCorners_yes S L hM ha0 hpos).mono ?_
  rintro e w6 ⟨v, r, rfl, hr2, G⟩
  obtain ⟨l, hl⟩ : ∃ l, (sqP f m a0 M).drop r ++ (sqP f m a0 M).take r = l := ⟨_, rfl⟩
  rw [hl] at G
  obtain ⟨go, co, fo, rfl, -, hlen, T, hfo⟩ := G.corners
  have mem : ∀ c, c ∈ l ↔ c ∈ sqP f m a0 M := fun c => by
    rw [← hl, List.mem_append, Or.comm, ← List.mem_append, List.take_append_drop]
  replace L := L.below G.b
  replace B := B.trans (G.b.mono B.size)
  clear G hl
  have Zin : ∀ j, j < M → ((-100000 ≤ fo (j * 3) ∧ fo (j * 3) ≤ 100000) ∧ (-100000 ≤ fo (j * 3 + 1) ∧ fo (j * 3 + 1) ≤ 100000) ∧ (-5000 ≤ fo (j * 3 + 2) ∧ fo (j * 3 + 2) ≤ 5000)) ∧ (x * fo (j * 3) + y * fo (j * 3 + 1)) * q' - p' * fo (j * 3 + 2) ≤ 0 := fun j hj => by
    obtain ⟨e1, e2, e3⟩ := hfo j (by omega)
    have hin : l[j]'(by omega) ∈ sqP f m a0 M := (mem _).1 (List.getElem_mem ..)
    have q := mem_allP.1 (S.sqP_in ain.1 ain.2 hin)
    have z := far.2.2.1 _ hin
    rw [e1, e2, e3]
    refine ⟨S.c_in q.1 q.2.1 q.2.2.1, ?_⟩
    unfold vN vD at z
    omega
  have Zex : ∃ j, j < M ∧ (x * fo (j * 3) + y * fo (j * 3 + 1)) * q' - p' * fo (j * 3 + 2) = 0 := by
    obtain ⟨c0, hc0, z⟩ := far.2.2.2.1
    obtain ⟨j, hj, e⟩ := List.mem_iff_getElem.1 ((mem c0).2 hc0)
    obtain ⟨e1, e2, e3⟩ := hfo j hj
    rw [e] at e1 e2 e3
    refine ⟨j, by omega, ?_⟩
    rw [e1, e2, e3]
    unfold vN vD at z
    omega
  have pqin : (-10000000 ≤ p' ∧ p' ≤ 10000000) ∧ (-5000 ≤ q' ∧ q' ≤ 5000) := by
    obtain ⟨c0, hc0, gg, gp, u1, u2⟩ := far.2.2.2.2
    have q := mem_allP.1 hc0
    have ci := S.c_in q.1 q.2.1 q.2.2.1
    have m1 := mul_bound hC.2.1 ci.1
    have m2 := mul_bound hC.2.2 ci.2.1
    have big : ∀ {u z : Int}, u = gg * z → z.natAbs ≤ u.natAbs := fun {u z} e => by
      rw [e, Int.natAbs_mul]
      exact Nat.le_mul_of_pos_left _ (by omega)
    have b1 := big u1
    have b2 := big u2
    unfold vN at b1
    unfold vD at b2
    omega
  have hqp : ¬ q' < 1 := by have := far.2.1; omega
  have hMb : (M : Int) ≤ 17 := by
    have h1 : (shl f m).length ≤ m := shTo_le f m m
    omega
  obtain ⟨Z, hZ⟩ : ∃ Z : Nat → Int, (fun j => (x * fo (j * 3) + y * fo (j * 3 + 1)) * q' - p' * fo (j * 3 + 2)) = Z := ⟨_, rfl⟩
  have FZ : Hid ((∀ j, Z j = (x * fo (j * 3) + y * fo (j * 3 + 1)) * q' - p' * fo (j * 3 + 2)) ∧ (∃ j, j < M ∧ Z j = 0) ∧ (∀ j, j < M → Z j ≤ 0)) := ⟨fun j => by rw [← hZ], by obtain ⟨j, h1, h2⟩ := Zex; exact ⟨j, h1, by rw [← hZ]; exact h2⟩, fun j hj => by rw [← hZ]; exact (Zin j hj).2⟩
  have Zb := fun j hj => (Zin j hj).1
  clear hZ Zex Zin far mem hfo hlen
  go_wp2
  go_loopw [11, 12] (fun s t wr => ∃ (sm : Bool) (i : Nat), i ≤ M ∧ s = .bool sm ∧ t = .int .i64 (i : Int) ∧ Tells sm (∃ j, j < i ∧ Z j = 0) ∧ Trips wr go M fo ∧ Trips wr g m f ∧ Below w.heap.size w wr) (fun _ t _ => M - (intOf t).toNat)
  case atStart => exact ⟨false, 0, Nat.zero_le _, rfl, rfl, ⟨fun h => Bool.noConfusion h, fun ⟨j, hj, _⟩ => by omega⟩, T, L, B⟩
  case round =>
    clear T L B
    obtain ⟨sm, i, hi', rfl, rfl, hsm, T, L, B⟩ := hrel
    by_cases hi : i < M
    · have hilt : (i : Int) < (M : Int) := by omega
      have b := Zb i hi
      have Zi := FZ.out.1 i
      have Zn := FZ.out.2.2 i hi
      have n1 := mul_bound hC.2.1 b.1
      have n2 := mul_bound hC.2.2 b.2.1
      obtain ⟨m1, q1⟩ : ∃ z, x * fo (i * 3) = z := ⟨_, rfl⟩
      obtain ⟨m2, q2⟩ : ∃ z, y * fo (i * 3 + 1) = z := ⟨_, rfl⟩
      rw [q1] at n1
      rw [q2] at n2
      rw [q1, q2] at Zi
      obtain ⟨m3, q3⟩ : ∃ z, m1 + m2 = z := ⟨_, rfl⟩
      rw [q3] at Zi
      have n3 : -10000000 ≤ m3 ∧ m3 ≤ 10000000 := by omega
      have n4 := mul_bound n3 pqin.2
      have n5 := mul_bound pqin.1 b.2.2
      obtain ⟨m4, q4⟩ : ∃ z, m3 * q' = z := ⟨_, rfl⟩
      obtain ⟨m5, q5⟩ : ∃ z, p' * fo (i * 3 + 2) = z := ⟨_, rfl⟩
      rw [q4] at n4
      rw [q5] at n5
      rw [q4, q5] at Zi
      obtain ⟨m6, q6⟩ : ∃ z, m4 - m5 = z := ⟨_, rfl⟩
      rw [q6] at Zi
      rw [Zi] at Zn
      have hsm2 : Tells (sm || decide (m6 = 0)) (∃ j, j < i + 1 ∧ Z j = 0) := by
        constructor
        · intro e
          cases hs : sm
          · rw [hs] at e
            exact ⟨i, by omega, by rw [Zi]; simpa using e⟩
          · obtain ⟨j, h1, h2⟩ := hsm.1 hs
            exact ⟨j, by omega, h2⟩
        · rintro ⟨j, h1, h2⟩
          by_cases e : j = i
          · rw [e, Zi] at h2
            simp [h2]
          · rw [hsm.2 ⟨j, by omega, h2⟩]; rfl
      have v1 : IntKind.i64.wrap m1 = m1 := IntWalk.i64_in _ (by omega)
      have v2 : IntKind.i64.wrap m2 = m2 := IntWalk.i64_in _ (by omega)
      have v3 : IntKind.i64.wrap m3 = m3 := IntWalk.i64_in _ (by omega)
      have v4 : IntKind.i64.wrap m4 = m4 := IntWalk.i64_in _ (by omega)
      have v5 : IntKind.i64.wrap m5 = m5 := IntWalk.i64_in _ (by omega)
      have v6 : IntKind.i64.wrap m6 = m6 := IntWalk.i64_in _ (by omega)
      clear hsm Zi n1 n2 n3 n4 n5 b Zb FZ hC hS hM ha0 ain pqin S hmc hr
      go_wp2_with fail
      obtain ⟨u0, hu0, bb⟩ : ∃ uu, wr.drew = uu ∧ Below wr.heap.size wr uu := ⟨_, rfl, (Below.refl _ _).drew⟩
      replace T := T.below bb
      replace L := L.below bb
      replace B := B.trans (bb.mono B.size)
      clear bb
      refine wp_region_held_drew (S := Kb u0) (by kernel_rfl) (by rw [hu0]; exact Below.refl _ _) (fun hHeld => ?_)
      rw [hu0] at hHeld ⊢
      clear hu0
      have bu : Kb u0 u0 := Below.refl _ _
      change wpAnyH _ _ _ _ _ 26 #[false, false, false, false, false, false, false, false, false, false, false, false, false, false, false, false, false, false, false, false, false, false, false, false, false, false] _ _
      refine wpAnyH_take (i := 0) (v := .int .i64 x) rfl (by kernel_rfl) (by kernel_rfl) (by kernel_rfl) (fun _ _ _ h => h) (Or.inl ⟨by kernel_rfl, ?_⟩) hHeld ?_
      · intro w' hSw; go_simp
      try simp only [Act.put, List.setIfInBounds_toArray, List.set_cons_zero, List.set_cons_succ, List.getElem_toArray, List.getElem_cons_zero]
      refine wpAnyH_take (i := 1) (v := .slice (some ⟨go, 0, none⟩) M co) rfl (by kernel_rfl) (by kernel_rfl) (by kernel_rfl) (fun _ _ _ h => h) (Or.inl ⟨by kernel_rfl, ?_⟩) hHeld ?_
      · intro w' hSw; go_simp
      try simp only [Act.put, List.setIfInBounds_toArray, List.set_cons_zero, List.set_cons_succ, List.getElem_toArray, List.getElem_cons_succ, List.getElem_cons_zero]
      refine wpAnyH_take (i := 2) (v := .int .i64 (i : Int)) rfl (by kernel_rfl) (by kernel_rfl) (by kernel_rfl) (fun _ _ _ h => h) (Or.inl ⟨by kernel_rfl, ?_⟩) hHeld ?_
      · intro w' hSw; go_simp
      try simp only [Act.put, List.setIfInBounds_toArray, List.set_cons_zero, List.set_cons_succ, List.getElem_toArray, List.getElem_cons_succ, List.getElem_cons_zero]
      refine wpAnyH_take (i := 3) (v := .pointer (some ⟨go, i * 3, none⟩)) rfl (by kernel_rfl) (by kernel_rfl) (by kernel_rfl) (fun _ _ _ h => h) (Or.inl ⟨by kernel_rfl, ?_⟩) hHeld ?_
      · intro w' hSw; go_simp
      try simp only [Act.put, List.setIfInBounds_toArray, List.set_cons_zero, List.set_cons_succ, List.getElem_toArray, List.getElem_cons_succ, List.getElem_cons_zero]
      refine wpAnyH_take (i := 4) (v := .pointer (some ⟨go, i * 3, none⟩)) rfl (by kernel_rfl) (by kernel_rfl) (by kernel_rfl) (fun _ _ _ h => h) (Or.inl ⟨by kernel_rfl, ?_⟩) hHeld ?_
      · intro w' hSw; go_simp
      try simp only [Act.put, List.setIfInBounds_toArray, List.set_cons_zero, List.set_cons_succ, List.getElem_toArray, List.getElem_cons_succ, List.getElem_cons_zero]
      refine wpAnyH_take (i := 5) (v := .int .i64 (fo (i * 3))) rfl (by kernel_rfl) (by kernel_rfl) (by kernel_rfl) (fun _ _ _ h => h) (Or.inl ⟨by kernel_rfl, ?_⟩) hHeld ?_
      · intro w' hSw; have zz := (T.below hSw).open i hi; obtain ⟨z0, z1, z2⟩ := zz; go_simp
      try simp only [Act.put, List.setIfInBounds_toArray, List.set_cons_zero, List.set_cons_succ, List.getElem_toArray, List.getElem_cons_succ, List.getElem_cons_zero]
      refine wpAnyH_take (i := 6) (v := .int .i64 m1) rfl (by kernel_rfl) (by kernel_rfl) (by kernel_rfl) (fun _ _ _ h => h) (Or.inl ⟨by kernel_rfl, ?_⟩) hHeld ?_
      · intro w' hSw; go_simp
      try simp only [Act.put, List.setIfInBounds_toArray, List.set_cons_zero, List.set_cons_succ, List.getElem_toArray, List.getElem_cons_succ, List.getElem_cons_zero]
      refine wpAnyH_take (i := 7) (v := .int .i64 y) rfl (by kernel_rfl) (by kernel_rfl) (by kernel_rfl) (fun _ _ _ h => h) (Or.inl ⟨by kernel_rfl, ?_⟩) hHeld ?_
      · intro w' hSw; go_simp
      try simp only [Act.put, List.setIfInBounds_toArray, List.set_cons_zero, List.set_cons_succ, List.getElem_toArray, List.getElem_cons_succ, List.getElem_cons_zero]
      refine wpAnyH_take (i := 8) (v := .slice (some ⟨go, 0, none⟩) M co) rfl (by kernel_rfl) (by kernel_rfl) (by kernel_rfl) (fun _ _ _ h => h) (Or.inl ⟨by kernel_rfl, ?_⟩) hHeld ?_
      · intro w' hSw; go_simp
      try simp only [Act.put, List.setIfInBounds_toArray, List.set_cons_zero, List.set_cons_succ, List.getElem_toArray, List.getElem_cons_succ, List.getElem_cons_zero]
      refine wpAnyH_take (i := 9) (v := .int .i64 (i : Int)) rfl (by kernel_rfl) (by kernel_rfl) (by kernel_rfl) (fun _ _ _ h => h) (Or.inl ⟨by kernel_rfl, ?_⟩) hHeld ?_
      · intro w' hSw; go_simp
      try simp only [Act.put, List.setIfInBounds_toArray, List.set_cons_zero, List.set_cons_succ, List.getElem_toArray, List.getElem_cons_succ, List.getElem_cons_zero]
      refine wpAnyH_take (i := 10) (v := .pointer (some ⟨go, i * 3, none⟩)) rfl (by kernel_rfl) (by kernel_rfl) (by kernel_rfl) (fun _ _ _ h => h) (Or.inl ⟨by kernel_rfl, ?_⟩) hHeld ?_
      · intro w' hSw; go_simp
      try simp only [Act.put, List.setIfInBounds_toArray, List.set_cons_zero, List.set_cons_succ, List.getElem_toArray, List.getElem_cons_succ, List.getElem_cons_zero]
      refine wpAnyH_take (i := 11) (v := .pointer (some ⟨go, i * 3 + 1, none⟩)) rfl (by kernel_rfl) (by kernel_rfl) (by kernel_rfl) (fun _ _ _ h => h) (Or.inl ⟨by kernel_rfl, ?_⟩) hHeld ?_
      · intro w' hSw; go_simp
      try simp only [Act.put, List.setIfInBounds_toArray, List.set_cons_zero, List.set_cons_succ, List.getElem_toArray, List.getElem_cons_succ, List.getElem_cons_zero]
      refine wpAnyH_take (i := 12) (v := .int .i64 (fo (i * 3 + 1))) rfl (by kernel_rfl) (by kernel_rfl) (by kernel_rfl) (fun _ _ _ h => h) (Or.inl ⟨by kernel_rfl, ?_⟩) hHeld ?_
      · intro w' hSw; have zz := (T.below hSw).open i hi; obtain ⟨z0, z1, z2⟩ := zz; go_simp
      try simp only [Act.put, List.setIfInBounds_toArray, List.set_cons_zero, List.set_cons_succ, List.getElem_toArray, List.getElem_cons_succ, List.getElem_cons_zero]
      refine wpAnyH_take (i := 13) (v := .int .i64 m2) rfl (by kernel_rfl) (by kernel_rfl) (by kernel_rfl) (fun _ _ _ h => h) (Or.inl ⟨by kernel_rfl, ?_⟩) hHeld ?_
      · intro w' hSw; go_simp
      try simp only [Act.put, List.setIfInBounds_toArray, List.set_cons_zero, List.set_cons_succ, List.getElem_toArray, List.getElem_cons_succ, List.getElem_cons_zero]
      refine wpAnyH_take (i := 14) (v := .int .i64 m3) rfl (by kernel_rfl) (by kernel_rfl) (by kernel_rfl) (fun _ _ _ h => h) (Or.inl ⟨by kernel_rfl, ?_⟩) hHeld ?_
      · intro w' hSw; go_simp
      try simp only [Act.put, List.setIfInBounds_toArray, List.set_cons_zero, List.set_cons_succ, List.getElem_toArray, List.getElem_cons_succ, List.getElem_cons_zero]
      refine wpAnyH_take (i := 15) (v := .int .i64 q') rfl (by kernel_rfl) (by kernel_rfl) (by kernel_rfl) (fun _ _ _ h => h) (Or.inl ⟨by kernel_rfl, ?_⟩) hHeld ?_
      · intro w' hSw; go_simp
      try simp only [Act.put, List.setIfInBounds_toArray, List.set_cons_zero, List.set_cons_succ, List.getElem_toArray, List.getElem_cons_succ, List.getElem_cons_zero]
      refine wpAnyH_take (i := 16) (v := .int .i64 m4) rfl (by kernel_rfl) (by kernel_rfl) (by kernel_rfl) (fun _ _ _ h => h) (Or.inl ⟨by kernel_rfl, ?_⟩) hHeld ?_
      · intro w' hSw; go_simp
      try simp only [Act.put, List.setIfInBounds_toArray, List.set_cons_zero, List.set_cons_succ, List.getElem_toArray, List.getElem_cons_succ, List.getElem_cons_zero]
      refine wpAnyH_take (i := 17) (v := .int .i64 p') rfl (by kernel_rfl) (by kernel_rfl) (by kernel_rfl) (fun _ _ _ h => h) (Or.inl ⟨by kernel_rfl, ?_⟩) hHeld ?_
      · intro w' hSw; go_simp
      try simp only [Act.put, List.setIfInBounds_toArray, List.set_cons_zero, List.set_cons_succ, List.getElem_toArray, List.getElem_cons_succ, List.getElem_cons_zero]
      refine wpAnyH_take (i := 18) (v := .slice (some ⟨go, 0, none⟩) M co) rfl (by kernel_rfl) (by kernel_rfl) (by kernel_rfl) (fun _ _ _ h => h) (Or.inl ⟨by kernel_rfl, ?_⟩) hHeld ?_
      · intro w' hSw; go_simp
      try simp only [Act.put, List.setIfInBounds_toArray, List.set_cons_zero, List.set_cons_succ, List.getElem_toArray, List.getElem_cons_succ, List.getElem_cons_zero]
      refine wpAnyH_take (i := 19) (v := .int .i64 (i : Int)) rfl (by kernel_rfl) (by kernel_rfl) (by kernel_rfl) (fun _ _ _ h => h) (Or.inl ⟨by kernel_rfl, ?_⟩) hHeld ?_
      · intro w' hSw; go_simp
      try simp only [Act.put, List.setIfInBounds_toArray, List.set_cons_zero, List.set_cons_succ, List.getElem_toArray, List.getElem_cons_succ, List.getElem_cons_zero]
      refine wpAnyH_take (i := 20) (v := .pointer (some ⟨go, i * 3, none⟩)) rfl (by kernel_rfl) (by kernel_rfl) (by kernel_rfl) (fun _ _ _ h => h) (Or.inl ⟨by kernel_rfl, ?_⟩) hHeld ?_
      · intro w' hSw; go_simp
      try simp only [Act.put, List.setIfInBounds_toArray, List.set_cons_zero, List.set_cons_succ, List.getElem_toArray, List.getElem_cons_succ, List.getElem_cons_zero]
      refine wpAnyH_take (i := 21) (v := .pointer (some ⟨go, i * 3 + 2, none⟩)) rfl (by kernel_rfl) (by kernel_rfl) (by kernel_rfl) (fun _ _ _ h => h) (Or.inl ⟨by kernel_rfl, ?_⟩) hHeld ?_
      · intro w' hSw; go_simp
      try simp only [Act.put, List.setIfInBounds_toArray, List.set_cons_zero, List.set_cons_succ, List.getElem_toArray, List.getElem_cons_succ, List.getElem_cons_zero]
      refine wpAnyH_take (i := 22) (v := .int .i64 (fo (i * 3 + 2))) rfl (by kernel_rfl) (by kernel_rfl) (by kernel_rfl) (fun _ _ _ h => h) (Or.inl ⟨by kernel_rfl, ?_⟩) hHeld ?_
      · intro w' hSw; have zz := (T.below hSw).open i hi; obtain ⟨z0, z1, z2⟩ := zz; go_simp
      try simp only [Act.put, List.setIfInBounds_toArray, List.set_cons_zero, List.set_cons_succ, List.getElem_toArray, List.getElem_cons_succ, List.getElem_cons_zero]
      refine wpAnyH_take (i := 23) (v := .int .i64 m5) rfl (by kernel_rfl) (by kernel_rfl) (by kernel_rfl) (fun _ _ _ h => h) (Or.inl ⟨by kernel_rfl, ?_⟩) hHeld ?_
      · intro w' hSw; go_simp
      try simp only [Act.put, List.setIfInBounds_toArray, List.set_cons_zero, List.set_cons_succ, List.getElem_toArray, List.getElem_cons_succ, List.getElem_cons_zero]
      refine wpAnyH_take (i := 24) (v := .int .i64 m6) rfl (by kernel_rfl) (by kernel_rfl) (by kernel_rfl) (fun _ _ _ h => h) (Or.inl ⟨by kernel_rfl, ?_⟩) hHeld ?_
      · intro w' hSw; go_simp
      try simp only [Act.put, List.setIfInBounds_toArray, List.set_cons_zero, List.set_cons_succ, List.getElem_toArray, List.getElem_cons_succ, List.getElem_cons_zero]
      refine wpAnyH_ready (rs := [25]) (by kernel_rfl) (by simp) ?_
      refine AllReadyH.cons rfl (fun KK hK' => ?_) AllReadyH.nil
      go_simp
      clear hHeld
      refine hK'.out _ _ (bu) (fun hHeld => ?_)
      clear hK' KK
      try simp only [List.setIfInBounds_toArray, List.set_cons_zero, List.set_cons_succ]
      refine wpAnyH_done (by kernel_rfl) ?_ _
      clear hHeld
      replace B := B.trans (Below.mono bu B.size)
      replace L := L.below bu
      replace T := T.below bu
      clear bu
      clear v1 v2 v3 v4 v5 v6 q1 q2 q3 q4 q5 q6
      have hm6 : ¬ 0 < m6 := by omega
      cases sm
      · by_cases hz : m6 = 0
        · subst hz
          simp only [decide_true, Bool.or_true] at hsm2
          go_wp2
          exact ⟨⟨true, i + 1, by omega, rfl, by go_num, hsm2, T, L, B⟩, by simp [intOf]; omega⟩
        · have hz' : (m6 == 0) = false := by rw [beq_eq_false_iff_ne]; exact hz
          simp only [hz, decide_false, Bool.or_false] at hsm2
          go_wp2
          exact ⟨⟨false, i + 1, by omega, rfl, by go_num, hsm2, T, L, B⟩, by simp [intOf]; omega⟩
      · simp only [Bool.true_or] at hsm2
        go_wp2
        exact ⟨⟨true, i + 1, by omega, rfl, by go_num, hsm2, T, L, B⟩, by simp [intOf]; omega⟩
    · have hilt : ¬ (i : Int) < (M : Int) := by omega
      obtain rfl : M = i := by omega
      obtain rfl : sm = true := hsm.2 FZ.out.2.1
      clear hsm FZ Zb T
      go_wp2_with fail
      refine (specShows_yes S L).mono ?_
      rintro e w7 ⟨v, rfl, G⟩
      obtain ⟨gs, cs, rfl, -, T7⟩ := G.shAt
      have L7 := L.below G.b
      replace B := B.trans (G.b.mono B.size)
      rw [hM] at T7 ⊢
      have z0 := T7.get (k := 0) hpos
      rw [ha0] at z0
      have hM1 : (0 : Int) < (M : Int) := by omega
      have hav := ain.1
      have hal : (a0 : Int) < (m : Int) := by omega
      clear T7 G L
      go_wp2_with fail
      clear z0
      obtain ⟨u0, hu0, bb⟩ : ∃ uu, w7.drew = uu ∧ Below w7.heap.size w7 uu := ⟨_, rfl, (Below.refl _ _).drew⟩
      replace L7 := L7.below bb
      replace B := B.trans (bb.mono B.size)
      clear bb
      refine wp_region_held_drew (S := Kb u0) (by kernel_rfl) (by rw [hu0]; exact Below.refl _ _) (fun hHeld => ?_)
      rw [hu0] at hHeld ⊢
      clear hu0
      have bu : Kb u0 u0 := Below.refl _ _
      change wpAnyH _ _ _ _ _ 18 #[false, false, false, false, false, false, false, false, false, false, false, false, false, false, false, false, false, false] _ _
      refine wpAnyH_take (i := 0) (v := .slice (some ⟨g, 0, none⟩) m c) rfl (by kernel_rfl) (by kernel_rfl) (by kernel_rfl) (fun _ _ _ h => h) (Or.inl ⟨by kernel_rfl, ?_⟩) hHeld ?_
      · intro w' hSw; go_simp
      try simp only [Act.put, List.setIfInBounds_toArray, List.set_cons_zero, List.set_cons_succ, List.getElem_toArray, List.getElem_cons_zero]
      refine wpAnyH_take (i := 2) (v := .slice (some ⟨g, 0, none⟩) m c) rfl (by kernel_rfl) (by kernel_rfl) (by kernel_rfl) (fun _ _ _ h => h) (Or.inl ⟨by kernel_rfl, ?_⟩) hHeld ?_
      · intro w' hSw; go_simp
      try simp only [Act.put, List.setIfInBounds_toArray, List.set_cons_zero, List.set_cons_succ, List.getElem_toArray, List.getElem_cons_succ, List.getElem_cons_zero]
      refine wpAnyH_take (i := 3) (v := .int .i64 (a0 : Int)) rfl (by kernel_rfl) (by kernel_rfl) (by kernel_rfl) (fun _ _ _ h => h) (Or.inl ⟨by kernel_rfl, ?_⟩) hHeld ?_
      · intro w' hSw; go_simp
      try simp only [Act.put, List.setIfInBounds_toArray, List.set_cons_zero, List.set_cons_succ, List.getElem_toArray, List.getElem_cons_succ, List.getElem_cons_zero]
      refine wpAnyH_take (i := 4) (v := .pointer (some ⟨g, a0 * 3, none⟩)) rfl (by kernel_rfl) (by kernel_rfl) (by kernel_rfl) (fun _ _ _ h => h) (Or.inl ⟨by kernel_rfl, ?_⟩) hHeld ?_
      · intro w' hSw; go_simp
      try simp only [Act.put, List.setIfInBounds_toArray, List.set_cons_zero, List.set_cons_succ, List.getElem_toArray, List.getElem_cons_succ, List.getElem_cons_zero]
      refine wpAnyH_take (i := 5) (v := .pointer (some ⟨g, a0 * 3, none⟩)) rfl (by kernel_rfl) (by kernel_rfl) (by kernel_rfl) (fun _ _ _ h => h) (Or.inl ⟨by kernel_rfl, ?_⟩) hHeld ?_
      · intro w' hSw; go_simp
      try simp only [Act.put, List.setIfInBounds_toArray, List.set_cons_zero, List.set_cons_succ, List.getElem_toArray, List.getElem_cons_succ, List.getElem_cons_zero]
      refine wpAnyH_take (i := 6) (v := .int .i64 (f (a0 * 3))) rfl (by kernel_rfl) (by kernel_rfl) (by kernel_rfl) (fun _ _ _ h => h) (Or.inl ⟨by kernel_rfl, ?_⟩) hHeld ?_
      · intro w' hSw; have zz := (L7.below hSw).open a0 hav; obtain ⟨z0, z1, z2⟩ := zz; go_simp
      try simp only [Act.put, List.setIfInBounds_toArray, List.set_cons_zero, List.set_cons_succ, List.getElem_toArray, List.getElem_cons_succ, List.getElem_cons_zero]
      refine wpAnyH_take (i := 7) (v := .slice (some ⟨g, 0, none⟩) m c) rfl (by kernel_rfl) (by kernel_rfl) (by kernel_rfl) (fun _ _ _ h => h) (Or.inl ⟨by kernel_rfl, ?_⟩) hHeld ?_
      · intro w' hSw; go_simp
      try simp only [Act.put, List.setIfInBounds_toArray, List.set_cons_zero, List.set_cons_succ, List.getElem_toArray, List.getElem_cons_succ, List.getElem_cons_zero]
      refine wpAnyH_take (i := 8) (v := .int .i64 (a0 : Int)) rfl (by kernel_rfl) (by kernel_rfl) (by kernel_rfl) (fun _ _ _ h => h) (Or.inl ⟨by kernel_rfl, ?_⟩) hHeld ?_
      · intro w' hSw; go_simp
      try simp only [Act.put, List.setIfInBounds_toArray, List.set_cons_zero, List.set_cons_succ, List.getElem_toArray, List.getElem_cons_succ, List.getElem_cons_zero]
      refine wpAnyH_take (i := 9) (v := .pointer (some ⟨g, a0 * 3, none⟩)) rfl (by kernel_rfl) (by kernel_rfl) (by kernel_rfl) (fun _ _ _ h => h) (Or.inl ⟨by kernel_rfl, ?_⟩) hHeld ?_
      · intro w' hSw; go_simp
      try simp only [Act.put, List.setIfInBounds_toArray, List.set_cons_zero, List.set_cons_succ, List.getElem_toArray, List.getElem_cons_succ, List.getElem_cons_zero]
      refine wpAnyH_take (i := 10) (v := .pointer (some ⟨g, a0 * 3 + 1, none⟩)) rfl (by kernel_rfl) (by kernel_rfl) (by kernel_rfl) (fun _ _ _ h => h) (Or.inl ⟨by kernel_rfl, ?_⟩) hHeld ?_
      · intro w' hSw; go_simp
      try simp only [Act.put, List.setIfInBounds_toArray, List.set_cons_zero, List.set_cons_succ, List.getElem_toArray, List.getElem_cons_succ, List.getElem_cons_zero]
      refine wpAnyH_take (i := 11) (v := .int .i64 (f (a0 * 3 + 1))) rfl (by kernel_rfl) (by kernel_rfl) (by kernel_rfl) (fun _ _ _ h => h) (Or.inl ⟨by kernel_rfl, ?_⟩) hHeld ?_
      · intro w' hSw; have zz := (L7.below hSw).open a0 hav; obtain ⟨z0, z1, z2⟩ := zz; go_simp
      try simp only [Act.put, List.setIfInBounds_toArray, List.set_cons_zero, List.set_cons_succ, List.getElem_toArray, List.getElem_cons_succ, List.getElem_cons_zero]
      refine wpAnyH_ready (rs := [1]) (by kernel_rfl) (by simp) ?_
      refine AllReadyH.cons rfl (fun KK hK' => ?_) AllReadyH.nil
      go_simp
      refine (copyFacets_any L7 (by omega)).mono ?_
      rintro e u1 ⟨⟨g9, c9, rfl, hc9, L9⟩, bb⟩
      replace bu : Kb u0 u1 := bu.trans (bb.mono bu.size)
      clear bb
      try go_wp2_with fail
      clear hHeld
      refine hK'.out _ _ bu (fun hHeld => ?_)
      clear hK' KK
      try simp only [List.setIfInBounds_toArray, List.set_cons_zero, List.set_cons_succ]
      refine wpAnyH_ready (rs := [12]) (by kernel_rfl) (by simp) ?_
      refine AllReadyH.cons rfl (fun KK hK' => ?_) AllReadyH.nil
      go_simp
      refine (implSupport_any L9 hc9 (by omega) (f (a0 * 3)) (f (a0 * 3 + 1))).mono ?_
      rintro e u2 ⟨⟨p9, q9, rfl, hI9⟩, bb⟩
      obtain ⟨e9, e10⟩ := SupA.own S ain.1 ain.2 hI9
      subst e9 e10
      clear hI9
      replace bu : Kb u0 u2 := bu.trans (bb.mono bu.size)
      clear bb
      try go_wp2_with fail
      clear hHeld
      refine hK'.out _ _ bu (fun hHeld => ?_)
      clear hK' KK
      try simp only [List.setIfInBounds_toArray, List.set_cons_zero, List.set_cons_succ]
      refine wpAnyH_take (i := 13) (v := .tuple #[.int .i64 (f (a0 * 3 + 2)), .int .i64 1]) rfl (by kernel_rfl) (by kernel_rfl) (by kernel_rfl) (fun _ _ _ h => h) (Or.inl ⟨by kernel_rfl, ?_⟩) hHeld ?_
      · intro w' hSw; go_simp
      try simp only [Act.put, List.setIfInBounds_toArray, List.set_cons_zero, List.set_cons_succ, List.getElem_toArray, List.getElem_cons_succ, List.getElem_cons_zero]
      refine wpAnyH_take (i := 14) (v := .int .i64 (f (a0 * 3 + 2))) rfl (by kernel_rfl) (by kernel_rfl) (by kernel_rfl) (fun _ _ _ h => h) (Or.inl ⟨by kernel_rfl, ?_⟩) hHeld ?_
      · intro w' hSw; go_simp
      try simp only [Act.put, List.setIfInBounds_toArray, List.set_cons_zero, List.set_cons_succ, List.getElem_toArray, List.getElem_cons_succ, List.getElem_cons_zero]
      refine wpAnyH_take (i := 15) (v := .int .i64 1) rfl (by kernel_rfl) (by kernel_rfl) (by kernel_rfl) (fun _ _ _ h => h) (Or.inl ⟨by kernel_rfl, ?_⟩) hHeld ?_
      · intro w' hSw; go_simp
      try simp only [Act.put, List.setIfInBounds_toArray, List.set_cons_zero, List.set_cons_succ, List.getElem_toArray, List.getElem_cons_succ, List.getElem_cons_zero]
      refine wpAnyH_ready (rs := [16]) (by kernel_rfl) (by simp) ?_
      refine AllReadyH.cons rfl (fun KK hK' => ?_) AllReadyH.nil
      go_simp
      clear hHeld
      refine hK'.out _ _ (bu) (fun hHeld => ?_)
      clear hK' KK
      try simp only [List.setIfInBounds_toArray, List.set_cons_zero, List.set_cons_succ]
      refine wpAnyH_ready (rs := [17]) (by kernel_rfl) (by simp) ?_
      refine AllReadyH.cons rfl (fun KK hK' => ?_) AllReadyH.nil
      go_simp
      clear hHeld
      refine hK'.out _ _ (bu) (fun hHeld => ?_)
      clear hK' KK
      try simp only [List.setIfInBounds_toArray, List.set_cons_zero, List.set_cons_succ]
      refine wpAnyH_done (by kernel_rfl) ?_ _
      clear hHeld
      replace B := B.trans (Below.mono bu B.size)
      replace L7 := L7.below bu
      clear bu L9
      obtain ⟨z0, z1, z2⟩ := L7.open a0 hav
      have lg7 := L7.1
      have eG : (f (a0 * 3 + 2) == f (a0 * 3 + 2)) = true := beq_self_eq_true _
      go_wp2
      go_ret
      exact ⟨rfl, B⟩
end Go.Proofs.Ytealbihplfpgeaa
