/-
  Support, by the specification: walked.
-/
import Derived.Test.YtealbihplfpgeaaHi
namespace Go.Proofs.Ytealbihplfpgeaa
open Go.RowKit

theorem tdiv_small (x y : Int) : (x.tdiv y).natAbs ≤ x.natAbs := by rw [Int.natAbs_tdiv]; exact Nat.div_le_self _ _
/-- What Support tells. -/
def SupA (f : Nat → Int) (n : Nat) (x y a b : Int) : Prop := ((SOk n f ∧ (-50 ≤ x ∧ x ≤ 50) ∧ (-50 ≤ y ∧ y ≤ 50)) → ∃ p q, Sup f n x y p q ∧ a = p.tdiv (Int.gcd p q : Nat) ∧ b = q.tdiv (Int.gcd p q : Nat)) ∧ (¬ (SOk n f ∧ (-50 ≤ x ∧ x ≤ 50) ∧ (-50 ≤ y ∧ y ≤ 50)) → a = 0 ∧ b = 0)
theorem Sup.pos {f : Nat → Int} {n : Nat} {x y p q : Int} (h : Sup f n x y p q) : 0 < q := by
  obtain ⟨⟨c, hc, -, rfl⟩, -⟩ := h
  exact allP_pos hc
theorem SupA.one {f : Nat → Int} {n : Nat} {x y a b a' b' : Int} (h : SupA f n x y a b) (h' : SupA f n x y a' b') : a' = a ∧ b' = b := by
  by_cases c : SOk n f ∧ (-50 ≤ x ∧ x ≤ 50) ∧ (-50 ≤ y ∧ y ≤ 50)
  · obtain ⟨p, q, s, rfl, rfl⟩ := h.1 c
    obtain ⟨p', q', s', rfl, rfl⟩ := h'.1 c
    exact red_same s'.pos s.pos (s'.one s)
  · obtain ⟨rfl, rfl⟩ := h.2 c
    exact h'.2 c
theorem SupA.no {f : Nat → Int} {n : Nat} {x y : Int} (h : ¬ (SOk n f ∧ (-50 ≤ x ∧ x ≤ 50) ∧ (-50 ≤ y ∧ y ≤ 50))) : SupA f n x y 0 0 := ⟨fun c => absurd c h, fun _ => ⟨rfl, rfl⟩⟩
theorem SupA.yes {f : Nat → Int} {n : Nat} {x y p q : Int} (h : SOk n f ∧ (-50 ≤ x ∧ x ≤ 50) ∧ (-50 ≤ y ∧ y ≤ 50)) (s : Sup f n x y p q) : SupA f n x y (p.tdiv (Int.gcd p q : Nat)) (q.tdiv (Int.gcd p q : Nat)) := ⟨fun _ => ⟨p, q, s, rfl, rfl⟩, fun c => absurd h c⟩
set_option maxRecDepth 100000 in
theorem specCorners_no {w : World} {g n c : Nat} {f : Nat → Int} (S : ¬ SOk n f) (h : Trips w g n f) (hn : n ≤ 1048576) :
    Calls Try.prog 19 #[.slice (some ⟨g, 0, none⟩) n c] w fun e w' => ∃ v, e = .returned v ∧ Gat w w' w.heap.size 33 3 v 0 [] := by
  obtain ⟨V, hV, A0, B, -⟩ := boxed w 33 #[]
  have R : Gat w V w.heap.size 33 3 (.slice (some ⟨w.heap.size, 0, none⟩) 0 0) 0 [] := Gat.start A0 B
  have hbs : ∀ w, (Instr.buildSlice 30 0 #[]).run Try.prog w = .ok (.slice (some ⟨w.heap.size, 0, none⟩) 0 0) (w.alloc (.cells #[] 33)) := fun _ => by kernel_rfl
  go_enter Try.func19, Try.ntmps19
  go_wp2_with fail
  refine (specShows_no S (h.below B) hn).mono ?_
  rintro e w1 ⟨v, rfl, G⟩
  obtain ⟨gs, cs, rfl, -⟩ := G.open
  replace R := R.below G.b
  go_wp2
  exact bodyPost_ret (v := .slice (some ⟨w.heap.size, 0, none⟩) 0 0) (by simp [results, Try.results19, go_sem]) rfl ⟨_, rfl, R⟩
/-- A list of corners, read: each is that of its pair. -/
theorem Gat.corners {w0 w : World} {B : Nat} {v : Value} {m : Nat} {f : Nat → Int} {l : List (Nat × Nat)} (s : Gat w0 w B 33 3 v m (tris f l)) : ∃ go co fo, v = .slice (some ⟨go, 0, none⟩) m co ∧ m ≤ co ∧ l.length = m ∧ Trips w go m fo ∧ ∀ (j : Nat) (hj : j < l.length), fo (j * 3) = cX f l[j].1 l[j].2 ∧ fo (j * 3 + 1) = cY f l[j].1 l[j].2 ∧ fo (j * 3 + 2) = cD f l[j].1 l[j].2 := by
  obtain ⟨go, co, e, -, hc, lg, cells⟩ := s.open
  have hl := s.len
  rw [tris_len] at hl
  exact ⟨go, co, fun j => (tris f l).getD j 0, e, hc, by omega, ⟨lg, fun j hj => cells j (by rw [tris_len]; omega)⟩, fun j hj => tris_get f l j hj⟩
set_option maxRecDepth 100000 in
set_option maxHeartbeats 4000000 in
theorem specSupport_any {w : World} {g n c : Nat} {f : Nat → Int} (h : Trips w g n f) (hn : n ≤ 1048576) (x y : Int) :
    Calls Try.prog 17 #[.slice (some ⟨g, 0, none⟩) n c, .int .i64 x, .int .i64 y] w fun e w' => (∃ a b : Int, e = .returned (.tuple #[.int .i64 a, .int .i64 b]) ∧ SupA f n x y a b) ∧ Below w.heap.size w w' := by
  by_cases S' : ¬ SOk n f
  · have HA : SupA f n x y 0 0 := .no (fun h => S' h.1)
    go_enter Try.func17, Try.ntmps17
    go_wp2_with fail
    refine (specCorners_no S' h hn).mono ?_
    rintro e w1 ⟨v, rfl, G⟩
    obtain ⟨gs, cs, rfl, -⟩ := G.open
    have B := G.b
    clear G
    go_wp2
    exact bodyPost_ret (v := .tuple #[.int .i64 0, .int .i64 0]) (by simp [results, Try.results17, go_sem]) rfl ⟨⟨_, _, rfl, HA⟩, B⟩
  have S := Classical.not_not.1 S'
  clear S'
  obtain ⟨a1, ha1, sh1⟩ := shape_some S
  obtain ⟨M, hM⟩ : ∃ M, (shl f n).length = M := ⟨_, rfl⟩
  have hpos : 0 < M := by rw [← hM]; exact List.length_pos_of_mem (mem_shl.2 ⟨ha1, sh1⟩)
  obtain ⟨a0, ha0⟩ : ∃ a, sI f n 0 = a := ⟨_, rfl⟩
  have ain := sI_in (f := f) (n := n) (k := 0) (by omega)
  rw [ha0] at ain
  have hMn : M ≤ 40 := by
    have h1 : (shl f n).length ≤ n := shTo_le f n n
    have h2 := S.hi
    omega
  go_enter Try.func17, Try.ntmps17
  go_wp2_with fail
  refine (specCorners_yes S h hM ha0 hpos).mono ?_
  rintro e w1 ⟨v, r, rfl, hr, G⟩
  obtain ⟨l, hl⟩ : ∃ l, (sqP f n a0 M).drop r ++ (sqP f n a0 M).take r = l := ⟨_, rfl⟩
  rw [hl] at G
  have B := G.b
  obtain ⟨go, co, fo, rfl, -, hlen, L, hfo⟩ := G.corners
  have mem : ∀ c, c ∈ l ↔ c ∈ sqP f n a0 M := fun c => by
    rw [← hl, List.mem_append, Or.comm, ← List.mem_append, List.take_append_drop]
  clear G hl
  have hM0 : ¬ (M : Int) = 0 := by omega
  have hM2 : ((M : Int) == 0) = false := by rw [beq_eq_false_iff_ne]; exact hM0
  by_cases hx' : ¬ (-50 ≤ x ∧ x ≤ 50)
  · have HA : SupA f n x y 0 0 := .no (fun h => hx' h.2.1)
    go_wp2_with (go_at_call 49; refine (in_any _ _ _ _).mono ?_; rintro e w3 ⟨rfl, rfl⟩)
    exact bodyPost_ret (v := .tuple #[.int .i64 0, .int .i64 0]) (by simp [results, Try.results17, go_sem]) rfl ⟨⟨_, _, rfl, HA⟩, B⟩
  have hx := Classical.not_not.1 hx'
  clear hx'
  by_cases hy' : ¬ (-50 ≤ y ∧ y ≤ 50)
  · have HA : SupA f n x y 0 0 := .no (fun h => hy' h.2.2)
    go_wp2_with (go_at_call 49; refine (in_any _ _ _ _).mono ?_; rintro e w3 ⟨rfl, rfl⟩)
    exact bodyPost_ret (v := .tuple #[.int .i64 0, .int .i64 0]) (by simp [results, Try.results17, go_sem]) rfl ⟨⟨_, _, rfl, HA⟩, B⟩
  have hy := Classical.not_not.1 hy'
  clear hy'
  have bnd : ∀ j, j < M → ((-100000 ≤ fo (j * 3) ∧ fo (j * 3) ≤ 100000) ∧ (-100000 ≤ fo (j * 3 + 1) ∧ fo (j * 3 + 1) ≤ 100000) ∧ (-5000 ≤ fo (j * 3 + 2) ∧ fo (j * 3 + 2) ≤ 5000)) ∧ 0 < fo (j * 3 + 2) := fun j hj => by
    obtain ⟨e1, e2, e3⟩ := hfo j (by omega)
    have q := mem_allP.1 (S.sqP_in ain.1 ain.2 ((mem _).1 (List.getElem_mem (h := by omega))) : l[j]'(by omega) ∈ allP f n n)
    rw [e1, e2, e3]
    exact ⟨S.c_in q.1 q.2.1 q.2.2.1, vD_pos q.2.2.1⟩
  obtain ⟨Nf, hNf⟩ : ∃ Nf : Nat → Int, (fun j => x * fo (j * 3) + y * fo (j * 3 + 1)) = Nf := ⟨_, rfl⟩
  obtain ⟨Df, hDf⟩ : ∃ Df : Nat → Int, (fun j => fo (j * 3 + 2)) = Df := ⟨_, rfl⟩
  have fin : ∀ p q, Mx Nf Df M p q → SupA f n x y (p.tdiv (Int.gcd p q : Nat)) (q.tdiv (Int.gcd p q : Nat)) := fun p q hm => by
    refine .yes ⟨S, hx, hy⟩ (S.sup ain.1 ain.2 ?_ ?_)
    · obtain ⟨j, hj, rfl, rfl⟩ := hm.1
      obtain ⟨e1, e2, e3⟩ := hfo j (by omega)
      refine ⟨l[j]'(by omega), ?_, ?_, ?_⟩
      · rw [hM]; exact (mem _).1 (List.getElem_mem ..)
      · rw [← hNf]; simp only [e1, e2]; rfl
      · rw [← hDf]; exact e3
    · intro c hc
      rw [hM] at hc
      obtain ⟨j, hj, rfl⟩ := List.mem_iff_getElem.1 ((mem c).2 hc)
      obtain ⟨e1, e2, e3⟩ := hfo j hj
      have := hm.2 j (by omega)
      rw [← hNf, ← hDf] at this
      simp only [e1, e2, e3] at this
      exact this
  have FN : Hid ((∀ p q, Mx Nf Df M p q → SupA f n x y (p.tdiv (Int.gcd p q : Nat)) (q.tdiv (Int.gcd p q : Nat))) ∧ (∀ j, Nf j = x * fo (j * 3) + y * fo (j * 3 + 1)) ∧ (∀ j, Df j = fo (j * 3 + 2))) := ⟨fin, fun j => by rw [← hNf], fun j => by rw [← hDf]⟩
  clear fin hNf hDf hfo mem
  go_wp2_with (go_at_call 49; refine (in_any _ _ _ _).mono ?_; rintro e w3 ⟨rfl, rfl⟩)
  go_loopw [9, 10, 11] (fun s q r wr => ∃ (p d : Int) (i : Nat), i ≤ M ∧ s = .int .i64 p ∧ q = .int .i64 d ∧ r = .int .i64 (i : Int) ∧ ((i = 0 ∧ d = 0 ∧ p = 0) ∨ (0 < d ∧ Mx Nf Df i p d)) ∧ Trips wr go M fo ∧ Below w.heap.size w wr) (fun _ _ r _ => M - (intOf r).toNat)
  case atStart => exact ⟨0, 0, 0, Nat.zero_le _, rfl, rfl, rfl, .inl ⟨rfl, rfl, rfl⟩, L, B⟩
  case round =>
    clear L B
    obtain ⟨p, d, i, hi', rfl, rfl, rfl, hm, L, B⟩ := hrel
    have pin : (-10000000 ≤ p ∧ p ≤ 10000000) ∧ (-5000 ≤ d ∧ d ≤ 5000) := by
      rcases hm with ⟨-, rfl, rfl⟩ | ⟨-, hm⟩
      · omega
      · obtain ⟨j, hj, rfl, rfl⟩ := hm.1
        have b := bnd j (by omega)
        have m1 := mul_bound hx b.1.1
        have m2 := mul_bound hy b.1.2.1
        rw [FN.out.2.1 j, FN.out.2.2 j]
        omega
    by_cases hi : i < M
    · have hilt : (i : Int) < (M : Int) := by omega
      have b := bnd i hi
      have w1b := mul_bound hx b.1.1
      have w2b := mul_bound hy b.1.2.1
      have hNi := FN.out.2.1 i
      have hDi := FN.out.2.2 i
      have U1 : (i = 0 ∧ d = 0) → 0 < fo (i * 3 + 2) ∧ Mx Nf Df (i + 1) (Nf i) (fo (i * 3 + 2)) := fun h => by
        refine ⟨b.2, ?_⟩
        rw [← hDi, h.1]
        exact Mx.first Nf Df
      have U2 : ¬ d = 0 → p * fo (i * 3 + 2) < Nf i * d → Mx Nf Df (i + 1) (Nf i) (fo (i * 3 + 2)) := fun hd hl => by
        rcases hm with ⟨-, h, -⟩ | ⟨hd', hm⟩
        · exact absurd h hd
        · rw [← hDi] at hl ⊢
          exact hm.upd (fun j hj => by rw [FN.out.2.2 j]; exact (bnd j (by omega)).2) hd' hl
      have U3 : ¬ d = 0 → ¬ p * fo (i * 3 + 2) < Nf i * d → 0 < d ∧ Mx Nf Df (i + 1) p d := fun hd hl => by
        rcases hm with ⟨-, h, -⟩ | ⟨hd', hm⟩
        · exact absurd h hd
        · rw [← hDi] at hl
          exact ⟨hd', hm.stay hl⟩
      have U4 : d = 0 → i = 0 := fun hd => by
        rcases hm with ⟨h, -⟩ | ⟨h, -⟩
        · exact h
        · omega
      obtain ⟨m1, q1⟩ : ∃ m, x * fo (i * 3) = m := ⟨_, rfl⟩
      obtain ⟨m2, q2⟩ : ∃ m, y * fo (i * 3 + 1) = m := ⟨_, rfl⟩
      rw [q1, q2] at hNi
      rw [q1] at w1b
      rw [q2] at w2b
      obtain ⟨m3, q3⟩ : ∃ m, m1 + m2 = m := ⟨_, rfl⟩
      rw [q3] at hNi
      rw [hNi] at U1 U2 U3
      have v1 : IntKind.i64.wrap m1 = m1 := IntWalk.i64_in _ (by omega)
      have v2 : IntKind.i64.wrap m2 = m2 := IntWalk.i64_in _ (by omega)
      have v3 : IntKind.i64.wrap m3 = m3 := IntWalk.i64_in _ (by omega)
      have m3b : -10000000 ≤ m3 ∧ m3 ≤ 10000000 := by omega
      have UU : Hid (((i = 0 ∧ d = 0) → 0 < fo (i * 3 + 2) ∧ Mx Nf Df (i + 1) m3 (fo (i * 3 + 2))) ∧ (¬ d = 0 → p * fo (i * 3 + 2) < m3 * d → Mx Nf Df (i + 1) m3 (fo (i * 3 + 2))) ∧ (¬ d = 0 → ¬ p * fo (i * 3 + 2) < m3 * d → 0 < d ∧ Mx Nf Df (i + 1) p d) ∧ (d = 0 → i = 0)) := ⟨U1, U2, U3, U4⟩
      clear U1 U2 U3 U4 hm hNi hDi
      go_wp2_with fail
      obtain ⟨u0, hu0, bb⟩ : ∃ uu, wr.drew = uu ∧ Below wr.heap.size wr uu := ⟨_, rfl, (Below.refl _ _).drew⟩
      replace L := L.below bb
      replace B := B.trans (bb.mono B.size)
      clear bb
      refine wp_region_held_drew (S := Kb u0) (by kernel_rfl) (by rw [hu0]; exact Below.refl _ _) (fun hHeld => ?_)
      rw [hu0] at hHeld ⊢
      clear hu0
      have bu : Kb u0 u0 := Below.refl _ _
      change wpAnyH _ _ _ _ _ 16 #[false, false, false, false, false, false, false, false, false, false, false, false, false, false, false, false] _ _
      refine wpAnyH_take (i := 0) (v := .int .i64 x) rfl (by kernel_rfl) (by kernel_rfl) (by kernel_rfl) (fun _ _ _ h => h) (Or.inl ⟨by kernel_rfl, ?_⟩) hHeld ?_
      · intro w' hSw; go_simp
      try simp only [Act.put, List.setIfInBounds_toArray, List.set_cons_zero, List.set_cons_succ, List.getElem_toArray, List.getElem_cons_zero]
      refine wpAnyH_take (i := 1) (v := .slice (some ⟨go, 0, none⟩) M co) rfl (by kernel_rfl) (by kernel_rfl) (by kernel_rfl) (fun _ _ _ h => h) (Or.inl ⟨by kernel_rfl, ?_⟩) hHeld ?_
      · intro w' hSw; go_simp
      try simp only [Act.put, List.setIfInBounds_toArray, List.set_cons_zero, List.set_cons_succ, List.getElem_toArray, List.getElem_cons_succ, List.getElem_cons_zero]
      refine wpAnyH_take (i := 2) (v := .int .i64 (i : Int)) rfl (by kernel_rfl) (by kernel_rfl) (by kernel_rfl) (fun _ _ _ h => h) (Or.inl ⟨by kernel_rfl, ?_⟩) hHeld ?_
      · intro w' hSw; go_simp
      try simp only [Act.put, List.setIfInBounds_toArray, List.set_cons_zero, List.set_cons_succ, List.getElem_toArray, List.getElem_cons_succ, List.getElem_cons_zero]
      refine wpAnyH_take (i := 3) (v := .pointer (some ⟨go, i * 3, none⟩)) rfl (by kernel_rfl) (by kernel_rfl) (by kernel_rfl) (fun _ _ _ h => h) (Or.inl ⟨by kernel_rfl, ?_⟩) hHeld ?_
      · intro w' hSw; go_simp
      try simp only [Act.put, List.setIfInBounds_toArray, List.set_cons_zero, List.set_cons_succ, List.getElem_toArray, List.getElem_cons_succ, List.getElem_cons_zero]
      refine wpAnyH_take (i := 4) (v := .pointer (some ⟨go, i * 3, none⟩)) rfl (by kernel_rfl) (by kernel_rfl) (by kernel_rfl) (fun _ _ _ h => h) (Or.inl ⟨by kernel_rfl, ?_⟩) hHeld ?_
      · intro w' hSw; go_simp
      try simp only [Act.put, List.setIfInBounds_toArray, List.set_cons_zero, List.set_cons_succ, List.getElem_toArray, List.getElem_cons_succ, List.getElem_cons_zero]
      refine wpAnyH_take (i := 5) (v := .int .i64 (fo (i * 3))) rfl (by kernel_rfl) (by kernel_rfl) (by kernel_rfl) (fun _ _ _ h => h) (Or.inl ⟨by kernel_rfl, ?_⟩) hHeld ?_
      · intro w' hSw; have zz := (L.below hSw).open i hi; obtain ⟨z0, z1, z2⟩ := zz; go_simp
      try simp only [Act.put, List.setIfInBounds_toArray, List.set_cons_zero, List.set_cons_succ, List.getElem_toArray, List.getElem_cons_succ, List.getElem_cons_zero]
      refine wpAnyH_take (i := 6) (v := .int .i64 m1) rfl (by kernel_rfl) (by kernel_rfl) (by kernel_rfl) (fun _ _ _ h => h) (Or.inl ⟨by kernel_rfl, ?_⟩) hHeld ?_
      · intro w' hSw; go_simp
      try simp only [Act.put, List.setIfInBounds_toArray, List.set_cons_zero, List.set_cons_succ, List.getElem_toArray, List.getElem_cons_succ, List.getElem_cons_zero]
      refine wpAnyH_take (i := 7) (v := .int .i64 y) rfl (by kernel_rfl) (by kernel_rfl) (by kernel_rfl) (fun _ _ _ h => h) (Or.inl ⟨by kernel_rfl, ?_⟩) hHeld ?_
      · intro w' hSw; go_simp
      try simp only [Act.put, List.setIfInBounds_toArray, List.set_cons_zero, List.set_cons_succ, List.getElem_toArray, List.getElem_cons_succ, List.getElem_cons_zero]
      refine wpAnyH_take (i := 8) (v := .slice (some ⟨go, 0, none⟩) M co) rfl (by kernel_rfl) (by kernel_rfl) (by kernel_rfl) (fun _ _ _ h => h) (Or.inl ⟨by kernel_rfl, ?_⟩) hHeld ?_
      · intro w' hSw; go_simp
      try simp only [Act.put, List.setIfInBounds_toArray, List.set_cons_zero, List.set_cons_succ, List.getElem_toArray, List.getElem_cons_succ, List.getElem_cons_zero]
      refine wpAnyH_take (i := 9) (v := .int .i64 (i : Int)) rfl (by kernel_rfl) (by kernel_rfl) (by kernel_rfl) (fun _ _ _ h => h) (Or.inl ⟨by kernel_rfl, ?_⟩) hHeld ?_
      · intro w' hSw; go_simp
      try simp only [Act.put, List.setIfInBounds_toArray, List.set_cons_zero, List.set_cons_succ, List.getElem_toArray, List.getElem_cons_succ, List.getElem_cons_zero]
      refine wpAnyH_take (i := 10) (v := .pointer (some ⟨go, i * 3, none⟩)) rfl (by kernel_rfl) (by kernel_rfl) (by kernel_rfl) (fun _ _ _ h => h) (Or.inl ⟨by kernel_rfl, ?_⟩) hHeld ?_
      · intro w' hSw; go_simp
      try simp only [Act.put, List.setIfInBounds_toArray, List.set_cons_zero, List.set_cons_succ, List.getElem_toArray, List.getElem_cons_succ, List.getElem_cons_zero]
      refine wpAnyH_take (i := 11) (v := .pointer (some ⟨go, i * 3 + 1, none⟩)) rfl (by kernel_rfl) (by kernel_rfl) (by kernel_rfl) (fun _ _ _ h => h) (Or.inl ⟨by kernel_rfl, ?_⟩) hHeld ?_
      · intro w' hSw; go_simp
      try simp only [Act.put, List.setIfInBounds_toArray, List.set_cons_zero, List.set_cons_succ, List.getElem_toArray, List.getElem_cons_succ, List.getElem_cons_zero]
      refine wpAnyH_take (i := 12) (v := .int .i64 (fo (i * 3 + 1))) rfl (by kernel_rfl) (by kernel_rfl) (by kernel_rfl) (fun _ _ _ h => h) (Or.inl ⟨by kernel_rfl, ?_⟩) hHeld ?_
      · intro w' hSw; have zz := (L.below hSw).open i hi; obtain ⟨z0, z1, z2⟩ := zz; go_simp
      try simp only [Act.put, List.setIfInBounds_toArray, List.set_cons_zero, List.set_cons_succ, List.getElem_toArray, List.getElem_cons_succ, List.getElem_cons_zero]
      refine wpAnyH_take (i := 13) (v := .int .i64 m2) rfl (by kernel_rfl) (by kernel_rfl) (by kernel_rfl) (fun _ _ _ h => h) (Or.inl ⟨by kernel_rfl, ?_⟩) hHeld ?_
      · intro w' hSw; go_simp
      try simp only [Act.put, List.setIfInBounds_toArray, List.set_cons_zero, List.set_cons_succ, List.getElem_toArray, List.getElem_cons_succ, List.getElem_cons_zero]
      refine wpAnyH_take (i := 14) (v := .int .i64 m3) rfl (by kernel_rfl) (by kernel_rfl) (by kernel_rfl) (fun _ _ _ h => h) (Or.inl ⟨by kernel_rfl, ?_⟩) hHeld ?_
      · intro w' hSw; go_simp
      try simp only [Act.put, List.setIfInBounds_toArray, List.set_cons_zero, List.set_cons_succ, List.getElem_toArray, List.getElem_cons_succ, List.getElem_cons_zero]
      refine wpAnyH_ready (rs := [15]) (by kernel_rfl) (by simp) ?_
      refine AllReadyH.cons rfl (fun KK hK' => ?_) AllReadyH.nil
      go_simp
      clear hHeld
      refine hK'.out _ _ (bu) (fun hHeld => ?_)
      clear hK' KK
      try simp only [List.setIfInBounds_toArray, List.set_cons_zero, List.set_cons_succ]
      refine wpAnyH_done (by kernel_rfl) ?_ _
      clear hHeld
      replace B := B.trans (Below.mono bu B.size)
      replace L := L.below bu
      clear bu
      obtain ⟨U1, U2, U3, U4⟩ := UU.out
      clear v1 v2 v3 q1 q2 q3 UU
      have hdp := b.2
      have c1 := mul_bound m3b pin.2
      have c2 := mul_bound pin.1 b.1.2.2
      obtain ⟨z0, z1, z2⟩ := L.open i hi
      have lgo := L.1
      by_cases hd : d = 0
      · have H := U1 ⟨U4 hd, hd⟩
        subst hd
        clear U1 U2 U3 U4 c1 c2
        go_wp2
        exact ⟨⟨m3, fo (i * 3 + 2), i + 1, by omega, rfl, rfl, by go_num, .inr H, L, B⟩, by simp [intOf]; omega⟩
      · have hd' : (d == 0) = false := by rw [beq_eq_false_iff_ne]; exact hd
        by_cases hl : p * fo (i * 3 + 2) < m3 * d
        · have H := U2 hd hl
          clear U1 U2 U3 U4
          go_wp2
          exact ⟨⟨m3, fo (i * 3 + 2), i + 1, by omega, rfl, rfl, by go_num, .inr ⟨hdp, H⟩, L, B⟩, by simp [intOf]; omega⟩
        · have H := U3 hd (by omega)
          clear U1 U2 U3 U4
          go_wp2
          exact ⟨⟨p, d, i + 1, by omega, rfl, rfl, by go_num, .inr H, L, B⟩, by simp [intOf]; omega⟩
    · have hilt : ¬ (i : Int) < (M : Int) := by omega
      obtain rfl : M = i := by omega
      have hm' : 0 < d ∧ Mx Nf Df M p d := by
        rcases hm with ⟨h, -⟩ | h
        · omega
        · exact h
      have HA := FN.out.1 p d hm'.2
      have hdp := hm'.1
      have gpos : 0 < Int.gcd p d := Nat.pos_of_ne_zero (fun e => by have := (Int.gcd_eq_zero_iff.1 e).2; omega)
      have gp : ¬ ((Int.gcd p d : Nat) : Int) = 0 := by omega
      clear hm hm' FN bnd
      go_wp2_with fail
      refine (specGcd_any p d _ (by omega) (by omega)).mono ?_
      rintro e w3 ⟨rfl, rfl⟩
      have t1 := tdiv_small p ((Int.gcd p d : Nat) : Int)
      have t2 := tdiv_small d ((Int.gcd p d : Nat) : Int)
      obtain ⟨G, hG⟩ : ∃ G, ((Int.gcd p d : Nat) : Int) = G := ⟨_, rfl⟩
      rw [hG] at HA gp t1 t2 ⊢
      obtain ⟨a, ha⟩ : ∃ a, p.tdiv G = a := ⟨_, rfl⟩
      obtain ⟨b, hb⟩ : ∃ a, d.tdiv G = a := ⟨_, rfl⟩
      rw [ha] at HA t1
      rw [hb] at HA t2
      have wa : IntKind.i64.wrap a = a := IntWalk.i64_in _ (by omega)
      have wb : IntKind.i64.wrap b = b := IntWalk.i64_in _ (by omega)
      clear hG gpos t1 t2
      go_wp2
      obtain ⟨u0, hu0, bb⟩ : ∃ uu, wr.drew = uu ∧ Below wr.heap.size wr uu := ⟨_, rfl, (Below.refl _ _).drew⟩
      replace B := B.trans (bb.mono B.size)
      clear bb
      refine wp_region_held_drew (S := AnyW) (by kernel_rfl) trivial (fun hHeld => ?_)
      rw [hu0] at hHeld ⊢
      clear hu0
      change wpAnyH _ _ _ _ _ 8 #[false, false, false, false, false, false, false, false] _ _
      refine wpAnyH_take (i := 0) (v := .int .i64 p) rfl (by kernel_rfl) (by kernel_rfl) (by kernel_rfl) (fun _ _ _ h => h) (Or.inl ⟨by kernel_rfl, ?_⟩) hHeld ?_
      · intro w' hSw; go_simp
      try simp only [Act.put, List.setIfInBounds_toArray, List.set_cons_zero, List.set_cons_succ, List.getElem_toArray, List.getElem_cons_zero]
      refine wpAnyH_take (i := 1) (v := .int .i64 G) rfl (by kernel_rfl) (by kernel_rfl) (by kernel_rfl) (fun _ _ _ h => h) (Or.inl ⟨by kernel_rfl, ?_⟩) hHeld ?_
      · intro w' hSw; go_simp
      try simp only [Act.put, List.setIfInBounds_toArray, List.set_cons_zero, List.set_cons_succ, List.getElem_toArray, List.getElem_cons_succ, List.getElem_cons_zero]
      refine wpAnyH_take (i := 2) (v := .int .i64 a) rfl (by kernel_rfl) (by kernel_rfl) (by kernel_rfl) (fun _ _ _ h => h) (Or.inl ⟨by kernel_rfl, ?_⟩) hHeld ?_
      · intro w' hSw; go_simp
      try simp only [Act.put, List.setIfInBounds_toArray, List.set_cons_zero, List.set_cons_succ, List.getElem_toArray, List.getElem_cons_succ, List.getElem_cons_zero]
      refine wpAnyH_take (i := 3) (v := .int .i64 d) rfl (by kernel_rfl) (by kernel_rfl) (by kernel_rfl) (fun _ _ _ h => h) (Or.inl ⟨by kernel_rfl, ?_⟩) hHeld ?_
      · intro w' hSw; go_simp
      try simp only [Act.put, List.setIfInBounds_toArray, List.set_cons_zero, List.set_cons_succ, List.getElem_toArray, List.getElem_cons_succ, List.getElem_cons_zero]
      refine wpAnyH_take (i := 4) (v := .int .i64 G) rfl (by kernel_rfl) (by kernel_rfl) (by kernel_rfl) (fun _ _ _ h => h) (Or.inl ⟨by kernel_rfl, ?_⟩) hHeld ?_
      · intro w' hSw; go_simp
      try simp only [Act.put, List.setIfInBounds_toArray, List.set_cons_zero, List.set_cons_succ, List.getElem_toArray, List.getElem_cons_succ, List.getElem_cons_zero]
      refine wpAnyH_take (i := 5) (v := .int .i64 b) rfl (by kernel_rfl) (by kernel_rfl) (by kernel_rfl) (fun _ _ _ h => h) (Or.inl ⟨by kernel_rfl, ?_⟩) hHeld ?_
      · intro w' hSw; go_simp
      try simp only [Act.put, List.setIfInBounds_toArray, List.set_cons_zero, List.set_cons_succ, List.getElem_toArray, List.getElem_cons_succ, List.getElem_cons_zero]
      refine wpAnyH_ready (rs := [6]) (by kernel_rfl) (by simp) ?_
      refine AllReadyH.cons rfl (fun KK hK' => ?_) AllReadyH.nil
      go_simp
      clear hHeld
      refine hK'.out _ _ (trivial) (fun hHeld => ?_)
      clear hK' KK
      try simp only [List.setIfInBounds_toArray, List.set_cons_zero, List.set_cons_succ]
      refine wpAnyH_ready (rs := [7]) (by kernel_rfl) (by simp) ?_
      refine AllReadyH.cons rfl (fun KK hK' => ?_) AllReadyH.nil
      go_simp
      clear hHeld
      refine hK'.out _ _ (trivial) (fun hHeld => ?_)
      clear hK' KK
      try simp only [List.setIfInBounds_toArray, List.set_cons_zero, List.set_cons_succ]
      refine wpAnyH_done (by kernel_rfl) ?_ _
      clear hHeld
      go_wp2
      exact bodyPost_ret (v := .tuple #[.int .i64 a, .int .i64 b]) (by simp [results, Try.results17, go_sem]) rfl ⟨⟨_, _, rfl, HA⟩, B⟩
end Go.Proofs.Ytealbihplfpgeaa
