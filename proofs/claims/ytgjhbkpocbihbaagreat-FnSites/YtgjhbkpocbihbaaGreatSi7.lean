/-
  The law of a group's sites: the draw, the walk.
-/
import Derived.Test.YtgjhbkpocbihbaaGreatSi4
import Derived.Test.YtgjhbkpocbihbaaGreatNL
import Derived.Test.YtgjhbkpocbihbaaGreatNN
import Derived.Test.YtgjhbkpocbihbaaGreatDrA
namespace Go.Proofs.YtgjhbkpocbihbaaGreat
open Go.RowKit

/-- The first i counts together. -/
def suL (l : List Q2) (i : Nat) : Int := ((l.take i).map Prod.fst).sum
theorem suL_next {l : List Q2} {i : Nat} (h : i < l.length) : suL l (i + 1) = suL l i + (l.getD i (0, 0)).1 := by
  unfold suL
  rw [List.take_succ_eq_append_getElem h, List.map_append, List.sum_append, List.getD_eq_getElem?_getD, List.getElem?_eq_getElem h]
  simp
theorem sum_nn : ∀ {l : List Q2}, (∀ y, y ∈ l → 0 ≤ y.1) → 0 ≤ (l.map Prod.fst).sum
  | [], _ => by simp
  | a :: l, h => by
    have h1 := h a List.mem_cons_self
    have h2 := sum_nn (l := l) (fun y hy => h y (List.mem_cons_of_mem _ hy))
    rw [List.map_cons, List.sum_cons]
    omega
theorem suL_le {l : List Q2} (h : ∀ y, y ∈ l → 0 ≤ y.1) (i : Nat) : 0 ≤ suL l i ∧ suL l i ≤ (l.map Prod.fst).sum := by
  refine ⟨sum_nn (fun y hy => h y (List.mem_of_mem_take hy)), ?_⟩
  have h1 : (l.map Prod.fst).sum = suL l i + ((l.drop i).map Prod.fst).sum := by
    unfold suL
    rw [← List.sum_append, ← List.map_append, List.take_append_drop]
  have h2 := sum_nn (l := l.drop i) (fun y hy => h y (List.mem_of_mem_drop hy))
  omega
theorem siL_sum (c : Nat → Nat) : ∀ m, ((siL c m).map Prod.fst).sum = ((sumN c m : Nat) : Int)
  | 0 => rfl
  | m + 1 => by
    have ih := siL_sum c m
    have e : sumN c (m + 1) = sumN c m + c m := rfl
    unfold siL
    split
    · rw [List.map_append, List.sum_append, ih, e]
      simp
    · rw [ih, e]
      omega
/-- All points are counted. -/
theorem ckN_all {n : Nat} {A : Nat → OpD} (hn : n ≤ 192) : sumN (ckN n A) 193 = 13824 := by
  have h := kN_parts (P := fun q => ((rkN n A q : Int), (0 : Int), (0 : Int))) (F := fun t => ((t : Int), (0 : Int), (0 : Int))) (m := 193) (n := 13824) (fun t t' _ _ e => by
    have := congrArg Prod.fst e
    simp only at this
    omega) (fun q _ => ⟨rkN n A q, by have := rkN_le n A q; omega, rfl⟩)
  have e : (fun t : Nat => kN (fun q => decide (((rkN n A q : Int), (0 : Int), (0 : Int)) = ((t : Int), (0 : Int), (0 : Int)))) 13824) = ckN n A := by
    funext t
    refine kN_congr fun q _ => ?_
    refine decide_eq_decide.2 ⟨fun e => ?_, fun e => by rw [e]⟩
    have := congrArg Prod.fst e
    simp only at this
    omega
  rw [e] at h
  exact h
/-- What the law asks of a site. -/
theorem site_ok {n : Nat} {A : Nat → OpD} (hG : isG n A) {y : Int × Int} (hy : y ∈ siL (ckN n A) 193) : (1 ≤ y.2 ∧ y.2 ≤ 192) ∧ (0 ≤ y.1 ∧ y.1 ≤ 13824) ∧ Int.tmod y.1 y.2 = 0 ∧ Int.tmod (n : Int) y.2 = 0 := by
  obtain ⟨r, h1, h2, rfl⟩ := siL_mem.1 hy
  obtain ⟨q, hq, hr⟩ := kN_pos h2
  have hr' : rkN n A q = r := of_decide_eq_true hr
  obtain ⟨d1, d2⟩ := rkN_div hG hq
  rw [hr'] at d1 d2
  have d3 := ckN_mod hG r
  have d4 := ckN_le n A r
  have t : ∀ a : Nat, a % r = 0 → Int.tmod (a : Int) (r : Int) = 0 := fun a h => by
    rw [Int.tmod_eq_emod_of_nonneg (by omega), ← Int.natCast_emod, h]
    rfl
  exact ⟨⟨by show (1 : Int) ≤ (r : Int); omega, by show (r : Int) ≤ 192; omega⟩, ⟨by show (0 : Int) ≤ ((ckN n A r : Nat) : Int); omega, by show ((ckN n A r : Nat) : Int) ≤ 13824; omega⟩, t _ d3, t _ d2⟩
theorem ArK.cellS {w : World} {lo hi g c : Nat} {l : List Q2} (h : ArK 2 31 w lo hi (.slice (some ⟨g, 0, none⟩) l.length c) l.length (flS l)) {i : Nat} (hi : i < l.length) : w.cell? ⟨g, i * 2, none⟩ = some (.int .i64 (l.getD i (0, 0)).1) ∧ w.cell? ⟨g, i * 2 + 1, none⟩ = some (.int .i64 (l.getD i (0, 0)).2) := by
  obtain ⟨g', c', e, -, -, -, cur, a, hs, hc⟩ := h.nn (fun e => by cases e)
  cases e
  have h0 := hc (i * 2) (by omega)
  have h1 := hc (i * 2 + 1) (by omega)
  unfold flS at h0 h1
  rw [show i * 2 / 2 = i by omega, show i * 2 % 2 = 0 by omega] at h0
  rw [show (i * 2 + 1) / 2 = i by omega, show (i * 2 + 1) % 2 = 1 by omega] at h1
  exact ⟨a.cell _ h0, a.cell _ h1⟩
set_option maxRecDepth 100000 in
theorem drawSites_any {w : World} {a : Option Addr} {len cap : Nat} (hr : Row w w.heap.size a len) :
    Calls Tryz.prog 7 #[.slice a len cap] w (GivG w) := by
  go_enter Tryz.func7, Tryz.ntmps7
  go_wp2_with fail
  refine (drawPoint_any hr).mono ?_
  rintro e w3 ⟨g, n, c, A, rfl, hn, L, B, Z⟩
  have N : Hid (GivG w (.returned (.slice (some ⟨g, 0, none⟩) n c)) w3) := ⟨g, n, c, A, rfl, hn, L, B, Z⟩
  clear L B hr Z
  go_wp2
  go_ret
  exact N.out
set_option maxRecDepth 100000 in
set_option maxHeartbeats 4000000 in
theorem sites_walk {w : World} {a : Option Addr} {len cap : Nat} (hr : Row w w.heap.size a len) :
    Calls Tryz.prog 3 #[.slice a len cap] w fun e w' => e = .returned (.bool true) ∧ Below w.heap.size w w' := by
  go_enter Tryz.func3, Tryz.ntmps3
  go_wp2_with fail
  refine (big_any a len cap w hr.1).mono ?_
  rintro e w' ⟨rfl, rfl⟩
  by_cases hb : 1048576 < len
  · simp only [decide_eq_true hb]
    go_wp2
    go_ret
    exact ⟨rfl, Below.refl _ _⟩
  simp only [decide_eq_false hb]
  go_wp2_with fail
  refine (drawSites_any hr).mono ?_
  rintro e w1 ⟨g, n, c, A, rfl, hn, L, B, -⟩
  clear hr hb
  have HL := hid_of L
  have HB := hid_of B
  clear L B
  go_wp2_with fail
  refine (groupOk_any HL.out (by omega)).mono ?_
  rintro e w2 ⟨⟨r, rfl, hrr⟩, b2⟩
  replace HL := hid_of (HL.out.below b2)
  replace HB := hid_of (HB.out.trans (b2.mono HB.out.size))
  clear b2
  cases r
  · clear hrr HL
    go_wp2
    go_ret
    exact ⟨rfl, HB.out⟩
  have HG : Hid (isG n A) := hid_of (hrr.1 rfl)
  have hn2 : n ≤ 192 := HG.out.1
  clear hrr hn
  have hn' : (n : Int) ≤ 192 := by omega
  go_wp2_with fail
  refine (copyOps_any HL.out hn2 HG.out.2.1).mono ?_
  rintro e w3 ⟨⟨X, Y, v, rfl, P⟩, b3⟩
  obtain ⟨g3, c3, rfl, -, L3⟩ := P.opsL
  have HL3 := hid_of L3
  replace HB := hid_of (HB.out.trans (b3.mono HB.out.size))
  clear P L3 b3 HL
  go_wp2_with fail
  refine (implSites_any HL3.out (by omega)).mono ?_
  rintro e w4 ⟨⟨l, gs, k, hl, rfl, hA⟩, b4⟩
  have hl' : l = siL (ckN n A) 193 := by
    rcases hl with ⟨-, h⟩ | ⟨h, -⟩
    · exact h
    · exact absurd HG.out h
  have HT : Hid (suL l l.length = 13824) := by
    have h := siL_sum (ckN n A) 193
    rw [ckN_all hn2, ← hl'] at h
    show suL l l.length = 13824
    unfold suL
    rw [List.take_length]
    exact h
  have HOK : Hid (∀ y, y ∈ l → (1 ≤ y.2 ∧ y.2 ≤ 192) ∧ (0 ≤ y.1 ∧ y.1 ≤ 13824) ∧ Int.tmod y.1 y.2 = 0 ∧ Int.tmod (n : Int) y.2 = 0) := fun y hy => site_ok HG.out (by rw [← hl']; exact hy)
  have HSU : Hid (∀ i, 0 ≤ suL l i ∧ suL l i ≤ 13824) := fun i => by
    have h := suL_le (l := l) (fun y hy => (HOK.out y hy).2.1.1) i
    have h2 := HT.out
    unfold suL at h2
    rw [List.take_length] at h2
    rw [h2] at h
    exact h
  obtain ⟨N, hN⟩ : ∃ N, l.length = N := ⟨_, rfl⟩
  have HN := hid_of hN
  have hNb : N ≤ 193 := by rw [← hN, hl']; exact siL_len _ _
  have hNi : (N : Int) ≤ 193 := by omega
  have HAS := hid_of hA
  have HCL : Hid (∀ w', Below w4.heap.size w4 w' → ∀ i, i < N → w'.cell? ⟨gs, i * 2, none⟩ = some (.int .i64 (l.getD i (0, 0)).1) ∧ w'.cell? ⟨gs, i * 2 + 1, none⟩ = some (.int .i64 (l.getD i (0, 0)).2)) := fun w' hb i hi => (HAS.out.below hb).cellS (by rw [HN.out]; exact hi)
  have H4 : Hid (Below w4.heap.size w4 w4) := hid_of (Below.refl _ _)
  rw [hN] at HT ⊢
  have HBW : Hid (Below w.heap.size w w4 ∧ w.heap.size ≤ w4.heap.size) := hid_of ⟨HB.out.trans (b4.mono HB.out.size), Nat.le_trans HB.out.size b4.size⟩
  clear hl hl' hA b4 HL3 HB HAS hN
  go_wp2
  go_loopw [5, 6] (fun v s wr => ∃ i : Nat, i ≤ N ∧ v = .int .i64 (suL l i) ∧ s = .int .i64 (i : Int) ∧ Hid (Below w4.heap.size w4 wr)) (fun _ s _ => N - (intOf s).toNat)
  case atStart => exact ⟨0, Nat.zero_le _, by unfold suL; simp, rfl, H4⟩
  case round =>
    clear H4
    obtain ⟨i, hi, rfl, rfl, HK⟩ := hrel
    rename World => wr
    obtain ⟨Z, hZ⟩ : ∃ z, suL l i = z := ⟨_, rfl⟩
    have HZ := hid_of hZ
    rw [hZ]
    clear hZ
    by_cases hlt : i < N
    · have hlt' : (i : Int) < (N : Int) := by omega
      have hmem : l.getD i (0, 0) ∈ l := by
        have h : i < l.length := by rw [HN.out]; exact hlt
        rw [List.getD_eq_getElem?_getD, List.getElem?_eq_getElem h]
        exact List.getElem_mem h
      have hnx := suL_next (l := l) (i := i) (by rw [HN.out]; exact hlt)
      obtain ⟨⟨r1, r2⟩, ⟨c1, c2⟩, t1, t2⟩ := HOK.out _ hmem
      have hs1 := HSU.out (i + 1)
      have hcl := fun w' hb => HCL.out w' hb i hlt
      rw [HZ.out] at hnx
      generalize l.getD i (0, 0) = y at hnx r1 r2 c1 c2 t1 t2 hcl
      obtain ⟨cn, rk⟩ := y
      simp only at hnx r1 r2 c1 c2 t1 t2 hcl
      rw [hnx] at hs1
      have HNX := hid_of hnx
      have CLi : Hid (∀ w', Below wr.heap.size wr w' → w'.cell? ⟨gs, i * 2, none⟩ = some (.int .i64 cn) ∧ w'.cell? ⟨gs, i * 2 + 1, none⟩ = some (.int .i64 rk)) := fun w' hb => hcl w' (HK.out.trans (hb.mono HK.out.size))
      have hr1 : ¬ rk < 1 := by omega
      have hr0 : ¬ rk = 0 := by omega
      have hr0' : (rk == 0) = false := by simp; omega
      have hwz : IntKind.i64.wrap (Z + cn) = Z + cn := IntWalk.i64_in _ (by omega)
      clear hnx hcl hmem hs1
      go_wp2_with fail
      obtain ⟨u0, hu0, bb⟩ : ∃ uu, wr.drew = uu ∧ Below wr.heap.size wr uu := ⟨_, rfl, (Below.refl _ _).drew⟩
      have bk0 : Kb wr u0 := bb
      clear bb
      refine wp_region_held_drew (S := Kb u0) (by kernel_rfl) (by rw [hu0]; exact Below.refl _ _) (fun hHeld => ?_)
      rw [hu0] at hHeld ⊢
      clear hu0
      have bu : Kb u0 u0 := Below.refl _ _
      change wpAnyH _ _ _ _ _ 31 #[false, false, false, false, false, false, false, false, false, false, false, false, false, false, false, false, false, false, false, false, false, false, false, false, false, false, false, false, false, false, false] _ _
      refine wpAnyH_take (i := 0) (v := .slice ((some ⟨gs, 0, none⟩)) N k) rfl (by kernel_rfl) (by kernel_rfl) (by kernel_rfl) (fun _ _ _ h => h) (Or.inl ⟨by kernel_rfl, ?_⟩) hHeld ?_
      · intro w' hSw; go_simp
      try simp only [Act.put, List.setIfInBounds_toArray, List.set_cons_zero, List.set_cons_succ, List.getElem_toArray, List.getElem_cons_zero]
      refine wpAnyH_take (i := 1) (v := .int .i64 ((i : Int))) rfl (by kernel_rfl) (by kernel_rfl) (by kernel_rfl) (fun _ _ _ h => h) (Or.inl ⟨by kernel_rfl, ?_⟩) hHeld ?_
      · intro w' hSw; go_simp
      try simp only [Act.put, List.setIfInBounds_toArray, List.set_cons_zero, List.set_cons_succ, List.getElem_toArray, List.getElem_cons_succ, List.getElem_cons_zero]
      refine wpAnyH_take (i := 2) (v := .pointer (some ⟨gs, i * 2, none⟩)) rfl (by kernel_rfl) (by kernel_rfl) (by kernel_rfl) (fun _ _ _ h => h) (Or.inl ⟨by kernel_rfl, ?_⟩) hHeld ?_
      · intro w' hSw; go_simp
      try simp only [Act.put, List.setIfInBounds_toArray, List.set_cons_zero, List.set_cons_succ, List.getElem_toArray, List.getElem_cons_succ, List.getElem_cons_zero]
      refine wpAnyH_take (i := 3) (v := .pointer (some ⟨gs, i * 2 + 1, none⟩)) rfl (by kernel_rfl) (by kernel_rfl) (by kernel_rfl) (fun _ _ _ h => h) (Or.inl ⟨by kernel_rfl, ?_⟩) hHeld ?_
      · intro w' hSw; go_simp
      try simp only [Act.put, List.setIfInBounds_toArray, List.set_cons_zero, List.set_cons_succ, List.getElem_toArray, List.getElem_cons_succ, List.getElem_cons_zero]
      refine wpAnyH_take (i := 4) (v := .int .i64 (rk)) rfl (by kernel_rfl) (by kernel_rfl) (by kernel_rfl) (fun _ _ _ h => h) (Or.inl ⟨by kernel_rfl, ?_⟩) hHeld ?_
      · intro w' hSw; obtain ⟨z0, z1⟩ := CLi.out _ (bk0.trans (Below.mono hSw bk0.size)); go_simp
      try simp only [Act.put, List.setIfInBounds_toArray, List.set_cons_zero, List.set_cons_succ, List.getElem_toArray, List.getElem_cons_succ, List.getElem_cons_zero]
      refine wpAnyH_take (i := 5) (v := .bool false) rfl (by kernel_rfl) (by kernel_rfl) (by kernel_rfl) (fun _ _ _ h => h) (Or.inl ⟨by kernel_rfl, ?_⟩) hHeld ?_
      · intro w' hSw; go_simp
      try simp only [Act.put, List.setIfInBounds_toArray, List.set_cons_zero, List.set_cons_succ, List.getElem_toArray, List.getElem_cons_succ, List.getElem_cons_zero]
      refine wpAnyH_take (i := 6) (v := .bool false) rfl (by kernel_rfl) (by kernel_rfl) (by kernel_rfl) (fun _ _ _ h => h) (Or.inl ⟨by kernel_rfl, ?_⟩) hHeld ?_
      · intro w' hSw; go_simp
      try simp only [Act.put, List.setIfInBounds_toArray, List.set_cons_zero, List.set_cons_succ, List.getElem_toArray, List.getElem_cons_succ, List.getElem_cons_zero]
      refine wpAnyH_take (i := 7) (v := .slice ((some ⟨gs, 0, none⟩)) N k) rfl (by kernel_rfl) (by kernel_rfl) (by kernel_rfl) (fun _ _ _ h => h) (Or.inl ⟨by kernel_rfl, ?_⟩) hHeld ?_
      · intro w' hSw; go_simp
      try simp only [Act.put, List.setIfInBounds_toArray, List.set_cons_zero, List.set_cons_succ, List.getElem_toArray, List.getElem_cons_succ, List.getElem_cons_zero]
      refine wpAnyH_take (i := 8) (v := .int .i64 ((i : Int))) rfl (by kernel_rfl) (by kernel_rfl) (by kernel_rfl) (fun _ _ _ h => h) (Or.inl ⟨by kernel_rfl, ?_⟩) hHeld ?_
      · intro w' hSw; go_simp
      try simp only [Act.put, List.setIfInBounds_toArray, List.set_cons_zero, List.set_cons_succ, List.getElem_toArray, List.getElem_cons_succ, List.getElem_cons_zero]
      refine wpAnyH_take (i := 9) (v := .pointer (some ⟨gs, i * 2, none⟩)) rfl (by kernel_rfl) (by kernel_rfl) (by kernel_rfl) (fun _ _ _ h => h) (Or.inl ⟨by kernel_rfl, ?_⟩) hHeld ?_
      · intro w' hSw; go_simp
      try simp only [Act.put, List.setIfInBounds_toArray, List.set_cons_zero, List.set_cons_succ, List.getElem_toArray, List.getElem_cons_succ, List.getElem_cons_zero]
      refine wpAnyH_take (i := 10) (v := .pointer (some ⟨gs, i * 2, none⟩)) rfl (by kernel_rfl) (by kernel_rfl) (by kernel_rfl) (fun _ _ _ h => h) (Or.inl ⟨by kernel_rfl, ?_⟩) hHeld ?_
      · intro w' hSw; go_simp
      try simp only [Act.put, List.setIfInBounds_toArray, List.set_cons_zero, List.set_cons_succ, List.getElem_toArray, List.getElem_cons_succ, List.getElem_cons_zero]
      refine wpAnyH_take (i := 11) (v := .int .i64 (cn)) rfl (by kernel_rfl) (by kernel_rfl) (by kernel_rfl) (fun _ _ _ h => h) (Or.inl ⟨by kernel_rfl, ?_⟩) hHeld ?_
      · intro w' hSw; obtain ⟨z0, z1⟩ := CLi.out _ (bk0.trans (Below.mono hSw bk0.size)); go_simp
      try simp only [Act.put, List.setIfInBounds_toArray, List.set_cons_zero, List.set_cons_succ, List.getElem_toArray, List.getElem_cons_succ, List.getElem_cons_zero]
      refine wpAnyH_take (i := 12) (v := .slice ((some ⟨gs, 0, none⟩)) N k) rfl (by kernel_rfl) (by kernel_rfl) (by kernel_rfl) (fun _ _ _ h => h) (Or.inl ⟨by kernel_rfl, ?_⟩) hHeld ?_
      · intro w' hSw; go_simp
      try simp only [Act.put, List.setIfInBounds_toArray, List.set_cons_zero, List.set_cons_succ, List.getElem_toArray, List.getElem_cons_succ, List.getElem_cons_zero]
      refine wpAnyH_take (i := 13) (v := .int .i64 ((i : Int))) rfl (by kernel_rfl) (by kernel_rfl) (by kernel_rfl) (fun _ _ _ h => h) (Or.inl ⟨by kernel_rfl, ?_⟩) hHeld ?_
      · intro w' hSw; go_simp
      try simp only [Act.put, List.setIfInBounds_toArray, List.set_cons_zero, List.set_cons_succ, List.getElem_toArray, List.getElem_cons_succ, List.getElem_cons_zero]
      refine wpAnyH_take (i := 14) (v := .pointer (some ⟨gs, i * 2, none⟩)) rfl (by kernel_rfl) (by kernel_rfl) (by kernel_rfl) (fun _ _ _ h => h) (Or.inl ⟨by kernel_rfl, ?_⟩) hHeld ?_
      · intro w' hSw; go_simp
      try simp only [Act.put, List.setIfInBounds_toArray, List.set_cons_zero, List.set_cons_succ, List.getElem_toArray, List.getElem_cons_succ, List.getElem_cons_zero]
      refine wpAnyH_take (i := 15) (v := .pointer (some ⟨gs, i * 2 + 1, none⟩)) rfl (by kernel_rfl) (by kernel_rfl) (by kernel_rfl) (fun _ _ _ h => h) (Or.inl ⟨by kernel_rfl, ?_⟩) hHeld ?_
      · intro w' hSw; go_simp
      try simp only [Act.put, List.setIfInBounds_toArray, List.set_cons_zero, List.set_cons_succ, List.getElem_toArray, List.getElem_cons_succ, List.getElem_cons_zero]
      refine wpAnyH_take (i := 16) (v := .int .i64 (rk)) rfl (by kernel_rfl) (by kernel_rfl) (by kernel_rfl) (fun _ _ _ h => h) (Or.inl ⟨by kernel_rfl, ?_⟩) hHeld ?_
      · intro w' hSw; obtain ⟨z0, z1⟩ := CLi.out _ (bk0.trans (Below.mono hSw bk0.size)); go_simp
      try simp only [Act.put, List.setIfInBounds_toArray, List.set_cons_zero, List.set_cons_succ, List.getElem_toArray, List.getElem_cons_succ, List.getElem_cons_zero]
      refine wpAnyH_take (i := 17) (v := .int .i64 (0)) rfl (by kernel_rfl) (by kernel_rfl) (by kernel_rfl) (fun _ _ _ h => h) (Or.inl ⟨by kernel_rfl, ?_⟩) hHeld ?_
      · intro w' hSw; go_simp
      try simp only [Act.put, List.setIfInBounds_toArray, List.set_cons_zero, List.set_cons_succ, List.getElem_toArray, List.getElem_cons_succ, List.getElem_cons_zero]
      refine wpAnyH_take (i := 18) (v := .bool false) rfl (by kernel_rfl) (by kernel_rfl) (by kernel_rfl) (fun _ _ _ h => h) (Or.inl ⟨by kernel_rfl, ?_⟩) hHeld ?_
      · intro w' hSw; go_simp
      try simp only [Act.put, List.setIfInBounds_toArray, List.set_cons_zero, List.set_cons_succ, List.getElem_toArray, List.getElem_cons_succ, List.getElem_cons_zero]
      refine wpAnyH_take (i := 19) (v := .bool false) rfl (by kernel_rfl) (by kernel_rfl) (by kernel_rfl) (fun _ _ _ h => h) (Or.inl ⟨by kernel_rfl, ?_⟩) hHeld ?_
      · intro w' hSw; go_simp
      try simp only [Act.put, List.setIfInBounds_toArray, List.set_cons_zero, List.set_cons_succ, List.getElem_toArray, List.getElem_cons_succ, List.getElem_cons_zero]
      refine wpAnyH_take (i := 20) (v := .bool false) rfl (by kernel_rfl) (by kernel_rfl) (by kernel_rfl) (fun _ _ _ h => h) (Or.inl ⟨by kernel_rfl, ?_⟩) hHeld ?_
      · intro w' hSw; go_simp
      try simp only [Act.put, List.setIfInBounds_toArray, List.set_cons_zero, List.set_cons_succ, List.getElem_toArray, List.getElem_cons_succ, List.getElem_cons_zero]
      refine wpAnyH_take (i := 21) (v := .slice ((some ⟨g, 0, none⟩)) n c) rfl (by kernel_rfl) (by kernel_rfl) (by kernel_rfl) (fun _ _ _ h => h) (Or.inl ⟨by kernel_rfl, ?_⟩) hHeld ?_
      · intro w' hSw; go_simp
      try simp only [Act.put, List.setIfInBounds_toArray, List.set_cons_zero, List.set_cons_succ, List.getElem_toArray, List.getElem_cons_succ, List.getElem_cons_zero]
      refine wpAnyH_take (i := 22) (v := .int .i64 ((n : Int))) rfl (by kernel_rfl) (by kernel_rfl) (by kernel_rfl) (fun _ _ _ h => h) (Or.inl ⟨by kernel_rfl, ?_⟩) hHeld ?_
      · intro w' hSw; go_simp
      try simp only [Act.put, List.setIfInBounds_toArray, List.set_cons_zero, List.set_cons_succ, List.getElem_toArray, List.getElem_cons_succ, List.getElem_cons_zero]
      refine wpAnyH_take (i := 23) (v := .slice ((some ⟨gs, 0, none⟩)) N k) rfl (by kernel_rfl) (by kernel_rfl) (by kernel_rfl) (fun _ _ _ h => h) (Or.inl ⟨by kernel_rfl, ?_⟩) hHeld ?_
      · intro w' hSw; go_simp
      try simp only [Act.put, List.setIfInBounds_toArray, List.set_cons_zero, List.set_cons_succ, List.getElem_toArray, List.getElem_cons_succ, List.getElem_cons_zero]
      refine wpAnyH_take (i := 24) (v := .int .i64 ((i : Int))) rfl (by kernel_rfl) (by kernel_rfl) (by kernel_rfl) (fun _ _ _ h => h) (Or.inl ⟨by kernel_rfl, ?_⟩) hHeld ?_
      · intro w' hSw; go_simp
      try simp only [Act.put, List.setIfInBounds_toArray, List.set_cons_zero, List.set_cons_succ, List.getElem_toArray, List.getElem_cons_succ, List.getElem_cons_zero]
      refine wpAnyH_take (i := 25) (v := .pointer (some ⟨gs, i * 2, none⟩)) rfl (by kernel_rfl) (by kernel_rfl) (by kernel_rfl) (fun _ _ _ h => h) (Or.inl ⟨by kernel_rfl, ?_⟩) hHeld ?_
      · intro w' hSw; go_simp
      try simp only [Act.put, List.setIfInBounds_toArray, List.set_cons_zero, List.set_cons_succ, List.getElem_toArray, List.getElem_cons_succ, List.getElem_cons_zero]
      refine wpAnyH_take (i := 26) (v := .pointer (some ⟨gs, i * 2 + 1, none⟩)) rfl (by kernel_rfl) (by kernel_rfl) (by kernel_rfl) (fun _ _ _ h => h) (Or.inl ⟨by kernel_rfl, ?_⟩) hHeld ?_
      · intro w' hSw; go_simp
      try simp only [Act.put, List.setIfInBounds_toArray, List.set_cons_zero, List.set_cons_succ, List.getElem_toArray, List.getElem_cons_succ, List.getElem_cons_zero]
      refine wpAnyH_take (i := 27) (v := .int .i64 (rk)) rfl (by kernel_rfl) (by kernel_rfl) (by kernel_rfl) (fun _ _ _ h => h) (Or.inl ⟨by kernel_rfl, ?_⟩) hHeld ?_
      · intro w' hSw; obtain ⟨z0, z1⟩ := CLi.out _ (bk0.trans (Below.mono hSw bk0.size)); go_simp
      try simp only [Act.put, List.setIfInBounds_toArray, List.set_cons_zero, List.set_cons_succ, List.getElem_toArray, List.getElem_cons_succ, List.getElem_cons_zero]
      refine wpAnyH_take (i := 28) (v := .int .i64 (0)) rfl (by kernel_rfl) (by kernel_rfl) (by kernel_rfl) (fun _ _ _ h => h) (Or.inl ⟨by kernel_rfl, ?_⟩) hHeld ?_
      · intro w' hSw; go_simp
      try simp only [Act.put, List.setIfInBounds_toArray, List.set_cons_zero, List.set_cons_succ, List.getElem_toArray, List.getElem_cons_succ, List.getElem_cons_zero]
      refine wpAnyH_take (i := 29) (v := .bool false) rfl (by kernel_rfl) (by kernel_rfl) (by kernel_rfl) (fun _ _ _ h => h) (Or.inl ⟨by kernel_rfl, ?_⟩) hHeld ?_
      · intro w' hSw; go_simp
      try simp only [Act.put, List.setIfInBounds_toArray, List.set_cons_zero, List.set_cons_succ, List.getElem_toArray, List.getElem_cons_succ, List.getElem_cons_zero]
      refine wpAnyH_take (i := 30) (v := .bool false) rfl (by kernel_rfl) (by kernel_rfl) (by kernel_rfl) (fun _ _ _ h => h) (Or.inl ⟨by kernel_rfl, ?_⟩) hHeld ?_
      · intro w' hSw; go_simp
      try simp only [Act.put, List.setIfInBounds_toArray, List.set_cons_zero, List.set_cons_succ, List.getElem_toArray, List.getElem_cons_succ, List.getElem_cons_zero]
      refine wpAnyH_done (by kernel_rfl) ?_ _
      clear hHeld
      have bz := hid_of (bk0.trans (Below.mono bu bk0.size))
      obtain ⟨z0, z1⟩ := CLi.out _ bz.out
      have HKz := hid_of (HK.out.trans (bz.out.mono HK.out.size))
      go_wp2
      exact ⟨⟨i + 1, by omega, by rw [HNX.out], by go_num, HKz⟩, by simp [intOf]; omega⟩
    · obtain rfl : i = N := by omega
      have hlt' : ¬ (i : Int) < (i : Int) := by omega
      have hZ : Z = 13824 := HZ.out.symm.trans HT.out
      subst hZ
      go_wp2
      go_ret
      exact ⟨rfl, HBW.out.1.trans (HK.out.mono HBW.out.2)⟩
end Go.Proofs.YtgjhbkpocbihbaaGreat
