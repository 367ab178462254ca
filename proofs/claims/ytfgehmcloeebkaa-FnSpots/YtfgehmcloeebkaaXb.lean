/-
  Where a pixel lies; which pixels are spots, by the program, walked.
-/
import Derived.Test.YtfgehmcloeebkaaWb
import Derived.Test.YtfgehmcloeebkaaXa
namespace Go.Proofs.Ytfgehmcloeebkaa
open Go.RowKit

theorem place_any (N k : Nat) (M : Int) (w : World) (hN : 1 ≤ N ∧ N ≤ 64) (hk : k ≤ 4096) : Calls Try.prog 53 #[gV N M, .int .i64 (k : Int)] w fun e w' => e = .returned (.tuple #[.int .i64 ((k % N : Nat) : Int), .int .i64 ((k / N : Nat) : Int)]) ∧ Below w.heap.size w w' := by
  obtain ⟨V, hV, b0, bV, -⟩ := boxed w 56 #[.int .i64 N, .int .i64 M]
  have hX1 : k % N ≤ k := Nat.mod_le _ _
  have hY1 : k / N ≤ k := Nat.div_le_self _ _
  have hXt : (k : Int).tmod (N : Int) = ((k % N : Nat) : Int) := by simp [Int.tmod_eq_emod_of_nonneg]
  have hYt : (k : Int).tdiv (N : Int) = ((k / N : Nat) : Int) := by simp [Int.tdiv_eq_ediv_of_nonneg]
  have hN0 : ¬ N = 0 := by omega
  generalize k % N = X at hX1 hXt ⊢
  generalize k / N = Y at hY1 hYt ⊢
  have wr3 : IntKind.i64.wrap (X : Int) = (X : Int) := IntWalk.i64_in _ (by omega)
  have wr4 : IntKind.i64.wrap (Y : Int) = (Y : Int) := IntWalk.i64_in _ (by omega)
  go_enter Try.func53, Try.ntmps53
  go_wp2_with fail
  obtain ⟨u0, hu0, bb⟩ : ∃ uu, V.drew = uu ∧ Below V.heap.size V uu := ⟨_, rfl, (Below.refl _ _).drew⟩
  replace b0 := b0.below bb
  replace bV := bV.trans (bb.mono bV.size)
  clear bb
  refine wp_region_held_drew (S := Kb u0) (by kernel_rfl) (by rw [hu0]; exact Below.refl _ _) (fun hHeld => ?_)
  rw [hu0] at hHeld ⊢
  clear hu0
  have bu : Kb u0 u0 := Below.refl _ _
  change wpAnyH _ _ _ _ _ 10 #[false, false, false, false, false, false, false, false, false, false] _ _
  refine wpAnyH_take (i := 0) (v := .int .i64 ((k : Int))) rfl (by kernel_rfl) (by kernel_rfl) (by kernel_rfl) (fun _ _ _ h => h) (Or.inl ⟨by kernel_rfl, ?_⟩) hHeld ?_
  · intro w' hSw; go_simp
  try simp only [Act.put, List.setIfInBounds_toArray, List.set_cons_zero, List.set_cons_succ, List.getElem_toArray, List.getElem_cons_zero]
  refine wpAnyH_take (i := 1) (v := .pointer (some ⟨w.heap.size, 0, none⟩)) rfl (by kernel_rfl) (by kernel_rfl) (by kernel_rfl) (fun _ _ _ h => h) (Or.inl ⟨by kernel_rfl, ?_⟩) hHeld ?_
  · intro w' hSw; go_simp
  try simp only [Act.put, List.setIfInBounds_toArray, List.set_cons_zero, List.set_cons_succ, List.getElem_toArray, List.getElem_cons_succ, List.getElem_cons_zero]
  refine wpAnyH_take (i := 2) (v := .int .i64 (N)) rfl (by kernel_rfl) (by kernel_rfl) (by kernel_rfl) (fun _ _ _ h => h) (Or.inl ⟨by kernel_rfl, ?_⟩) hHeld ?_
  · intro w' hSw; obtain ⟨z0, z1, -⟩ := (b0.below hSw).open2; go_simp
  try simp only [Act.put, List.setIfInBounds_toArray, List.set_cons_zero, List.set_cons_succ, List.getElem_toArray, List.getElem_cons_succ, List.getElem_cons_zero]
  refine wpAnyH_take (i := 3) (v := .int .i64 ((X : Int))) rfl (by kernel_rfl) (by kernel_rfl) (by kernel_rfl) (fun _ _ _ h => h) (Or.inl ⟨by kernel_rfl, ?_⟩) hHeld ?_
  · intro w' hSw; go_simp
  try simp only [Act.put, List.setIfInBounds_toArray, List.set_cons_zero, List.set_cons_succ, List.getElem_toArray, List.getElem_cons_succ, List.getElem_cons_zero]
  refine wpAnyH_take (i := 4) (v := .int .i64 ((k : Int))) rfl (by kernel_rfl) (by kernel_rfl) (by kernel_rfl) (fun _ _ _ h => h) (Or.inl ⟨by kernel_rfl, ?_⟩) hHeld ?_
  · intro w' hSw; go_simp
  try simp only [Act.put, List.setIfInBounds_toArray, List.set_cons_zero, List.set_cons_succ, List.getElem_toArray, List.getElem_cons_succ, List.getElem_cons_zero]
  refine wpAnyH_take (i := 5) (v := .pointer (some ⟨w.heap.size, 0, none⟩)) rfl (by kernel_rfl) (by kernel_rfl) (by kernel_rfl) (fun _ _ _ h => h) (Or.inl ⟨by kernel_rfl, ?_⟩) hHeld ?_
  · intro w' hSw; go_simp
  try simp only [Act.put, List.setIfInBounds_toArray, List.set_cons_zero, List.set_cons_succ, List.getElem_toArray, List.getElem_cons_succ, List.getElem_cons_zero]
  refine wpAnyH_take (i := 6) (v := .int .i64 (N)) rfl (by kernel_rfl) (by kernel_rfl) (by kernel_rfl) (fun _ _ _ h => h) (Or.inl ⟨by kernel_rfl, ?_⟩) hHeld ?_
  · intro w' hSw; obtain ⟨z0, z1, -⟩ := (b0.below hSw).open2; go_simp
  try simp only [Act.put, List.setIfInBounds_toArray, List.set_cons_zero, List.set_cons_succ, List.getElem_toArray, List.getElem_cons_succ, List.getElem_cons_zero]
  refine wpAnyH_take (i := 7) (v := .int .i64 ((Y : Int))) rfl (by kernel_rfl) (by kernel_rfl) (by kernel_rfl) (fun _ _ _ h => h) (Or.inl ⟨by kernel_rfl, ?_⟩) hHeld ?_
  · intro w' hSw; go_simp
  try simp only [Act.put, List.setIfInBounds_toArray, List.set_cons_zero, List.set_cons_succ, List.getElem_toArray, List.getElem_cons_succ, List.getElem_cons_zero]
  refine wpAnyH_take (i := 8) (v := .int .i64 ((X : Int))) rfl (by kernel_rfl) (by kernel_rfl) (by kernel_rfl) (fun _ _ _ h => h) (Or.inl ⟨by kernel_rfl, ?_⟩) hHeld ?_
  · intro w' hSw; go_simp
  try simp only [Act.put, List.setIfInBounds_toArray, List.set_cons_zero, List.set_cons_succ, List.getElem_toArray, List.getElem_cons_succ, List.getElem_cons_zero]
  refine wpAnyH_take (i := 9) (v := .int .i64 ((Y : Int))) rfl (by kernel_rfl) (by kernel_rfl) (by kernel_rfl) (fun _ _ _ h => h) (Or.inl ⟨by kernel_rfl, ?_⟩) hHeld ?_
  · intro w' hSw; go_simp
  try simp only [Act.put, List.setIfInBounds_toArray, List.set_cons_zero, List.set_cons_succ, List.getElem_toArray, List.getElem_cons_succ, List.getElem_cons_zero]
  refine wpAnyH_done (by kernel_rfl) ?_ _
  clear hHeld
  go_wp2
  go_ret2
  exact ⟨rfl, bV.trans (bu.mono bV.size)⟩
set_option maxRecDepth 100000 in
set_option maxHeartbeats 8000000 in
theorem isSpot_any {w : World} {b off len c : Nat} {f : Nat → Int} (N M k : Nat) (hb0 : b < w.heap.size) (hr0 : Ints w b off len f) (hf : ∀ i, i < len → 0 ≤ f i ∧ f i ≤ 65535) (hN : 1 ≤ N ∧ N ≤ 64) (hM : 1 ≤ M ∧ M ≤ 64) (hMN : M * N = len) (hk : k < len) :
    Calls Try.prog 52 #[fV N M (.slice (some ⟨b, off, none⟩) len c), .int .i64 (k : Int)] w fun e w' => e = .returned (.bool (topB N len f k)) ∧ Below w.heap.size w w' := by
  have hl4 : len ≤ 4096 := by
    have := Nat.mul_le_mul hM.2 hN.2
    omega
  have hX1 : k % N < N := Nat.mod_lt _ (by omega)
  have hY1 : k / N < M := (Nat.div_lt_iff_lt_mul (by omega)).2 (by omega)
  have hx9 : (0 : Int) ≤ ((k % N : Nat) : Int) ∧ ((k % N : Nat) : Int) < (N : Int) := ⟨Int.natCast_nonneg _, Int.ofNat_lt.2 hX1⟩
  have hy9 : (0 : Int) ≤ ((k / N : Nat) : Int) ∧ ((k / N : Nat) : Int) < (M : Int) := ⟨Int.natCast_nonneg _, Int.ofNat_lt.2 hY1⟩
  obtain ⟨V, hV, b0, bW, -⟩ := boxed w 58 #[.int .i64 N, .int .i64 M, .slice (some ⟨b, off, none⟩) len c]
  obtain ⟨D, hD⟩ : ∃ D, topB N len f k = D := ⟨_, rfl⟩
  rw [hD]
  go_enter Try.func52, Try.ntmps52
  obtain ⟨oc00, oc01, oc02, -⟩ := b0.open3
  go_wp2_with fail
  refine (place_any N k M _ hN (by omega)).mono ?_
  rintro e w1 ⟨rfl, bb⟩
  clear oc00 oc01 oc02
  replace b0 := b0.below bb
  replace bW := bW.trans (bb.mono bW.size)
  have z_w1 := bb.size
  clear bb
  clear hV
  obtain ⟨oc00, oc01, oc02, -⟩ := b0.open3
  go_wp2_with fail
  refine (near_any N M ((k % N : Nat) : Int) ((k / N : Nat) : Int) 1 _ hN hM hx9 hy9 (by decide)).mono ?_
  rintro e w2 ⟨v, rfl, nm, bb⟩
  clear oc00 oc01 oc02
  replace b0 := b0.below bb
  replace bW := bW.trans (bb.mono bW.size)
  have z_w2 := bb.size
  clear bb
  rw [hMN] at nm
  obtain ⟨L, hL⟩ : ∃ L, fil (pr N ((k % N : Nat) : Int) ((k / N : Nat) : Int) 1) len = L := ⟨_, rfl⟩
  have hmem : ∀ j, j ∈ L ↔ j < len ∧ pr N ((k % N : Nat) : Int) ((k / N : Nat) : Int) 1 j = true := fun j => by rw [← hL]; exact fil_mem
  have hLl : L.length ≤ 4096 := by rw [← hL]; exact Nat.le_trans (fil_len _ _) hl4
  rw [hL] at nm
  have H0 : ∀ j, j ∈ L → bad f k j → D = false := fun j hj hbd => by
    rw [← hD, Bool.eq_false_iff]
    exact fun e => topB_iff.1 e j ((hmem j).1 hj).1 ((hmem j).1 hj).2 hbd
  have H1 : (∀ j, j ∈ L → ¬ bad f k j) → D = true := fun h => by
    rw [← hD]
    exact topB_iff.2 (fun j h1 h2 => h j ((hmem j).2 ⟨h1, h2⟩))
  have hlt0 : ∀ j, j ∈ L → j < len := fun j hj => ((hmem j).1 hj).1
  clear hD hL hmem
  generalize ((k % N : Nat) : Int) = X at *
  generalize ((k / N : Nat) : Int) = Y at *
  obtain ⟨g, cc, rfl, -, hgl, hcell⟩ := nm.open
  have HC : Hid (∀ i (hi : i < L.length), w2.cell? ⟨g, i, none⟩ = some (.int .i64 (L[i] : Int))) := hcell
  clear hcell nm
  have r0 : Below w.heap.size w w2 ∧ Below w2.heap.size w2 w2 := ⟨bW, Below.refl _ _⟩
  clear bW
  go_wp2_with fail
  go_loopw [23] (fun s wr => ∃ i : Nat, i ≤ L.length ∧ s = .int .i64 i ∧ (∀ j, (hj : j < i) → (hl : j < L.length) → ¬ bad f k L[j]) ∧ Below w.heap.size w wr ∧ Below w2.heap.size w2 wr) (fun s _ => L.length - (intOf s).toNat)
  case atStart => exact ⟨0, Nat.zero_le _, rfl, fun j hj => absurd hj (Nat.not_lt_zero _), r0⟩
  case round =>
    clear r0
    obtain ⟨i, hi, rfl, hall, bW, b2⟩ := hrel
    replace b0 := b0.below b2
    by_cases hlt : i < L.length
    · have hlt' : (i : Int) < (L.length : Int) := by omega
      have g0 := (b2.cell (p := ⟨g, i, none⟩) hgl).trans (HC.out i hlt)
      have hjm := List.getElem_mem hlt
      have hbadi : ∀ j, L[i] = j → (bad f k L[i] ↔ bad f k j) := fun j h => by rw [h]
      obtain ⟨j, hj⟩ : ∃ j, L[i] = j := ⟨_, rfl⟩
      replace hbadi := hbadi j hj
      rw [hj] at g0 hjm
      have hjl := hlt0 j hjm
      have hjl' : (j : Int) < (len : Int) := by omega
      have hkl' : (k : Int) < (len : Int) := by omega
      have hj0 : (0 : Int) ≤ (j : Int) := by omega
      have hk0 : (0 : Int) ≤ (k : Int) := by omega
      have hb : b < wr.heap.size := Nat.lt_of_lt_of_le hb0 bW.size
      have g1 := (bW.cell (p := ⟨b, off + j, none⟩) hb0).trans (hr0 j hjl)
      have g2 := (bW.cell (p := ⟨b, off + k, none⟩) hb0).trans (hr0 k hk)
      have hf1 := hf j hjl
      have hf2 := hf k hk
      have hbd : bad f k j ↔ (f k < f j ∨ (f j = f k ∧ j < k)) := Iff.rfl
      generalize f j = Fj at g1 hf1 hbd
      generalize f k = Fk at g2 hf2 hbd
      have wr1 : IntKind.i64.wrap (Fj - Fk) = Fj - Fk := IntWalk.i64_in _ (by omega)
      go_wp2_with fail
      obtain ⟨u0, hu0, bb⟩ : ∃ uu, wr.drew = uu ∧ Below wr.heap.size wr uu := ⟨_, rfl, (Below.refl _ _).drew⟩
      replace b0 := b0.below bb
      replace g1 := (bb.cell (p := ⟨b, off + j, none⟩) hb).trans g1
      replace g2 := (bb.cell (p := ⟨b, off + k, none⟩) hb).trans g2
      have hbu : b < u0.heap.size := Nat.lt_of_lt_of_le hb bb.size
      have bz := bb
      clear bb
      refine wp_region_held_drew (S := Kb u0) (by kernel_rfl) (by rw [hu0]; exact Below.refl _ _) (fun hHeld => ?_)
      rw [hu0] at hHeld ⊢
      clear hu0
      have bu : Kb u0 u0 := Below.refl _ _
      change wpAnyH _ _ _ _ _ 12 #[false, false, false, false, false, false, false, false, false, false, false, false] _ _
      refine wpAnyH_take (i := 0) (v := .pointer (some ⟨w.heap.size, 2, none⟩)) rfl (by kernel_rfl) (by kernel_rfl) (by kernel_rfl) (fun _ _ _ h => h) (Or.inl ⟨by kernel_rfl, ?_⟩) hHeld ?_
      · intro w' hSw; go_simp
      try simp only [Act.put, List.setIfInBounds_toArray, List.set_cons_zero, List.set_cons_succ, List.getElem_toArray, List.getElem_cons_zero]
      refine wpAnyH_take (i := 1) (v := .slice ((some ⟨b, off, none⟩)) len c) rfl (by kernel_rfl) (by kernel_rfl) (by kernel_rfl) (fun _ _ _ h => h) (Or.inl ⟨by kernel_rfl, ?_⟩) hHeld ?_
      · intro w' hSw; obtain ⟨z0, z1, z2, -⟩ := (b0.below hSw).open3; go_simp
      try simp only [Act.put, List.setIfInBounds_toArray, List.set_cons_zero, List.set_cons_succ, List.getElem_toArray, List.getElem_cons_succ, List.getElem_cons_zero]
      refine wpAnyH_take (i := 2) (v := .int .i64 ((j : Int))) rfl (by kernel_rfl) (by kernel_rfl) (by kernel_rfl) (fun _ _ _ h => h) (Or.inl ⟨by kernel_rfl, ?_⟩) hHeld ?_
      · intro w' hSw; go_simp
      try simp only [Act.put, List.setIfInBounds_toArray, List.set_cons_zero, List.set_cons_succ, List.getElem_toArray, List.getElem_cons_succ, List.getElem_cons_zero]
      refine wpAnyH_take (i := 3) (v := .pointer (some ⟨b, off + j, none⟩)) rfl (by kernel_rfl) (by kernel_rfl) (by kernel_rfl) (fun _ _ _ h => h) (Or.inl ⟨by kernel_rfl, ?_⟩) hHeld ?_
      · intro w' hSw; go_simp
      try simp only [Act.put, List.setIfInBounds_toArray, List.set_cons_zero, List.set_cons_succ, List.getElem_toArray, List.getElem_cons_succ, List.getElem_cons_zero]
      refine wpAnyH_take (i := 4) (v := .int .i64 (Fj)) rfl (by kernel_rfl) (by kernel_rfl) (by kernel_rfl) (fun _ _ _ h => h) (Or.inl ⟨by kernel_rfl, ?_⟩) hHeld ?_
      · intro w' hSw; have z0 := (fun {w' : World} (hSw : Kb u0 w') => (Below.cell (p := ⟨b, off + j, none⟩) hSw hbu).trans g1) hSw; go_simp
      try simp only [Act.put, List.setIfInBounds_toArray, List.set_cons_zero, List.set_cons_succ, List.getElem_toArray, List.getElem_cons_succ, List.getElem_cons_zero]
      refine wpAnyH_take (i := 5) (v := .pointer (some ⟨w.heap.size, 2, none⟩)) rfl (by kernel_rfl) (by kernel_rfl) (by kernel_rfl) (fun _ _ _ h => h) (Or.inl ⟨by kernel_rfl, ?_⟩) hHeld ?_
      · intro w' hSw; go_simp
      try simp only [Act.put, List.setIfInBounds_toArray, List.set_cons_zero, List.set_cons_succ, List.getElem_toArray, List.getElem_cons_succ, List.getElem_cons_zero]
      refine wpAnyH_take (i := 6) (v := .slice ((some ⟨b, off, none⟩)) len c) rfl (by kernel_rfl) (by kernel_rfl) (by kernel_rfl) (fun _ _ _ h => h) (Or.inl ⟨by kernel_rfl, ?_⟩) hHeld ?_
      · intro w' hSw; obtain ⟨z0, z1, z2, -⟩ := (b0.below hSw).open3; go_simp
      try simp only [Act.put, List.setIfInBounds_toArray, List.set_cons_zero, List.set_cons_succ, List.getElem_toArray, List.getElem_cons_succ, List.getElem_cons_zero]
      refine wpAnyH_take (i := 7) (v := .int .i64 ((k : Int))) rfl (by kernel_rfl) (by kernel_rfl) (by kernel_rfl) (fun _ _ _ h => h) (Or.inl ⟨by kernel_rfl, ?_⟩) hHeld ?_
      · intro w' hSw; go_simp
      try simp only [Act.put, List.setIfInBounds_toArray, List.set_cons_zero, List.set_cons_succ, List.getElem_toArray, List.getElem_cons_succ, List.getElem_cons_zero]
      refine wpAnyH_take (i := 8) (v := .pointer (some ⟨b, off + k, none⟩)) rfl (by kernel_rfl) (by kernel_rfl) (by kernel_rfl) (fun _ _ _ h => h) (Or.inl ⟨by kernel_rfl, ?_⟩) hHeld ?_
      · intro w' hSw; go_simp
      try simp only [Act.put, List.setIfInBounds_toArray, List.set_cons_zero, List.set_cons_succ, List.getElem_toArray, List.getElem_cons_succ, List.getElem_cons_zero]
      refine wpAnyH_take (i := 9) (v := .int .i64 (Fk)) rfl (by kernel_rfl) (by kernel_rfl) (by kernel_rfl) (fun _ _ _ h => h) (Or.inl ⟨by kernel_rfl, ?_⟩) hHeld ?_
      · intro w' hSw; have z0 := (fun {w' : World} (hSw : Kb u0 w') => (Below.cell (p := ⟨b, off + k, none⟩) hSw hbu).trans g2) hSw; go_simp
      try simp only [Act.put, List.setIfInBounds_toArray, List.set_cons_zero, List.set_cons_succ, List.getElem_toArray, List.getElem_cons_succ, List.getElem_cons_zero]
      refine wpAnyH_take (i := 10) (v := .int .i64 (Fj - Fk)) rfl (by kernel_rfl) (by kernel_rfl) (by kernel_rfl) (fun _ _ _ h => h) (Or.inl ⟨by kernel_rfl, ?_⟩) hHeld ?_
      · intro w' hSw; go_simp
      try simp only [Act.put, List.setIfInBounds_toArray, List.set_cons_zero, List.set_cons_succ, List.getElem_toArray, List.getElem_cons_succ, List.getElem_cons_zero]
      refine wpAnyH_take (i := 11) (v := .int .i64 (Fj - Fk)) rfl (by kernel_rfl) (by kernel_rfl) (by kernel_rfl) (fun _ _ _ h => h) (Or.inl ⟨by kernel_rfl, ?_⟩) hHeld ?_
      · intro w' hSw; go_simp
      try simp only [Act.put, List.setIfInBounds_toArray, List.set_cons_zero, List.set_cons_succ, List.getElem_toArray, List.getElem_cons_succ, List.getElem_cons_zero]
      refine wpAnyH_done (by kernel_rfl) ?_ _
      clear hHeld
      replace bW := bW.trans (bz.mono bW.size)
      replace b2 := b2.trans (bz.mono b2.size)
      clear bu bz g0 g1 g2
      by_cases q1 : 0 < Fj - Fk
      · have hb9 : bad f k j := hbd.2 (.inl (by omega))
        obtain rfl := H0 j hjm hb9
        go_wp2
        go_ret
        exact ⟨rfl, bW⟩
      · by_cases q2 : Fj - Fk = 0
        · have q2' : (Fj - Fk == 0) = true := by simpa using q2
          by_cases q3 : (j : Int) < (k : Int)
          · have hb9 : bad f k j := hbd.2 (.inr ⟨by omega, by omega⟩)
            obtain rfl := H0 j hjm hb9
            go_wp2
            go_ret
            exact ⟨rfl, bW⟩
          · have hb9 : ¬ bad f k j := fun h => by have := hbd.1 h; omega
            go_wp2
            refine ⟨⟨i + 1, by omega, by go_num, fun j' h1 h2 => ?_, bW, b2⟩, by simp [intOf]; omega⟩
            by_cases e : j' = i
            · subst e; rw [hbadi]; exact hb9
            · exact hall j' (by omega) h2
        · have q2' : (Fj - Fk == 0) = false := by simpa using q2
          have hb9 : ¬ bad f k j := fun h => by have := hbd.1 h; omega
          go_wp2
          refine ⟨⟨i + 1, by omega, by go_num, fun j' h1 h2 => ?_, bW, b2⟩, by simp [intOf]; omega⟩
          by_cases e : j' = i
          · subst e; rw [hbadi]; exact hb9
          · exact hall j' (by omega) h2
    · have hlt' : ¬ (i : Int) < (L.length : Int) := by omega
      obtain rfl : i = L.length := by omega
      have hD1 := H1 (fun j hj => by
        obtain ⟨n, hn, rfl⟩ := List.getElem_of_mem hj
        exact hall n hn hn)
      obtain rfl := hD1
      go_wp2
      go_ret
      exact ⟨rfl, bW⟩
end Go.Proofs.Ytfgehmcloeebkaa
