/-
  The way back of an operator by the program, walked.
-/
import Derived.Test.YtgjhbkpocbihbaaME
import Derived.Test.YtgjhbkpocbihbaaMG
namespace Go.Proofs.Ytgjhbkpocbihbaa
open Go.RowKit

theorem vsum_bound2 {f h : Nat → Int} (hf : ∀ i, i < 9 → -2 ≤ f i ∧ f i ≤ 2) (hh : ∀ i, i < 3 → 0 ≤ h i ∧ h i < 24) (a : Nat) (ha : a < 3) (k : Nat) (hk : k ≤ 3) : -(46 * k) ≤ vsum f h a k ∧ vsum f h a k ≤ 46 * k := by
  induction k with
  | zero => simp [vsum]
  | succ k ih =>
    have := ih (by omega)
    have h1 := mul_bound (N := 23) (hf (3 * a + k) (by omega)) (show -23 ≤ h k ∧ h k ≤ 23 by have := hh k (by omega); omega)
    simp only [vsum]
    omega
theorem adj_bound2 {m : Nat → Int} (hm : ∀ i, i < 9 → -1 ≤ m i ∧ m i ≤ 1) (k : Nat) : -2 ≤ adj m k ∧ adj m k ≤ 2 := by
  have h : ∀ i j, i < 9 → j < 9 → -(1 * 1) ≤ m i * m j ∧ m i * m j ≤ 1 * 1 := fun i j hi hj => mul_bound (hm i hi) (hm j hj)
  unfold adj
  split
  · have h1 := h 4 8 (by decide) (by decide); have h2 := h 5 7 (by decide) (by decide); omega
  · have h1 := h 2 7 (by decide) (by decide); have h2 := h 1 8 (by decide) (by decide); omega
  · have h1 := h 1 5 (by decide) (by decide); have h2 := h 2 4 (by decide) (by decide); omega
  · have h1 := h 5 6 (by decide) (by decide); have h2 := h 3 8 (by decide) (by decide); omega
  · have h1 := h 0 8 (by decide) (by decide); have h2 := h 2 6 (by decide) (by decide); omega
  · have h1 := h 2 3 (by decide) (by decide); have h2 := h 0 5 (by decide) (by decide); omega
  · have h1 := h 3 7 (by decide) (by decide); have h2 := h 4 6 (by decide) (by decide); omega
  · have h1 := h 1 6 (by decide) (by decide); have h2 := h 0 7 (by decide) (by decide); omega
  · have h1 := h 0 4 (by decide) (by decide); have h2 := h 1 3 (by decide) (by decide); omega
/-- The way back's M and T. -/
def backM (f : Nat → Int) : Nat → Int := fun i => adj f i * det3 f
def backV (f h : Nat → Int) : Nat → Int := fun i => (-vsum (backM f) h i 3) % 24
theorem backM_bound {f h : Nat → Int} (hR : isR f h) (i : Nat) : -2 ≤ backM f i ∧ backM f i ≤ 2 := by
  have := adj_bound2 hR.1 i
  unfold backM
  rcases hR.2.2 with e | e <;> rw [e] <;> omega
set_option maxRecDepth 100000 in
set_option maxHeartbeats 1600000 in
theorem moves2_any {f h : Nat → Int} (hf : ∀ i, i < 9 → -2 ≤ f i ∧ f i ≤ 2) (hh : ∀ i, i < 3 → 0 ≤ h i ∧ h i < 24) (w : World) :
    Calls Try.prog 50 #[.agg (matA f), .agg (vA h)] w fun e w' => e = .returned (.agg (vA (movV f h))) ∧ Below w.heap.size w w' := by
  obtain ⟨W1, hW1, a1, bW1, z1⟩ := boxed w 42 (matA f)
  obtain ⟨W2, hW2, a2, bW2, z2⟩ := boxed W1 44 (vA h)
  obtain ⟨W3, hW3, a3, bW3, z3⟩ := boxed W2 44 (vA fun _ => 0)
  obtain ⟨W4, hW4, a4, bW4, z4⟩ := boxed W3 44 (vA fun _ => 0)
  rw [z1] at a2 bW2 z2
  rw [z2] at a3 bW3 z3
  rw [z3] at a4 bW4 z4
  replace a1 := ((a1.belowN bW2 (by omega)).belowN bW3 (by omega)).belowN bW4 (by omega)
  replace a2 := (a2.belowN bW3 (by omega)).belowN bW4 (by omega)
  replace a3 := a3.belowN bW4 (by omega)
  have bW : Below w.heap.size w W4 := ((bW1.trans (bW2.mono (by omega))).trans (bW3.mono (by omega))).trans (bW4.mono (by omega))
  clear bW1 bW2 bW3 bW4
  rw [← vpart0 f h] at a4
  unfold matA at hW1 ⊢
  unfold vA at hW2 hW3 hW4 ⊢
  go_enter Try.func50, Try.ntmps50
  go_wp2
  clear hW1 hW2 hW3 hW4
  go_loopw [7] (fun s wr => ∃ i : Nat, i ≤ 9 ∧ s = .int .i64 i ∧ At 42 wr w.heap.size (matA f) ∧ At 44 wr (w.heap.size + 1) (vA h) ∧ At 44 wr (w.heap.size + 1 + 1) (vA fun _ => 0) ∧ At 44 wr (w.heap.size + 1 + 1 + 1) (vA (vpart f h i)) ∧ Below w.heap.size w wr) (fun s _ => 9 - (intOf s).toNat)
  case atStart => exact ⟨0, Nat.zero_le _, rfl, a1, a2, a3, a4, bW⟩
  case round =>
    clear a1 a2 a3 a4 bW z1 z2 z3 z4
    obtain ⟨i, hi, rfl, a1, a2, a3, a4, bW⟩ := hrel
    by_cases hlt : i < 9
    · have hlt' : (i : Int) < 9 := by omega
      have e3 := set_vpart f h i hlt
      have e1 : vpart f h i (i / 3) = vsum f h (i / 3) (i % 3) := by simp [vpart]
      have e2 : Hid (vsum f h (i / 3) (i % 3) + f i * h (i % 3) = vsum f h (i / 3) (i % 3 + 1)) := by
        show vsum f h (i / 3) (i % 3) + f i * h (i % 3) = vsum f h (i / 3) (i % 3) + f (3 * (i / 3) + i % 3) * h (i % 3)
        rw [Nat.div_add_mod]
      have bC := vsum_bound2 hf hh (i / 3) (by omega) (i % 3) (by omega)
      obtain ⟨d, hd⟩ : ∃ d, i / 3 = d := ⟨_, rfl⟩
      obtain ⟨r, hr⟩ : ∃ r, i % 3 = r := ⟨_, rfl⟩
      rw [hd, hr] at e3 e1 e2 bC
      have hd3 : d < 3 := by omega
      have hr3 : r < 3 := by omega
      have hd3' : (d : Int) < 3 := by omega
      have hr3' : (r : Int) < 3 := by omega
      have hT : (i : Int).tmod 3 = (r : Int) := by rw [Int.tmod_eq_emod_of_nonneg (by omega)]; omega
      have hD : (i : Int).tdiv 3 = (d : Int) := by rw [Int.tdiv_eq_ediv_of_nonneg (by omega)]; omega
      have wD : IntKind.i64.wrap (d : Int) = (d : Int) := IntWalk.i64_in _ (by omega)
      have cA := a1.cell i (matA_get f _ hlt)
      have cB := a2.cell r (vA_get h _ hr3)
      have cC := a4.cell d (vA_get _ _ hd3)
      have fC := a4.frozen d
      rw [e1] at cC
      have bA := hf i hlt
      have bB := hh r hr3
      have m1 := mul_bound (N := 23) bA (show -23 ≤ h r ∧ h r ≤ 23 by omega)
      have bC' : -138 ≤ vsum f h d r ∧ vsum f h d r ≤ 138 := by omega
      have E3 : Hid ((vA (vpart f h i)).setIfInBounds d (.int .i64 (vsum f h d (r + 1))) = vA (vpart f h (i + 1))) := e3
      clear e1 hd hr e3 bC
      generalize f i = A at *
      generalize h r = B at *
      generalize vsum f h d r = C at *
      have w5 : IntKind.i64.wrap (A * B) = A * B := IntWalk.i64_in _ (by omega)
      have w6 : IntKind.i64.wrap (C + A * B) = C + A * B := IntWalk.i64_in _ (by omega)
      go_wp2
      go_region
      all_goals
        go_wp2
        go_roundw
        case rel =>
          refine ⟨i + 1, by omega, by go_num, ?_, ?_, ?_, ?_, ?_⟩
          · exact a1.setOther (by omega) _
          · exact a2.setOther (by omega) _
          · exact a3.setOther (by omega) _
          · have := a4.set d (.int .i64 (C + A * B))
            rw [e2.out, E3.out] at this
            rw [e2.out]
            exact this
          · exact (bW.setCell (p := ⟨w.heap.size + 1 + 1 + 1, d, none⟩) (by show w.heap.size ≤ w.heap.size + 1 + 1 + 1; omega) _).drew
        case measure => simp [intOf]; omega
    · have hlt' : ¬ (i : Int) < 9 := by omega
      obtain rfl : i = 9 := by omega
      rw [vpart9] at a4
      obtain ⟨r0, r1, r2, -⟩ := At.open3 a4
      obtain ⟨c0, c1, c2, e0, e1, e2⟩ := At.open3 a3
      go_wp2
      have hF : At 44 _ _ (vA (movV f h)) := put3e_at a3 (.int .i64 (movV f h 0)) (.int .i64 (movV f h 1)) (.int .i64 (movV f h 2))
      obtain ⟨q0, q1, q2, -⟩ := At.open3 hF
      exact bodyPost_ret (v := .agg (vA (movV f h))) (by simp [results, Try.results50, go_sem, q0, q1, q2]; rfl) rfl ⟨rfl, put3e_below bW (by omega) _ _ _⟩
/-- What has been made of M. -/
def mpart (f : Nat → Int) (n : Nat) : Nat → Int := fun i => if i < n then backM f i else adj f i
theorem mpart0 (f : Nat → Int) : mpart f 0 = adj f := by funext i; simp [mpart]
theorem mpart9 (f h : Nat → Int) : opA (mpart f 9) h = opA (backM f) h := by simp [opA, mpart]
theorem set_mpart (f h : Nat → Int) (n : Nat) (hn : n < 9) : (opA (mpart f n) h).setIfInBounds n (.int .i64 (backM f n)) = opA (mpart f (n + 1)) h := by
  rcases (by omega : n = 0 ∨ n = 1 ∨ n = 2 ∨ n = 3 ∨ n = 4 ∨ n = 5 ∨ n = 6 ∨ n = 7 ∨ n = 8) with rfl | rfl | rfl | rfl | rfl | rfl | rfl | rfl | rfl <;> simp [opA, mpart]
def vpart2 (f h : Nat → Int) (n : Nat) : Nat → Int := fun i => if i < n then backV f h i else 0
theorem vpart20 (f h : Nat → Int) : vpart2 f h 0 = fun _ => 0 := by funext i; simp [vpart2]
theorem vpart23 (m f h : Nat → Int) : opA m (vpart2 f h 3) = opA m (backV f h) := by simp [opA, vpart2]
theorem set_vpart2 (m f h : Nat → Int) (n : Nat) (hn : n < 3) : (opA m (vpart2 f h n)).setIfInBounds (9 + n) (.int .i64 (backV f h n)) = opA m (vpart2 f h (n + 1)) := by
  rcases (by omega : n = 0 ∨ n = 1 ∨ n = 2) with rfl | rfl | rfl <;> simp [opA, vpart2]
theorem opA_turn (f h : Nat → Int) (n : Nat) (hn : n < 9) : (opA f h)[n]? = some (.int .i64 (f n)) := by
  rw [opA_get f h _ (by omega), if_pos hn]
set_option maxRecDepth 100000 in
set_option maxHeartbeats 1600000 in
theorem back_any {f h : Nat → Int} (hR : isR f h) (w : World) :
    Calls Try.prog 32 #[.agg (opA f h)] w fun e w' => e = .returned (.agg (opA (backM f) (backV f h))) ∧ Below w.heap.size w w' := by
  obtain ⟨W1, hW1, a1, bW, -⟩ := boxed w 46 (opA f h)
  obtain ⟨W2, hW2, a2, bW2, -⟩ := boxed W1 46 (opA (fun _ => 0) (fun _ => 0))
  rw [zero12] at hW2
  have s1 := a1.lt
  have s2 := a2.lt
  replace a1 := a1.below bW2
  replace bW := bW.trans (bW2.mono bW.size)
  have hf := hR.1
  have hh := hR.2.1
  have hf3 : ∀ i, i < 9 → -1000 ≤ f i ∧ f i ≤ 1000 := fun i hi => by have := hf i hi; omega
  have hd : -1 ≤ det3 f ∧ det3 f ≤ 1 := by rcases hR.2.2 with e | e <;> omega
  have hdet : ∀ w, Calls Try.prog 48 #[.agg (matA f)] w fun e w' => e = .returned (.int .i64 (det3 f)) ∧ Below w.heap.size w w' := det_any hf3
  have hadj : ∀ w, Calls Try.prog 49 #[.agg (matA f)] w fun e w' => e = .returned (.agg (matA (adj f))) ∧ Below w.heap.size w w' := adj_any hf3
  have hM : ∀ i, i < 9 → -2 ≤ backM f i ∧ backM f i ≤ 2 := fun i _ => backM_bound hR i
  have hA := adj_bound2 hf
  have HB : Hid (∀ i, adj f i * det3 f = backM f i) := fun _ => rfl
  clear hR hf3 bW2
  unfold matA at hdet hadj
  obtain ⟨D, hD⟩ : ∃ D, det3 f = D := ⟨_, rfl⟩
  rw [hD] at hdet hd HB
  clear hD
  obtain ⟨⟨c0, c1, c2, c3, c4, c5, c6, c7, c8⟩, -⟩ := a1.open12
  unfold opA at hW1 ⊢
  go_enter Try.func32, Try.ntmps32
  go_wp2_with fail
  refine (hdet _).mono ?_
  rintro e w3 ⟨rfl, b3⟩
  replace a1 := a1.below b3
  replace a2 := a2.below b3
  replace bW := bW.trans (b3.mono bW.size)
  have s3 := b3.size
  clear c0 c1 c2 c3 c4 c5 c6 c7 c8 hdet b3 hW1 hW2
  obtain ⟨⟨c0, c1, c2, c3, c4, c5, c6, c7, c8⟩, -⟩ := a1.open12
  go_wp2_with fail
  refine (hadj _).mono ?_
  rintro e w4 ⟨rfl, b4⟩
  replace a1 := a1.below b4
  replace a2 := a2.below b4
  replace bW := bW.trans (b4.mono bW.size)
  have s4 := b4.size
  clear c0 c1 c2 c3 c4 c5 c6 c7 c8 hadj b4
  obtain ⟨W5, hW5, a5, b5, -⟩ := boxed w4 46 (opA (fun _ => 0) (fun _ => 0))
  rw [zero12] at hW5
  obtain ⟨⟨x0, x1, x2, x3, x4, x5, x6, x7, x8⟩, x9, x10, x11⟩ := a5.open12
  obtain ⟨y0, y1, y2, y3, y4, y5, y6, y7, y8, y9, y10, y11⟩ := a5.fro12
  obtain ⟨X, hX⟩ : ∃ X, put12 W5 w4.heap.size (adj f) (fun _ => 0) = X := ⟨_, rfl⟩
  have C5 : At 46 X w4.heap.size (opA (adj f) (fun _ => 0)) := hX ▸ put12_at a5 _ _
  have C1 : At 46 X w.heap.size (opA f h) := hX ▸ put12_other (a1.below b5) (by omega) _ _
  have C2 : At 46 X W1.heap.size (opA (fun _ => 0) (fun _ => 0)) := hX ▸ put12_other (a2.below b5) (by omega) _ _
  have bX : Below w4.heap.size w4 X := hX ▸ put12_below b5 (Nat.le_refl _) _ _
  replace bW := bW.trans (bX.mono bW.size)
  unfold put12 at hX
  dsimp only at hX
  have hqw : w.heap.size < w4.heap.size := by omega
  have hq1 : W1.heap.size < w4.heap.size := by omega
  clear a1 a2 a5 b5 bX
  go_wp2
  clear hX hW5 x0 x1 x2 x3 x4 x5 x6 x7 x8 x9 x10 x11 y0 y1 y2 y3 y4 y5 y6 y7 y8 y9 y10 y11
  rw [← mpart0 f] at C5
  go_loopw [15] (fun s wr => ∃ i : Nat, i ≤ 9 ∧ s = .int .i64 i ∧ At 46 wr w.heap.size (opA f h) ∧ At 46 wr W1.heap.size (opA (fun _ => 0) (fun _ => 0)) ∧ At 46 wr w4.heap.size (opA (mpart f i) (fun _ => 0)) ∧ Below w.heap.size w wr) (fun s _ => 9 - (intOf s).toNat)
  case atStart => exact ⟨0, Nat.zero_le _, rfl, C1, C2, C5, bW⟩
  case round =>
    clear C1 C2 C5 bW
    obtain ⟨i, hi, rfl, a1, a2, a5, bW⟩ := hrel
    by_cases hlt : i < 9
    · have hlt' : (i : Int) < 9 := by omega
      have cA := a5.cell i (opA_turn _ _ _ hlt)
      have fA := a5.frozen i
      have e1 : mpart f i i = adj f i := by simp [mpart]
      rw [e1] at cA
      have bA := hA i
      have m1 := mul_bound bA hd
      have e2 : Hid (adj f i * D = backM f i) := HB.out i
      clear e1
      generalize adj f i = A at *
      go_wp2
      go_roundw
      case rel =>
        refine ⟨i + 1, by omega, by go_num, a1.setOther (by omega) _, a2.setOther (by omega) _, ?_, bW.setCell (p := ⟨w4.heap.size, i, none⟩) (by show w.heap.size ≤ w4.heap.size; omega) _⟩
        have := a5.set i (.int .i64 (A * D))
        rw [e2.out, set_mpart f _ _ hlt] at this
        rw [e2.out]
        exact this
      case measure => simp [intOf]; omega
    · have hlt' : ¬ (i : Int) < 9 := by omega
      obtain rfl : i = 9 := by omega
      rw [mpart9] at a5
      have hmv : ∀ w, Calls Try.prog 50 #[.agg (matA (backM f)), .agg (vA h)] w fun e w' => e = .returned (.agg (vA (movV (backM f) h))) ∧ Below w.heap.size w w' := moves2_any hM hh
      unfold matA vA at hmv
      obtain ⟨⟨c0, c1, c2, c3, c4, c5, c6, c7, c8⟩, -⟩ := a5.open12
      obtain ⟨-, c9, c10, c11⟩ := a1.open12
      go_wp2_with fail
      refine (hmv _).mono ?_
      rintro e w6 ⟨rfl, b6⟩
      replace a2 := a2.below b6
      replace a5 := a5.below b6
      replace bW := bW.trans (b6.mono bW.size)
      clear c0 c1 c2 c3 c4 c5 c6 c7 c8 c9 c10 c11 hmv b6 a1
      rw [← vpart20 f h] at a5
      go_wp2
      go_loopw [32] (fun s wr => ∃ i : Nat, i ≤ 3 ∧ s = .int .i64 i ∧ At 46 wr W1.heap.size (opA (fun _ => 0) (fun _ => 0)) ∧ At 46 wr w4.heap.size (opA (backM f) (vpart2 f h i)) ∧ Below w.heap.size w wr) (fun s _ => 3 - (intOf s).toNat)
      case atStart => exact ⟨0, Nat.zero_le _, rfl, a2, a5, bW⟩
      case round =>
        clear a2 a5 bW
        obtain ⟨i, hi, rfl, a2, a5, bW⟩ := hrel
        by_cases hlt : i < 3
        · have hlt' : (i : Int) < 3 := by omega
          have hix := ix55 (movV (backM f) h) i hlt
          have cA := a5.cell (9 + i) (opA_shift _ _ _ hlt)
          have fA := a5.frozen (9 + i)
          have bA := vsum_bound2 hM hh i hlt 3 (by omega)
          have bA' : -138 ≤ movV (backM f) h i ∧ movV (backM f) h i ≤ 138 := by unfold movV; omega
          have e2 : Hid ((-movV (backM f) h i) % 24 = backV f h i) := rfl
          clear bA
          obtain ⟨A, hA'⟩ : ∃ A, movV (backM f) h i = A := ⟨_, rfl⟩
          rw [hA'] at hix bA' e2
          have w6 : IntKind.i64.wrap (-A) = -A := IntWalk.i64_in _ (by omega)
          clear hA'
          go_wp2_with (go_at_call 51; refine (modulo_any _ _ (by omega)).mono ?_; rintro e w2 ⟨rfl, rfl⟩)
          go_roundw
          case rel =>
            refine ⟨i + 1, by omega, by go_num, a2.setOther (by omega) _, ?_, bW.setCell (p := ⟨w4.heap.size, 9 + i, none⟩) (by show w.heap.size ≤ w4.heap.size; omega) _⟩
            have := a5.set (9 + i) (.int .i64 ((-A) % 24))
            rw [e2.out, set_vpart2 _ f h _ hlt] at this
            rw [e2.out]
            exact this
          case measure => simp [intOf]; omega
        · have hlt' : ¬ (i : Int) < 3 := by omega
          obtain rfl : i = 3 := by omega
          rw [vpart23] at a5
          obtain ⟨⟨c0, c1, c2, c3, c4, c5, c6, c7, c8⟩, c9, c10, c11⟩ := a5.open12
          obtain ⟨⟨d0, d1, d2, d3, d4, d5, d6, d7, d8⟩, d9, d10, d11⟩ := a2.open12
          obtain ⟨y0, y1, y2, y3, y4, y5, y6, y7, y8, y9, y10, y11⟩ := a2.fro12
          go_wp2
          have hF := put12_at a2 (backM f) (backV f h)
          obtain ⟨⟨p0, p1, p2, p3, p4, p5, p6, p7, p8⟩, p9, p10, p11⟩ := hF.open12
          exact bodyPost_ret (v := .agg (opA (backM f) (backV f h))) (by simp [results, Try.results32, go_sem, p0, p1, p2, p3, p4, p5, p6, p7, p8, p9, p10, p11]; rfl) rfl ⟨rfl, put12_below bW (by omega) _ _⟩
end Go.Proofs.Ytgjhbkpocbihbaa
/-
  The mathematics of operators: products hang on no bracketing, the way back is one on either side. No function of the program.
-/
namespace Go.Proofs.Ytgjhbkpocbihbaa
open Go.RowKit

theorem mulM_at (f g : Nat → Int) (i : Nat) : mulM f g i = f (3 * (i / 3)) * g (i % 3) + f (3 * (i / 3) + 1) * g (3 + i % 3) + f (3 * (i / 3) + 2) * g (6 + i % 3) := by
  show 0 + f (3 * (i / 3) + 0) * g (3 * 0 + i % 3) + f (3 * (i / 3) + 1) * g (3 * 1 + i % 3) + f (3 * (i / 3) + 2) * g (3 * 2 + i % 3) = _
  simp
theorem movV_at (f h : Nat → Int) (a : Nat) : movV f h a = f (3 * a) * h 0 + f (3 * a + 1) * h 1 + f (3 * a + 2) * h 2 := by
  show 0 + f (3 * a + 0) * h 0 + f (3 * a + 1) * h 1 + f (3 * a + 2) * h 2 = _
  simp
theorem mulM_assoc (f g k : Nat → Int) (i : Nat) (hi : i < 9) : mulM (mulM f g) k i = mulM f (mulM g k) i := by
  rcases (by omega : i = 0 ∨ i = 1 ∨ i = 2 ∨ i = 3 ∨ i = 4 ∨ i = 5 ∨ i = 6 ∨ i = 7 ∨ i = 8) with rfl | rfl | rfl | rfl | rfl | rfl | rfl | rfl | rfl <;> simp only [mulM_at] <;> simp <;> grind
theorem movV_mul (f g h : Nat → Int) (a : Nat) (ha : a < 3) : movV (mulM f g) h a = movV f (movV g h) a := by
  rcases (by omega : a = 0 ∨ a = 1 ∨ a = 2) with rfl | rfl | rfl <;> simp only [movV_at, mulM_at] <;> simp <;> grind
theorem movV_add (f h k : Nat → Int) (a : Nat) : movV f (fun i => h i + k i) a = movV f h a + movV f k a := by
  simp only [movV_at]; grind
/-- What is alike but for multiples of 24 is taken so. -/
theorem movV_mod (f h : Nat → Int) (a : Nat) : movV f (fun i => h i % 24) a % 24 = movV f h a % 24 := by
  simp only [movV_at]
  have h0 := Int.emod_add_mul_ediv (h 0) 24
  have h1 := Int.emod_add_mul_ediv (h 1) 24
  have h2 := Int.emod_add_mul_ediv (h 2) 24
  generalize h 0 / 24 = q0 at h0
  generalize h 1 / 24 = q1 at h1
  generalize h 2 / 24 = q2 at h2
  generalize h 0 % 24 = r0 at h0 ⊢
  generalize h 1 % 24 = r1 at h1 ⊢
  generalize h 2 % 24 = r2 at h2 ⊢
  rw [← h0, ← h1, ← h2]
  have e : f (3 * a) * (r0 + 24 * q0) + f (3 * a + 1) * (r1 + 24 * q1) + f (3 * a + 2) * (r2 + 24 * q2) = (f (3 * a) * r0 + f (3 * a + 1) * r1 + f (3 * a + 2) * r2) + 24 * (f (3 * a) * q0 + f (3 * a + 1) * q1 + f (3 * a + 2) * q2) := by grind
  rw [e, Int.add_mul_emod_self_left]
theorem behV_assoc (f h g h' h'' : Nat → Int) (a : Nat) (ha : a < 3) : behV (mulM f g) (behV f h h') h'' a = behV f h (behV g h' h'') a := by
  have e1 : behV (mulM f g) (behV f h h') h'' a = (movV (mulM f g) h'' a + (movV f h' a + h a)) % 24 := by
    show (movV (mulM f g) h'' a + (movV f h' a + h a) % 24) % 24 = _
    omega
  have e2 : behV f h (behV g h' h'') a = (movV f (fun i => movV g h'' i + h' i) a + h a) % 24 := by
    show (movV f (fun i => (movV g h'' i + h' i) % 24) a + h a) % 24 = _
    have := movV_mod f (fun i => movV g h'' i + h' i) a
    omega
  rw [e1, e2, movV_add, movV_mul f g h'' a ha, Int.add_assoc]
theorem mul_one (f : Nat → Int) (i : Nat) (hi : i < 9) : mulM f oneF i = f i ∧ mulM oneF f i = f i := by
  rcases (by omega : i = 0 ∨ i = 1 ∨ i = 2 ∨ i = 3 ∨ i = 4 ∨ i = 5 ∨ i = 6 ∨ i = 7 ∨ i = 8) with rfl | rfl | rfl | rfl | rfl | rfl | rfl | rfl | rfl <;> simp only [mulM_at] <;> simp [oneF]
theorem mul_back {f : Nat → Int} (hd : det3 f = 1 ∨ det3 f = -1) (i : Nat) (hi : i < 9) : mulM f (backM f) i = oneF i ∧ mulM (backM f) f i = oneF i := by
  have h1 : det3 f * det3 f = 1 := by rcases hd with e | e <;> rw [e] <;> rfl
  have hdet : det3 f = f 0 * (f 4 * f 8 - f 5 * f 7) - f 1 * (f 3 * f 8 - f 5 * f 6) + f 2 * (f 3 * f 7 - f 4 * f 6) := rfl
  rcases (by omega : i = 0 ∨ i = 1 ∨ i = 2 ∨ i = 3 ∨ i = 4 ∨ i = 5 ∨ i = 6 ∨ i = 7 ∨ i = 8) with rfl | rfl | rfl | rfl | rfl | rfl | rfl | rfl | rfl <;> simp only [mulM_at, backM] <;> simp [oneF, adj] <;> generalize det3 f = D at * <;> constructor <;> grind
theorem behV_back {f h : Nat → Int} (hR : isR f h) (a : Nat) (ha : a < 3) : behV f h (backV f h) a = 0 := by
  have e1 : behV f h (backV f h) a = (movV f (fun i => -movV (backM f) h i) a + h a) % 24 := by
    show (movV f (fun i => (-movV (backM f) h i) % 24) a + h a) % 24 = _
    have := movV_mod f (fun i => -movV (backM f) h i) a
    omega
  have e2 : movV f (fun i => -movV (backM f) h i) a = -movV f (movV (backM f) h) a := by simp only [movV_at f]; grind
  have e3 : movV (mulM f (backM f)) h a = h a := by
    rw [movV_at, (mul_back hR.2.2 (3 * a) (by omega)).1, (mul_back hR.2.2 (3 * a + 1) (by omega)).1, (mul_back hR.2.2 (3 * a + 2) (by omega)).1]
    rcases (by omega : a = 0 ∨ a = 1 ∨ a = 2) with rfl | rfl | rfl <;> simp [oneF]
  rw [e1, e2, ← movV_mul f (backM f) h a ha, e3]
  omega
theorem back_behV {f h : Nat → Int} (a : Nat) : behV (backM f) (backV f h) h a = 0 := by
  show (movV (backM f) h a + (-movV (backM f) h a) % 24) % 24 = 0
  omega
end Go.Proofs.Ytgjhbkpocbihbaa
