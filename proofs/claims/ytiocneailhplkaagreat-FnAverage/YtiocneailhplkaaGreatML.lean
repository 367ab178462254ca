/-
  The way back of an operator by the program, walked.
-/
import Derived.Test.YtiocneailhplkaaGreatME
import Derived.Test.YtiocneailhplkaaGreatMG
namespace Go.Proofs.YtiocneailhplkaaGreat
open Go.RowKit

theorem vsum_bound2 {f h : Nat → Int} (hf : ∀ i, i < 9 → -2 ≤ f i ∧ f i ≤ 2) (hh : ∀ i, i < 3 → 0 ≤ h i ∧ h i < 24) (a : Nat) (ha : a < 3) (k : Nat) (hk : k ≤ 3) : -(46 * k) ≤ vsum f h a k ∧ vsum f h a k ≤ 46 * k := by
  induction k with
  | zero => simp [vsum]
  | succ k ih =>
    have := ih (by omega)
    have h1 := mul_bound (N := 23) (hf (3 * a + k) (by omega)) (show -23 ≤ h k ∧ h k ≤ 23 by have := hh k (by omega); omega)
    simp only [vsum]
    omega
theorem adj_bound2 {m : Nat → Int} (hm : ∀ i, i < 9 → -1 ≤ m i ∧ m i ≤ 1) (k : Nat) : -2 ≤ adj m k ∧ adj m k ≤ 2 := by
  have h : ∀ i j, i < 9 → j < 9 → -(1 * 1) ≤ m i * m j ∧ m i * m j ≤ 1 * 1 := fun i j hi hj => mul_bound (hm i hi) (hm j hj)
  unfold adj
  split
  · have h1 := h 4 8 (by decide) (by decide); have h2 := h 5 7 (by decide) (by decide); omega
  · have h1 := h 2 7 (by decide) (by decide); have h2 := h 1 8 (by decide) (by decide); omega
  · have h1 := h 1 5 (by decide) (by decide); have h2 := h 2 4 (by decide) (by decide); omega
  · have h1 := h 5 6 (by decide) (by decide); have h2 := h 3 8 (by decide) (by decide); omega
  · have h1 := h 0 8 (by decide) (by decide); have h2 := h 2 6 (by decide) (by decide); omega
  · have h1 := h 2 3 (by decide) (by decide); have h2 := h 0 5 (by decide) (by decide); omega
  · have h1 := h 3 7 (by decide) (by decide); have h2 := h 4 6 (by decide) (by decide); omega
  · have h1 := h 1 6 (by decide) (by decide); have h2 := h 0 7 (by decide) (by decide); omega
  · have h1 := h 0 4 (by decide) (by decide); have h2 := h 1 3 (by decide) (by decide); omega
/-- The way back's M and T. -/
def backM (f : Nat → Int) : Nat → Int := fun i => adj f i * det3 f
def backV (f h : Nat → Int) : Nat → Int := fun i => (-vsum (backM f) h i 3) % 24
theorem backM_bound {f h : Nat → Int} (hR : isR f h) (i : Nat) : -2 ≤ backM f i ∧ backM f i ≤ 2 := by
  have := adj_bound2 hR.1 i
  unfold backM
  rcases hR.2.2 with e | e <;> rw [e] <;> omega
set_option maxRecDepth 100000 in
set_option maxHeartbeats 1600000 in
theorem moves2_any {f h : Nat → Int} (hf : ∀ i, i < 9 → -2 ≤ f i ∧ f i ≤ 2) (hh : ∀ i, i < 3 → 0 ≤ h i ∧ h i < 24) (w : World) :
    Calls Tryz.prog 79 #[.agg (matA f), .agg (vA h)] w fun e w' => e = .returned (.agg (vA (movV f h))) ∧ Below w.heap.size w w' := by
  obtain ⟨W1, hW1, a1, bW1, z1⟩ := boxed w 88 (matA f)
  obtain ⟨W2, hW2, a2, bW2, z2⟩ := boxed W1 66 (vA h)
  obtain ⟨W3, hW3, a3, bW3, z3⟩ := boxed W2 66 (vA fun _ => 0)
  obtain ⟨W4, hW4, a4, bW4, z4⟩ := boxed W3 66 (vA fun _ => 0)
  rw [z1] at a2 bW2 z2
  rw [z2] at a3 bW3 z3
  rw [z3] at a4 bW4 z4
  replace a1 := ((a1.belowN bW2 (by omega)).belowN bW3 (by omega)).belowN bW4 (by omega)
  replace a2 := (a2.belowN bW3 (by omega)).belowN bW4 (by omega)
  replace a3 := a3.belowN bW4 (by omega)
  have bW : Below w.heap.size w W4 := ((bW1.trans (bW2.mono (by omega))).trans (bW3.mono (by omega))).trans (bW4.mono (by omega))
  clear bW1 bW2 bW3 bW4
  rw [← vpart0 f h] at a4
  unfold matA at hW1 ⊢
  unfold vA at hW2 hW3 hW4 ⊢
  go_enter Tryz.func79, Tryz.ntmps79
  go_wp2
  clear hW1 hW2 hW3 hW4
  go_loopw [7] (fun s wr => ∃ i : Nat, i ≤ 9 ∧ s = .int .i64 i ∧ At 88 wr w.heap.size (matA f) ∧ At 66 wr (w.heap.size + 1) (vA h) ∧ At 66 wr (w.heap.size + 1 + 1) (vA fun _ => 0) ∧ At 66 wr (w.heap.size + 1 + 1 + 1) (vA (vpart f h i)) ∧ Below w.heap.size w wr) (fun s _ => 9 - (intOf s).toNat)
  case atStart => exact ⟨0, Nat.zero_le _, rfl, a1, a2, a3, a4, bW⟩
  case round =>
    clear a1 a2 a3 a4 bW z1 z2 z3 z4
    obtain ⟨i, hi, rfl, a1, a2, a3, a4, bW⟩ := hrel
    by_cases hlt : i < 9
    · have hlt' : (i : Int) < 9 := by omega
      have e3 := set_vpart f h i hlt
      have e1 : vpart f h i (i / 3) = vsum f h (i / 3) (i % 3) := by simp [vpart]
      have e2 : Hid (vsum f h (i / 3) (i % 3) + f i * h (i % 3) = vsum f h (i / 3) (i % 3 + 1)) := by
        show vsum f h (i / 3) (i % 3) + f i * h (i % 3) = vsum f h (i / 3) (i % 3) + f (3 * (i / 3) + i % 3) * h (i % 3)
        rw [Nat.div_add_mod]
      have bC := vsum_bound2 hf hh (i / 3) (by omega) (i % 3) (by omega)
      obtain ⟨d, hd⟩ : ∃ d, i / 3 = d := ⟨_, rfl⟩
      obtain ⟨r, hr⟩ : ∃ r, i % 3 = r := ⟨_, rfl⟩
      rw [hd, hr] at e3 e1 e2 bC
      have hd3 : d < 3 := by omega
      have hr3 : r < 3 := by omega
      have hd3' : (d : Int) < 3 := by omega
      have hr3' : (r : Int) < 3 := by omega
      have hT : (i : Int).tmod 3 = (r : Int) := by rw [Int.tmod_eq_emod_of_nonneg (by omega)]; omega
      have hD : (i : Int).tdiv 3 = (d : Int) := by rw [Int.tdiv_eq_ediv_of_nonneg (by omega)]; omega
      have wD : IntKind.i64.wrap (d : Int) = (d : Int) := IntWalk.i64_in _ (by omega)
      have cA := a1.cell i (matA_get f _ hlt)
      have cB := a2.cell r (vA_get h _ hr3)
      have cC := a4.cell d (vA_get _ _ hd3)
      have fC := a4.frozen d
      rw [e1] at cC
      have bA := hf i hlt
      have bB := hh r hr3
      have m1 := mul_bound (N := 23) bA (show -23 ≤ h r ∧ h r ≤ 23 by omega)
      have bC' : -138 ≤ vsum f h d r ∧ vsum f h d r ≤ 138 := by omega
      have E3 : Hid ((vA (vpart f h i)).setIfInBounds d (.int .i64 (vsum f h d (r + 1))) = vA (vpart f h (i + 1))) := e3
      clear e1 hd hr e3 bC
      generalize f i = A at *
      generalize h r = B at *
      generalize vsum f h d r = C at *
      have w5 : IntKind.i64.wrap (A * B) = A * B := IntWalk.i64_in _ (by omega)
      have w6 : IntKind.i64.wrap (C + A * B) = C + A * B := IntWalk.i64_in _ (by omega)
      go_wp2
      go_region
      all_goals
        go_wp2
        go_roundw
        case rel =>
          refine ⟨i + 1, by omega, by go_num, ?_, ?_, ?_, ?_, ?_⟩
          · exact a1.setOther (by omega) _
          · exact a2.setOther (by omega) _
          · exact a3.setOther (by omega) _
          · have := a4.set d (.int .i64 (C + A * B))
            rw [e2.out, E3.out] at this
            rw [e2.out]
            exact this
          · exact (bW.setCell (p := ⟨w.heap.size + 1 + 1 + 1, d, none⟩) (by show w.heap.size ≤ w.heap.size + 1 + 1 + 1; omega) _).drew
        case measure => simp [intOf]; omega
    · have hlt' : ¬ (i : Int) < 9 := by omega
      obtain rfl : i = 9 := by omega
      rw [vpart9] at a4
      obtain ⟨r0, r1, r2, -⟩ := At.open3 a4
      obtain ⟨c0, c1, c2, e0, e1, e2⟩ := At.open3 a3
      go_wp2
      have hF : At 66 _ _ (vA (movV f h)) := put3e_at a3 (.int .i64 (movV f h 0)) (.int .i64 (movV f h 1)) (.int .i64 (movV f h 2))
      obtain ⟨q0, q1, q2, -⟩ := At.open3 hF
      exact bodyPost_ret (v := .agg (vA (movV f h))) (by simp [results, Tryz.results79, go_sem, q0, q1, q2]; rfl) rfl ⟨rfl, put3e_below bW (by omega) _ _ _⟩
/-- What has been made of M. -/
def mpart (f : Nat → Int) (n : Nat) : Nat → Int := fun i => if i < n then backM f i else adj f i
theorem mpart0 (f : Nat → Int) : mpart f 0 = adj f := by funext i; simp [mpart]
theorem mpart9 (f h : Nat → Int) : opA (mpart f 9) h = opA (backM f) h := by simp [opA, mpart]
theorem set_mpart (f h : Nat → Int) (n : Nat) (hn : n < 9) : (opA (mpart f n) h).setIfInBounds n (.int .i64 (backM f n)) = opA (mpart f (n + 1)) h := by
  rcases (by omega : n = 0 ∨ n = 1 ∨ n = 2 ∨ n = 3 ∨ n = 4 ∨ n = 5 ∨ n = 6 ∨ n = 7 ∨ n = 8) with rfl | rfl | rfl | rfl | rfl | rfl | rfl | rfl | rfl <;> simp [opA, mpart]
def vpart2 (f h : Nat → Int) (n : Nat) : Nat → Int := fun i => if i < n then backV f h i else 0
theorem vpart20 (f h : Nat → Int) : vpart2 f h 0 = fun _ => 0 := by funext i; simp [vpart2]
theorem vpart23 (m f h : Nat → Int) : opA m (vpart2 f h 3) = opA m (backV f h) := by simp [opA, vpart2]
theorem set_vpart2 (m f h : Nat → Int) (n : Nat) (hn : n < 3) : (opA m (vpart2 f h n)).setIfInBounds (9 + n) (.int .i64 (backV f h n)) = opA m (vpart2 f h (n + 1)) := by
  rcases (by omega : n = 0 ∨ n = 1 ∨ n = 2) with rfl | rfl | rfl <;> simp [opA, vpart2]
theorem opA_turn (f h : Nat → Int) (n : Nat) (hn : n < 9) : (opA f h)[n]? = some (.int .i64 (f n)) := by
  rw [opA_get f h _ (by omega), if_pos hn]
end Go.Proofs.YtiocneailhplkaaGreat
/-
  The mathematics of operators: products hang on no bracketing, the way back is one on either side. No function of the program.
-/
namespace Go.Proofs.YtiocneailhplkaaGreat
open Go.RowKit

theorem mulM_at (f g : Nat → Int) (i : Nat) : mulM f g i = f (3 * (i / 3)) * g (i % 3) + f (3 * (i / 3) + 1) * g (3 + i % 3) + f (3 * (i / 3) + 2) * g (6 + i % 3) := by
  show 0 + f (3 * (i / 3) + 0) * g (3 * 0 + i % 3) + f (3 * (i / 3) + 1) * g (3 * 1 + i % 3) + f (3 * (i / 3) + 2) * g (3 * 2 + i % 3) = _
  simp
theorem movV_at (f h : Nat → Int) (a : Nat) : movV f h a = f (3 * a) * h 0 + f (3 * a + 1) * h 1 + f (3 * a + 2) * h 2 := by
  show 0 + f (3 * a + 0) * h 0 + f (3 * a + 1) * h 1 + f (3 * a + 2) * h 2 = _
  simp
theorem mulM_assoc (f g k : Nat → Int) (i : Nat) (hi : i < 9) : mulM (mulM f g) k i = mulM f (mulM g k) i := by
  rcases (by omega : i = 0 ∨ i = 1 ∨ i = 2 ∨ i = 3 ∨ i = 4 ∨ i = 5 ∨ i = 6 ∨ i = 7 ∨ i = 8) with rfl | rfl | rfl | rfl | rfl | rfl | rfl | rfl | rfl <;> simp only [mulM_at] <;> simp <;> grind
theorem movV_mul (f g h : Nat → Int) (a : Nat) (ha : a < 3) : movV (mulM f g) h a = movV f (movV g h) a := by
  rcases (by omega : a = 0 ∨ a = 1 ∨ a = 2) with rfl | rfl | rfl <;> simp only [movV_at, mulM_at] <;> simp <;> grind
theorem movV_add (f h k : Nat → Int) (a : Nat) : movV f (fun i => h i + k i) a = movV f h a + movV f k a := by
  simp only [movV_at]; grind
/-- What is alike but for multiples of 24 is taken so. -/
theorem movV_mod (f h : Nat → Int) (a : Nat) : movV f (fun i => h i % 24) a % 24 = movV f h a % 24 := by
  simp only [movV_at]
  have h0 := Int.emod_add_mul_ediv (h 0) 24
  have h1 := Int.emod_add_mul_ediv (h 1) 24
  have h2 := Int.emod_add_mul_ediv (h 2) 24
  generalize h 0 / 24 = q0 at h0
  generalize h 1 / 24 = q1 at h1
  generalize h 2 / 24 = q2 at h2
  generalize h 0 % 24 = r0 at h0 ⊢
  generalize h 1 % 24 = r1 at h1 ⊢
  generalize h 2 % 24 = r2 at h2 ⊢
  rw [← h0, ← h1, ← h2]
  have e : f (3 * a) * (r0 + 24 * q0) + f (3 * a + 1) * (r1 + 24 * q1) + f (3 * a + 2) * (r2 + 24 * q2) = (f (3 * a) * r0 + f (3 * a + 1) * r1 + f (3 * a + 2) * r2) + 24 * (f (3 * a) * q0 + f (3 * a + 1) * q1 + f (3 * a + 2) * q2) := by grind
  rw [e, Int.add_mul_emod_self_left]
theorem behV_assoc (f h g h' h'' : Nat → Int) (a : Nat) (ha : a < 3) : behV (mulM f g) (behV f h h') h'' a = behV f h (behV g h' h'') a := by
  have e1 : behV (mulM f g) (behV f h h') h'' a = (movV (mulM f g) h'' a + (movV f h' a + h a)) % 24 := by
    show (movV (mulM f g) h'' a + (movV f h' a + h a) % 24) % 24 = _
    omega
  have e2 : behV f h (behV g h' h'') a = (movV f (fun i => movV g h'' i + h' i) a + h a) % 24 := by
    show (movV f (fun i => (movV g h'' i + h' i) % 24) a + h a) % 24 = _
    have := movV_mod f (fun i => movV g h'' i + h' i) a
    omega
  rw [e1, e2, movV_add, movV_mul f g h'' a ha, Int.add_assoc]
theorem mul_one (f : Nat → Int) (i : Nat) (hi : i < 9) : mulM f oneF i = f i ∧ mulM oneF f i = f i := by
  rcases (by omega : i = 0 ∨ i = 1 ∨ i = 2 ∨ i = 3 ∨ i = 4 ∨ i = 5 ∨ i = 6 ∨ i = 7 ∨ i = 8) with rfl | rfl | rfl | rfl | rfl | rfl | rfl | rfl | rfl <;> simp only [mulM_at] <;> simp [oneF]
theorem mul_back {f : Nat → Int} (hd : det3 f = 1 ∨ det3 f = -1) (i : Nat) (hi : i < 9) : mulM f (backM f) i = oneF i ∧ mulM (backM f) f i = oneF i := by
  have h1 : det3 f * det3 f = 1 := by rcases hd with e | e <;> rw [e] <;> rfl
  have hdet : det3 f = f 0 * (f 4 * f 8 - f 5 * f 7) - f 1 * (f 3 * f 8 - f 5 * f 6) + f 2 * (f 3 * f 7 - f 4 * f 6) := rfl
  rcases (by omega : i = 0 ∨ i = 1 ∨ i = 2 ∨ i = 3 ∨ i = 4 ∨ i = 5 ∨ i = 6 ∨ i = 7 ∨ i = 8) with rfl | rfl | rfl | rfl | rfl | rfl | rfl | rfl | rfl <;> simp only [mulM_at, backM] <;> simp [oneF, adj] <;> generalize det3 f = D at * <;> constructor <;> grind
theorem behV_back {f h : Nat → Int} (hR : isR f h) (a : Nat) (ha : a < 3) : behV f h (backV f h) a = 0 := by
  have e1 : behV f h (backV f h) a = (movV f (fun i => -movV (backM f) h i) a + h a) % 24 := by
    show (movV f (fun i => (-movV (backM f) h i) % 24) a + h a) % 24 = _
    have := movV_mod f (fun i => -movV (backM f) h i) a
    omega
  have e2 : movV f (fun i => -movV (backM f) h i) a = -movV f (movV (backM f) h) a := by simp only [movV_at f]; grind
  have e3 : movV (mulM f (backM f)) h a = h a := by
    rw [movV_at, (mul_back hR.2.2 (3 * a) (by omega)).1, (mul_back hR.2.2 (3 * a + 1) (by omega)).1, (mul_back hR.2.2 (3 * a + 2) (by omega)).1]
    rcases (by omega : a = 0 ∨ a = 1 ∨ a = 2) with rfl | rfl | rfl <;> simp [oneF]
  rw [e1, e2, ← movV_mul f (backM f) h a ha, e3]
  omega
theorem back_behV {f h : Nat → Int} (a : Nat) : behV (backM f) (backV f h) h a = 0 := by
  show (movV (backM f) h a + (-movV (backM f) h a) % 24) % 24 = 0
  omega
end Go.Proofs.YtiocneailhplkaaGreat
