/-
  Loops around rectangles of nets, by the program and by the specification, walked.
-/
import Derived.Test.YtlmgdcoknpakcaaNb
namespace Go.Proofs.Ytlmgdcoknpakcaa
open Go.RowKit

/-- The numbers of steps. -/
def rn (W x y : Int) : Int := y * (W - 1) + x
def un (W x y : Int) : Int := y * W + x
/-- What a net's steps hold. -/
def rt (W : Int) (r : Nat → Int) (x y : Int) : Int := r (rn W x y).toNat
def ut (W : Int) (u : Nat → Int) (x y : Int) : Int := u (un W x y).toNat
theorem rn_in {W H x y : Int} (hW : 1 ≤ W ∧ W ≤ 30) (hH : 1 ≤ H ∧ H ≤ 30) (hx : 0 ≤ x ∧ x < W - 1) (hy : 0 ≤ y ∧ y < H) : (0 ≤ y * (W - 1) ∧ y * (W - 1) ≤ 900) ∧ 0 ≤ rn W x y ∧ rn W x y < (W - 1) * H := by
  have h1 := mul_in (a := y) (b := W - 1) (x := 30) (y := 30) (by omega) (by omega)
  have h2 : (y + 1) * (W - 1) ≤ H * (W - 1) := Int.mul_le_mul_of_nonneg_right (by omega) (by omega)
  rw [Int.add_mul, Int.one_mul, Int.mul_comm H] at h2
  unfold rn
  omega
theorem un_in {W H x y : Int} (hW : 1 ≤ W ∧ W ≤ 30) (hH : 1 ≤ H ∧ H ≤ 30) (hx : 0 ≤ x ∧ x < W) (hy : 0 ≤ y ∧ y < H - 1) : (0 ≤ y * W ∧ y * W ≤ 900) ∧ 0 ≤ un W x y ∧ un W x y < W * (H - 1) := by
  have h1 := mul_in (a := y) (b := W) (x := 30) (y := 30) (by omega) (by omega)
  have h2 : (y + 1) * W ≤ (H - 1) * W := Int.mul_le_mul_of_nonneg_right (by omega) (by omega)
  rw [Int.add_mul, Int.one_mul, Int.mul_comm (H - 1)] at h2
  unfold un
  omega
theorem right_any {w : World} {r u : Value} (W H x y : Int) (hW : 1 ≤ W ∧ W ≤ 30) (hx : 0 ≤ x ∧ x ≤ 30) (hy : 0 ≤ y ∧ y ≤ 30) :
    Calls Try.prog 61 #[nV W H r u, .int .i64 x, .int .i64 y] w fun e w' => e = .returned (.int .i64 (rn W x y)) ∧ Below w.heap.size w w' := by
  have h1 := mul_in (a := y) (b := W - 1) (x := 30) (y := 30) (by omega) (by omega)
  go_enter Try.func61, Try.ntmps61
  go_wp2
  go_ret
  exact ⟨rfl, below_alloc _ _⟩
theorem site_any {w : World} {r u : Value} (W H x y : Int) (hW : 1 ≤ W ∧ W ≤ 30) (hx : 0 ≤ x ∧ x ≤ 30) (hy : 0 ≤ y ∧ y ≤ 30) :
    Calls Try.prog 66 #[nV W H r u, .int .i64 x, .int .i64 y] w fun e w' => e = .returned (.int .i64 (un W x y)) ∧ Below w.heap.size w w' := by
  have h1 := mul_in (a := y) (b := W) (x := 30) (y := 30) (by omega) (by omega)
  go_enter Try.func66, Try.ntmps66
  go_wp2
  go_ret
  exact ⟨rfl, below_alloc _ _⟩
theorem specRight_any {w : World} {a : Option Addr} {lr cr : Nat} {r : Nat → Int} {u : Value} (W H x y : Int) (hr : Src w a lr r) (hlr : lr ≤ 1048576) (hW : 1 ≤ W ∧ W ≤ 30) (hx : 0 ≤ x ∧ x ≤ 30) (hy : 0 ≤ y ∧ y ≤ 30) (hn : rn W x y < lr) :
    Calls Try.prog 50 #[nV W H (.slice a lr cr) u, .int .i64 x, .int .i64 y] w fun e w' => e = .returned (.int .i64 (rt W r x y)) ∧ Below w.heap.size w w' := by
  have h1 := mul_in (a := y) (b := W - 1) (x := 30) (y := 30) (by omega) (by omega)
  obtain ⟨V, hV, b0, bV, -⟩ := boxed w 32 #[.int .i64 W, .int .i64 H, .slice a lr cr, u]
  obtain ⟨c0, c1, c2, c3, -⟩ := b0.open4
  replace hr := hr.below bV
  unfold rn at hn
  obtain ⟨j, hj⟩ : ∃ j : Nat, y * (W - 1) + x = (j : Int) := ⟨_, (Int.toNat_of_nonneg (by omega)).symm⟩
  rcases hr with h0 | ⟨b, off, rfl, hb, hr⟩
  · omega
  have hlt : j < lr := by omega
  have hlt' : (j : Int) < lr := by omega
  have g0 := hr j hlt
  rw [show rt W r x y = r j by simp [rt, rn, hj]]
  go_enter Try.func50, Try.ntmps50
  go_wp2
  go_ret
  exact ⟨rfl, bV⟩
theorem specUp_any {w : World} {a : Option Addr} {lu cu : Nat} {u : Nat → Int} {r : Value} (W H x y : Int) (hu : Src w a lu u) (hlu : lu ≤ 1048576) (hW : 1 ≤ W ∧ W ≤ 30) (hx : 0 ≤ x ∧ x ≤ 30) (hy : 0 ≤ y ∧ y ≤ 30) (hn : un W x y < lu) :
    Calls Try.prog 51 #[nV W H r (.slice a lu cu), .int .i64 x, .int .i64 y] w fun e w' => e = .returned (.int .i64 (ut W u x y)) ∧ Below w.heap.size w w' := by
  have h1 := mul_in (a := y) (b := W) (x := 30) (y := 30) (by omega) (by omega)
  obtain ⟨V, hV, b0, bV, -⟩ := boxed w 32 #[.int .i64 W, .int .i64 H, r, .slice a lu cu]
  obtain ⟨c0, c1, c2, c3, -⟩ := b0.open4
  replace hu := hu.below bV
  unfold un at hn
  obtain ⟨j, hj⟩ : ∃ j : Nat, y * W + x = (j : Int) := ⟨_, (Int.toNat_of_nonneg (by omega)).symm⟩
  rcases hu with h0 | ⟨b, off, rfl, hb, hu⟩
  · omega
  have hlt : j < lu := by omega
  have hlt' : (j : Int) < lu := by omega
  have g0 := hu j hlt
  rw [show ut W u x y = u j by simp [ut, un, hj]]
  go_enter Try.func51, Try.ntmps51
  go_wp2
  go_ret
  exact ⟨rfl, bV⟩
/-- Is there such a square? -/
def sq (W H x y : Int) : Bool := decide (0 ≤ x ∧ x ≤ W - 2) && decide (0 ≤ y ∧ y ≤ H - 2)
theorem hasSquare_any {w : World} {r u : Value} (W H x y : Int) (hW : 1 ≤ W ∧ W ≤ 30) (hH : 1 ≤ H ∧ H ≤ 30) :
    Calls Try.prog 53 #[nV W H r u, .int .i64 x, .int .i64 y] w fun e w' => e = .returned (.bool (sq W H x y)) ∧ Below w.heap.size w w' := by
  by_cases h0 : 0 ≤ x ∧ 0 ≤ y
  · by_cases h1 : x < W - 1
    · have hs : sq W H x y = decide (y < H - 1) := by rw [Bool.eq_iff_iff]; simp [sq]; omega
      rw [hs]
      rcases (show x < y ∨ y ≤ x by omega) with hxy | hxy
      all_goals
        go_enter Try.func53, Try.ntmps53
        go_wp2
        all_goals
          go_ret
          exact ⟨rfl, below_alloc _ _⟩
    · have hs : sq W H x y = false := by simp [sq]; omega
      rw [hs]
      rcases (show x < y ∨ y ≤ x by omega) with hxy | hxy
      all_goals
        go_enter Try.func53, Try.ntmps53
        go_wp2
        all_goals
          go_ret
          exact ⟨rfl, below_alloc _ _⟩
  · have hs : sq W H x y = false := by simp [sq]; omega
    rw [hs]
    rcases (show x < y ∨ y ≤ x by omega) with hxy | hxy
    all_goals
      have h1 : x < 0 ∨ y < 0 := by omega
      have h2 : min x y < 0 := by omega
      go_enter Try.func53, Try.ntmps53
      go_wp2
      all_goals
        first
        | (exfalso; omega)
        | (go_ret
           exact ⟨rfl, below_alloc _ _⟩)
def sm (f : Nat → Int) : Nat → Int
  | 0 => 0
  | k + 1 => sm f k + f k
theorem sm_in {f : Nat → Int} {B : Int} : ∀ (k : Nat), (∀ i, i < k → -B ≤ f i ∧ f i ≤ B) → -(k * B) ≤ sm f k ∧ sm f k ≤ k * B
  | 0, _ => by simp [sm]
  | k + 1, h => by
    have h1 := sm_in k (fun i hi => h i (by omega))
    have h2 := h k (by omega)
    have h3 : ((k + 1 : Nat) : Int) * B = k * B + B := by rw [Int.natCast_add, Int.add_mul]; simp
    rw [h3]
    simp only [sm]
    omega
/-- All of V stands. -/
def Kb (V wr : World) : Prop := Below V.heap.size V wr
theorem Kb.below {V wr wr' : World} (F : Kb V wr) (b : Below wr.heap.size wr wr') : Kb V wr' := Below.trans F (b.mono (Below.size F))
theorem netOk_of_true {W H : Int} {lr lu : Nat} {r u : Nat → Int} (h : netOk W H lr r lu u = true) : (1 ≤ W ∧ W ≤ 30) ∧ (1 ≤ H ∧ H ≤ 30) ∧ ((lr : Int) = (W - 1) * H ∧ ∀ i, i < lr → -1000000 ≤ r i ∧ r i ≤ 1000000) ∧ (lu : Int) = W * (H - 1) ∧ ∀ i, i < lu → -1000000 ≤ u i ∧ u i ≤ 1000000 := by
  simp only [netOk, Bool.and_eq_true, decide_eq_true_eq] at h
  exact ⟨h.1, h.2.1, slipsB_of h.2.2.1, slipsB_of h.2.2.2⟩
/-- A step to the right that is there: where it lies, and what it can be. -/
theorem right_at {W H x y : Int} {lr lu : Nat} {r u : Nat → Int} (h : netOk W H lr r lu u = true) (hx : 0 ≤ x ∧ x < W - 1) (hy : 0 ≤ y ∧ y < H) : ∃ j : Nat, rn W x y = (j : Int) ∧ j < lr ∧ rt W r x y = r j ∧ (-1000000 ≤ r j ∧ r j ≤ 1000000) := by
  obtain ⟨hW, hH, ⟨h1, h2⟩, -⟩ := netOk_of_true h
  obtain ⟨-, h3, h4⟩ := rn_in hW hH hx hy
  refine ⟨(rn W x y).toNat, (Int.toNat_of_nonneg h3).symm, by omega, rfl, h2 _ (by omega)⟩
theorem up_at {W H x y : Int} {lr lu : Nat} {r u : Nat → Int} (h : netOk W H lr r lu u = true) (hx : 0 ≤ x ∧ x < W) (hy : 0 ≤ y ∧ y < H - 1) : ∃ j : Nat, un W x y = (j : Int) ∧ j < lu ∧ ut W u x y = u j ∧ (-1000000 ≤ u j ∧ u j ≤ 1000000) := by
  obtain ⟨hW, hH, -, h1, h2⟩ := netOk_of_true h
  obtain ⟨-, h3, h4⟩ := un_in hW hH hx hy
  refine ⟨(un W x y).toNat, (Int.toNat_of_nonneg h3).symm, by omega, rfl, h2 _ (by omega)⟩
/-- Around a rectangle. -/
def lower (W : Int) (r : Nat → Int) (x0 y0 y1 : Int) (k : Nat) : Int := rt W r (x0 + k) y0 - rt W r (x0 + k) y1
def sides (W : Int) (u : Nat → Int) (x0 y0 x1 : Int) (k : Nat) : Int := ut W u x1 (y0 + k) - ut W u x0 (y0 + k)
def arT (W : Int) (r u : Nat → Int) (x0 y0 x1 y1 : Int) : Int := sm (lower W r x0 y0 y1) (x1 - x0).toNat + sm (sides W u x0 y0 x1) (y1 - y0).toNat
theorem lower_in {W H x0 y0 y1 : Int} {lr lu : Nat} {r u : Nat → Int} (h : netOk W H lr r lu u = true) (hx : 0 ≤ x0) (hy0 : 0 ≤ y0 ∧ y0 < H) (hy1 : 0 ≤ y1 ∧ y1 < H) {k : Nat} (hk : x0 + k ≤ W - 1) : -60000000 ≤ sm (lower W r x0 y0 y1) k ∧ sm (lower W r x0 y0 y1) k ≤ 60000000 := by
  have hW := (netOk_of_true h).1
  have := sm_in (f := lower W r x0 y0 y1) (B := 2000000) k (fun i hi => by
    obtain ⟨j, -, -, e1, e2⟩ := right_at h (x := x0 + i) (y := y0) (by omega) hy0
    obtain ⟨j', -, -, e1', e2'⟩ := right_at h (x := x0 + i) (y := y1) (by omega) hy1
    unfold lower
    omega)
  omega
theorem sides_in {W H x0 y0 x1 : Int} {lr lu : Nat} {r u : Nat → Int} (h : netOk W H lr r lu u = true) (hy : 0 ≤ y0) (hx0 : 0 ≤ x0 ∧ x0 < W) (hx1 : 0 ≤ x1 ∧ x1 < W) {k : Nat} (hk : y0 + k ≤ H - 1) : -60000000 ≤ sm (sides W u x0 y0 x1) k ∧ sm (sides W u x0 y0 x1) k ≤ 60000000 := by
  have hH := (netOk_of_true h).2.1
  have := sm_in (f := sides W u x0 y0 x1) (B := 2000000) k (fun i hi => by
    obtain ⟨j, -, -, e1, e2⟩ := up_at h (x := x1) (y := y0 + i) hx1 (by omega)
    obtain ⟨j', -, -, e1', e2'⟩ := up_at h (x := x0) (y := y0 + i) hx0 (by omega)
    unfold sides
    omega)
  omega
set_option maxRecDepth 100000 in
set_option maxHeartbeats 3200000 in
theorem around_any {w : World} {a a' : Option Addr} {lr lu cr cu : Nat} {r u : Nat → Int} (W H x0 y0 x1 y1 : Int) (hr : Src w a lr r) (hu : Src w a' lu u) (hok : netOk W H lr r lu u = true) (hx : 0 ≤ x0 ∧ x0 < x1 ∧ x1 < W) (hy : 0 ≤ y0 ∧ y0 < y1 ∧ y1 < H) :
    Calls Try.prog 54 #[nV W H (.slice a lr cr) (.slice a' lu cu), .int .i64 x0, .int .i64 y0, .int .i64 x1, .int .i64 y1] w fun e w' => e = .returned (.int .i64 (arT W r u x0 y0 x1 y1)) ∧ Below w.heap.size w w' := by
  obtain ⟨V, hV, b0, bV, -⟩ := boxed w 32 #[.int .i64 W, .int .i64 H, .slice a lr cr, .slice a' lu cu]
  replace hr := hr.below bV
  replace hu := hu.below bV
  obtain ⟨hW, hH, -⟩ := netOk_of_true hok
  obtain ⟨q, hq⟩ : ∃ q, w.heap.size = q := ⟨_, rfl⟩
  rw [hq] at b0
  have B0 := b0
  go_enter Try.func54, Try.ntmps54
  go_wp2
  go_loopw [11, 12] (fun s t wr => ∃ k : Nat, x0 + k ≤ x1 ∧ s = .int .i64 (sm (lower W r x0 y0 y1) k) ∧ t = .int .i64 (x0 + k) ∧ Kb V wr) (fun _ t _ => (x1 - intOf t).toNat)
  case atStart => exact ⟨0, by omega, rfl, by simp, Below.refl _ _⟩
  case round =>
    obtain ⟨k, hk, rfl, rfl, hbel⟩ := hrel
    obtain ⟨S, hS⟩ : ∃ S, sm (lower W r x0 y0 y1) k = S := ⟨_, rfl⟩
    obtain ⟨X, hX⟩ : ∃ X, x0 + (k : Int) = X := ⟨_, rfl⟩
    have hSb := lower_in hok hx.1 (y0 := y0) (y1 := y1) (by omega) (by omega) (k := k) (by omega)
    rw [hS] at hSb ⊢
    rw [hX]
    replace b0 := b0.below hbel
    have lq := b0.lt
    obtain ⟨c0, c1, c2, c3, -⟩ := b0.open4
    by_cases hlt : X < x1
    · obtain ⟨j0, hj0, l0, e0, p0b⟩ := right_at hok (x := X) (y := y0) (by omega) (by omega)
      obtain ⟨j1, hj1, l1, e1, p1b⟩ := right_at hok (x := X) (y := y1) (by omega) (by omega)
      have hnext : sm (lower W r x0 y0 y1) (k + 1) = S + (r j0 - r j1) := by simp only [sm, hS, lower]; rw [hX, e0, e1]
      rcases hr.below hbel with h0 | ⟨b, off, rfl, hb, hrr⟩
      · omega
      have g0 := hrr j0 l0
      have g1 := hrr j1 l1
      obtain ⟨p0, hp0⟩ : ∃ p, r j0 = p := ⟨_, rfl⟩
      obtain ⟨p1, hp1⟩ : ∃ p, r j1 = p := ⟨_, rfl⟩
      rw [hp0] at g0 p0b hnext
      rw [hp1] at g1 p1b hnext
      have w1 : IntKind.i64.wrap (p0 - p1) = p0 - p1 := IntWalk.i64_in _ (by omega)
      have w2 : IntKind.i64.wrap (S + (p0 - p1)) = S + (p0 - p1) := IntWalk.i64_in _ (by omega)
      have l0' : (j0 : Int) < lr := by omega
      have l1' : (j1 : Int) < lr := by omega
      go_wp2_with fail
      obtain ⟨u0, hu0, bb⟩ : ∃ u0, wr.drew = u0 ∧ Below wr.heap.size wr u0 := ⟨_, rfl, (Below.refl _ _).drew⟩
      replace b0 := b0.below bb
      have F : Kb wr u0 := bb
      clear bb
      refine wp_region_held_drew (S := Kb wr) (by kernel_rfl) (by rw [hu0]; exact F) (fun hHeld => ?_)
      rw [hu0] at hHeld ⊢
      clear hu0
      change wpAnyH _ _ _ _ _ 20 #[false, false, false, false, false, false, false, false, false, false, false, false, false, false, false, false, false, false, false, false] _ _
      refine wpAnyH_take (i := 0) (v := .int .i64 S) rfl (by kernel_rfl) (by kernel_rfl) (by kernel_rfl) (fun _ _ _ h => h) (Or.inl ⟨by kernel_rfl, ?_⟩) hHeld ?_
      · intro w' hSw; go_simp
      try simp only [Act.put, List.setIfInBounds_toArray, List.set_cons_zero, List.set_cons_succ, List.getElem_toArray, List.getElem_cons_zero]
      refine wpAnyH_take (i := 1) (v := .pointer (some ⟨q, 2, none⟩)) rfl (by kernel_rfl) (by kernel_rfl) (by kernel_rfl) (fun _ _ _ h => h) (Or.inl ⟨by kernel_rfl, ?_⟩) hHeld ?_
      · intro w' hSw; go_simp
      try simp only [Act.put, List.setIfInBounds_toArray, List.set_cons_zero, List.set_cons_succ, List.getElem_toArray, List.getElem_cons_succ, List.getElem_cons_zero]
      refine wpAnyH_take (i := 2) (v := .slice (some ⟨b, off, none⟩) lr cr) rfl (by kernel_rfl) (by kernel_rfl) (by kernel_rfl) (fun _ _ _ h => h) (Or.inl ⟨by kernel_rfl, ?_⟩) hHeld ?_
      · intro w' hSw; obtain ⟨hc, hf⟩ := bcell hSw; go_simp
      try simp only [Act.put, List.setIfInBounds_toArray, List.set_cons_zero, List.set_cons_succ, List.getElem_toArray, List.getElem_cons_succ, List.getElem_cons_zero]
      refine wpAnyH_take (i := 3) (v := nV W H (.slice (some ⟨b, off, none⟩) lr cr) (.slice a' lu cu)) rfl (by kernel_rfl) (by kernel_rfl) (by kernel_rfl) (fun _ _ _ h => h) (Or.inl ⟨by kernel_rfl, ?_⟩) hHeld ?_
      · intro w' hSw; obtain ⟨hc, hf⟩ := bcell hSw; go_simp
      try simp only [Act.put, List.setIfInBounds_toArray, List.set_cons_zero, List.set_cons_succ, List.getElem_toArray, List.getElem_cons_succ, List.getElem_cons_zero]
      refine wpAnyH_take (i := 4) (v := .int .i64 X) rfl (by kernel_rfl) (by kernel_rfl) (by kernel_rfl) (fun _ _ _ h => h) (Or.inl ⟨by kernel_rfl, ?_⟩) hHeld ?_
      · intro w' hSw; go_simp
      try simp only [Act.put, List.setIfInBounds_toArray, List.set_cons_zero, List.set_cons_succ, List.getElem_toArray, List.getElem_cons_succ, List.getElem_cons_zero]
      refine wpAnyH_take (i := 5) (v := .int .i64 y0) rfl (by kernel_rfl) (by kernel_rfl) (by kernel_rfl) (fun _ _ _ h => h) (Or.inl ⟨by kernel_rfl, ?_⟩) hHeld ?_
      · intro w' hSw; go_simp
      try simp only [Act.put, List.setIfInBounds_toArray, List.set_cons_zero, List.set_cons_succ, List.getElem_toArray, List.getElem_cons_succ, List.getElem_cons_zero]
      refine wpAnyH_take (i := 9) (v := .pointer (some ⟨q, 2, none⟩)) rfl (by kernel_rfl) (by kernel_rfl) (by kernel_rfl) (fun _ _ _ h => h) (Or.inl ⟨by kernel_rfl, ?_⟩) hHeld ?_
      · intro w' hSw; go_simp
      try simp only [Act.put, List.setIfInBounds_toArray, List.set_cons_zero, List.set_cons_succ, List.getElem_toArray, List.getElem_cons_succ, List.getElem_cons_zero]
      refine wpAnyH_take (i := 10) (v := .slice (some ⟨b, off, none⟩) lr cr) rfl (by kernel_rfl) (by kernel_rfl) (by kernel_rfl) (fun _ _ _ h => h) (Or.inl ⟨by kernel_rfl, ?_⟩) hHeld ?_
      · intro w' hSw; obtain ⟨hc, hf⟩ := bcell hSw; go_simp
      try simp only [Act.put, List.setIfInBounds_toArray, List.set_cons_zero, List.set_cons_succ, List.getElem_toArray, List.getElem_cons_succ, List.getElem_cons_zero]
      refine wpAnyH_take (i := 11) (v := nV W H (.slice (some ⟨b, off, none⟩) lr cr) (.slice a' lu cu)) rfl (by kernel_rfl) (by kernel_rfl) (by kernel_rfl) (fun _ _ _ h => h) (Or.inl ⟨by kernel_rfl, ?_⟩) hHeld ?_
      · intro w' hSw; obtain ⟨hc, hf⟩ := bcell hSw; go_simp
      try simp only [Act.put, List.setIfInBounds_toArray, List.set_cons_zero, List.set_cons_succ, List.getElem_toArray, List.getElem_cons_succ, List.getElem_cons_zero]
      refine wpAnyH_take (i := 12) (v := .int .i64 X) rfl (by kernel_rfl) (by kernel_rfl) (by kernel_rfl) (fun _ _ _ h => h) (Or.inl ⟨by kernel_rfl, ?_⟩) hHeld ?_
      · intro w' hSw; go_simp
      try simp only [Act.put, List.setIfInBounds_toArray, List.set_cons_zero, List.set_cons_succ, List.getElem_toArray, List.getElem_cons_succ, List.getElem_cons_zero]
      refine wpAnyH_take (i := 13) (v := .int .i64 y1) rfl (by kernel_rfl) (by kernel_rfl) (by kernel_rfl) (fun _ _ _ h => h) (Or.inl ⟨by kernel_rfl, ?_⟩) hHeld ?_
      · intro w' hSw; go_simp
      try simp only [Act.put, List.setIfInBounds_toArray, List.set_cons_zero, List.set_cons_succ, List.getElem_toArray, List.getElem_cons_succ, List.getElem_cons_zero]
      refine wpAnyH_ready (rs := [6]) (by kernel_rfl) (by simp) ?_
      refine AllReadyH.cons rfl (fun KK hK' => ?_) AllReadyH.nil
      go_simp
      refine (right_any W H X y0 hW ⟨by omega, by omega⟩ ⟨by omega, by omega⟩).mono ?_
      rintro e u1 ⟨rfl, b1⟩
      replace F := F.below b1
      rw [hj0]
      try go_wp2_with fail
      clear hHeld
      refine hK'.out _ _ (F) (fun hHeld => ?_)
      clear hK' KK
      try simp only [List.setIfInBounds_toArray, List.set_cons_zero, List.set_cons_succ]
      refine wpAnyH_take (i := 7) (v := .pointer (some ⟨b, off + j0, none⟩)) rfl (by kernel_rfl) (by kernel_rfl) (by kernel_rfl) (fun _ _ _ h => h) (Or.inl ⟨by kernel_rfl, ?_⟩) hHeld ?_
      · intro w' hSw; go_simp
      try simp only [Act.put, List.setIfInBounds_toArray, List.set_cons_zero, List.set_cons_succ, List.getElem_toArray, List.getElem_cons_succ, List.getElem_cons_zero]
      refine wpAnyH_take (i := 8) (v := .int .i64 p0) rfl (by kernel_rfl) (by kernel_rfl) (by kernel_rfl) (fun _ _ _ h => h) (Or.inl ⟨by kernel_rfl, ?_⟩) hHeld ?_
      · intro w' hSw; obtain ⟨hc, hf⟩ := bcell hSw; go_simp
      try simp only [Act.put, List.setIfInBounds_toArray, List.set_cons_zero, List.set_cons_succ, List.getElem_toArray, List.getElem_cons_succ, List.getElem_cons_zero]
      refine wpAnyH_ready (rs := [14]) (by kernel_rfl) (by simp) ?_
      refine AllReadyH.cons rfl (fun KK hK' => ?_) AllReadyH.nil
      go_simp
      refine (right_any W H X y1 hW ⟨by omega, by omega⟩ ⟨by omega, by omega⟩).mono ?_
      rintro e u2 ⟨rfl, b2⟩
      replace F := F.below b2
      rw [hj1]
      try go_wp2_with fail
      clear hHeld
      refine hK'.out _ _ (F) (fun hHeld => ?_)
      clear hK' KK
      try simp only [List.setIfInBounds_toArray, List.set_cons_zero, List.set_cons_succ]
      refine wpAnyH_take (i := 15) (v := .pointer (some ⟨b, off + j1, none⟩)) rfl (by kernel_rfl) (by kernel_rfl) (by kernel_rfl) (fun _ _ _ h => h) (Or.inl ⟨by kernel_rfl, ?_⟩) hHeld ?_
      · intro w' hSw; go_simp
      try simp only [Act.put, List.setIfInBounds_toArray, List.set_cons_zero, List.set_cons_succ, List.getElem_toArray, List.getElem_cons_succ, List.getElem_cons_zero]
      refine wpAnyH_take (i := 16) (v := .int .i64 p1) rfl (by kernel_rfl) (by kernel_rfl) (by kernel_rfl) (fun _ _ _ h => h) (Or.inl ⟨by kernel_rfl, ?_⟩) hHeld ?_
      · intro w' hSw; obtain ⟨hc, hf⟩ := bcell hSw; go_simp
      try simp only [Act.put, List.setIfInBounds_toArray, List.set_cons_zero, List.set_cons_succ, List.getElem_toArray, List.getElem_cons_succ, List.getElem_cons_zero]
      refine wpAnyH_take (i := 17) (v := .int .i64 (p0 - p1)) rfl (by kernel_rfl) (by kernel_rfl) (by kernel_rfl) (fun _ _ _ h => h) (Or.inl ⟨by kernel_rfl, ?_⟩) hHeld ?_
      · intro w' hSw; go_simp
      try simp only [Act.put, List.setIfInBounds_toArray, List.set_cons_zero, List.set_cons_succ, List.getElem_toArray, List.getElem_cons_succ, List.getElem_cons_zero]
      refine wpAnyH_take (i := 18) (v := .int .i64 (S + (p0 - p1))) rfl (by kernel_rfl) (by kernel_rfl) (by kernel_rfl) (fun _ _ _ h => h) (Or.inl ⟨by kernel_rfl, ?_⟩) hHeld ?_
      · intro w' hSw; go_simp
      try simp only [Act.put, List.setIfInBounds_toArray, List.set_cons_zero, List.set_cons_succ, List.getElem_toArray, List.getElem_cons_succ, List.getElem_cons_zero]
      refine wpAnyH_ready (rs := [19]) (by kernel_rfl) (by simp) ?_
      refine AllReadyH.cons rfl (fun KK hK' => ?_) AllReadyH.nil
      go_simp
      clear hHeld
      refine hK'.out _ _ (F) (fun hHeld => ?_)
      clear hK' KK
      try simp only [List.setIfInBounds_toArray, List.set_cons_zero, List.set_cons_succ]
      refine wpAnyH_done (by kernel_rfl) ?_ _
      clear hHeld
      go_wp2
      refine ⟨⟨k + 1, by omega, by rw [hnext], by go_num, hbel.below (Below.trans (Below.refl _ _) F)⟩, by simp [intOf]; omega⟩
    · have hXe : X = x1 := by omega
      have hkx : k = (x1 - x0).toNat := by omega
      have hSx : sm (lower W r x0 y0 y1) (x1 - x0).toNat = S := by rw [← hkx]; exact hS
      clear c0 c1 c2 c3 lq b0
      go_wp2
      go_loopw [11, 13] (fun s t w2 => ∃ k : Nat, y0 + k ≤ y1 ∧ s = .int .i64 (S + sm (sides W u x0 y0 x1) k) ∧ t = .int .i64 (y0 + k) ∧ Kb V w2) (fun _ t _ => (y1 - intOf t).toNat)
      case atStart => exact ⟨0, by omega, by simp [sm], by simp, hbel⟩
      case round =>
        clear hbel hk hX hkx hS
        obtain ⟨k, hk, rfl, rfl, hbel⟩ := hrel
        obtain ⟨D, hD⟩ : ∃ D, sm (sides W u x0 y0 x1) k = D := ⟨_, rfl⟩
        obtain ⟨Y, hY⟩ : ∃ Y, y0 + (k : Int) = Y := ⟨_, rfl⟩
        have hDb := sides_in hok hy.1 (x0 := x0) (x1 := x1) (by omega) (by omega) (k := k) (by omega)
        rw [hD] at hDb ⊢
        rw [hY]
        have b0 := B0.below hbel
        have lq := b0.lt
        obtain ⟨c0, c1, c2, c3, -⟩ := b0.open4
        have hS0 := hSb
        by_cases hlt : Y < y1
        · obtain ⟨j0, hj0, l0, e0, p0b⟩ := up_at hok (x := x1) (y := Y) (by omega) (by omega)
          obtain ⟨j1, hj1, l1, e1, p1b⟩ := up_at hok (x := x0) (y := Y) (by omega) (by omega)
          have hnext : sm (sides W u x0 y0 x1) (k + 1) = D + (u j0 - u j1) := by simp only [sm, hD, sides]; rw [hY, e0, e1]
          rcases hu.below hbel with h0 | ⟨b, off, rfl, hb, hrr⟩
          · omega
          have g0 := hrr j0 l0
          have g1 := hrr j1 l1
          obtain ⟨p0, hp0⟩ : ∃ p, u j0 = p := ⟨_, rfl⟩
          obtain ⟨p1, hp1⟩ : ∃ p, u j1 = p := ⟨_, rfl⟩
          rw [hp0] at g0 p0b hnext
          rw [hp1] at g1 p1b hnext
          obtain ⟨S', hS'⟩ : ∃ S', S + D = S' := ⟨_, rfl⟩
          rw [hS']
          have w1 : IntKind.i64.wrap (p0 - p1) = p0 - p1 := IntWalk.i64_in _ (by omega)
          have w2 : IntKind.i64.wrap (S' + (p0 - p1)) = S' + (p0 - p1) := IntWalk.i64_in _ (by omega)
          have l0' : (j0 : Int) < lu := by omega
          have l1' : (j1 : Int) < lu := by omega
          go_wp2_with fail
          obtain ⟨u0, hu0, bb⟩ : ∃ u0, wr.drew = u0 ∧ Below wr.heap.size wr u0 := ⟨_, rfl, (Below.refl _ _).drew⟩
          replace b0 := b0.below bb
          have F : Kb wr u0 := bb
          clear bb
          refine wp_region_held_drew (S := Kb wr) (by kernel_rfl) (by rw [hu0]; exact F) (fun hHeld => ?_)
          rw [hu0] at hHeld ⊢
          clear hu0
          change wpAnyH _ _ _ _ _ 20 #[false, false, false, false, false, false, false, false, false, false, false, false, false, false, false, false, false, false, false, false] _ _
          refine wpAnyH_take (i := 0) (v := .int .i64 S') rfl (by kernel_rfl) (by kernel_rfl) (by kernel_rfl) (fun _ _ _ h => h) (Or.inl ⟨by kernel_rfl, ?_⟩) hHeld ?_
          · intro w' hSw; go_simp
          try simp only [Act.put, List.setIfInBounds_toArray, List.set_cons_zero, List.set_cons_succ, List.getElem_toArray, List.getElem_cons_zero]
          refine wpAnyH_take (i := 1) (v := .pointer (some ⟨q, 3, none⟩)) rfl (by kernel_rfl) (by kernel_rfl) (by kernel_rfl) (fun _ _ _ h => h) (Or.inl ⟨by kernel_rfl, ?_⟩) hHeld ?_
          · intro w' hSw; go_simp
          try simp only [Act.put, List.setIfInBounds_toArray, List.set_cons_zero, List.set_cons_succ, List.getElem_toArray, List.getElem_cons_succ, List.getElem_cons_zero]
          refine wpAnyH_take (i := 2) (v := .slice (some ⟨b, off, none⟩) lu cu) rfl (by kernel_rfl) (by kernel_rfl) (by kernel_rfl) (fun _ _ _ h => h) (Or.inl ⟨by kernel_rfl, ?_⟩) hHeld ?_
          · intro w' hSw; obtain ⟨hc, hf⟩ := bcell hSw; go_simp
          try simp only [Act.put, List.setIfInBounds_toArray, List.set_cons_zero, List.set_cons_succ, List.getElem_toArray, List.getElem_cons_succ, List.getElem_cons_zero]
          refine wpAnyH_take (i := 3) (v := nV W H (.slice a lr cr) (.slice (some ⟨b, off, none⟩) lu cu)) rfl (by kernel_rfl) (by kernel_rfl) (by kernel_rfl) (fun _ _ _ h => h) (Or.inl ⟨by kernel_rfl, ?_⟩) hHeld ?_
          · intro w' hSw; obtain ⟨hc, hf⟩ := bcell hSw; go_simp
          try simp only [Act.put, List.setIfInBounds_toArray, List.set_cons_zero, List.set_cons_succ, List.getElem_toArray, List.getElem_cons_succ, List.getElem_cons_zero]
          refine wpAnyH_take (i := 4) (v := .int .i64 x1) rfl (by kernel_rfl) (by kernel_rfl) (by kernel_rfl) (fun _ _ _ h => h) (Or.inl ⟨by kernel_rfl, ?_⟩) hHeld ?_
          · intro w' hSw; go_simp
          try simp only [Act.put, List.setIfInBounds_toArray, List.set_cons_zero, List.set_cons_succ, List.getElem_toArray, List.getElem_cons_succ, List.getElem_cons_zero]
          refine wpAnyH_take (i := 5) (v := .int .i64 Y) rfl (by kernel_rfl) (by kernel_rfl) (by kernel_rfl) (fun _ _ _ h => h) (Or.inl ⟨by kernel_rfl, ?_⟩) hHeld ?_
          · intro w' hSw; go_simp
          try simp only [Act.put, List.setIfInBounds_toArray, List.set_cons_zero, List.set_cons_succ, List.getElem_toArray, List.getElem_cons_succ, List.getElem_cons_zero]
          refine wpAnyH_take (i := 9) (v := .pointer (some ⟨q, 3, none⟩)) rfl (by kernel_rfl) (by kernel_rfl) (by kernel_rfl) (fun _ _ _ h => h) (Or.inl ⟨by kernel_rfl, ?_⟩) hHeld ?_
          · intro w' hSw; go_simp
          try simp only [Act.put, List.setIfInBounds_toArray, List.set_cons_zero, List.set_cons_succ, List.getElem_toArray, List.getElem_cons_succ, List.getElem_cons_zero]
          refine wpAnyH_take (i := 10) (v := .slice (some ⟨b, off, none⟩) lu cu) rfl (by kernel_rfl) (by kernel_rfl) (by kernel_rfl) (fun _ _ _ h => h) (Or.inl ⟨by kernel_rfl, ?_⟩) hHeld ?_
          · intro w' hSw; obtain ⟨hc, hf⟩ := bcell hSw; go_simp
          try simp only [Act.put, List.setIfInBounds_toArray, List.set_cons_zero, List.set_cons_succ, List.getElem_toArray, List.getElem_cons_succ, List.getElem_cons_zero]
          refine wpAnyH_take (i := 11) (v := nV W H (.slice a lr cr) (.slice (some ⟨b, off, none⟩) lu cu)) rfl (by kernel_rfl) (by kernel_rfl) (by kernel_rfl) (fun _ _ _ h => h) (Or.inl ⟨by kernel_rfl, ?_⟩) hHeld ?_
          · intro w' hSw; obtain ⟨hc, hf⟩ := bcell hSw; go_simp
          try simp only [Act.put, List.setIfInBounds_toArray, List.set_cons_zero, List.set_cons_succ, List.getElem_toArray, List.getElem_cons_succ, List.getElem_cons_zero]
          refine wpAnyH_take (i := 12) (v := .int .i64 x0) rfl (by kernel_rfl) (by kernel_rfl) (by kernel_rfl) (fun _ _ _ h => h) (Or.inl ⟨by kernel_rfl, ?_⟩) hHeld ?_
          · intro w' hSw; go_simp
          try simp only [Act.put, List.setIfInBounds_toArray, List.set_cons_zero, List.set_cons_succ, List.getElem_toArray, List.getElem_cons_succ, List.getElem_cons_zero]
          refine wpAnyH_take (i := 13) (v := .int .i64 Y) rfl (by kernel_rfl) (by kernel_rfl) (by kernel_rfl) (fun _ _ _ h => h) (Or.inl ⟨by kernel_rfl, ?_⟩) hHeld ?_
          · intro w' hSw; go_simp
          try simp only [Act.put, List.setIfInBounds_toArray, List.set_cons_zero, List.set_cons_succ, List.getElem_toArray, List.getElem_cons_succ, List.getElem_cons_zero]
          refine wpAnyH_ready (rs := [6]) (by kernel_rfl) (by simp) ?_
          refine AllReadyH.cons rfl (fun KK hK' => ?_) AllReadyH.nil
          go_simp
          refine (site_any W H x1 Y hW ⟨by omega, by omega⟩ ⟨by omega, by omega⟩).mono ?_
          rintro e u1 ⟨rfl, b1⟩
          replace F := F.below b1
          rw [hj0]
          try go_wp2_with fail
          clear hHeld
          refine hK'.out _ _ (F) (fun hHeld => ?_)
          clear hK' KK
          try simp only [List.setIfInBounds_toArray, List.set_cons_zero, List.set_cons_succ]
          refine wpAnyH_take (i := 7) (v := .pointer (some ⟨b, off + j0, none⟩)) rfl (by kernel_rfl) (by kernel_rfl) (by kernel_rfl) (fun _ _ _ h => h) (Or.inl ⟨by kernel_rfl, ?_⟩) hHeld ?_
          · intro w' hSw; go_simp
          try simp only [Act.put, List.setIfInBounds_toArray, List.set_cons_zero, List.set_cons_succ, List.getElem_toArray, List.getElem_cons_succ, List.getElem_cons_zero]
          refine wpAnyH_take (i := 8) (v := .int .i64 p0) rfl (by kernel_rfl) (by kernel_rfl) (by kernel_rfl) (fun _ _ _ h => h) (Or.inl ⟨by kernel_rfl, ?_⟩) hHeld ?_
          · intro w' hSw; obtain ⟨hc, hf⟩ := bcell hSw; go_simp
          try simp only [Act.put, List.setIfInBounds_toArray, List.set_cons_zero, List.set_cons_succ, List.getElem_toArray, List.getElem_cons_succ, List.getElem_cons_zero]
          refine wpAnyH_ready (rs := [14]) (by kernel_rfl) (by simp) ?_
          refine AllReadyH.cons rfl (fun KK hK' => ?_) AllReadyH.nil
          go_simp
          refine (site_any W H x0 Y hW ⟨by omega, by omega⟩ ⟨by omega, by omega⟩).mono ?_
          rintro e u2 ⟨rfl, b2⟩
          replace F := F.below b2
          rw [hj1]
          try go_wp2_with fail
          clear hHeld
          refine hK'.out _ _ (F) (fun hHeld => ?_)
          clear hK' KK
          try simp only [List.setIfInBounds_toArray, List.set_cons_zero, List.set_cons_succ]
          refine wpAnyH_take (i := 15) (v := .pointer (some ⟨b, off + j1, none⟩)) rfl (by kernel_rfl) (by kernel_rfl) (by kernel_rfl) (fun _ _ _ h => h) (Or.inl ⟨by kernel_rfl, ?_⟩) hHeld ?_
          · intro w' hSw; go_simp
          try simp only [Act.put, List.setIfInBounds_toArray, List.set_cons_zero, List.set_cons_succ, List.getElem_toArray, List.getElem_cons_succ, List.getElem_cons_zero]
          refine wpAnyH_take (i := 16) (v := .int .i64 p1) rfl (by kernel_rfl) (by kernel_rfl) (by kernel_rfl) (fun _ _ _ h => h) (Or.inl ⟨by kernel_rfl, ?_⟩) hHeld ?_
          · intro w' hSw; obtain ⟨hc, hf⟩ := bcell hSw; go_simp
          try simp only [Act.put, List.setIfInBounds_toArray, List.set_cons_zero, List.set_cons_succ, List.getElem_toArray, List.getElem_cons_succ, List.getElem_cons_zero]
          refine wpAnyH_take (i := 17) (v := .int .i64 (p0 - p1)) rfl (by kernel_rfl) (by kernel_rfl) (by kernel_rfl) (fun _ _ _ h => h) (Or.inl ⟨by kernel_rfl, ?_⟩) hHeld ?_
          · intro w' hSw; go_simp
          try simp only [Act.put, List.setIfInBounds_toArray, List.set_cons_zero, List.set_cons_succ, List.getElem_toArray, List.getElem_cons_succ, List.getElem_cons_zero]
          refine wpAnyH_take (i := 18) (v := .int .i64 (S' + (p0 - p1))) rfl (by kernel_rfl) (by kernel_rfl) (by kernel_rfl) (fun _ _ _ h => h) (Or.inl ⟨by kernel_rfl, ?_⟩) hHeld ?_
          · intro w' hSw; go_simp
          try simp only [Act.put, List.setIfInBounds_toArray, List.set_cons_zero, List.set_cons_succ, List.getElem_toArray, List.getElem_cons_succ, List.getElem_cons_zero]
          refine wpAnyH_ready (rs := [19]) (by kernel_rfl) (by simp) ?_
          refine AllReadyH.cons rfl (fun KK hK' => ?_) AllReadyH.nil
          go_simp
          clear hHeld
          refine hK'.out _ _ (F) (fun hHeld => ?_)
          clear hK' KK
          try simp only [List.setIfInBounds_toArray, List.set_cons_zero, List.set_cons_succ]
          refine wpAnyH_done (by kernel_rfl) ?_ _
          clear hHeld
          go_wp2
          refine ⟨⟨k + 1, by omega, by rw [hnext]; congr 1; omega, by go_num, hbel.below (Below.trans (Below.refl _ _) F)⟩, by simp [intOf]; omega⟩
        · have hYe : Y = y1 := by omega
          have hky : k = (y1 - y0).toNat := by omega
          go_wp2
          go_ret
          refine ⟨?_, by rw [← hq]; exact bV.trans (Below.mono hbel bV.size)⟩
          rw [show arT W r u x0 y0 x1 y1 = S + D by unfold arT; rw [hSx, ← hky, hD]]
          rfl
end Go.Proofs.Ytlmgdcoknpakcaa
