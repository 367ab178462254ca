/-
  Places, points and new maps, the share: by the program and by the specification, walked.
-/
import Derived.Test.YtiocneailhplkaaGreatAv1
import Derived.BigRegion
namespace Go.Proofs.YtiocneailhplkaaGreat
open Go.RowKit

theorem infoIv : (Tryz.prog.info? 2).map (fun i => (i.zero, i.size, i.bytes)) = some (some (.int .i64 0), 1, 8) := by kernel_rfl
theorem put3_at {t : TypeId} {w : World} {q : Nat} {u0 u1 u2 : Value} (h : At t w q #[u0, u1, u2]) (v0 v1 v2 : Value) : At t (((w.setCell ⟨q, 0, none⟩ v0).setCell ⟨q, 1, none⟩ v1).setCell ⟨q, 2, none⟩ v2) q #[v0, v1, v2] := by
  have := ((h.set 0 v0).set 1 v1).set 2 v2
  simpa using this
theorem below_put3 {N q : Nat} {w w2 : World} (h : Below N w w2) (hq : N ≤ q) (v0 v1 v2 : Value) : Below N w (((w2.setCell ⟨q, 0, none⟩ v0).setCell ⟨q, 1, none⟩ v1).setCell ⟨q, 2, none⟩ v2) := ((h.setCell hq v0).setCell hq v1).setCell hq v2
def cube (n : Int) : Nat := (n * n * n).toNat
theorem cube_is {n : Int} (h : side n) : (cube n : Int) = n * n * n ∧ 1 ≤ cube n ∧ cube n ≤ 1728 := by
  rcases h with rfl | rfl | rfl | rfl | rfl | rfl <;> decide
theorem make_zeros (M : Nat) (hM : M ≤ 1048576) : ∃ C : Array Value, C.size = M ∧ (∀ i, i < M → C[i]? = some (.int .i64 0)) ∧ ∀ w, (Instr.makeSlice 24 (.int .i64 (M : Int)) (.int .i64 (M : Int))).run Tryz.prog w = .ok (.slice (some ⟨w.heap.size, 0, none⟩) M M) (w.alloc (.cells C 2)) := by
  obtain ⟨i0, hi0, hz0, hz1, hz2⟩ := info_parts infoIv
  refine ⟨madeCells (Value.int .i64 0).cells M, by simp [madeCells], fun i hi => ?_, fun w => ?_⟩
  · simp [madeCells, Value.cells, hi, Nat.mod_one]
  have := run_make (P := Tryz.prog) w 24 2 i0 _ Tryz.underlying24 hi0 hz0 .i64 .i64 (M : Int) (M : Int) (by omega) (by omega) (by rw [hz2]; omega) (by omega)
  rw [this, hz1]
  simp
theorem place_by {n px py pz : Int} (hn : side n) (hx : 0 ≤ px ∧ px < n) (hy : 0 ≤ py ∧ py < n) (hz : 0 ≤ pz ∧ pz < n) : (0 ≤ pz * n ∧ pz * n ≤ 132) ∧ (0 ≤ (pz * n + py) * n ∧ (pz * n + py) * n ≤ 1716) ∧ (0 ≤ (pz * n + py) * n + px ∧ (pz * n + py) * n + px < n * n * n) := by
  rcases hn with rfl | rfl | rfl | rfl | rfl | rfl <;> omega
theorem number_any (n px py pz : Int) (v : Value) (w : World) (hn : side n) (hx : 0 ≤ px ∧ px < n) (hy : 0 ≤ py ∧ py < n) (hz : 0 ≤ pz ∧ pz < n) : Calls Tryz.prog 70 #[mV n v, .agg #[.int .i64 px, .int .i64 py, .int .i64 pz]] w fun e w' => e = .returned (.int .i64 ((pz * n + py) * n + px)) ∧ Below w.heap.size w w' := by
  obtain ⟨q0, q1, q2⟩ := side_by hn
  obtain ⟨k1, k2, k3⟩ := place_by hn hx hy hz
  obtain ⟨W, hW, b0, b1, bW, -⟩ := bx2 w 26 66 #[.int .i64 n, v] #[.int .i64 px, .int .i64 py, .int .i64 pz]
  obtain ⟨c0, c1, -⟩ := b0.open2
  obtain ⟨d0, d1, d2, -⟩ := b1.open3
  go_enter Tryz.func70, Tryz.ntmps70
  go_wp2
  go_ret
  exact ⟨rfl, bW⟩
theorem new_map (n : Int) (hn : side n) (w : World) : Calls Tryz.prog 27 #[.int .i64 n] w fun e w' => ∃ g, e = .returned (mV n (.slice (some ⟨g, 0, none⟩) (cube n) (cube n))) ∧ w.heap.size ≤ g ∧ Made w' g (cube n) (cube n) (fun _ => 0) ∧ Below w.heap.size w w' := by
  obtain ⟨c1, c2, c3⟩ := cube_is hn
  obtain ⟨q0, q1, q2⟩ := side_by hn
  obtain ⟨C, hC, hz, hmk⟩ := make_zeros (cube n) (by omega)
  rw [c1] at hmk
  have HZ : Hid (∀ i, i < cube n → C[i]? = some (.int .i64 0)) := hz
  clear hz c1
  obtain ⟨W, hW, b0, bW, -⟩ := boxed w 26 #[.int .i64 0, .slice none 0 0]
  obtain ⟨d0, d1, f0, f1⟩ := b0.open2
  have l0 := b0.lt
  obtain ⟨L, hL⟩ : ∃ L, cube n = L := ⟨_, rfl⟩
  rw [hL] at hC c2 c3 HZ hmk ⊢
  clear hL hn
  go_enter Tryz.func27, Tryz.ntmps27
  go_wp2
  obtain ⟨W2, hW2⟩ : ∃ W2, (W.setCell ⟨w.heap.size, 0, none⟩ (.int .i64 n)).setCell ⟨w.heap.size, 1, none⟩ (.slice (some ⟨W.heap.size, 0, none⟩) L L) = W2 := ⟨_, rfl⟩
  have hs2 : W2.heap.size = W.heap.size := by rw [← hW2]; simp [World.setCell]
  have b2 : At 26 W2 w.heap.size #[.int .i64 n, .slice (some ⟨W.heap.size, 0, none⟩) L L] := hW2 ▸ (by simpa using (b0.set 0 (.int .i64 n)).set 1 (.slice (some ⟨W.heap.size, 0, none⟩) L L))
  have B2 : Below w.heap.size w W2 := hW2 ▸ (bW.setCell (Nat.le_refl _) _).setCell (Nat.le_refl _) _
  have hm := at_new 2 W2 C
  rw [hs2] at hm
  rw [hW2]
  obtain ⟨p0, p1, -⟩ := (b2.below (below_alloc W2 (.cells C 2))).open2
  exact bodyPost_ret (v := mV n (.slice (some ⟨W.heap.size, 0, none⟩) L L)) (by simp [results, Tryz.results27, go_sem, p0, p1]) rfl ⟨_, rfl, bW.size, ⟨C, hm, hC, HZ.out⟩, B2.alloc B2.size _⟩
theorem blank_map (n : Int) (hn : side n) (w : World) : Calls Tryz.prog 34 #[.int .i64 n] w fun e w' => ∃ g, e = .returned (mV n (.slice (some ⟨g, 0, none⟩) (cube n) (cube n))) ∧ w.heap.size ≤ g ∧ Made w' g (cube n) (cube n) (fun _ => 0) ∧ Below w.heap.size w w' := by
  obtain ⟨c1, c2, c3⟩ := cube_is hn
  obtain ⟨q0, q1, q2⟩ := side_by hn
  obtain ⟨C, hC, hz, hmk⟩ := make_zeros (cube n) (by omega)
  rw [c1] at hmk
  have HZ : Hid (∀ i, i < cube n → C[i]? = some (.int .i64 0)) := hz
  clear hz c1
  obtain ⟨W, hW, b0, bW, -⟩ := boxed w 26 #[.int .i64 0, .slice none 0 0]
  obtain ⟨d0, d1, f0, f1⟩ := b0.open2
  have l0 := b0.lt
  obtain ⟨L, hL⟩ : ∃ L, cube n = L := ⟨_, rfl⟩
  rw [hL] at hC c2 c3 HZ hmk ⊢
  clear hL hn
  go_enter Tryz.func34, Tryz.ntmps34
  go_wp2
  obtain ⟨W2, hW2⟩ : ∃ W2, (W.setCell ⟨w.heap.size, 0, none⟩ (.int .i64 n)).setCell ⟨w.heap.size, 1, none⟩ (.slice (some ⟨W.heap.size, 0, none⟩) L L) = W2 := ⟨_, rfl⟩
  have hs2 : W2.heap.size = W.heap.size := by rw [← hW2]; simp [World.setCell]
  have b2 : At 26 W2 w.heap.size #[.int .i64 n, .slice (some ⟨W.heap.size, 0, none⟩) L L] := hW2 ▸ (by simpa using (b0.set 0 (.int .i64 n)).set 1 (.slice (some ⟨W.heap.size, 0, none⟩) L L))
  have B2 : Below w.heap.size w W2 := hW2 ▸ (bW.setCell (Nat.le_refl _) _).setCell (Nat.le_refl _) _
  have hm := at_new 2 W2 C
  rw [hs2] at hm
  rw [hW2]
  obtain ⟨p0, p1, -⟩ := (b2.below (below_alloc W2 (.cells C 2))).open2
  exact bodyPost_ret (v := mV n (.slice (some ⟨W.heap.size, 0, none⟩) L L)) (by simp [results, Tryz.results34, go_sem, p0, p1]) rfl ⟨_, rfl, bW.size, ⟨C, hm, hC, HZ.out⟩, B2.alloc B2.size _⟩
theorem boxed3 (w : World) (t u r : TypeId) (vs us rs : Array Value) : ∃ W, ((w.alloc (.cells vs t)).alloc (.cells us u)).alloc (.cells rs r) = W ∧ At t W w.heap.size vs ∧ At u W (w.heap.size + 1) us ∧ At r W (w.heap.size + 2) rs ∧ Below w.heap.size w W ∧ w.heap.size + 2 < W.heap.size := by
  obtain ⟨W0, h0, a0, a1, b0, -⟩ := bx2 w t u vs us
  have e : W0.heap.size = w.heap.size + 2 := by rw [← h0]; simp
  rw [h0]
  refine ⟨_, rfl, a0.below (below_alloc _ _), a1.below (below_alloc _ _), ?_, b0.trans ((below_alloc _ _).mono b0.size), by simp; omega⟩
  have := at_new r W0 rs
  rwa [e] at this
theorem step_by {n : Int} (h : side n) : Int.tdiv 24 n = byN n := by
  rcases h with rfl | rfl | rfl | rfl | rfl | rfl <;> decide
section
variable (n x y z : Int) (v : Value) (w : World) (hn : side n) (hx : 0 ≤ x ∧ x ≤ 23) (hy : 0 ≤ y ∧ y ≤ 23) (hz : 0 ≤ z ∧ z ≤ 23)
include hn hx hy hz
theorem placeAt_no (hno : ¬ fitN n (x, y, z)) : Calls Tryz.prog 69 #[mV n v, .agg #[.int .i64 x, .int .i64 y, .int .i64 z]] w fun e w' => e = .returned (.tuple #[.agg #[.int .i64 0, .int .i64 0, .int .i64 0], .bool false]) ∧ Below w.heap.size w w' := by
  obtain ⟨q0, -⟩ := side_by hn
  have hs := byN_is hn
  have es := step_by hn
  unfold fitN at hno
  simp only at hno
  obtain ⟨s, hsd⟩ : ∃ s, byN n = s := ⟨_, rfl⟩
  rw [hsd] at es hs hno
  obtain ⟨-, hs2, hs24⟩ := hs
  have hn0 : ¬ n = 0 := by omega
  have hs0 : ¬ s = 0 := by omega
  obtain ⟨hx0, hx1⟩ := hx
  obtain ⟨hy0, hy1⟩ := hy
  obtain ⟨hz0, hz1⟩ := hz
  obtain ⟨W, hW, b0, b1, b2, bW, -⟩ := boxed3 w 26 54 66 #[.int .i64 n, v] #[.int .i64 x, .int .i64 y, .int .i64 z] #[.int .i64 0, .int .i64 0, .int .i64 0]
  obtain ⟨c0, c1, -⟩ := b0.open2
  obtain ⟨d0, d1, d2, -⟩ := b1.open3
  obtain ⟨e0, e1, e2, f0, f1, f2⟩ := b2.open3
  obtain ⟨p0, p1, p2, -⟩ := (put3_at b2 (.int .i64 0) (.int .i64 0) (.int .i64 0)).open3
  have tx : Int.tmod x s = x % s := Int.tmod_eq_emod_of_nonneg hx0
  have ty : Int.tmod y s = y % s := Int.tmod_eq_emod_of_nonneg hy0
  have tz : Int.tmod z s = z % s := Int.tmod_eq_emod_of_nonneg hz0
  by_cases h1 : x % s = 0
  · have g1 : (x % s != 0) = false := by simp [h1]
    by_cases h2 : y % s = 0
    · have g2 : (y % s != 0) = false := by simp [h2]
      have h3 : ¬ z % s = 0 := fun h => hno ⟨h1, h2, h⟩
      have g3 : (z % s != 0) = true := by simp [h3]
      clear h1 h2 h3 hno
      go_enter Tryz.func69, Tryz.ntmps69
      go_wp2
      exact bodyPost_ret (v := .tuple #[.agg #[.int .i64 0, .int .i64 0, .int .i64 0], .bool false]) (by simp [results, Tryz.results69, go_sem, p0, p1, p2]) rfl ⟨rfl, below_put3 bW (by omega) _ _ _⟩
    · have g2 : (y % s != 0) = true := by simp [h2]
      clear h1 h2 hno
      go_enter Tryz.func69, Tryz.ntmps69
      go_wp2
      exact bodyPost_ret (v := .tuple #[.agg #[.int .i64 0, .int .i64 0, .int .i64 0], .bool false]) (by simp [results, Tryz.results69, go_sem, p0, p1, p2]) rfl ⟨rfl, below_put3 bW (by omega) _ _ _⟩
  · have g1 : (x % s != 0) = true := by simp [h1]
    clear h1 hno
    go_enter Tryz.func69, Tryz.ntmps69
    go_wp2
    exact bodyPost_ret (v := .tuple #[.agg #[.int .i64 0, .int .i64 0, .int .i64 0], .bool false]) (by simp [results, Tryz.results69, go_sem, p0, p1, p2]) rfl ⟨rfl, below_put3 bW (by omega) _ _ _⟩
theorem placeAt_yes (hyes : fitN n (x, y, z)) : Calls Tryz.prog 69 #[mV n v, .agg #[.int .i64 x, .int .i64 y, .int .i64 z]] w fun e w' => e = .returned (.tuple #[.agg #[.int .i64 (x / byN n), .int .i64 (y / byN n), .int .i64 (z / byN n)], .bool true]) ∧ Below w.heap.size w w' := by
  obtain ⟨q0, -⟩ := side_by hn
  have hs := byN_is hn
  have es := step_by hn
  have hlt := nmN_lt hn (p := (x, y, z)) (show inP x y z from ⟨hx, hy, hz⟩)
  unfold fitN at hyes
  simp only at hyes hlt
  obtain ⟨s, hsd⟩ : ∃ s, byN n = s := ⟨_, rfl⟩
  rw [hsd] at es hs hyes hlt ⊢
  obtain ⟨-, hs2, hs24⟩ := hs
  obtain ⟨h1, h2, h3⟩ := hyes
  obtain ⟨⟨X0, X1⟩, ⟨Y0, Y1⟩, ⟨Z0, Z1⟩, -⟩ := hlt
  have hn0 : ¬ n = 0 := by omega
  have hs0 : ¬ s = 0 := by omega
  have hs1 : (s == 0) = false := by simp; omega
  have g1 : (x % s != 0) = false := by simp [h1]
  have g2 : (y % s != 0) = false := by simp [h2]
  have g3 : (z % s != 0) = false := by simp [h3]
  have ux : Int.tmod x s = x % s := Int.tmod_eq_emod_of_nonneg hx.1
  have uy : Int.tmod y s = y % s := Int.tmod_eq_emod_of_nonneg hy.1
  have uz : Int.tmod z s = z % s := Int.tmod_eq_emod_of_nonneg hz.1
  have tx : x.tdiv s = x / s := Int.tdiv_eq_ediv_of_nonneg hx.1
  have ty : y.tdiv s = y / s := Int.tdiv_eq_ediv_of_nonneg hy.1
  have tz : z.tdiv s = z / s := Int.tdiv_eq_ediv_of_nonneg hz.1
  obtain ⟨X, hX⟩ : ∃ X, x / s = X := ⟨_, rfl⟩
  obtain ⟨Y, hY⟩ : ∃ X, y / s = X := ⟨_, rfl⟩
  obtain ⟨Z, hZ⟩ : ∃ X, z / s = X := ⟨_, rfl⟩
  rw [hX] at tx X0 X1 ⊢
  rw [hY] at ty Y0 Y1 ⊢
  rw [hZ] at tz Z0 Z1 ⊢
  have wx : IntKind.i64.wrap X = X := by rw [IntKind.wrap_i64]; omega
  have wy : IntKind.i64.wrap Y = Y := by rw [IntKind.wrap_i64]; omega
  have wz : IntKind.i64.wrap Z = Z := by rw [IntKind.wrap_i64]; omega
  obtain ⟨hx0, hx1⟩ := hx
  obtain ⟨hy0, hy1⟩ := hy
  obtain ⟨hz0, hz1⟩ := hz
  obtain ⟨W, hW, b0, b1, b2, bW, -⟩ := boxed3 w 26 54 66 #[.int .i64 n, v] #[.int .i64 x, .int .i64 y, .int .i64 z] #[.int .i64 0, .int .i64 0, .int .i64 0]
  obtain ⟨c0, c1, -⟩ := b0.open2
  obtain ⟨d0, d1, d2, -⟩ := b1.open3
  obtain ⟨e0, e1, e2, f0, f1, f2⟩ := b2.open3
  clear h1 h2 h3 hX hY hZ hsd
  go_enter Tryz.func69, Tryz.ntmps69
  go_wp2_with fail
  go_region
  go_wp2
  obtain ⟨p0, p1, p2, -⟩ := ((put3_at b2 (.int .i64 X) (.int .i64 Y) (.int .i64 Z)).below (Below.refl _ _).drew).open3
  exact bodyPost_ret (v := .tuple #[.agg #[.int .i64 X, .int .i64 Y, .int .i64 Z], .bool true]) (by simp [results, Tryz.results69, go_sem, p0, p1, p2]) rfl ⟨rfl, (below_put3 bW (by omega) _ _ _).drew⟩
end
/-- The place of number k. -/
theorem mplace_any {n : Int} {k : Nat} (v : Value) (w : World) (hn : side n) (hk : (k : Int) < n * n * n) : Calls Tryz.prog 36 #[mV n v, .int .i64 (k : Int)] w fun e w' => e = .returned (.agg #[.int .i64 ((k : Int) % n), .int .i64 ((k : Int) / n % n), .int .i64 ((k : Int) / n / n)]) ∧ Below w.heap.size w w' := by
  obtain ⟨q0, q1, q2⟩ := side_by hn
  have hb : (0 ≤ (k : Int) % n ∧ (k : Int) % n < 12) ∧ (0 ≤ (k : Int) / n ∧ (k : Int) / n ≤ 1728) ∧ (0 ≤ (k : Int) / n % n ∧ (k : Int) / n % n < 12) ∧ (0 ≤ (k : Int) / n / n ∧ (k : Int) / n / n < 12) := by
    rcases hn with rfl | rfl | rfl | rfl | rfl | rfl <;> omega
  have hn0 : ¬ n = 0 := by omega
  have hn1 : (n == 0) = false := by simp; omega
  have t1 : Int.tmod (k : Int) n = (k : Int) % n := Int.tmod_eq_emod_of_nonneg (by omega)
  have t2 : Int.tdiv (k : Int) n = (k : Int) / n := Int.tdiv_eq_ediv_of_nonneg (by omega)
  have t3 : Int.tmod ((k : Int) / n) n = (k : Int) / n % n := Int.tmod_eq_emod_of_nonneg (by omega)
  have t4 : Int.tdiv ((k : Int) / n) n = (k : Int) / n / n := Int.tdiv_eq_ediv_of_nonneg (by omega)
  obtain ⟨x, hx⟩ : ∃ x, (k : Int) % n = x := ⟨_, rfl⟩
  obtain ⟨y, hy⟩ : ∃ x, (k : Int) / n % n = x := ⟨_, rfl⟩
  obtain ⟨z, hz⟩ : ∃ x, (k : Int) / n / n = x := ⟨_, rfl⟩
  rw [hx] at hb t1 ⊢
  rw [hy] at hb t3 ⊢
  rw [hz] at hb t4 ⊢
  obtain ⟨d, hd⟩ : ∃ x, (k : Int) / n = x := ⟨_, rfl⟩
  rw [hd] at hb t2 t3 t4
  obtain ⟨hb1, hb2, hb3, hb4⟩ := hb
  have w2 : IntKind.i64.wrap d = d := by rw [IntKind.wrap_i64]; omega
  have w4 : IntKind.i64.wrap z = z := by rw [IntKind.wrap_i64]; omega
  obtain ⟨W, hW, b0, b1, bW, hl⟩ := bx2 w 26 66 #[.int .i64 n, v] #[.int .i64 0, .int .i64 0, .int .i64 0]
  obtain ⟨c0, c1, -⟩ := b0.open2
  obtain ⟨e0, e1, e2, f0, f1, f2⟩ := b1.open3
  clear hx hy hz hd
  go_enter Tryz.func36, Tryz.ntmps36
  go_wp2_with fail
  go_region
  go_wp2
  obtain ⟨p0, p1, p2, -⟩ := ((put3_at b1 (.int .i64 x) (.int .i64 y) (.int .i64 z)).below (Below.refl _ _).drew).open3
  exact bodyPost_ret (v := .agg #[.int .i64 x, .int .i64 y, .int .i64 z]) (by simp [results, Tryz.results36, go_sem, p0, p1, p2]) rfl ⟨rfl, (below_put3 bW (by omega) _ _ _).drew⟩
theorem pointAt_any {n x y z : Int} (v : Value) (w : World) (hn : side n) (hx : 0 ≤ x ∧ x < 12) (hy : 0 ≤ y ∧ y < 12) (hz : 0 ≤ z ∧ z < 12) : Calls Tryz.prog 68 #[mV n v, .agg #[.int .i64 x, .int .i64 y, .int .i64 z]] w fun e w' => e = .returned (.agg #[.int .i64 (byN n * x), .int .i64 (byN n * y), .int .i64 (byN n * z)]) ∧ Below w.heap.size w w' := by
  obtain ⟨q0, -⟩ := side_by hn
  have hs := byN_is hn
  have es := step_by hn
  have hm : (0 ≤ byN n * x ∧ byN n * x ≤ 288) ∧ (0 ≤ byN n * y ∧ byN n * y ≤ 288) ∧ (0 ≤ byN n * z ∧ byN n * z ≤ 288) := by
    rcases hn with rfl | rfl | rfl | rfl | rfl | rfl
    · rw [show byN 1 = 24 by decide]; omega
    · rw [show byN 2 = 12 by decide]; omega
    · rw [show byN 3 = 8 by decide]; omega
    · rw [show byN 4 = 6 by decide]; omega
    · rw [show byN 6 = 4 by decide]; omega
    · rw [show byN 12 = 2 by decide]; omega
  obtain ⟨s, hsd⟩ : ∃ s, byN n = s := ⟨_, rfl⟩
  rw [hsd] at es hs hm ⊢
  obtain ⟨-, hs2, hs24⟩ := hs
  obtain ⟨m1, m2, m3⟩ := hm
  have hn0 : ¬ n = 0 := by omega
  have w1 : IntKind.i64.wrap (s * x) = s * x := by rw [IntKind.wrap_i64]; omega
  have w2 : IntKind.i64.wrap (s * y) = s * y := by rw [IntKind.wrap_i64]; omega
  have w3 : IntKind.i64.wrap (s * z) = s * z := by rw [IntKind.wrap_i64]; omega
  obtain ⟨W, hW, b0, b1, b2, bW, -⟩ := boxed3 w 26 66 54 #[.int .i64 n, v] #[.int .i64 x, .int .i64 y, .int .i64 z] #[.int .i64 0, .int .i64 0, .int .i64 0]
  obtain ⟨c0, c1, -⟩ := b0.open2
  obtain ⟨d0, d1, d2, -⟩ := b1.open3
  obtain ⟨e0, e1, e2, f0, f1, f2⟩ := b2.open3
  obtain ⟨p0, p1, p2, -⟩ := (put3_at b2 (.int .i64 (s * x)) (.int .i64 (s * y)) (.int .i64 (s * z))).open3
  clear hsd
  go_enter Tryz.func68, Tryz.ntmps68
  go_wp2
  exact bodyPost_ret (v := .agg #[.int .i64 (s * x), .int .i64 (s * y), .int .i64 (s * z)]) (by simp [results, Tryz.results68, go_sem, p0, p1, p2]) rfl ⟨rfl, below_put3 bW (by omega) _ _ _⟩
theorem power_any {b : Int} (hb : 0 ≤ b ∧ b < 12289) (w : World) : Calls Tryz.prog 66 #[.int .i64 b, .int .i64 12287] w fun e w' => e = .returned (.int .i64 (pwF 14 1 b 12287)) ∧ Below w.heap.size w w' := by
  obtain ⟨R, hR⟩ : ∃ R, pwF 14 1 b 12287 = R := ⟨_, rfl⟩
  rw [hR]
  have HR0 := hid_of hR
  clear hR
  go_enter Tryz.func66, Tryz.ntmps66
  go_wp2
  go_loopw [0, 1, 5] (fun u v s wr => ∃ (T : Nat) (b e o : Int), T ≤ 14 ∧ u = .int .i64 b ∧ v = .int .i64 e ∧ s = .int .i64 o ∧ (0 ≤ b ∧ b < 12289) ∧ (0 ≤ e ∧ e < 2 ^ T) ∧ (0 ≤ o ∧ o < 12289) ∧ Hid (pwF T o b e = R) ∧ w = wr) (fun _ v _ _ => (intOf v).toNat)
  case atStart => exact ⟨14, b, 12287, 1, Nat.le_refl _, rfl, rfl, rfl, hb, by omega, by omega, HR0, rfl⟩
  case round =>
    clear HR0 hb
    obtain ⟨T, b, e, o, hT, rfl, rfl, rfl, ⟨hb0, hb1⟩, ⟨he0, he1⟩, ⟨ho0, ho1⟩, HR, rfl⟩ := hrel
    by_cases h : 0 < e
    · obtain ⟨T, rfl⟩ : ∃ t, T = t + 1 := by
        cases T with
        | zero => simp at he1; omega
        | succ t => exact ⟨t, rfl⟩
      have hp : (2 : Int) ^ (T + 1) = 2 * 2 ^ T := by rw [Int.pow_succ]; omega
      rw [hp] at he1
      have he2 : e / 2 < 2 ^ T := by omega
      have hm := HR.out
      unfold pwF at hm
      rw [if_neg (by omega)] at hm
      have bb : 0 ≤ b * b ∧ b * b ≤ 12288 * 12288 := ⟨Int.mul_nonneg hb0 hb0, Int.mul_le_mul (by omega) (by omega) hb0 (by omega)⟩
      have ob : 0 ≤ o * b ∧ o * b ≤ 12288 * 12288 := ⟨Int.mul_nonneg ho0 hb0, Int.mul_le_mul (by omega) (by omega) hb0 (by omega)⟩
      have t1 : Int.tmod (b * b) 12289 = b * b % 12289 := Int.tmod_eq_emod_of_nonneg bb.1
      have t2 : Int.tmod (o * b) 12289 = o * b % 12289 := Int.tmod_eq_emod_of_nonneg ob.1
      have t3 : Int.tmod e 2 = e % 2 := Int.tmod_eq_emod_of_nonneg he0
      have t4 : Int.tdiv e 2 = e / 2 := Int.tdiv_eq_ediv_of_nonneg he0
      have w1 : IntKind.i64.wrap (b * b) = b * b := by rw [IntKind.wrap_i64]; omega
      have w2 : IntKind.i64.wrap (o * b) = o * b := by rw [IntKind.wrap_i64]; omega
      obtain ⟨B, hB⟩ : ∃ B, b * b % 12289 = B := ⟨_, rfl⟩
      obtain ⟨O, hO⟩ : ∃ B, o * b % 12289 = B := ⟨_, rfl⟩
      have hBr : 0 ≤ B ∧ B < 12289 := by omega
      have hOr : 0 ≤ O ∧ O < 12289 := by omega
      rw [hB] at t1 hm
      rw [hO] at t2 hm
      have he3 : 0 ≤ e / 2 := by omega
      have heq : (e / 2).toNat < e.toNat := by omega
      have w3 : IntKind.i64.wrap (e / 2) = e / 2 := by
        have : e < 2 * 2 ^ 13 := Int.lt_of_lt_of_le he1 (by
          have : (2 : Int) ^ T ≤ 2 ^ 13 := by
            rcases (by omega : T = 0 ∨ T = 1 ∨ T = 2 ∨ T = 3 ∨ T = 4 ∨ T = 5 ∨ T = 6 ∨ T = 7 ∨ T = 8 ∨ T = 9 ∨ T = 10 ∨ T = 11 ∨ T = 12 ∨ T = 13) with rfl | rfl | rfl | rfl | rfl | rfl | rfl | rfl | rfl | rfl | rfl | rfl | rfl | rfl <;> decide
          omega)
        rw [IntKind.wrap_i64]; omega
      by_cases hodd : e % 2 = 1
      · have ho : (e % 2 == 1) = true := by simp [hodd]
        rw [if_pos hodd] at hm
        have HM := hid_of hm
        obtain ⟨E, hE⟩ : ∃ E, e / 2 = E := ⟨_, rfl⟩
        rw [hE] at t4 he2 he3 heq w3 HM
        clear hm HR hp bb ob hB hO hodd hE
        go_wp2
        exact ⟨⟨T, B, E, O, by omega, rfl, rfl, rfl, hBr, ⟨he3, he2⟩, hOr, HM, trivial⟩, by simpa [intOf] using heq⟩
      · have ho : (e % 2 == 1) = false := by simp [hodd]
        rw [if_neg hodd] at hm
        have HM := hid_of hm
        obtain ⟨E, hE⟩ : ∃ E, e / 2 = E := ⟨_, rfl⟩
        rw [hE] at t4 he2 he3 heq w3 HM
        clear hm HR hp bb ob hB hO hodd hE
        go_wp2
        exact ⟨⟨T, B, E, o, by omega, rfl, rfl, rfl, hBr, ⟨he3, he2⟩, ⟨ho0, ho1⟩, HM, trivial⟩, by simpa [intOf] using heq⟩
    · have he : e = 0 := by omega
      subst he
      have hm : o = R := by
        have h1 := HR.out
        cases T with
        | zero => exact h1
        | succ t => unfold pwF at h1; rwa [if_pos (by omega)] at h1
      subst hm
      clear HR
      go_wp2
      go_ret
      exact ⟨rfl, Below.refl _ _⟩
theorem back_any {n : Nat} (hn : n ≤ 192) (w : World) : Calls Tryz.prog 33 #[.int .i64 (n : Int)] w fun e w' => e = .returned (.int .i64 (shN n)) ∧ Below w.heap.size w w' := by
  have h := fun w => power_any (b := (n : Int)) (by omega) w
  go_enter Tryz.func33, Tryz.ntmps33
  go_wp2_with fail
  refine (h _).mono ?_
  rintro e w2 ⟨rfl, b2⟩
  go_wp2
  go_ret
  exact ⟨rfl, b2⟩
end Go.Proofs.YtiocneailhplkaaGreat
