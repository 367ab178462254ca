/-
  Places of maps: where an atom lies, by the program and by the specification, walked; new maps.
-/
import Derived.Test.YtmpakpdbkojkaaaPa
import Derived.Test.YtmpakpdbkojkaaaCd
import Derived.Test.YtmpakpdbkojkaaaEb
import Derived.BigRegion
namespace Go.Proofs.Ytmpakpdbkojkaaa
open Go.RowKit

theorem put3_at {t : TypeId} {w : World} {q : Nat} {u0 u1 u2 : Value} (h : At t w q #[u0, u1, u2]) (v0 v1 v2 : Value) : At t (((w.setCell ⟨q, 0, none⟩ v0).setCell ⟨q, 1, none⟩ v1).setCell ⟨q, 2, none⟩ v2) q #[v0, v1, v2] := by
  have := ((h.set 0 v0).set 1 v1).set 2 v2
  simpa using this
theorem below_put3 {N q : Nat} {w w2 : World} (h : Below N w w2) (hq : N ≤ q) (v0 v1 v2 : Value) : Below N w (((w2.setCell ⟨q, 0, none⟩ v0).setCell ⟨q, 1, none⟩ v1).setCell ⟨q, 2, none⟩ v2) := ((h.setCell hq v0).setCell hq v1).setCell hq v2
/-- How many numbers a map has. -/
def cube (n : Int) : Nat := (n * n * n).toNat
theorem cube_is {n : Int} (h : side n) : (cube n : Int) = n * n * n ∧ 1 ≤ cube n ∧ cube n ≤ 1728 := by
  rcases h with rfl | rfl | rfl | rfl | rfl | rfl <;> decide
theorem make_zeros (M : Nat) (hM : M ≤ 1048576) : ∃ C : Array Value, C.size = M ∧ (∀ i, i < M → C[i]? = some (.int .i64 0)) ∧ ∀ w, (Instr.makeSlice 22 (.int .i64 (M : Int)) (.int .i64 (M : Int))).run Try.prog w = .ok (.slice (some ⟨w.heap.size, 0, none⟩) M M) (w.alloc (.cells C 2)) := by
  obtain ⟨i0, hi0, hz0, hz1, hz2⟩ := info_parts infoI
  refine ⟨madeCells (Value.int .i64 0).cells M, by simp [madeCells], fun i hi => ?_, fun w => ?_⟩
  · simp [madeCells, Value.cells, hi, Nat.mod_one]
  have := run_make (P := Try.prog) w 22 2 i0 _ Try.underlying22 hi0 hz0 .i64 .i64 (M : Int) (M : Int) (by omega) (by omega) (by rw [hz2]; omega) (by omega)
  rw [this, hz1]
  simp
theorem point_any (x y z f : Int) (w : World) (hx : 0 ≤ x ∧ x ≤ 11) (hy : 0 ≤ y ∧ y ≤ 11) (hz : 0 ≤ z ∧ z ≤ 11) : Calls Try.prog 51 #[cV x y z f] w fun e w' => e = .returned (.agg #[.int .i64 (2 * x), .int .i64 (2 * y), .int .i64 (2 * z)]) ∧ Below w.heap.size w w' := by
  obtain ⟨W, hW, b0, b1, bW, -⟩ := boxed2 w 81 28 #[.int .i64 x, .int .i64 y, .int .i64 z, .int .i64 f] #[.int .i64 0, .int .i64 0, .int .i64 0]
  obtain ⟨c0, c1, c2, c3, -⟩ := b0.open4
  obtain ⟨d0, d1, d2, f0, f1, f2⟩ := b1.open3
  go_enter Try.func51, Try.ntmps51
  go_wp2
  obtain ⟨p0, p1, p2, -⟩ := (put3_at b1 (.int .i64 (2 * x)) (.int .i64 (2 * y)) (.int .i64 (2 * z))).open3
  exact bodyPost_ret (v := .agg #[.int .i64 (2 * x), .int .i64 (2 * y), .int .i64 (2 * z)]) (by simp [results, Try.results51, go_sem, p0, p1, p2]) rfl ⟨rfl, below_put3 bW (by omega) _ _ _⟩
theorem place_by {n px py pz : Int} (hn : side n) (hx : 0 ≤ px ∧ px < n) (hy : 0 ≤ py ∧ py < n) (hz : 0 ≤ pz ∧ pz < n) : (0 ≤ pz * n ∧ pz * n ≤ 132) ∧ (0 ≤ (pz * n + py) * n ∧ (pz * n + py) * n ≤ 1716) ∧ (0 ≤ (pz * n + py) * n + px ∧ (pz * n + py) * n + px < n * n * n) := by
  rcases hn with rfl | rfl | rfl | rfl | rfl | rfl <;> omega
theorem number_any (n px py pz : Int) (v : Value) (w : World) (hn : side n) (hx : 0 ≤ px ∧ px < n) (hy : 0 ≤ py ∧ py < n) (hz : 0 ≤ pz ∧ pz < n) : Calls Try.prog 52 #[mV n v, .agg #[.int .i64 px, .int .i64 py, .int .i64 pz]] w fun e w' => e = .returned (.int .i64 ((pz * n + py) * n + px)) ∧ Below w.heap.size w w' := by
  obtain ⟨q0, q1, q2⟩ := side_by hn
  obtain ⟨k1, k2, k3⟩ := place_by hn hx hy hz
  obtain ⟨W, hW, b0, b1, bW, -⟩ := boxed2 w 41 66 #[.int .i64 n, v] #[.int .i64 px, .int .i64 py, .int .i64 pz]
  obtain ⟨c0, c1, -⟩ := b0.open2
  obtain ⟨d0, d1, d2, -⟩ := b1.open3
  go_enter Try.func52, Try.ntmps52
  go_wp2
  go_ret
  exact ⟨rfl, bW⟩
/-- Does a number of twelfths lie on a place? -/
def fit (n x : Int) : Prop := x * n % 12 = 0
instance (n x : Int) : Decidable (fit n x) := by unfold fit; infer_instance
theorem step_is {n : Int} (hn : side n) : 2 ≤ Int.tdiv 24 n ∧ Int.tdiv 24 n ≤ 24 := by
  rcases hn with rfl | rfl | rfl | rfl | rfl | rfl <;> decide
theorem fit_iff {n x : Int} (hn : side n) (hx : 0 ≤ x ∧ x ≤ 11) : (fit n x ↔ 2 * x % Int.tdiv 24 n = 0) ∧ (fit n x → 2 * x / Int.tdiv 24 n = x * n / 12) ∧ (0 ≤ x * n / 12 ∧ x * n / 12 < n) ∧ (0 ≤ x * n ∧ x * n ≤ 132) := by
  unfold fit
  rcases hn with rfl | rfl | rfl | rfl | rfl | rfl
  · rw [show Int.tdiv 24 1 = 24 from rfl]; omega
  · rw [show Int.tdiv 24 2 = 12 from rfl]; omega
  · rw [show Int.tdiv 24 3 = 8 from rfl]; omega
  · rw [show Int.tdiv 24 4 = 6 from rfl]; omega
  · rw [show Int.tdiv 24 6 = 4 from rfl]; omega
  · rw [show Int.tdiv 24 12 = 2 from rfl]; omega
section
variable (n x y z : Int) (v : Value) (w : World) (hn : side n) (hx : 0 ≤ x ∧ x ≤ 11) (hy : 0 ≤ y ∧ y ≤ 11) (hz : 0 ≤ z ∧ z ≤ 11)
include hn hx hy hz
theorem placeAt_no (hno : ¬ (fit n x ∧ fit n y ∧ fit n z)) : Calls Try.prog 50 #[mV n v, .agg #[.int .i64 (2 * x), .int .i64 (2 * y), .int .i64 (2 * z)]] w fun e w' => e = .returned (.tuple #[.agg #[.int .i64 0, .int .i64 0, .int .i64 0], .bool false]) ∧ Below w.heap.size w w' := by
  obtain ⟨q0, -⟩ := side_by hn
  have fx := (fit_iff hn hx).1
  have fy := (fit_iff hn hy).1
  have fz := (fit_iff hn hz).1
  have hs := step_is hn
  obtain ⟨s, es⟩ : ∃ s, Int.tdiv 24 n = s := ⟨_, rfl⟩
  rw [es] at fx fy fz hs
  have hn0 : ¬ n = 0 := by omega
  have hs0 : ¬ s = 0 := by omega
  obtain ⟨W, hW, b0, b1, b2, bW, -⟩ := boxed3 w 41 28 66 #[.int .i64 n, v] #[.int .i64 (2 * x), .int .i64 (2 * y), .int .i64 (2 * z)] #[.int .i64 0, .int .i64 0, .int .i64 0]
  obtain ⟨c0, c1, -⟩ := b0.open2
  obtain ⟨d0, d1, d2, -⟩ := b1.open3
  obtain ⟨e0, e1, e2, f0, f1, f2⟩ := b2.open3
  obtain ⟨p0, p1, p2, -⟩ := (put3_at b2 (.int .i64 0) (.int .i64 0) (.int .i64 0)).open3
  by_cases h1 : 2 * x % s = 0
  · have g1 : (2 * x % s != 0) = false := by simp [h1]
    by_cases h2 : 2 * y % s = 0
    · have g2 : (2 * y % s != 0) = false := by simp [h2]
      have h3 : ¬ 2 * z % s = 0 := fun h => hno ⟨fx.2 h1, fy.2 h2, fz.2 h⟩
      have g3 : (2 * z % s != 0) = true := by simp [h3]
      clear h1 h2 h3 fx fy fz hno
      go_enter Try.func50, Try.ntmps50
      go_wp2
      exact bodyPost_ret (v := .tuple #[.agg #[.int .i64 0, .int .i64 0, .int .i64 0], .bool false]) (by simp [results, Try.results50, go_sem, p0, p1, p2]) rfl ⟨rfl, below_put3 bW (by omega) _ _ _⟩
    · have g2 : (2 * y % s != 0) = true := by simp [h2]
      clear h1 h2 fx fy fz hno
      go_enter Try.func50, Try.ntmps50
      go_wp2
      exact bodyPost_ret (v := .tuple #[.agg #[.int .i64 0, .int .i64 0, .int .i64 0], .bool false]) (by simp [results, Try.results50, go_sem, p0, p1, p2]) rfl ⟨rfl, below_put3 bW (by omega) _ _ _⟩
  · have g1 : (2 * x % s != 0) = true := by simp [h1]
    clear h1 fx fy fz hno
    go_enter Try.func50, Try.ntmps50
    go_wp2
    exact bodyPost_ret (v := .tuple #[.agg #[.int .i64 0, .int .i64 0, .int .i64 0], .bool false]) (by simp [results, Try.results50, go_sem, p0, p1, p2]) rfl ⟨rfl, below_put3 bW (by omega) _ _ _⟩
theorem placeAt_yes (h1 : fit n x) (h2 : fit n y) (h3 : fit n z) : Calls Try.prog 50 #[mV n v, .agg #[.int .i64 (2 * x), .int .i64 (2 * y), .int .i64 (2 * z)]] w fun e w' => e = .returned (.tuple #[.agg #[.int .i64 (x * n / 12), .int .i64 (y * n / 12), .int .i64 (z * n / 12)], .bool true]) ∧ Below w.heap.size w w' := by
  obtain ⟨q0, -⟩ := side_by hn
  have fx := (fit_iff hn hx).1.1 h1
  have fy := (fit_iff hn hy).1.1 h2
  have fz := (fit_iff hn hz).1.1 h3
  have dx := (fit_iff hn hx).2.1 h1
  have dy := (fit_iff hn hy).2.1 h2
  have dz := (fit_iff hn hz).2.1 h3
  have hs := step_is hn
  obtain ⟨s, es⟩ : ∃ s, Int.tdiv 24 n = s := ⟨_, rfl⟩
  rw [es] at fx fy fz dx dy dz hs
  have rx := (fit_iff hn hx).2.2.1
  have ry := (fit_iff hn hy).2.2.1
  have rz := (fit_iff hn hz).2.2.1
  generalize x * n / 12 = X at dx rx ⊢
  generalize y * n / 12 = Y at dy ry ⊢
  generalize z * n / 12 = Z at dz rz ⊢
  have hn0 : ¬ n = 0 := by omega
  have hs0 : ¬ s = 0 := by omega
  have hs1 : (s == 0) = false := by simp; omega
  have g1 : (2 * x % s != 0) = false := by simp [fx]
  have g2 : (2 * y % s != 0) = false := by simp [fy]
  have g3 : (2 * z % s != 0) = false := by simp [fz]
  have tx : (2 * x).tdiv s = X := by rw [Int.tdiv_eq_ediv_of_nonneg (by omega)]; exact dx
  have ty : (2 * y).tdiv s = Y := by rw [Int.tdiv_eq_ediv_of_nonneg (by omega)]; exact dy
  have tz : (2 * z).tdiv s = Z := by rw [Int.tdiv_eq_ediv_of_nonneg (by omega)]; exact dz
  have wx : IntKind.i64.wrap X = X := by rw [IntKind.wrap_i64]; omega
  have wy : IntKind.i64.wrap Y = Y := by rw [IntKind.wrap_i64]; omega
  have wz : IntKind.i64.wrap Z = Z := by rw [IntKind.wrap_i64]; omega
  obtain ⟨W, hW, b0, b1, b2, bW, -⟩ := boxed3 w 41 28 66 #[.int .i64 n, v] #[.int .i64 (2 * x), .int .i64 (2 * y), .int .i64 (2 * z)] #[.int .i64 0, .int .i64 0, .int .i64 0]
  obtain ⟨c0, c1, -⟩ := b0.open2
  obtain ⟨d0, d1, d2, -⟩ := b1.open3
  obtain ⟨e0, e1, e2, f0, f1, f2⟩ := b2.open3
  clear fx fy fz h1 h2 h3
  go_enter Try.func50, Try.ntmps50
  go_wp2_with fail
  go_region
  go_wp2
  obtain ⟨p0, p1, p2, -⟩ := ((put3_at b2 (.int .i64 X) (.int .i64 Y) (.int .i64 Z)).below (Below.refl _ _).drew).open3
  exact bodyPost_ret (v := .tuple #[.agg #[.int .i64 X, .int .i64 Y, .int .i64 Z], .bool true]) (by simp [results, Try.results50, go_sem, p0, p1, p2]) rfl ⟨rfl, (below_put3 bW (by omega) _ _ _).drew⟩
end
theorem new_map (n : Int) (hn : side n) (w : World) : Calls Try.prog 45 #[.int .i64 n] w fun e w' => ∃ g, e = .returned (mV n (.slice (some ⟨g, 0, none⟩) (cube n) (cube n))) ∧ w.heap.size ≤ g ∧ Made w' g (cube n) (cube n) (fun _ => 0) ∧ Below w.heap.size w w' := by
  obtain ⟨c1, c2, c3⟩ := cube_is hn
  obtain ⟨q0, q1, q2⟩ := side_by hn
  obtain ⟨C, hC, hz, hmk⟩ := make_zeros (cube n) (by omega)
  rw [c1] at hmk
  have HZ : Hid (∀ i, i < cube n → C[i]? = some (.int .i64 0)) := hz
  clear hz c1
  obtain ⟨W, hW, b0, bW, -⟩ := boxed w 41 #[.int .i64 0, .slice none 0 0]
  obtain ⟨d0, d1, f0, f1⟩ := b0.open2
  have l0 := b0.lt
  obtain ⟨L, hL⟩ : ∃ L, cube n = L := ⟨_, rfl⟩
  rw [hL] at hC c2 c3 HZ hmk ⊢
  clear hL hn
  go_enter Try.func45, Try.ntmps45
  go_wp2
  obtain ⟨W2, hW2⟩ : ∃ W2, (W.setCell ⟨w.heap.size, 0, none⟩ (.int .i64 n)).setCell ⟨w.heap.size, 1, none⟩ (.slice (some ⟨W.heap.size, 0, none⟩) L L) = W2 := ⟨_, rfl⟩
  have hs2 : W2.heap.size = W.heap.size := by rw [← hW2]; simp [World.setCell]
  have b2 : At 41 W2 w.heap.size #[.int .i64 n, .slice (some ⟨W.heap.size, 0, none⟩) L L] := hW2 ▸ (by simpa using (b0.set 0 (.int .i64 n)).set 1 (.slice (some ⟨W.heap.size, 0, none⟩) L L))
  have B2 : Below w.heap.size w W2 := hW2 ▸ (bW.setCell (Nat.le_refl _) _).setCell (Nat.le_refl _) _
  have hm := at_new 2 W2 C
  rw [hs2] at hm
  rw [hW2]
  obtain ⟨p0, p1, -⟩ := (b2.below (below_alloc W2 (.cells C 2))).open2
  exact bodyPost_ret (v := mV n (.slice (some ⟨W.heap.size, 0, none⟩) L L)) (by simp [results, Try.results45, go_sem, p0, p1]) rfl ⟨_, rfl, bW.size, ⟨C, hm, hC, HZ.out⟩, B2.alloc B2.size _⟩
theorem blank_map (n : Int) (hn : side n) (w : World) : Calls Try.prog 49 #[.int .i64 n] w fun e w' => ∃ g, e = .returned (mV n (.slice (some ⟨g, 0, none⟩) (cube n) (cube n))) ∧ w.heap.size ≤ g ∧ Made w' g (cube n) (cube n) (fun _ => 0) ∧ Below w.heap.size w w' := by
  obtain ⟨c1, c2, c3⟩ := cube_is hn
  obtain ⟨q0, q1, q2⟩ := side_by hn
  obtain ⟨C, hC, hz, hmk⟩ := make_zeros (cube n) (by omega)
  rw [c1] at hmk
  have HZ : Hid (∀ i, i < cube n → C[i]? = some (.int .i64 0)) := hz
  clear hz c1
  obtain ⟨W, hW, b0, bW, -⟩ := boxed w 41 #[.int .i64 0, .slice none 0 0]
  obtain ⟨d0, d1, f0, f1⟩ := b0.open2
  have l0 := b0.lt
  obtain ⟨L, hL⟩ : ∃ L, cube n = L := ⟨_, rfl⟩
  rw [hL] at hC c2 c3 HZ hmk ⊢
  clear hL hn
  go_enter Try.func49, Try.ntmps49
  go_wp2
  obtain ⟨W2, hW2⟩ : ∃ W2, (W.setCell ⟨w.heap.size, 0, none⟩ (.int .i64 n)).setCell ⟨w.heap.size, 1, none⟩ (.slice (some ⟨W.heap.size, 0, none⟩) L L) = W2 := ⟨_, rfl⟩
  have hs2 : W2.heap.size = W.heap.size := by rw [← hW2]; simp [World.setCell]
  have b2 : At 41 W2 w.heap.size #[.int .i64 n, .slice (some ⟨W.heap.size, 0, none⟩) L L] := hW2 ▸ (by simpa using (b0.set 0 (.int .i64 n)).set 1 (.slice (some ⟨W.heap.size, 0, none⟩) L L))
  have B2 : Below w.heap.size w W2 := hW2 ▸ (bW.setCell (Nat.le_refl _) _).setCell (Nat.le_refl _) _
  have hm := at_new 2 W2 C
  rw [hs2] at hm
  rw [hW2]
  obtain ⟨p0, p1, -⟩ := (b2.below (below_alloc W2 (.cells C 2))).open2
  exact bodyPost_ret (v := mV n (.slice (some ⟨W.heap.size, 0, none⟩) L L)) (by simp [results, Try.results49, go_sem, p0, p1]) rfl ⟨_, rfl, bW.size, ⟨C, hm, hC, HZ.out⟩, B2.alloc B2.size _⟩
end Go.Proofs.Ytmpakpdbkojkaaa
