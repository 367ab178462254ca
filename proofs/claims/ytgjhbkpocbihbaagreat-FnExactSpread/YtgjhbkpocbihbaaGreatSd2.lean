/-
  Atoms: which are right, their points, and whether a group keeps the twelfths; by the program and by the specification. Walked.
-/
import Derived.Test.YtgjhbkpocbihbaaGreatMN
import Derived.Test.YtgjhbkpocbihbaaGreatNE
namespace Go.Proofs.YtgjhbkpocbihbaaGreat
open Go.RowKit

theorem At.openA4 {t : TypeId} {w : World} {q : Nat} {v0 v1 v2 v3 : Value} (h : At t w q #[v0, v1, v2, v3]) : w.cell? ⟨q, 0, none⟩ = some v0 ∧ w.cell? ⟨q, 1, none⟩ = some v1 ∧ w.cell? ⟨q, 2, none⟩ = some v2 ∧ w.cell? ⟨q, 3, none⟩ = some v3 ∧ w.frozen? ⟨q, 0, none⟩ = false ∧ w.frozen? ⟨q, 1, none⟩ = false ∧ w.frozen? ⟨q, 2, none⟩ = false ∧ w.frozen? ⟨q, 3, none⟩ = false :=
  ⟨h.cell 0 rfl, h.cell 1 rfl, h.cell 2 rfl, h.cell 3 rfl, h.frozen 0, h.frozen 1, h.frozen 2, h.frozen 3⟩
/-- An atom as a value. -/
abbrev cV (a b c d : Int) : Value := .agg #[.int .i64 a, .int .i64 b, .int .i64 c, .int .i64 d]
/-- A list of atoms that is read. -/
def Quads (w : World) (g n : Nat) (f : Nat → Int) : Prop := g < w.heap.size ∧ ∀ i, i < n * 4 → w.cell? ⟨g, i, none⟩ = some (.int .i64 (f i))
theorem Quads.below {w w' : World} {g n : Nat} {f : Nat → Int} (h : Quads w g n f) (hb : Below w.heap.size w w') : Quads w' g n f :=
  ⟨Nat.lt_of_lt_of_le h.1 hb.size, fun i hi => (hb.cell (p := ⟨g, i, none⟩) h.1).trans (h.2 i hi)⟩
theorem Quads.open {w : World} {g n : Nat} {f : Nat → Int} (h : Quads w g n f) (k : Nat) (hk : k < n) : w.cell? ⟨g, k * 4, none⟩ = some (.int .i64 (f (k * 4))) ∧ w.cell? ⟨g, k * 4 + 1, none⟩ = some (.int .i64 (f (k * 4 + 1))) ∧ w.cell? ⟨g, k * 4 + 2, none⟩ = some (.int .i64 (f (k * 4 + 2))) ∧ w.cell? ⟨g, k * 4 + 3, none⟩ = some (.int .i64 (f (k * 4 + 3))) :=
  ⟨h.2 _ (by omega), h.2 _ (by omega), h.2 _ (by omega), h.2 _ (by omega)⟩
theorem inA_any (x lo hi : Int) (w : World) : Calls Tryz.prog 72 #[.int .i64 x, .int .i64 lo, .int .i64 hi] w fun e w' => e = .returned (.bool (decide (lo ≤ x ∧ x ≤ hi))) ∧ w = w' := by
  by_cases h1 : lo ≤ x <;> by_cases h2 : x ≤ hi
  all_goals
    go_enter Tryz.func72, Tryz.ntmps72
    go_wp2
    go_ret
    exact ⟨by simp [h1, h2], rfl⟩
theorem withinA_any (x hi : Int) (w : World) (h0 : 0 ≤ hi) (h : hi ≤ 1000000000000) : Calls Tryz.prog 95 #[.int .i64 x, .int .i64 hi] w fun e w' => e = .returned (.bool (decide (-hi ≤ x ∧ x ≤ hi))) ∧ w = w' := by
  by_cases h1 : -hi ≤ x <;> by_cases h2 : x ≤ hi
  all_goals
    go_enter Tryz.func95, Tryz.ntmps95
    go_wp2
    go_ret
    exact ⟨by simp [h1, h2], rfl⟩
/-- Which atoms are right. -/
def aOk (x y z f : Int) : Bool := decide (0 ≤ x ∧ x ≤ 11) && (decide (0 ≤ y ∧ y ≤ 11) && (decide (0 ≤ z ∧ z ≤ 11) && decide (-1000 ≤ f ∧ f ≤ 1000)))
theorem rightA_any (x y z f : Int) (w : World) : Calls Tryz.prog 74 #[cV x y z f] w fun e w' => e = .returned (.bool (aOk x y z f)) ∧ Below w.heap.size w w' := by
  obtain ⟨W, hW, b0, bW, -⟩ := boxed w 81 #[.int .i64 x, .int .i64 y, .int .i64 z, .int .i64 f]
  obtain ⟨c0, c1, c2, c3, -⟩ := b0.openA4
  go_enter Tryz.func74, Tryz.ntmps74
  go_wp2_with (go_at_call 95; refine (withinA_any _ _ _ (by decide) (by decide)).mono ?_; rintro e w3 ⟨rfl, rfl⟩)
  all_goals
    go_ret
    first
      | exact ⟨congrArg (fun b => Ending.returned (Value.bool b)) (show (decide (-1000 ≤ f) && decide (f ≤ 1000)) = aOk x y z f from by rw [Bool.eq_iff_iff]; simp [aOk]; omega), bW⟩
      | exact ⟨congrArg (fun b => Ending.returned (Value.bool b)) (show false = aOk x y z f from by rw [Bool.eq_iff_iff]; simp [aOk]; omega), bW⟩
/-- What a structure is: few atoms, all right. -/
def AOk (n : Nat) (f : Nat → Int) : Prop := n ≤ 200 ∧ ∀ i, i < n → aOk (f (i * 4)) (f (i * 4 + 1)) (f (i * 4 + 2)) (f (i * 4 + 3)) = true
theorem aOk_in {x y z f : Int} (h : aOk x y z f = true) : (0 ≤ x ∧ x ≤ 11) ∧ (0 ≤ y ∧ y ≤ 11) ∧ (0 ≤ z ∧ z ≤ 11) ∧ (-1000 ≤ f ∧ f ≤ 1000) := by
  simpa [aOk] using h
theorem not_all {n k : Nat} {f : Nat → Int} (hk : k < n) (h : aOk (f (k * 4)) (f (k * 4 + 1)) (f (k * 4 + 2)) (f (k * 4 + 3)) = false) {b : Bool} (hb : b = true ↔ AOk n f) : b = false := by
  rw [Bool.eq_false_iff]
  intro e
  have := (hb.1 e).2 k hk
  rw [h] at this
  cases this
theorem too_many {n : Nat} {f : Nat → Int} (hm : 200 < n) {b : Bool} (hb : b = true ↔ AOk n f) : b = false := by
  rw [Bool.eq_false_iff]
  intro e
  have := (hb.1 e).1
  omega
theorem implAtoms_any {w : World} {g n c : Nat} {f : Nat → Int} (h : Quads w g n f) (hn : n ≤ 1048576) (b : Bool) (hb : b = true ↔ AOk n f) :
    Calls Tryz.prog 49 #[.slice (some ⟨g, 0, none⟩) n c] w fun e w' => e = .returned (.bool b) ∧ Below w.heap.size w w' := by
  by_cases hm : 200 < n
  · have hm' : (200 : Int) < (n : Int) := by omega
    obtain rfl := too_many hm hb
    go_enter Tryz.func49, Tryz.ntmps49
    go_wp2
    go_ret
    exact ⟨rfl, Below.refl _ _⟩
  · have hm' : ¬ (200 : Int) < (n : Int) := by omega
    go_enter Tryz.func49, Tryz.ntmps49
    go_wp2
    go_loopw [10] (fun s wr => ∃ k : Nat, k ≤ n ∧ s = .int .i64 k ∧ Hid (∀ i, i < k → aOk (f (i * 4)) (f (i * 4 + 1)) (f (i * 4 + 2)) (f (i * 4 + 3)) = true) ∧ Below w.heap.size w wr) (fun s _ => n - (intOf s).toNat)
    case atStart => exact ⟨0, Nat.zero_le _, rfl, fun i hi => by omega, Below.refl _ _⟩
    case round =>
      obtain ⟨k, hk, rfl, hok, B⟩ := hrel
      by_cases hlt : k < n
      · have hlt' : (k : Int) < (n : Int) := by omega
        have hq := (h.below B).1
        obtain ⟨c0, c1, c2, c3⟩ := (h.below B).open k hlt
        cases ho : aOk (f (k * 4)) (f (k * 4 + 1)) (f (k * 4 + 2)) (f (k * 4 + 3))
        · obtain rfl := not_all hlt ho hb
          clear hok hb
          go_wp2_with (go_at_call 74; refine (rightA_any _ _ _ _ _).mono ?_; rintro e w3 ⟨rfl, b3⟩; rw [ho])
          go_ret
          exact ⟨rfl, B.trans (((below_alloc _ _).trans (b3.mono (by simp))).mono B.size)⟩
        · have HO : Hid (∀ i, i < k + 1 → aOk (f (i * 4)) (f (i * 4 + 1)) (f (i * 4 + 2)) (f (i * 4 + 3)) = true) := fun i hi => by
            by_cases e : i = k
            · rw [e]; exact ho
            · exact hok.out i (by omega)
          clear hok hb
          go_wp2_with (go_at_call 74; refine (rightA_any _ _ _ _ _).mono ?_; rintro e w3 ⟨rfl, b3⟩; rw [ho])
          exact ⟨⟨k + 1, by omega, by go_num, HO, B.trans (((below_alloc _ _).trans (b3.mono (by simp))).mono B.size)⟩, by simp [intOf]; omega⟩
      · have hlt' : ¬ (k : Int) < (n : Int) := by omega
        obtain rfl : k = n := by omega
        obtain rfl : b = true := hb.2 ⟨by omega, hok.out⟩
        go_wp2
        go_ret
        exact ⟨rfl, B⟩
theorem specAtoms_any {w : World} {g n c : Nat} {f : Nat → Int} (h : Quads w g n f) (hn : n ≤ 1048576) (b : Bool) (hb : b = true ↔ AOk n f) :
    Calls Tryz.prog 45 #[.slice (some ⟨g, 0, none⟩) n c] w fun e w' => e = .returned (.bool b) ∧ Below w.heap.size w w' := by
  by_cases hm : 200 < n
  · have hm' : (200 : Int) < (n : Int) := by omega
    obtain rfl := too_many hm hb
    go_enter Tryz.func45, Tryz.ntmps45
    go_wp2
    go_ret
    exact ⟨rfl, Below.refl _ _⟩
  · have hm' : ¬ (200 : Int) < (n : Int) := by omega
    go_enter Tryz.func45, Tryz.ntmps45
    go_wp2
    go_loopw [3] (fun s wr => ∃ k : Nat, k ≤ n ∧ s = .int .i64 k ∧ Hid (∀ i, i < k → aOk (f (i * 4)) (f (i * 4 + 1)) (f (i * 4 + 2)) (f (i * 4 + 3)) = true) ∧ Below w.heap.size w wr) (fun s _ => n - (intOf s).toNat)
    case atStart => exact ⟨0, Nat.zero_le _, rfl, fun i hi => by omega, Below.refl _ _⟩
    case round =>
      obtain ⟨k, hk, rfl, hok, B⟩ := hrel
      by_cases hlt : k < n
      · have hlt' : (k : Int) < (n : Int) := by omega
        have hq := (h.below B).1
        obtain ⟨c0, c1, c2, c3⟩ := (h.below B).open k hlt
        by_cases i0 : 0 ≤ f (k * 4) ∧ f (k * 4) ≤ 11
        · by_cases i1 : 0 ≤ f (k * 4 + 1) ∧ f (k * 4 + 1) ≤ 11
          · by_cases i2 : 0 ≤ f (k * 4 + 2) ∧ f (k * 4 + 2) ≤ 11
            · by_cases i3 : -1000 ≤ f (k * 4 + 3) ∧ f (k * 4 + 3) ≤ 1000
              · have ho : aOk (f (k * 4)) (f (k * 4 + 1)) (f (k * 4 + 2)) (f (k * 4 + 3)) = true := by simp [aOk, i0, i1, i2, i3]
                have HO : Hid (∀ i, i < k + 1 → aOk (f (i * 4)) (f (i * 4 + 1)) (f (i * 4 + 2)) (f (i * 4 + 3)) = true) := fun i hi => by
                  by_cases e : i = k
                  · rw [e]; exact ho
                  · exact hok.out i (by omega)
                clear hok hb ho
                go_wp2_with (go_at_call 72; refine (inA_any _ _ _ _).mono ?_; rintro e w3 ⟨rfl, rfl⟩)
                exact ⟨⟨k + 1, by omega, by go_num, HO, B.trans ((below_alloc _ _).mono B.size)⟩, by simp [intOf]; omega⟩
              · obtain rfl := not_all hlt (show aOk (f (k * 4)) (f (k * 4 + 1)) (f (k * 4 + 2)) (f (k * 4 + 3)) = false by simp [aOk, i3]) hb
                clear hok hb
                go_wp2_with (go_at_call 72; refine (inA_any _ _ _ _).mono ?_; rintro e w3 ⟨rfl, rfl⟩)
                go_ret
                exact ⟨rfl, B.trans ((below_alloc _ _).mono B.size)⟩
            · obtain rfl := not_all hlt (show aOk (f (k * 4)) (f (k * 4 + 1)) (f (k * 4 + 2)) (f (k * 4 + 3)) = false by simp [aOk, i2]) hb
              clear hok hb
              go_wp2_with (go_at_call 72; refine (inA_any _ _ _ _).mono ?_; rintro e w3 ⟨rfl, rfl⟩)
              go_ret
              exact ⟨rfl, B.trans ((below_alloc _ _).mono B.size)⟩
          · obtain rfl := not_all hlt (show aOk (f (k * 4)) (f (k * 4 + 1)) (f (k * 4 + 2)) (f (k * 4 + 3)) = false by simp [aOk, i1]) hb
            clear hok hb
            go_wp2_with (go_at_call 72; refine (inA_any _ _ _ _).mono ?_; rintro e w3 ⟨rfl, rfl⟩)
            go_ret
            exact ⟨rfl, B.trans ((below_alloc _ _).mono B.size)⟩
        · obtain rfl := not_all hlt (show aOk (f (k * 4)) (f (k * 4 + 1)) (f (k * 4 + 2)) (f (k * 4 + 3)) = false by simp [aOk, i0]) hb
          clear hok hb
          go_wp2_with (go_at_call 72; refine (inA_any _ _ _ _).mono ?_; rintro e w3 ⟨rfl, rfl⟩)
          go_ret
          exact ⟨rfl, B.trans ((below_alloc _ _).mono B.size)⟩
      · have hlt' : ¬ (k : Int) < (n : Int) := by omega
        obtain rfl : k = n := by omega
        obtain rfl : b = true := hb.2 ⟨by omega, hok.out⟩
        go_wp2
        go_ret
        exact ⟨rfl, B⟩
/-- The point of an atom. -/
theorem point_any (x y z f : Int) (w : World) (hx : 0 ≤ x ∧ x ≤ 11) (hy : 0 ≤ y ∧ y ≤ 11) (hz : 0 ≤ z ∧ z ≤ 11) : Calls Tryz.prog 52 #[cV x y z f] w fun e w' => e = .returned (pV (2 * x) (2 * y) (2 * z)) ∧ Below w.heap.size w w' := by
  obtain ⟨W, hW, b0, bW, -⟩ := boxed w 81 #[.int .i64 x, .int .i64 y, .int .i64 z, .int .i64 f]
  obtain ⟨V, hV, b1, bV, -⟩ := boxed W 64 #[.int .i64 0, .int .i64 0, .int .i64 0]
  replace b0 := b0.below bV
  obtain ⟨c0, c1, c2, c3, -⟩ := b0.openA4
  obtain ⟨d0, d1, d2, g0, g1, g2⟩ := b1.open3
  have B := bW.trans (bV.mono bW.size)
  have w0 : IntKind.i64.wrap (2 * x) = 2 * x := IntWalk.i64_in _ (by omega)
  have w1 : IntKind.i64.wrap (2 * y) = 2 * y := IntWalk.i64_in _ (by omega)
  have w2 : IntKind.i64.wrap (2 * z) = 2 * z := IntWalk.i64_in _ (by omega)
  go_enter Tryz.func52, Tryz.ntmps52
  go_wp2
  have a7 : At 64 (((V.setCell ⟨W.heap.size, 0, none⟩ (.int .i64 (2 * x))).setCell ⟨W.heap.size, 1, none⟩ (.int .i64 (2 * y))).setCell ⟨W.heap.size, 2, none⟩ (.int .i64 (2 * z))) W.heap.size #[.int .i64 (2 * x), .int .i64 (2 * y), .int .i64 (2 * z)] := ((b1.set 0 _).set 1 _).set 2 _
  obtain ⟨p0, p1, p2, -⟩ := a7.open3
  exact bodyPost_ret (v := pV (2 * x) (2 * y) (2 * z)) (by simp [results, Tryz.results52, go_sem, p0, p1, p2, pV]) rfl ⟨rfl, ((B.setCell bW.size _).setCell bW.size _).setCell bW.size _⟩
/-- The atom at a point. -/
theorem atomAt_any (x y z f : Int) (w : World) (hp : inP x y z) : Calls Tryz.prog 53 #[pV x y z, .int .i64 f] w fun e w' => e = .returned (cV (x.tdiv 2) (y.tdiv 2) (z.tdiv 2) f) ∧ Below w.heap.size w w' := by
  obtain ⟨W, hW, b0, bW, -⟩ := boxed w 64 #[.int .i64 x, .int .i64 y, .int .i64 z]
  obtain ⟨V, hV, b1, bV, -⟩ := boxed W 81 #[.int .i64 0, .int .i64 0, .int .i64 0, .int .i64 0]
  replace b0 := b0.below bV
  obtain ⟨c0, c1, c2, -⟩ := b0.open3
  obtain ⟨d0, d1, d2, d3, g0, g1, g2, g3⟩ := b1.openA4
  have B := bW.trans (bV.mono bW.size)
  have hv : ∀ u : Int, 0 ≤ u ∧ u ≤ 23 → wrap64 (u.tdiv 2) = u.tdiv 2 := fun u hu => IntWalk.wrap64_in _ (by rw [Int.tdiv_eq_ediv_of_nonneg hu.1]; omega)
  have v0 : wrap64 (x.tdiv 2) = x.tdiv 2 := hv x hp.1
  have v1 : wrap64 (y.tdiv 2) = y.tdiv 2 := hv y hp.2.1
  have v2 : wrap64 (z.tdiv 2) = z.tdiv 2 := hv z hp.2.2
  clear hv
  unfold pV
  go_enter Tryz.func53, Tryz.ntmps53
  go_wp2
  have a7 : At 81 ((((V.setCell ⟨W.heap.size, 0, none⟩ (.int .i64 (x.tdiv 2))).setCell ⟨W.heap.size, 1, none⟩ (.int .i64 (y.tdiv 2))).setCell ⟨W.heap.size, 2, none⟩ (.int .i64 (z.tdiv 2))).setCell ⟨W.heap.size, 3, none⟩ (.int .i64 f)) W.heap.size #[.int .i64 (x.tdiv 2), .int .i64 (y.tdiv 2), .int .i64 (z.tdiv 2), .int .i64 f] := (((b1.set 0 _).set 1 _).set 2 _).set 3 _
  obtain ⟨p0, p1, p2, p3, -⟩ := a7.openA4
  exact bodyPost_ret (v := cV (x.tdiv 2) (y.tdiv 2) (z.tdiv 2) f) (by simp [results, Tryz.results53, go_sem, p0, p1, p2, p3]) rfl ⟨rfl, (((B.setCell bW.size _).setCell bW.size _).setCell bW.size _).setCell bW.size _⟩
set_option maxRecDepth 100000 in
/-- Does the group keep the twelfths? -/
theorem twelfths_any {w : World} {base g n c : Nat} {F : Nat → Nat → Int} (hF : Oprs w base (.slice (some ⟨g, 0, none⟩) n c) n F) (hn : n ≤ 192) :
    Calls Tryz.prog 48 #[.slice (some ⟨g, 0, none⟩) n c] w fun e w' => Tells e (∀ i, i < n → ∀ j, j < 3 → F i (9 + j) % 2 = 0) ∧ Below w.heap.size w w' := by
  have ix0 : ∀ (p q r : Int) w, (Instr.index 99 (.agg #[.int .i64 p, .int .i64 q, .int .i64 r]) (.int .i64 0)).run Tryz.prog w = .ok (.int .i64 p) w := fun _ _ _ _ => by kernel_rfl
  have ix1 : ∀ (p q r : Int) w, (Instr.index 99 (.agg #[.int .i64 p, .int .i64 q, .int .i64 r]) (.int .i64 1)).run Tryz.prog w = .ok (.int .i64 q) w := fun _ _ _ _ => by kernel_rfl
  have ix2 : ∀ (p q r : Int) w, (Instr.index 99 (.agg #[.int .i64 p, .int .i64 q, .int .i64 r]) (.int .i64 2)).run Tryz.prog w = .ok (.int .i64 r) w := fun _ _ _ _ => by kernel_rfl
  have hn' : (n : Int) ≤ 192 := by omega
  have HF := hid_of hF
  clear hF
  go_enter Tryz.func48, Tryz.ntmps48
  go_wp2
  go_loopw [9] (fun s wr => ∃ i : Nat, i ≤ n ∧ s = .int .i64 (i : Int) ∧ Hid (∀ k, k < i → ∀ j, j < 3 → F k (9 + j) % 2 = 0) ∧ Hid (Below w.heap.size w wr)) (fun s _ => n - (intOf s).toNat)
  case atStart => exact ⟨0, Nat.zero_le _, rfl, fun k hk => absurd hk (Nat.not_lt_zero _), Below.refl _ _⟩
  case round =>
    obtain ⟨i, hi, rfl, HI, HB⟩ := hrel
    by_cases hlt : i < n
    rotate_left
    · obtain rfl : i = n := by omega
      have hlt' : ¬ (i : Int) < (i : Int) := by omega
      go_wp2
      go_ret
      exact ⟨tells_yes HI.out, HB.out⟩
    have hlt' : (i : Int) < (n : Int) := by omega
    obtain ⟨e0, e1, e2, e3, e4, e5, e6, e7, e8, e9, e10, e11⟩ := (HF.out.below HB.out).open i hlt
    obtain ⟨K, hK⟩ : ∃ K, F i = K := ⟨_, rfl⟩
    have HK : Hid (F i = K) := hK
    simp only [hK] at e0 e1 e2 e3 e4 e5 e6 e7 e8 e9 e10 e11
    clear hK
    obtain ⟨W7, hW7, a7, b7, -⟩ := boxed wr 101 (kc K).toArray
    obtain ⟨p7, hp7⟩ : ∃ p, wr.heap.size = p := ⟨_, rfl⟩
    rw [hp7] at a7
    have A7 : At 101 W7 p7 (opA K (kh K)) := a7
    replace HB := hid_of (HB.out.trans (b7.mono HB.out.size))
    clear b7 a7
    obtain ⟨z0, z1, z2, z3, z4, z5, z6, z7, z8, z9, z10, z11⟩ := At.openk (x := K) A7
    unfold kc at hW7
    have N0 : Hid (∀ l, l < 0 → K (9 + l) % 2 = 0) := fun l hl => absurd hl (Nat.not_lt_zero _)
    go_wp2_with fail
    clear e0 e1 e2 e3 e4 e5 e6 e7 e8 e9 e10 e11 hW7 hp7 z0 z1 z2 z3 z4 z5 z6 z7 z8 z9 z10 z11 A7
    go_loopw [15] (fun s wl => ∃ j : Nat, j ≤ 3 ∧ s = .int .i64 (j : Int) ∧ Hid (∀ l, l < j → K (9 + l) % 2 = 0) ∧ Hid (Below w.heap.size w wl)) (fun s _ => 3 - (intOf s).toNat)
    case atStart => exact ⟨0, by omega, rfl, N0, HB⟩
    case round =>
      clear N0
      rename World => wj
      obtain ⟨j, hj, rfl, HJ, HBj⟩ := hrel
      by_cases hlj : j < 3
      rotate_left
      · obtain rfl : j = 3 := by omega
        have HI2 : Hid (∀ k, k < i + 1 → ∀ j, j < 3 → F k (9 + j) % 2 = 0) := fun k hk j hj => by
          by_cases e : k = i
          · subst e; rw [HK.out]; exact HJ.out j hj
          · exact HI.out k (by omega) j hj
        clear HI HJ HK
        go_wp2
        exact ⟨⟨i + 1, by omega, by go_num, HI2, HBj⟩, by simp [intOf]; omega⟩
      have hlj' : (j : Int) < 3 := by omega
      obtain ⟨y, hy⟩ : ∃ y, K (9 + j) = y := ⟨_, rfl⟩
      by_cases hm : y % 2 = 0
      · have HJ2 : Hid (∀ l, l < j + 1 → K (9 + l) % 2 = 0) := fun l hl => by
          by_cases e : l = j
          · subst e; rw [hy]; exact hm
          · exact HJ.out l (by omega)
        have hm2 : y.tmod 2 = 0 := Int.tmod_eq_zero_of_dvd (Int.dvd_of_emod_eq_zero hm)
        clear HJ hm
        rcases (by omega : j = 0 ∨ j = 1 ∨ j = 2) with rfl | rfl | rfl
        all_goals
          simp only [show 9 + 0 = 9 from rfl, show 9 + 1 = 10 from rfl, show 9 + 2 = 11 from rfl] at hy
          rw [hy]
          go_wp2
          exact ⟨⟨_, by omega, by go_num, HJ2, HBj⟩, by simp [intOf]⟩
      · have HN : Hid (¬ ∀ i, i < n → ∀ j, j < 3 → F i (9 + j) % 2 = 0) := fun h => hm (by
          have := h i hlt j hlj
          rw [HK.out, hy] at this
          exact this)
        have hm2 : ¬ y.tmod 2 = 0 := fun h => hm (Int.emod_eq_zero_of_dvd (Int.dvd_of_tmod_eq_zero h))
        clear HJ hm HI HK
        rcases (by omega : j = 0 ∨ j = 1 ∨ j = 2) with rfl | rfl | rfl
        all_goals
          simp only [show 9 + 0 = 9 from rfl, show 9 + 1 = 10 from rfl, show 9 + 2 = 11 from rfl] at hy
          rw [hy]
          go_wp2
          go_ret
          exact ⟨tells_no HN.out, HBj.out⟩
end Go.Proofs.YtgjhbkpocbihbaaGreat
