/-
  Quotients rounded down, forms slid, reduced forms: the program's and the specification's, walked.
-/
import Derived.Test.YtlgkohiempcbhabWalkA
namespace Go.Proofs.Ytlgkohiempcbhab
open Go.RowKit

theorem ediv_is {x y q : Int} (hy : 0 < y) (h1 : q * y ≤ x) (h2 : x < q * y + y) : x / y = q := by
  have a1 : q ≤ x / y := Int.le_ediv_of_mul_le hy h1
  have a2 : x / y < q + 1 := Int.ediv_lt_of_lt_mul hy (by rw [Int.add_mul]; omega)
  omega
/-- The quotient that is cut, against the one that is rounded down. -/
theorem tdiv_pos {x y : Int} (hx : 0 ≤ x) : x.tdiv y = x / y ∧ x.tmod y = x % y := ⟨Int.tdiv_eq_ediv_of_nonneg hx, Int.tmod_eq_emod_of_nonneg hx⟩
theorem ediv_facts (x : Int) {y : Int} (hy : 0 < y) : x / y * y ≤ x ∧ x < x / y * y + y := by
  have h1 := Int.ediv_mul_le x (Int.ne_of_gt hy)
  have h2 := Int.lt_ediv_add_one_mul_self x hy
  rw [Int.add_mul] at h2
  omega
theorem tdiv_neg {x y : Int} (hx : x < 0) (hy : 0 < y) : (x.tdiv y * y ≤ x ∧ x.tdiv y = x / y ∧ x.tdiv y * y = x) ∨ (x < x.tdiv y * y ∧ x.tdiv y - 1 = x / y ∧ x.tdiv y * y < x + y) := by
  have e : x.tdiv y = -((-x) / y) := by
    have := Int.neg_tdiv (-x) y
    rw [Int.neg_neg] at this
    rw [this, Int.tdiv_eq_ediv_of_nonneg (show 0 ≤ -x by omega)]
  have f := ediv_facts (-x) hy
  have em : x.tdiv y * y = -((-x) / y * y) := by rw [e, Int.neg_mul]
  by_cases hz : (-x) / y * y = -x
  · left
    refine ⟨by omega, ?_, by omega⟩
    exact (ediv_is hy (by omega) (by omega)).symm
  · right
    refine ⟨by omega, ?_, by omega⟩
    refine (ediv_is hy ?_ ?_).symm
    · rw [Int.sub_mul]; omega
    · rw [Int.sub_mul]; omega
theorem tdiv_range {x y : Int} (hx : -1000000000000000 ≤ x ∧ x ≤ 1000000000000000) : (-1000000000000000 ≤ x.tdiv y * y ∧ x.tdiv y * y ≤ 1000000000000000) ∧ -1000000000000000 ≤ x.tdiv y ∧ x.tdiv y ≤ 1000000000000000 := by
  have hq : (x.tdiv y).natAbs ≤ x.natAbs := by rw [Int.natAbs_tdiv]; exact Nat.div_le_self _ _
  have hm : (x.tdiv y * y).natAbs ≤ x.natAbs := by rw [Int.natAbs_mul, Int.natAbs_tdiv]; exact Nat.div_mul_le_self _ _
  omega
theorem qdown_any (x y : Int) (w : World) (hx : -1000000000000000 ≤ x ∧ x ≤ 1000000000000000) (hy : 1 ≤ y ∧ y ≤ 1000000000000000) : Calls Try.prog 51 #[.int .i64 x, .int .i64 y] w fun e w' => e = .returned (.int .i64 (x / y)) ∧ w = w' := by
  obtain ⟨r1, r2⟩ := tdiv_range hx (y := y)
  have hc : (x.tdiv y * y ≤ x ∧ x.tdiv y = x / y) ∨ (x < x.tdiv y * y ∧ x.tdiv y - 1 = x / y) := by
    rcases Int.lt_or_le x 0 with h | h
    · rcases tdiv_neg h (y := y) (by omega) with h' | h'
      · exact .inl ⟨h'.1, h'.2.1⟩
      · exact .inr ⟨h'.1, h'.2.1⟩
    · have e := (tdiv_pos h (y := y)).1
      have f := ediv_facts x (y := y) (by omega)
      rw [← e] at f
      exact .inl ⟨f.1, e⟩
  rcases hc with ⟨h1, h2⟩ | ⟨h1, h2⟩
  · rw [← h2]
    have h1' : ¬ x < x.tdiv y * y := by omega
    clear h2
    go_enter Try.func51, Try.ntmps51
    go_wp2
    go_ret
    exact ⟨rfl, rfl⟩
  · rw [← h2]
    clear h2
    go_enter Try.func51, Try.ntmps51
    go_wp2
    go_ret
    exact ⟨rfl, rfl⟩
theorem sdown_any (x y : Int) (w : World) (hx : -1000000000000000 ≤ x ∧ x ≤ 1000000000000000) (hy : 1 ≤ y ∧ y ≤ 1000000000000000) : Calls Try.prog 50 #[.int .i64 x, .int .i64 y] w fun e w' => e = .returned (.int .i64 (x / y)) ∧ w = w' := by
  obtain ⟨r1, r2⟩ := tdiv_range hx (y := y)
  have hy0 : ¬ y < 0 := by omega
  have hrem : x.tmod y = x - x.tdiv y * y := by
    have := Int.tmod_add_tdiv_mul x y
    omega
  rcases Int.lt_or_le x 0 with h | h
  · rcases tdiv_neg h (y := y) (by omega) with ⟨h1, h2, h3⟩ | ⟨h1, h2, h3⟩
    · have hr : x.tmod y = 0 := by omega
      rw [← h2]
      clear h2 hrem
      go_enter Try.func50, Try.ntmps50
      go_wp2
      go_ret
      exact ⟨rfl, rfl⟩
    · have hr : ¬ x.tmod y = 0 := by omega
      rw [← h2]
      clear h2 hrem
      go_enter Try.func50, Try.ntmps50
      go_wp2
      go_ret
      exact ⟨rfl, rfl⟩
  · have e := tdiv_pos h (y := y)
    have h' : ¬ x < 0 := by omega
    clear hrem
    rw [← e.1]
    clear e
    go_enter Try.func50, Try.ntmps50
    go_wp2
    all_goals
      go_ret
      exact ⟨rfl, rfl⟩
/-- The size of a number. -/
def mag (x : Int) : Int := if x < 0 then -x else x
theorem mag_any (x : Int) (w : World) (hx : -1000000000000000 ≤ x ∧ x ≤ 1000000000000000) : Calls Try.prog 39 #[.int .i64 x] w fun e w' => e = .returned (.int .i64 (mag x)) ∧ w = w' := by
  unfold mag
  go_enter Try.func39, Try.ntmps39
  go_wp2
  all_goals
    go_ret
    exact ⟨rfl, rfl⟩
/-- What a right form is. -/
def Good (a b c : Int) : Prop := (1 ≤ a ∧ a ≤ 1000000) ∧ (1 ≤ c ∧ c ≤ 1000000) ∧ (-1000000 ≤ b ∧ b ≤ 1000000) ∧ 0 < a * c - b * b
theorem fOk_good {a b c : Int} : fOk a b c = true ↔ Good a b c := by
  unfold fOk Good
  simp only [Bool.and_eq_true, decide_eq_true_eq]
theorem Good.swap {a b c : Int} (h : Good a b c) : Good c b a := ⟨h.2.1, h.1, h.2.2.1, by rw [Int.mul_comm]; exact h.2.2.2⟩
def kk (a b : Int) : Int := (2 * b + a) / (2 * a)
def sb (a b : Int) : Int := b - kk a b * a
def sc (a b c : Int) : Int := c - 2 * kk a b * b + kk a b * kk a b * a
/-- What the quotient is like. -/
theorem kk_facts {a b : Int} (ha : 1 ≤ a) : -a ≤ 2 * sb a b ∧ 2 * sb a b ≤ a := by
  have := ediv_facts (2 * b + a) (y := 2 * a) (by omega)
  have e : (2 * b + a) / (2 * a) * (2 * a) = 2 * (kk a b * a) := by show kk a b * (2 * a) = _; rw [← Int.mul_assoc, Int.mul_comm (kk a b) 2, Int.mul_assoc]
  unfold sb
  omega
theorem slid_good {a b c : Int} (h : Good a b c) : Good a (sb a b) (sc a b c) := by
  obtain ⟨ha, hc, hb, hd⟩ := h
  have hk := kk_facts (a := a) (b := b) ha.1
  have id : a * sc a b c - sb a b * sb a b = a * c - b * b := by unfold sc sb; grind
  have hle : sb a b * sb a b ≤ b * b := by
    rcases Int.lt_or_le (2 * b) (-a) with h1 | h1
    · have := mul_bound (x := sb a b) (y := sb a b) (M := -b) (N := -b) (by omega) (by omega)
      rw [Int.neg_mul_neg] at this
      exact this.2
    · rcases Int.lt_or_le a (2 * b) with h2 | h2
      · exact (mul_bound (x := sb a b) (y := sb a b) (M := b) (N := b) (by omega) (by omega)).2
      · by_cases h3 : 2 * b = a
        · have hk1 : kk a b = 1 := ediv_is (by omega) (by omega) (by omega)
          have : sb a b = -b := by unfold sb; rw [hk1]; omega
          rw [this, Int.neg_mul_neg]
          exact Int.le_refl _
        · have hk0 : kk a b = 0 := ediv_is (by omega) (by omega) (by omega)
          have : sb a b = b := by unfold sb; rw [hk0]; omega
          rw [this]
          exact Int.le_refl _
  have h1 : 0 < a * sc a b c := by have := sq_nonneg (sb a b); omega
  have h2 : a * sc a b c ≤ a * c := by omega
  refine ⟨ha, ⟨?_, ?_⟩, by omega, by omega⟩
  · have := Int.pos_of_mul_pos_right h1 (by omega)
    omega
  · have := Int.le_of_mul_le_mul_left h2 (by omega)
    omega
theorem kk_bound {a b c : Int} (h : Good a b c) : (-2000000 ≤ kk a b ∧ kk a b ≤ 2000000) ∧ (-2000000 ≤ kk a b * a ∧ kk a b * a ≤ 2000000) := by
  obtain ⟨ha, hc, hb, hd⟩ := h
  have hk := kk_facts (a := a) (b := b) ha.1
  have hs : sb a b = b - kk a b * a := rfl
  refine ⟨?_, by omega⟩
  have h1 : (kk a b).natAbs ≤ (kk a b * a).natAbs := by rw [Int.natAbs_mul]; exact Nat.le_mul_of_pos_right _ (by omega)
  omega
theorem at_any (a b c k : Int) (w : World) (hb : -1000000 ≤ b ∧ b ≤ 1000000) (hc : 1 ≤ c ∧ c ≤ 1000000) (hk : -2000000 ≤ k ∧ k ≤ 2000000) (hka : -2000000 ≤ k * a ∧ k * a ≤ 2000000) :
    Calls Try.prog 52 #[.agg #[.int .i64 a, .int .i64 b, .int .i64 c], .int .i64 (-k), .int .i64 1] w fun e w' => e = .returned (.int .i64 (c - 2 * k * b + k * k * a)) ∧ Below w.heap.size w w' := by
  have e1 : a * -k = -(k * a) := by grind
  have e2 : -(k * a) * -k = k * k * a := by grind
  have e3 : 2 * b * -k = -(2 * k * b) := by grind
  have b1 := mul_bound (x := k) (y := k * a) (M := 2000000) (N := 2000000) hk hka
  have e4 : k * k * a = k * (k * a) := Int.mul_assoc _ _ _
  have b2 := mul_bound (x := k) (y := b) (M := 2000000) (N := 1000000) hk hb
  have e5 : 2 * k * b = 2 * (k * b) := Int.mul_assoc _ _ _
  have b3 : -4000000000000 ≤ k * k * a ∧ k * k * a ≤ 4000000000000 := by rw [e4]; omega
  have b4 : -4000000000000 ≤ 2 * k * b ∧ 2 * k * b ≤ 4000000000000 := by rw [e5]; omega
  clear e4 e5 b1 b2
  go_enter Try.func52, Try.ntmps52
  go_wp2
  go_ret
  refine ⟨?_, below_alloc _ _⟩
  show Ending.returned (Value.int IntKind.i64 (k * k * a + -(2 * k * b) + c)) = _
  rw [show k * k * a + -(2 * k * b) + c = c - 2 * k * b + k * k * a by omega]
/-- The cells of a form's box. -/
abbrev S3 (w : World) (a b c : Int) (w' : World) : Prop := (w'.cell? ⟨w.heap.size, 0, none⟩ = some (.int .i64 a) ∧ w'.cell? ⟨w.heap.size, 1, none⟩ = some (.int .i64 b) ∧ w'.cell? ⟨w.heap.size, 2, none⟩ = some (.int .i64 c)) ∧ Below w.heap.size w w'
theorem s3_set {w w' : World} {a b c : Int} (h : S3 w a b c w') (x y z : Value) : S3 w a b c (((w'.setCell ⟨w.heap.size + 1, 0, none⟩ x).setCell ⟨w.heap.size + 1, 1, none⟩ y).setCell ⟨w.heap.size + 1, 2, none⟩ z) := by
  have hb := (((Below.refl (w.heap.size + 1) w').setCell (p := ⟨w.heap.size + 1, 0, none⟩) (Nat.le_refl _) x).setCell (p := ⟨w.heap.size + 1, 1, none⟩) (Nat.le_refl _) y).setCell (p := ⟨w.heap.size + 1, 2, none⟩) (Nat.le_refl _) z
  exact ⟨⟨(hb.cell (p := ⟨w.heap.size, 0, none⟩) (Nat.lt_succ_self _)).trans h.1.1, (hb.cell (p := ⟨w.heap.size, 1, none⟩) (Nat.lt_succ_self _)).trans h.1.2.1, (hb.cell (p := ⟨w.heap.size, 2, none⟩) (Nat.lt_succ_self _)).trans h.1.2.2⟩, ((h.2.setCell (Nat.le_succ _) _).setCell (Nat.le_succ _) _).setCell (Nat.le_succ _) _⟩
theorem put3_at {t : TypeId} {W : World} {q : Nat} {x0 x1 x2 : Value} (h : At t W q #[x0, x1, x2]) (x y z : Value) : At t (((W.setCell ⟨q, 0, none⟩ x).setCell ⟨q, 1, none⟩ y).setCell ⟨q, 2, none⟩ z) q #[x, y, z] := by
  simpa using ((h.set 0 x).set 1 y).set 2 z
theorem put3_below {n q : Nat} {w W : World} (h : Below n w W) (hq : n ≤ q) (x y z : Value) : Below n w (((W.setCell ⟨q, 0, none⟩ x).setCell ⟨q, 1, none⟩ y).setCell ⟨q, 2, none⟩ z) := ((h.setCell hq _).setCell hq _).setCell hq _
theorem slid_any {a b c : Int} (h : Good a b c) (w : World) :
    Calls Try.prog 45 #[.agg #[.int .i64 a, .int .i64 b, .int .i64 c]] w fun e w' => e = .returned (.agg #[.int .i64 a, .int .i64 (sb a b), .int .i64 (sc a b c)]) ∧ Below w.heap.size w w' := by
  obtain ⟨k1, k2⟩ := kk_bound h
  obtain ⟨ha, hc, hb, hd⟩ := h
  unfold sb sc
  obtain ⟨k, hk⟩ : ∃ k, kk a b = k := ⟨_, rfl⟩
  rw [hk] at k1 k2 ⊢
  unfold kk at hk
  obtain ⟨W1, hW1, a1, bW1, z1⟩ := boxed w 32 #[.int .i64 a, .int .i64 b, .int .i64 c]
  obtain ⟨W2, hW2, a2, bW2, z2⟩ := boxed W1 32 #[.int .i64 0, .int .i64 0, .int .i64 0]
  rw [z1] at a2 bW2 z2
  replace a1 := a1.belowN bW2 (by omega)
  have bW : Below w.heap.size w W2 := bW1.trans (bW2.mono (by omega))
  clear bW1 bW2
  obtain ⟨c0, c1, c2, -⟩ := a1.open3
  go_enter Try.func45, Try.ntmps45
  go_wp2_with (go_at_call 51; refine (qdown_any _ _ _ (by omega) (by omega)).mono ?_; rintro e w2 ⟨rfl, rfl⟩; rw [hk]; clear hk)
  clear hW1 hW2 c0 c1 c2
  have hw1 : IntKind.i64.wrap (-k) = -k := IntWalk.i64_in _ (by omega)
  have hw2 : IntKind.i64.wrap (k * a) = k * a := IntWalk.i64_in _ (by omega)
  have hw3 : IntKind.i64.wrap (b - k * a) = b - k * a := IntWalk.i64_in _ (by omega)
  have mk : Hid (∀ w', Below W2.drew.heap.size W2.drew w' → S3 w a b c w') := fun w' hw => ⟨⟨(At.below (w := W2.drew) a1 hw).open3.1, (At.below (w := W2.drew) a1 hw).open3.2.1, (At.below (w := W2.drew) a1 hw).open3.2.2.1⟩, bW.drew.trans (hw.mono bW.size)⟩
  go_region_held3 (fun w' => S3 w a b c w')
    (first | exact mk.out _ (Below.refl _ _) | exact mk.out _ hb3 | (have hq : S3 _ _ _ _ _ := ‹_›; exact s3_set hq _ _ _) | (have hq : S3 _ _ _ _ _ := ‹_›; exact hq))
    (first | (go_at_call 52; (try rw [hw1]); refine (at_any _ _ _ _ _ (by omega) (by omega) (by omega) (by omega)).mono ?_; rintro e w3 ⟨rfl, hb3⟩; have a3 := At.below (w := W2.drew) a2 hb3; have HB : Hid (Below w.heap.size w w3) := (mk.out _ hb3).2; obtain ⟨d0, d1, d2, f0, f1, f2⟩ := a3.open3))
  all_goals
    clear d0 d1 d2 f0 f1 f2
    go_wp2
    obtain ⟨r0, r1, r2, -⟩ := (put3_at a3 (.int .i64 a) (.int .i64 (b - k * a)) (.int .i64 (c - 2 * k * b + k * k * a))).open3
    exact bodyPost_ret (v := .agg #[.int .i64 a, .int .i64 (b - k * a), .int .i64 (c - 2 * k * b + k * k * a)]) (by simp [results, Try.results45, go_sem, r0, r1, r2]) rfl ⟨rfl, put3_below HB.out (Nat.le_succ _) _ _ _⟩
/-- What a form comes to, slid and exchanged by turns. -/
def fin : Nat → Int → Int → Int → Int × Int × Int
  | 0, a, b, c => (a, mag b, c)
  | n + 1, a, b, c => if c < a then fin n c (sb c b) (sc c b a) else (a, mag b, c)
/-- The number at the head of a box. -/
def hd (N : Nat) (w : World) : Nat := match w.cell? ⟨N, 0, none⟩ with | some (.int _ x) => x.toNat | _ => 0
theorem hd_at {N : Nat} {w : World} {t : TypeId} {x : Int} {v1 v2 : Value} (h : At t w N #[.int .i64 x, v1, v2]) : hd N w = x.toNat := by
  unfold hd
  rw [h.cell 0 rfl]
  rfl
theorem fin_step {n : Nat} {x y z : Int} (hx : 1 ≤ x) (hn : x.toNat ≤ n) (hz : 1 ≤ z) (hlt : z < x) : ∃ m, z.toNat ≤ m ∧ fin n x y z = fin m z (sb z y) (sc z y x) := by
  cases n with
  | zero => omega
  | succ m => exact ⟨m, by omega, by rw [fin, if_pos hlt]⟩
theorem fin_end {n : Nat} {x y z : Int} (hlt : ¬ z < x) : fin n x y z = (x, mag y, z) := by
  cases n with
  | zero => rfl
  | succ m => rw [fin, if_neg hlt]
theorem implReduce_bad {a b c : Int} (h : fOk a b c = false) (w : World) :
    Calls Try.prog 25 #[.agg #[.int .i64 a, .int .i64 b, .int .i64 c]] w fun e w' => e = .returned (.agg #[.int .i64 0, .int .i64 0, .int .i64 0]) ∧ Below w.heap.size w w' := by
  obtain ⟨W1, hW1, a1, bW1, z1⟩ := boxed w 32 #[.int .i64 a, .int .i64 b, .int .i64 c]
  obtain ⟨W2, hW2, a2, bW2, z2⟩ := boxed W1 32 #[.int .i64 0, .int .i64 0, .int .i64 0]
  rw [z1] at a2 bW2 z2
  replace a1 := a1.belowN bW2 (by omega)
  have bW : Below w.heap.size w W2 := bW1.trans (bW2.mono (by omega))
  clear bW1 bW2
  obtain ⟨c0, c1, c2, -⟩ := a1.open3
  go_enter Try.func25, Try.ntmps25
  go_wp2_with (go_at_call 23; refine (implOk_any _ _ _ _).mono ?_; rintro e w2 ⟨rfl, hb2⟩; rw [h]; have a3 := a2.below hb2; have HB : Hid (Below w.heap.size w w2) := bW.trans (hb2.mono bW.size); obtain ⟨d0, d1, d2, f0, f1, f2⟩ := a3.open3)
  obtain ⟨r0, r1, r2, -⟩ := (put3_at a3 (.int .i64 0) (.int .i64 0) (.int .i64 0)).open3
  exact bodyPost_ret (v := .agg #[.int .i64 0, .int .i64 0, .int .i64 0]) (by simp [results, Try.results25, go_sem, r0, r1, r2]) rfl ⟨rfl, put3_below HB.out (Nat.le_succ _) _ _ _⟩
theorem implReduce_any {a b c : Int} (h : Good a b c) (w : World) :
    Calls Try.prog 25 #[.agg #[.int .i64 a, .int .i64 b, .int .i64 c]] w fun e w' => e = .returned (.agg #[.int .i64 (fin a.toNat a (sb a b) (sc a b c)).1, .int .i64 (fin a.toNat a (sb a b) (sc a b c)).2.1, .int .i64 (fin a.toNat a (sb a b) (sc a b c)).2.2]) ∧ Below w.heap.size w w' := by
  have hok := fOk_good.2 h
  have hsl := slid_good h
  obtain ⟨R, hR⟩ : ∃ R, fin a.toNat a (sb a b) (sc a b c) = R := ⟨_, rfl⟩
  rw [hR]
  obtain ⟨W1, hW1, a1, bW1, z1⟩ := boxed w 32 #[.int .i64 a, .int .i64 b, .int .i64 c]
  obtain ⟨W2, hW2, a2, bW2, z2⟩ := boxed W1 32 #[.int .i64 0, .int .i64 0, .int .i64 0]
  rw [z1] at a2 bW2 z2
  replace a1 := a1.belowN bW2 (by omega)
  have bW : Below w.heap.size w W2 := bW1.trans (bW2.mono (by omega))
  clear bW1 bW2
  obtain ⟨c0, c1, c2, -⟩ := a1.open3
  go_enter Try.func25, Try.ntmps25
  go_wp2_with (first
    | (go_at_call 23; refine (implOk_any _ _ _ _).mono ?_; rintro e w2 ⟨rfl, hb2⟩; rw [hok]; replace a1 := a1.below hb2; replace a2 := a2.below hb2; replace bW := bW.trans (hb2.mono bW.size); obtain ⟨c0, c1, c2, f0, f1, f2⟩ := a1.open3; clear hb2)
    | (go_at_call 45; refine (slid_any h _).mono ?_; rintro e w2 ⟨rfl, hb2⟩; replace a1 := a1.below hb2; replace a2 := a2.below hb2; replace bW := bW.trans (hb2.mono bW.size); obtain ⟨c0, c1, c2, f0, f1, f2⟩ := a1.open3; clear hb2))
  have hc0 : Good a (sb a b) (sc a b c) ∧ a.toNat ≤ a.toNat ∧ fin a.toNat a (sb a b) (sc a b c) = R := ⟨hsl, Nat.le_refl _, hR⟩
  have p1 := put3_at a1 (.int .i64 a) (.int .i64 (sb a b)) (.int .i64 (sc a b c))
  have p2 := ((a2.setOther (p := w.heap.size) (i := 0) (by omega) (.int .i64 a)).setOther (p := w.heap.size) (i := 1) (by omega) (.int .i64 (sb a b))).setOther (p := w.heap.size) (i := 2) (by omega) (.int .i64 (sc a b c))
  have p3 := put3_below bW (Nat.le_refl w.heap.size) (.int .i64 a) (.int .i64 (sb a b)) (.int .i64 (sc a b c))
  clear hR hok h hsl a1 a2 bW c0 c1 c2 f0 f1 f2 hW1 hW2 z1 z2
  go_loopw [] (fun wr => ∃ (n : Nat) (x y z : Int), (Good x y z ∧ x.toNat ≤ n ∧ fin n x y z = R) ∧ At 32 wr w.heap.size #[.int .i64 x, .int .i64 y, .int .i64 z] ∧ At 32 wr (w.heap.size + 1) #[.int .i64 0, .int .i64 0, .int .i64 0] ∧ Below w.heap.size w wr) (fun wr => hd w.heap.size wr)
  case atStart => exact ⟨a.toNat, a, sb a b, sc a b c, hc0, p1, p2, p3⟩
  case round =>
    clear hc0 p1 p2 p3
    obtain ⟨n, x, y, z, ⟨hg, hn, hf⟩, a1, a2, bW⟩ := hrel
    obtain ⟨c0, c1, c2, f0, f1, f2⟩ := a1.open3
    by_cases hlt : z < x
    · obtain ⟨m, hm, hfm⟩ := fin_step (y := y) hg.1.1 hn hg.2.1.1 hlt
      have HH : Hid (hd w.heap.size wr = x.toNat) := hd_at a1
      have HF : Hid (fin m z (sb z y) (sc z y x) = R) := hfm.symm.trans hf
      have HG : Hid (Good z (sb z y) (sc z y x) ∧ z.toNat < x.toNat) := ⟨slid_good hg.swap, by have := hg.2.1.1; omega⟩
      have hsw := hg.swap
      have b1 : At 32 ((wr.setCell ⟨w.heap.size, 0, none⟩ (.int .i64 z)).setCell ⟨w.heap.size, 2, none⟩ (.int .i64 x)) w.heap.size #[.int .i64 z, .int .i64 y, .int .i64 x] := by simpa using (a1.set 0 (.int .i64 z)).set 2 (.int .i64 x)
      have b2 : At 32 ((wr.setCell ⟨w.heap.size, 0, none⟩ (.int .i64 z)).setCell ⟨w.heap.size, 2, none⟩ (.int .i64 x)) (w.heap.size + 1) #[.int .i64 0, .int .i64 0, .int .i64 0] := (a2.setOther (by omega) _).setOther (by omega) _
      have b3 : Below w.heap.size w ((wr.setCell ⟨w.heap.size, 0, none⟩ (.int .i64 z)).setCell ⟨w.heap.size, 2, none⟩ (.int .i64 x)) := (bW.setCell (Nat.le_refl _) _).setCell (Nat.le_refl _) _
      clear hf hfm hn hg a1 a2 bW
      go_wp2_with (go_at_call 45; refine (slid_any hsw _).mono ?_; rintro e w2 ⟨rfl, hb2⟩; have d1 := b1.below hb2; have d2 := b2.below hb2; have d3 := b3.trans (hb2.mono b3.size); obtain ⟨c0, c1, c2, f0, f1, f2⟩ := d1.open3)
      have q1 := put3_at d1 (.int .i64 z) (.int .i64 (sb z y)) (.int .i64 (sc z y x))
      refine ⟨⟨m, z, sb z y, sc z y x, ⟨HG.out.1, hm, HF.out⟩, q1, ((d2.setOther (by omega) _).setOther (by omega) _).setOther (by omega) _, put3_below d3 (Nat.le_refl _) _ _ _⟩, ?_⟩
      rw [hd_at q1, HH.out]
      exact HG.out.2
    · have hR := fin_end (n := n) (y := y) hlt
      rw [hf] at hR
      subst hR
      have hy := hg.2.2.1
      have q1 : At 32 (wr.setCell ⟨w.heap.size, 1, none⟩ (.int .i64 (mag y))) w.heap.size #[.int .i64 x, .int .i64 (mag y), .int .i64 z] := by simpa using a1.set 1 (.int .i64 (mag y))
      have q2 : At 32 (wr.setCell ⟨w.heap.size, 1, none⟩ (.int .i64 (mag y))) (w.heap.size + 1) #[.int .i64 0, .int .i64 0, .int .i64 0] := a2.setOther (by omega) _
      obtain ⟨g0, g1, g2, -⟩ := q1.open3
      obtain ⟨e0, e1, e2, e3, e4, e5⟩ := q2.open3
      clear hf hn hg
      go_wp2_with (go_at_call 39; refine (mag_any _ _ (by omega)).mono ?_; rintro e w2 ⟨rfl, rfl⟩)
      obtain ⟨r0, r1, r2, -⟩ := (put3_at q2 (.int .i64 x) (.int .i64 (mag y)) (.int .i64 z)).open3
      exact bodyPost_ret (v := .agg #[.int .i64 x, .int .i64 (mag y), .int .i64 z]) (by simp [results, Try.results25, go_sem, r0, r1, r2]) rfl ⟨rfl, put3_below (bW.setCell (Nat.le_refl _) _) (Nat.le_succ _) _ _ _⟩
end Go.Proofs.Ytlgkohiempcbhab
