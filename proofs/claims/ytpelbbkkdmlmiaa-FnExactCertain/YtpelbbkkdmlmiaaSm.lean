/-
  Signs of numbers p and q roots of 3: the mathematics. No function of the program.
-/
namespace Go.Proofs.Ytpelbbkkdmlmiaa

/-- 3 has no root among the fractions. -/
theorem three_root : ∀ (n : Nat) (p q : Int), p.natAbs ≤ n → p * p = 3 * (q * q) → p = 0 ∧ q = 0 := by
  intro n
  induction n with
  | zero =>
    intro p q hn h
    obtain rfl : p = 0 := by omega
    refine ⟨rfl, ?_⟩
    have : q * q = 0 := by omega
    rcases Int.mul_eq_zero.1 this with h | h <;> exact h
  | succ n ih =>
    intro p q hn h
    by_cases hp : p = 0
    · subst hp
      refine ⟨rfl, ?_⟩
      have : q * q = 0 := by omega
      rcases Int.mul_eq_zero.1 this with h | h <;> exact h
    · have h3 : p % 3 = 0 := by
        have hm : (p * p) % 3 = 0 := by rw [h]; exact Int.mul_emod_right 3 _
        rw [Int.mul_emod] at hm
        rcases (by omega : p % 3 = 0 ∨ p % 3 = 1 ∨ p % 3 = 2) with e | e | e
        · exact e
        · rw [e] at hm; simp at hm
        · rw [e] at hm; simp at hm
      obtain ⟨k, rfl⟩ : ∃ k, p = 3 * k := ⟨p / 3, by omega⟩
      have e1 : q * q = 3 * (k * k) := by
        have : 3 * k * (3 * k) = 3 * (3 * (k * k)) := by grind
        omega
      have hq : q.natAbs ≤ n := by
        have l1 : q.natAbs * q.natAbs = 3 * (k.natAbs * k.natAbs) := by
          have := congrArg Int.natAbs e1
          rwa [Int.natAbs_mul, Int.natAbs_mul, Int.natAbs_mul] at this
        have l2 : (3 * k).natAbs = 3 * k.natAbs := by rw [Int.natAbs_mul]; rfl
        by_cases hc : q.natAbs ≤ n
        · exact hc
        · have g1 : n + 1 ≤ q.natAbs := by omega
          have g2 : 3 * k.natAbs ≤ q.natAbs := by omega
          have g3 := Nat.mul_le_mul g2 g2
          have g4 : 3 * k.natAbs * (3 * k.natAbs) = 9 * (k.natAbs * k.natAbs) := by grind
          have g5 : 0 < k.natAbs := by omega
          have g6 := Nat.mul_pos g5 g5
          omega
      have := ih q k hq e1
      omega
theorem root3 {p q : Int} (h : p * p = 3 * (q * q)) : p = 0 ∧ q = 0 := three_root p.natAbs p q (Nat.le_refl _) h
theorem sq_nonneg (x : Int) : 0 ≤ x * x := by
  rcases Int.le_total 0 x with h | h
  · exact Int.mul_nonneg h h
  · have := Int.mul_nonneg (show 0 ≤ -x by omega) (show 0 ≤ -x by omega)
    rwa [Int.neg_mul_neg] at this
def cmp3 (x y : Int) : Int := if x < y then -1 else if y < x then 1 else 0
/-- The sign of p and q roots of 3. -/
def rs (p q : Int) : Int := if 3 * (q * q) < p * p then cmp3 p 0 else cmp3 q 0
theorem sq_pos {x : Int} (h : x ≠ 0) : 0 < x * x := by
  have := sq_nonneg x
  rcases Int.lt_or_eq_of_le this with h' | h'
  · exact h'
  · rcases Int.mul_eq_zero.1 h'.symm with e | e <;> exact absurd e h
theorem rs_pos {p q : Int} (hp : 0 ≤ p) (hq : 0 ≤ q) (h : 0 < p + q) : rs p q = 1 := by
  unfold rs cmp3
  by_cases hc : 3 * (q * q) < p * p
  · have : p ≠ 0 := by rintro rfl; have := sq_nonneg q; omega
    rw [if_pos hc, if_neg (by omega), if_pos (by omega)]
  · have : q ≠ 0 := by
      rintro rfl
      have := sq_pos (x := p) (by omega)
      omega
    rw [if_neg hc, if_neg (by omega), if_pos (by omega)]
theorem rs_neg {p q : Int} (hp : p ≤ 0) (hq : q ≤ 0) (h : p + q < 0) : rs p q = -1 := by
  unfold rs cmp3
  by_cases hc : 3 * (q * q) < p * p
  · have : p ≠ 0 := by rintro rfl; have := sq_nonneg q; omega
    rw [if_pos hc, if_pos (by omega)]
  · have : q ≠ 0 := by
      rintro rfl
      have := sq_pos (x := p) (by omega)
      omega
    rw [if_neg hc, if_pos (by omega)]
/-- Where the two pull against each other, or are nought. -/
theorem rs_other {p q : Int} (h1 : ¬ (0 ≤ p ∧ 0 ≤ q ∧ 0 < p + q)) (h2 : ¬ (p ≤ 0 ∧ q ≤ 0 ∧ p + q < 0)) :
    rs p q = if p < 0 then -cmp3 (p * p - 3 * (q * q)) 0 else cmp3 (p * p - 3 * (q * q)) 0 := by
  unfold rs cmp3
  by_cases hz : p * p = 3 * (q * q)
  · obtain ⟨rfl, rfl⟩ := root3 hz
    simp
  by_cases hc : 3 * (q * q) < p * p
  · rw [if_pos hc]
    by_cases hp : p < 0
    · rw [if_pos hp, if_pos hp, if_neg (by omega), if_pos (by omega)]
    · have : p ≠ 0 := by rintro rfl; have := sq_nonneg q; omega
      rw [if_neg hp, if_neg hp, if_pos (by omega), if_neg (by omega), if_pos (by omega)]
  · rw [if_neg hc]
    have hq0 : q ≠ 0 := by
      rintro rfl
      have := sq_nonneg p
      have : p * p = 0 := by omega
      exact hz (by omega)
    by_cases hp : p < 0
    · rw [if_neg (by omega), if_pos (by omega), if_pos hp, if_pos (by omega)]; rfl
    · by_cases hp0 : p = 0
      · subst hp0
        omega
      · rw [if_pos (by omega), if_neg hp, if_pos (by omega)]
theorem mul_lt_sq {a b c d : Int} (ha : 0 ≤ a) (hc : 0 ≤ c) (h1 : a < b) (h2 : c < d) : a * c < b * d := by
  have g1 : a * c ≤ b * c := Int.mul_le_mul_of_nonneg_right (by omega) hc
  have g2 : b * c < b * d := Int.mul_lt_mul_of_pos_left h2 (by omega)
  omega
theorem lt_of_sq {x y : Int} (hx : 0 ≤ x) (hy : 0 ≤ y) (h : x * x < y * y) : x < y := by
  refine Int.lt_of_not_ge fun hc => ?_
  have := Int.mul_le_mul hc hc hy hx
  omega
/-- The sum has the greater one's sign. -/
theorem cmp_sum {x y : Int} (h : y * y < x * x) : cmp3 (x + y) 0 = cmp3 x 0 := by
  have hx : x ≠ 0 := by rintro rfl; have := sq_nonneg y; omega
  have hl : y.natAbs < x.natAbs := by
    have := lt_of_sq (x := y.natAbs) (y := x.natAbs) (by omega) (by omega) (by rw [← Int.natCast_mul, ← Int.natCast_mul, ← Int.natAbs_mul, ← Int.natAbs_mul]; have := sq_nonneg x; have := sq_nonneg y; omega)
    omega
  unfold cmp3
  by_cases h1 : x < 0
  · rw [if_pos (by omega), if_pos h1]
  · rw [if_neg (by omega), if_pos (by omega), if_neg h1, if_pos (by omega)]
theorem cmp_mul (x y : Int) : cmp3 (x * y) 0 = cmp3 x 0 * cmp3 y 0 := by
  have key : ∀ a b : Int, 0 < a → 0 < b → 0 < a * b := fun a b => Int.mul_pos
  unfold cmp3
  rcases Int.lt_trichotomy x 0 with hx | hx | hx <;> rcases Int.lt_trichotomy y 0 with hy | hy | hy
  · have := key (-x) (-y) (by omega) (by omega); rw [Int.neg_mul_neg] at this
    rw [if_neg (by omega), if_pos (by omega), if_pos hx, if_pos hy]; rfl
  · subst hy; simp
  · have := key (-x) y (by omega) hy; rw [Int.neg_mul] at this
    rw [if_pos (by omega), if_pos hx, if_neg (by omega), if_pos hy]; rfl
  · subst hx; simp
  · subst hx; simp
  · subst hx; simp
  · have := key x (-y) hx (by omega); rw [Int.mul_neg] at this
    rw [if_pos (by omega), if_neg (by omega), if_pos hx, if_pos hy]; rfl
  · subst hy; simp
  · have := key x y hx hy
    rw [if_neg (by omega), if_pos (by omega), if_neg (by omega), if_pos hx, if_neg (by omega), if_pos hy]; rfl
theorem rs_zero {p q : Int} : rs p q = 0 ↔ p = 0 ∧ q = 0 := by
  constructor
  · intro h
    unfold rs cmp3 at h
    by_cases hc : 3 * (q * q) < p * p
    · rw [if_pos hc] at h
      have : p = 0 := by
        by_cases h1 : p < 0
        · rw [if_pos h1] at h; omega
        · rw [if_neg h1] at h
          by_cases h2 : 0 < p
          · rw [if_pos h2] at h; omega
          · omega
      subst this
      have := sq_nonneg q
      omega
    · rw [if_neg hc] at h
      have : q = 0 := by
        by_cases h1 : q < 0
        · rw [if_pos h1] at h; omega
        · rw [if_neg h1] at h
          by_cases h2 : 0 < q
          · rw [if_pos h2] at h; omega
          · omega
      subst this
      have := sq_nonneg p
      have h0 : p * p = 0 := by omega
      rcases Int.mul_eq_zero.1 h0 with e | e <;> exact ⟨e, rfl⟩
  · rintro ⟨rfl, rfl⟩; rfl
theorem cmp_neg (x : Int) : cmp3 (-x) 0 = -cmp3 x 0 := by
  unfold cmp3
  rcases Int.lt_trichotomy x 0 with hx | hx | hx
  · rw [if_neg (by omega), if_pos (by omega), if_pos hx]; rfl
  · subst hx; rfl
  · rw [if_pos (by omega), if_neg (by omega), if_pos hx]
theorem rs_opp (p q : Int) : rs (-p) (-q) = -rs p q := by
  unfold rs
  rw [Int.neg_mul_neg, Int.neg_mul_neg, cmp_neg, cmp_neg]
  split <;> rfl
theorem cmp3_one (x : Int) : cmp3 (3 * x) 0 = cmp3 x 0 := by
  unfold cmp3
  rcases Int.lt_trichotomy x 0 with hx | hx | hx
  · rw [if_pos (by omega), if_pos hx]
  · subst hx; rfl
  · rw [if_neg (by omega), if_pos (by omega), if_neg (by omega), if_pos hx]
/-- Signs of products. -/
theorem rs_mul (p q s t : Int) : rs (p * s + 3 * q * t) (p * t + q * s) = rs p q * rs s t := by
  have e : (p * s + 3 * q * t) * (p * s + 3 * q * t) - 3 * ((p * t + q * s) * (p * t + q * s)) = (p * p - 3 * (q * q)) * (s * s - 3 * (t * t)) := by grind
  by_cases z1 : p * p = 3 * (q * q)
  · obtain ⟨rfl, rfl⟩ := root3 z1
    simp [rs, cmp3]
  by_cases z2 : s * s = 3 * (t * t)
  · obtain ⟨rfl, rfl⟩ := root3 z2
    simp [rs, cmp3]
  have np := sq_nonneg p
  have nq := sq_nonneg q
  have ns := sq_nonneg s
  have nt := sq_nonneg t
  unfold rs
  by_cases c1 : 3 * (q * q) < p * p <;> by_cases c2 : 3 * (t * t) < s * s
  · have := Int.mul_pos (a := p * p - 3 * (q * q)) (b := s * s - 3 * (t * t)) (by omega) (by omega)
    rw [if_pos (by omega), if_pos c1, if_pos c2, ← cmp_mul]
    refine cmp_sum ?_
    have g := mul_lt_sq (a := 3 * (q * q)) (c := 3 * (t * t)) (by omega) (by omega) c1 c2
    have e1 : 3 * q * t * (3 * q * t) = 3 * (q * q) * (3 * (t * t)) := by grind
    have e2 : p * s * (p * s) = p * p * (s * s) := by grind
    omega
  · have := Int.mul_pos (a := p * p - 3 * (q * q)) (b := 3 * (t * t) - s * s) (by omega) (by omega)
    have e3 : (p * p - 3 * (q * q)) * (3 * (t * t) - s * s) = -((p * p - 3 * (q * q)) * (s * s - 3 * (t * t))) := by grind
    rw [if_neg (by omega), if_pos c1, if_neg c2, ← cmp_mul]
    refine cmp_sum ?_
    have g := mul_lt_sq (a := 3 * (q * q)) (c := s * s) (by omega) (by omega) c1 (show s * s < 3 * (t * t) by omega)
    have e1 : 3 * (q * q) * (s * s) = 3 * (q * s * (q * s)) := by grind
    have e2 : p * p * (3 * (t * t)) = 3 * (p * t * (p * t)) := by grind
    omega
  · have := Int.mul_pos (a := 3 * (q * q) - p * p) (b := s * s - 3 * (t * t)) (by omega) (by omega)
    have e3 : (3 * (q * q) - p * p) * (s * s - 3 * (t * t)) = -((p * p - 3 * (q * q)) * (s * s - 3 * (t * t))) := by grind
    rw [if_neg (by omega), if_neg c1, if_pos c2, ← cmp_mul, Int.add_comm]
    refine cmp_sum ?_
    have g := mul_lt_sq (a := p * p) (c := 3 * (t * t)) (by omega) (by omega) (show p * p < 3 * (q * q) by omega) c2
    have e1 : p * p * (3 * (t * t)) = 3 * (p * t * (p * t)) := by grind
    have e2 : 3 * (q * q) * (s * s) = 3 * (q * s * (q * s)) := by grind
    omega
  · have := Int.mul_pos (a := 3 * (q * q) - p * p) (b := 3 * (t * t) - s * s) (by omega) (by omega)
    have e3 : (3 * (q * q) - p * p) * (3 * (t * t) - s * s) = (p * p - 3 * (q * q)) * (s * s - 3 * (t * t)) := by grind
    rw [if_pos (by omega), if_neg c1, if_neg c2, ← cmp_mul, Int.add_comm]
    have e4 : cmp3 (q * t) 0 = cmp3 (3 * q * t) 0 := by rw [Int.mul_assoc, cmp3_one]
    rw [e4]
    refine cmp_sum ?_
    have g := mul_lt_sq (a := p * p) (c := s * s) np ns (show p * p < 3 * (q * q) by omega) (show s * s < 3 * (t * t) by omega)
    have e1 : 3 * q * t * (3 * q * t) = 3 * (q * q) * (3 * (t * t)) := by grind
    have e2 : p * s * (p * s) = p * p * (s * s) := by grind
    omega
end Go.Proofs.Ytpelbbkkdmlmiaa
