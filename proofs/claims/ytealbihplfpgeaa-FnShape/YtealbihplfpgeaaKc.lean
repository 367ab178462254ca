/-
  The order in which corners are seen is a strict weak one. Mathematics alone: no function of the program.
-/
import Derived.Test.YtealbihplfpgeaaKb
namespace Go.Proofs.Ytealbihplfpgeaa
open Go.RowKit Go.Shelf Go.Sort

/-- How many whole half turns lie between o and a. -/
noncomputable def ht (f : Nat → Int) (o a : Nat × Nat) : Int := @ite Int (eqc f o a ∨ 0 < tn f o a) (Classical.propDecidable _) 0 1
/-- Which of two is seen first. -/
noncomputable def cf (f : Nat → Int) (o a b : Nat × Nat) : Int := if ht f o a < ht f o b then -1 else if ht f o b < ht f o a then 1 else if 0 < tn f a b then -1 else if tn f a b < 0 then 1 else 0
theorem ht_cases (f : Nat → Int) (o a : Nat × Nat) : (ht f o a = 0 ∧ (eqc f o a ∨ 0 < tn f o a)) ∨ (ht f o a = 1 ∧ ¬ eqc f o a ∧ tn f o a ≤ 0) := by
  unfold ht
  by_cases h : eqc f o a ∨ 0 < tn f o a
  · left; exact ⟨by rw [if_pos h], h⟩
  · right
    refine ⟨by rw [if_neg h], fun e => h (.inl e), ?_⟩
    exact Int.not_lt.1 fun e => h (.inr e)
theorem cf_lt {f : Nat → Int} {o a b : Nat × Nat} : cf f o a b < 0 ↔ ht f o a < ht f o b ∨ (ht f o a = ht f o b ∧ 0 < tn f a b) := by
  unfold cf
  by_cases h1 : ht f o a < ht f o b
  · simp [h1]
  · by_cases h2 : ht f o b < ht f o a
    · simp [h1, h2]; omega
    · by_cases h3 : 0 < tn f a b
      · simp [h1, h2, h3]; omega
      · by_cases h4 : tn f a b < 0
        · simp [h1, h2, h3, h4]
        · simp [h1, h2, h3, h4]
section Shape
variable {n : Nat} {f : Nat → Int}
/-- Seen in one direction: the same. -/
theorem SOk.dir (S : SOk n f) {o a b : Nat × Nat} (ho : o ∈ allP f n n) (ha : a ∈ allP f n n) (hb : b ∈ allP f n n) (hh : ht f o a = ht f o b) (h : tn f a b = 0) : eqc f a b := by
  obtain ⟨s, t, sp, tz, e1, e2, eq⟩ := S.col ha hb h
  refine eq ?_
  -- what o's own line tells
  have q := mem_allP.1 ho
  have to := nm_tight ho
  have ro := corner_red ho
  have po : 0 < nm f o.1 o := by rw [to]; exact mul_pp (S.g q.1) ro.2
  have k1 : s * tn f o b = t * tn f o a := by unfold tn; grind
  have k2 : s * nm f o.1 b = t * nm f o.1 a := by unfold nm; grind
  rcases ht_cases f o a with ⟨x, hx⟩ | ⟨x, nx, hx⟩ <;> rcases ht_cases f o b with ⟨y, hy⟩ | ⟨y, ny, hy⟩ <;> try omega
  · refine Int.not_le.1 fun tn0 => ?_
    rcases hx with hx | hx
    · rcases hy with hy | hy
      · -- both are o: t > 0
        have n1 : nm f o.1 a = nm f o.1 o := by unfold nm; rw [hx.1, hx.2.1]
        have n2 : nm f o.1 b = nm f o.1 o := by unfold nm; rw [hy.1, hy.2.1]
        rw [n1, n2] at k2
        have m1 := mul_pp sp po
        have m2 := mul_zn tn0 (Int.le_of_lt po)
        omega
      · rw [← hx.right o, tn_self] at k1
        have m1 := mul_pp sp hy
        simp at k1
        omega
    · rcases hy with hy | hy
      · rw [← hy.right o, tn_self] at k1
        have m1 : t * tn f o a ≠ 0 := fun z => by rcases Int.mul_eq_zero.1 z with c | c <;> omega
        simp at k1
        omega
      · have m1 := mul_pp sp hy
        have m2 := mul_zn tn0 (Int.le_of_lt hx)
        omega
  · refine Int.not_le.1 fun tn0 => ?_
    rcases Int.lt_or_eq_of_le hx with hx' | hx'
    · have m1 := mul_nz (Int.le_of_lt sp) hy
      have m2 := mul_mm (show t < 0 by omega) hx'
      omega
    · rw [hx', Int.mul_zero] at k1
      have hy' : tn f o b = 0 := by rcases Int.mul_eq_zero.1 k1 with c | c; omega; exact c
      -- both on the other side of o
      have neg : ∀ c, c ∈ allP f n n → tn f o c = 0 → ¬ eqc f o c → nm f o.1 c < 0 := fun c hc hz hne => by
        have c1 : nm f o.1 o * gX f c = nm f o.1 c * gX f o := by unfold tn at hz; unfold nm; grind
        have c2 : nm f o.1 o * gY f c = nm f o.1 c * gY f o := by unfold tn at hz; unfold nm; grind
        obtain ⟨s', t', sp', tz', d1, d2, eq'⟩ := S.col ho hc hz
        have nt : t' < 0 := by
          rcases Int.lt_or_le 0 t' with z | z
          · exact absurd (eq' z) hne
          · omega
        have k3 : s' * nm f o.1 c = t' * nm f o.1 o := by unfold nm; grind
        have m1 := mul_mp nt po
        refine Int.not_le.1 fun z => ?_
        have := mul_nn (Int.le_of_lt sp') z
        omega
      have na := neg a ha hx' nx
      have nb := neg b hb hy' ny
      have m1 := mul_pm sp nb
      have m2 := mul_mm (show t < 0 by omega) na
      omega
theorem SOk.seenTr (S : SOk n f) {o a b c : Nat × Nat} (ho : o ∈ allP f n n) (hb : b ∈ allP f n n) (hc : c ∈ allP f n n) (h1 : cf f o a b < 0) (h2 : cf f o b c < 0) : cf f o a c < 0 := by
  rw [cf_lt] at *
  rcases h1 with h1 | ⟨e1, l1⟩
  · rcases h2 with h2 | ⟨e2, l2⟩
    · exact .inl (by omega)
    · exact .inl (by omega)
  · rcases h2 with h2 | ⟨e2, l2⟩
    · exact .inl (by omega)
    · refine .inr ⟨by omega, ?_⟩
      have p := tn_P f o b a c
      have s1 := tn_swap f b a
      rw [s1, Int.mul_neg] at p
      have q := mem_allP.1 ho
      have po : 0 < nm f o.1 o := by rw [nm_tight ho]; exact mul_pp (S.g q.1) (corner_red ho).2
      -- a corner on o's line, on the other side, has nothing ahead of it
      have oppo : ∀ z u : Nat × Nat, z ∈ allP f n n → tn f o z = 0 → ¬ eqc f o z → 0 < tn f u z → tn f o u ≤ 0 → False := fun z u hz hz0 hne hl hu => by
        obtain ⟨s', t', sp', tz', d1, d2, eq'⟩ := S.col ho hz hz0
        have nt : t' < 0 := by
          rcases Int.lt_or_le 0 t' with y | y
          · exact absurd (eq' y) hne
          · omega
        have k3 : s' * tn f u z = t' * tn f u o := by unfold tn; grind
        have sw := tn_swap f u o
        have m1 := mul_pp sp' hl
        have m2 := mul_zn (a := t') (b := tn f u o) (by omega) (by omega)
        omega
      rcases ht_cases f o a with ⟨x, hx⟩ | ⟨x, nx, hx⟩ <;> rcases ht_cases f o b with ⟨y, hy⟩ | ⟨y, ny, hy⟩ <;> try omega
      · rcases ht_cases f o c with ⟨z, hz⟩ | ⟨z, nz, hz⟩ <;> try omega
        have a0 : 0 ≤ tn f o a := by
          rcases hx with hx | hx
          · rw [← hx.right o, tn_self]; exact Int.le_refl _
          · omega
        have b0 : 0 < tn f o b := by
          rcases hy with hy | hy
          · have := hy.right a
            have s2 := tn_swap f a o
            omega
          · exact hy
        have c0 : 0 < tn f o c := by
          rcases hz with hz | hz
          · have := hz.right b
            have s2 := tn_swap f b o
            omega
          · exact hz
        have m1 := mul_nn a0 (Int.le_of_lt l2)
        have m2 := mul_pp c0 l1
        exact pos_left (b := tn f o b) (by rw [Int.mul_comm]; omega) b0
      · rcases ht_cases f o c with ⟨z, hz⟩ | ⟨z, nz, hz⟩ <;> try omega
        have b0 : tn f o b < 0 := by
          rcases Int.lt_or_eq_of_le hy with h | h
          · exact h
          · exact (oppo b a hb h ny l1 hx).elim
        have c0 : tn f o c < 0 := by
          rcases Int.lt_or_eq_of_le hz with h | h
          · exact h
          · exact (oppo c b hc h nz l2 hy).elim
        have m1 := mul_zn hx (Int.le_of_lt l2)
        have m2 := mul_mp c0 l1
        exact pos_neg (b := tn f o b) (by rw [Int.mul_comm]; omega) b0
/-- Corners as keys. -/
def Ck (f : Nat → Int) (n : Nat) : Type := {c : Nat × Nat // c ∈ allP f n n}
noncomputable def cfk (f : Nat → Int) (n : Nat) (o : Nat × Nat) (a b : Ck f n) : Int := cf f o a.1 b.1
theorem SOk.swo (S : SOk n f) {o : Nat × Nat} (ho : o ∈ allP f n n) : SWO (ltOf (cfk f n o)) where
  irrefl x := by
    unfold ltOf cfk
    rw [decide_eq_false_iff_not, cf_lt, tn_self]
    omega
  trans x y z h1 h2 := by
    unfold ltOf cfk at *
    rw [decide_eq_true_eq] at *
    exact S.seenTr ho y.2 z.2 h1 h2
  ntrans x y z h1 h2 := by
    unfold ltOf cfk at *
    rw [decide_eq_false_iff_not] at *
    intro h3
    -- y against z, y against x
    have tri : ∀ u v : Ck f n, cf f o u.1 v.1 < 0 ∨ cf f o v.1 u.1 < 0 ∨ (ht f o u.1 = ht f o v.1 ∧ eqc f u.1 v.1) := fun u v => by
      rw [cf_lt, cf_lt]
      have s := tn_swap f u.1 v.1
      by_cases e : ht f o u.1 = ht f o v.1
      · rcases Int.lt_trichotomy (tn f u.1 v.1) 0 with c | c | c
        · exact .inr (.inl (.inr ⟨e.symm, by omega⟩))
        · exact .inr (.inr ⟨e, S.dir ho u.2 v.2 e c⟩)
        · exact .inl (.inr ⟨e, c⟩)
      · omega
    rcases tri y z with c | c | ⟨c1, c2⟩
    · exact h2 c
    · exact h1 (S.seenTr ho z.2 y.2 h3 c)
    · refine h1 ?_
      rw [cf_lt] at h3 ⊢
      have := c2.right x.1
      omega
end Shape
end Go.Proofs.Ytealbihplfpgeaa
