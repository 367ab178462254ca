/-
  More than one corner lies on a facet just where it shows. Mathematics alone: no function of the program.
-/
import Derived.Test.YtealbihplfpgeaaKn
namespace Go.Proofs.Ytealbihplfpgeaa
open Go.RowKit Go.Shelf Go.Sort Go.Lib

/-- How far corner c lies outside of facet i. -/
def ou (f : Nat → Int) (i : Nat) (c : Nat × Nat) : Int := outT (f (i * 3)) (f (i * 3 + 1)) (f (i * 3 + 2)) (gX f c) (gY f c) (gD f c)
theorem ou_three (f : Nat → Int) (i k m : Nat) (c : Nat × Nat) : gD f c * Dt f i k m = -(ou f m c * Lf f i k + ou f i c * Lf f k m + ou f k c * Lf f m i) := by
  unfold ou outT Dt Lf cr; grind
section Shape
variable {n : Nat} {f : Nat → Int}
theorem ou_le {c : Nat × Nat} (h : c ∈ allP f n n) {i : Nat} (hi : i < n) : ou f i c ≤ 0 := by
  have q := mem_allP.1 h
  have kp := (cn_at q.2.2.1).pos
  have h2 : ou f i c * kG f c.1 c.2 = -Dt f c.1 c.2 i := out_c q.2.2.1 i
  have h1 := q.2.2.2 i hi
  refine Int.not_lt.1 fun z => ?_
  have := mul_pp z kp
  omega
theorem ou_zero {c : Nat × Nat} (h : c ∈ allP f n n) {i : Nat} (hz : Dt f c.1 c.2 i = 0) : ou f i c = 0 := by
  have q := mem_allP.1 h
  have kp := (cn_at q.2.2.1).pos
  have h2 : ou f i c * kG f c.1 c.2 = -Dt f c.1 c.2 i := out_c q.2.2.1 i
  rw [hz] at h2
  rcases Int.mul_eq_zero.1 (by omega : ou f i c * kG f c.1 c.2 = 0) with z | z
  · exact z
  · omega
theorem Dt_l (f : Nat → Int) (a b : Nat) : Dt f a b a = 0 := by unfold Dt Lf cr; grind
theorem Dt_r (f : Nat → Int) (a b : Nat) : Dt f a b b = 0 := by unfold Dt Lf cr; grind
/-- Two corners on two lines that cross are one. -/
theorem two_lines {p q : Nat × Nat} (hp : p ∈ allP f n n) (hq : q ∈ allP f n n) {i k : Nat} (hl : 0 < Lf f i k) (p1 : ou f i p = 0) (p2 : ou f k p = 0) (q1 : ou f i q = 0) (q2 : ou f k q = 0) : eqc f p q := by
  obtain ⟨r1, d1⟩ := corner_red hp
  obtain ⟨r2, d2⟩ := corner_red hq
  have e1 : Lf f i k * (gX f p * gD f q - gX f q * gD f p) = 0 := by unfold ou outT at *; unfold Lf cr; grind
  have e2 : Lf f i k * (gY f p * gD f q - gY f q * gD f p) = 0 := by unfold ou outT at *; unfold Lf cr; grind
  have z1 : gX f p * gD f q = gX f q * gD f p := by rcases Int.mul_eq_zero.1 e1 with c | c <;> omega
  have z2 : gY f p * gD f q = gY f q * gD f p := by rcases Int.mul_eq_zero.1 e2 with c | c <;> omega
  exact prop_same r1 r2 d1 d2 z1 z2
theorem shows_of {p q : Nat × Nat} (hp : p ∈ allP f n n) (hq : q ∈ allP f n n) {i : Nat} (p1 : ou f i p = 0) (q1 : ou f i q = 0) (hne : ¬ eqc f p q) : Sh f n i := by
  intro k m hk hm lk lm
  refine Int.not_le.1 fun hd => hne ?_
  have key : ∀ c, c ∈ allP f n n → ou f i c = 0 → ou f k c = 0 := fun c hc h0 => by
    have t := ou_three f i k m c
    rw [h0] at t
    have dp := (corner_red hc).2
    have a1 := ou_le hc hm
    have a2 := ou_le hc hk
    have s := L_swap f m i
    have m1 := mul_zn a1 (Int.le_of_lt lk)
    have m2 := mul_zn a2 (show 0 ≤ Lf f m i by omega)
    have m3 := mul_zn hd (Int.le_of_lt dp)
    rw [Int.mul_comm] at m3
    have z : ou f k c * Lf f m i = 0 := by omega
    rcases Int.mul_eq_zero.1 z with z | z <;> omega
  exact two_lines hp hq lk p1 (key p hp p1) q1 (key q hq q1)
theorem SOk.before (S : SOk n f) {i : Nat} (hi : i < n) (sh : Sh f n i) : ∃ j, j < n ∧ Sh f n j ∧ Nx f n j i := by
  have q := S.nxtIs hi
  have sn := S.shNext hi sh q.1 q.2
  let a : Nat → Nat := fun t => Nat.rec (nxt f n i) (fun _ r => nxt f n r) t
  have hA : ∀ t, a t < n ∧ Sh f n (a t) := by
    intro t
    induction t with
    | zero => exact ⟨q.1, sn⟩
    | succ t ih =>
      have z := S.nxtIs ih.1
      exact ⟨z.1, S.shNext ih.1 ih.2 z.1 z.2⟩
  obtain ⟨t, -, ht⟩ := S.cover a (hA 0) (fun t _ h _ => S.nxtIs h) hi sh
  cases t with
  | zero =>
    have e : nxt f n i = i := ht
    have l := q.2.1
    rw [e, L_self] at l
    omega
  | succ t =>
    have z := S.nxtIs (hA t).1
    refine ⟨a t, (hA t).1, (hA t).2, ?_⟩
    have e : nxt f n (a t) = i := ht
    rw [e] at z
    exact z.2
theorem SOk.twoOn (S : SOk n f) {i : Nat} (hi : i < n) (sh : Sh f n i) : ∃ p q, p ∈ allP f n n ∧ q ∈ allP f n n ∧ ou f i p = 0 ∧ ou f i q = 0 ∧ ¬ eqc f p q := by
  have x := S.nxtIs hi
  obtain ⟨j, hj, shj, nx⟩ := S.before hi sh
  have v1 := S.vx hi sh x.1 x.2
  have v2 := S.vx hj shj hi nx
  obtain ⟨k, hk⟩ : ∃ k, nxt f n i = k := ⟨_, rfl⟩
  rw [hk] at x v1
  have m1 : ((i, k) : Nat × Nat) ∈ allP f n n := mem_allP.2 (⟨hi, x.1, v1⟩ : ((i, k) : Nat × Nat).1 < n ∧ ((i, k) : Nat × Nat).2 < n ∧ Vx f n ((i, k) : Nat × Nat).1 ((i, k) : Nat × Nat).2)
  have m2 : ((j, i) : Nat × Nat) ∈ allP f n n := mem_allP.2 (⟨hj, hi, v2⟩ : ((j, i) : Nat × Nat).1 < n ∧ ((j, i) : Nat × Nat).2 < n ∧ Vx f n ((j, i) : Nat × Nat).1 ((j, i) : Nat × Nat).2)
  refine ⟨(i, k), (j, i), m1, m2, ou_zero m1 (Dt_l f i k), ou_zero m2 (Dt_r f j i), fun e => ?_⟩
  have o1 : ou f j (j, i) = 0 := ou_zero m2 (Dt_l f j i)
  have o2 : ou f j (i, k) = 0 := by unfold ou at o1 ⊢; rw [e.1, e.2.1, e.2.2]; exact o1
  have t := ou_three f i k j (i, k)
  rw [o2, ou_zero m1 (Dt_l f i k), ou_zero m1 (Dt_r f i k)] at t
  have s := L_swap f i j
  have l := nx.1
  have d := sh k j x.1 hj x.2.1 (by omega)
  have dp := (corner_red m1).2
  have := mul_pp dp d
  omega
end Shape
end Go.Proofs.Ytealbihplfpgeaa
