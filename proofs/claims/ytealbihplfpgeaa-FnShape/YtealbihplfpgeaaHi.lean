/-
  The greatest of some fractions; which corners there are, told two ways. Mathematics alone: no function of the program.
-/
import Derived.Test.YtealbihplfpgeaaHh
namespace Go.Proofs.Ytealbihplfpgeaa
open Go.RowKit

/-- p / q is the greatest of the first k fractions. -/
def Mx (N D : Nat → Int) (k : Nat) (p q : Int) : Prop := (∃ j, j < k ∧ p = N j ∧ q = D j) ∧ ∀ j, j < k → N j * q ≤ p * D j
theorem Mx.first (N D : Nat → Int) : Mx N D 1 (N 0) (D 0) := ⟨⟨0, by omega, rfl, rfl⟩, fun j hj => by
  obtain rfl : j = 0 := by omega
  exact Int.le_refl _⟩
theorem le_of_mul {a b c : Int} (hc : 0 < c) (h : a * c ≤ b * c) : a ≤ b := Int.le_of_mul_le_mul_right h hc
theorem Mx.upd {N D : Nat → Int} {k : Nat} {p q : Int} (h : Mx N D k p q) (hD : ∀ j, j ≤ k → 0 < D j) (hq : 0 < q) (hl : p * D k < N k * q) : Mx N D (k + 1) (N k) (D k) := by
  refine ⟨⟨k, by omega, rfl, rfl⟩, fun j hj => ?_⟩
  by_cases e : j = k
  · rw [e]; exact Int.le_refl _
  · have h1 := h.2 j (by omega)
    have m1 := Int.mul_le_mul_of_nonneg_right h1 (Int.le_of_lt (hD k (Nat.le_refl _)))
    have m2 := Int.mul_le_mul_of_nonneg_right (Int.le_of_lt hl) (Int.le_of_lt (hD j (by omega)))
    refine le_of_mul hq ?_
    have e1 : N j * D k * q = N j * q * D k := by grind
    have e2 : N k * D j * q = N k * q * D j := by grind
    have e3 : p * D j * D k = p * D k * D j := by grind
    omega
theorem Mx.stay {N D : Nat → Int} {k : Nat} {p q : Int} (h : Mx N D k p q) (hl : ¬ p * D k < N k * q) : Mx N D (k + 1) p q := by
  refine ⟨?_, fun j hj => ?_⟩
  · obtain ⟨j, h1, h2⟩ := h.1; exact ⟨j, by omega, h2⟩
  · by_cases e : j = k
    · rw [e]; omega
    · exact h.2 j (by omega)
/-- How far the corner p lies in the direction (x, y): number and part. -/
def vN (f : Nat → Int) (x y : Int) (p : Nat × Nat) : Int := x * cX f p.1 p.2 + y * cY f p.1 p.2
def vD (f : Nat → Int) (p : Nat × Nat) : Int := cD f p.1 p.2
/-- The greatest among all corners. -/
def Sup (f : Nat → Int) (n : Nat) (x y p q : Int) : Prop := (∃ c, c ∈ allP f n n ∧ p = vN f x y c ∧ q = vD f c) ∧ ∀ c, c ∈ allP f n n → vN f x y c * q ≤ p * vD f c
section Shape
variable {n : Nat} {f : Nat → Int}
theorem vD_pos {c : Nat × Nat} (h : 0 < Lf f c.1 c.2) : 0 < vD f c := (cn_at h).dp
theorem pt_same {a b i k : Nat} (h1 : Dt f a b i = 0) (h2 : Dt f a b k = 0) (l1 : 0 < Lf f a b) (l2 : 0 < Lf f i k) : cX f a b * cD f i k = cX f i k * cD f a b ∧ cY f a b * cD f i k = cY f i k * cD f a b := by
  have o1 := out_dt f a b i
  have o2 := out_dt f a b k
  rw [h1] at o1
  rw [h2] at o2
  have q1 := cn_at l1
  have q2 := cn_at l2
  have e1 := q1.xE
  have e2 := q1.yE
  have e3 : Lf f a b = kG f a b * cD f a b := q1.dE
  have f1 := q2.xE
  have f2 := q2.yE
  have f3 : Lf f i k = kG f i k * cD f i k := q2.dE
  have kp := mul_pp q1.pos q2.pos
  unfold outT at o1 o2
  have A : mX (f (a * 3 + 1)) (f (a * 3 + 2)) (f (b * 3 + 1)) (f (b * 3 + 2)) * Lf f i k = mX (f (i * 3 + 1)) (f (i * 3 + 2)) (f (k * 3 + 1)) (f (k * 3 + 2)) * Lf f a b := by
    generalize mX (f (a * 3 + 1)) (f (a * 3 + 2)) (f (b * 3 + 1)) (f (b * 3 + 2)) = U at o1 o2 ⊢
    generalize mY (f (a * 3)) (f (a * 3 + 2)) (f (b * 3)) (f (b * 3 + 2)) = V at o1 o2
    generalize Lf f a b = W at o1 o2 ⊢
    unfold mX Lf cr
    grind
  have B : mY (f (a * 3)) (f (a * 3 + 2)) (f (b * 3)) (f (b * 3 + 2)) * Lf f i k = mY (f (i * 3)) (f (i * 3 + 2)) (f (k * 3)) (f (k * 3 + 2)) * Lf f a b := by
    generalize mX (f (a * 3 + 1)) (f (a * 3 + 2)) (f (b * 3 + 1)) (f (b * 3 + 2)) = U at o1 o2
    generalize mY (f (a * 3)) (f (a * 3 + 2)) (f (b * 3)) (f (b * 3 + 2)) = V at o1 o2 ⊢
    generalize Lf f a b = W at o1 o2 ⊢
    unfold mY Lf cr
    grind
  rw [e1, f1, f3, e3] at A
  rw [e2, f2, f3, e3] at B
  constructor
  · refine Int.eq_of_mul_eq_mul_right (Int.ne_of_gt kp) ?_
    grind
  · refine Int.eq_of_mul_eq_mul_right (Int.ne_of_gt kp) ?_
    grind
/-- A corner is told by a facet that shows and the next one. -/
theorem SOk.told (S : SOk n f) {a0 : Nat} (ha : a0 < n) (sh : Sh f n a0) {c : Nat × Nat} (hc : c ∈ allP f n n) : ∃ c', c' ∈ sqP f n a0 (shl f n).length ∧ c' ∈ allP f n n ∧ cX f c.1 c.2 * vD f c' = cX f c'.1 c'.2 * vD f c ∧ cY f c.1 c.2 * vD f c' = cY f c'.1 c'.2 * vD f c := by
  obtain ⟨h1, h2, h3⟩ := mem_allP.1 hc
  obtain ⟨i, k, hi, hk, shi, nx, d1, d2⟩ := S.corner h1 h2 h3
  obtain ⟨t, ht, e⟩ := S.cover (sq f n a0) ⟨ha, sh⟩ (fun t _ hl _ => S.nxtIs hl) hi shi
  have e2 : k = nxt f n i := by
    have q := S.nxtIs hi
    exact S.nxOne q.1 hk q.2 nx
  refine ⟨(i, k), ?_, mem_allP.2 ⟨hi, hk, S.vx hi shi hk nx⟩, ?_⟩
  · rw [sqP, List.mem_map]
    exact ⟨t, List.mem_range.2 ht, by rw [e, e2, ← e]; rfl⟩
  · exact pt_same d1 d2 h3.1 nx.1
theorem SOk.sqP_in (S : SOk n f) {a0 : Nat} (ha : a0 < n) (sh : Sh f n a0) {M : Nat} {c : Nat × Nat} (hc : c ∈ sqP f n a0 M) : c ∈ allP f n n := by
  rw [sqP, List.mem_map] at hc
  obtain ⟨t, -, rfl⟩ := hc
  have q := S.sqIs ha sh t
  have q2 := S.nxtIs q.1
  exact mem_allP.2 ⟨q.1, q2.1, S.vx q.1 q.2 q2.1 q2.2⟩
theorem allP_pos {c : Nat × Nat} (hc : c ∈ allP f n n) : 0 < vD f c := vD_pos (mem_allP.1 hc).2.2.1
theorem Sup.one {x y p q p' q' : Int} (h : Sup f n x y p q) (h' : Sup f n x y p' q') : p * q' = p' * q := by
  obtain ⟨⟨c, hc, rfl, rfl⟩, h2⟩ := h
  obtain ⟨⟨c', hc', rfl, rfl⟩, h2'⟩ := h'
  have a1 := h2 c' hc'
  have a2 := h2' c hc
  omega
/-- The greatest among those that are told is the greatest of all. -/
theorem SOk.sup (S : SOk n f) {a0 : Nat} (ha : a0 < n) (sh : Sh f n a0) {x y p q : Int} (h1 : ∃ c, c ∈ sqP f n a0 (shl f n).length ∧ p = vN f x y c ∧ q = vD f c) (h2 : ∀ c, c ∈ sqP f n a0 (shl f n).length → vN f x y c * q ≤ p * vD f c) : Sup f n x y p q := by
  refine ⟨?_, fun c hc => ?_⟩
  · obtain ⟨c, hc, e⟩ := h1
    exact ⟨c, S.sqP_in ha sh hc, e⟩
  · obtain ⟨c', hc', hc2, e1, e2⟩ := S.told ha sh hc
    have k1 := h2 c' hc'
    have p1 := allP_pos hc
    have p2 := allP_pos hc2
    refine le_of_mul p2 ?_
    have m1 := Int.mul_le_mul_of_nonneg_right k1 (Int.le_of_lt p1)
    have e3 : vN f x y c * vD f c' = vN f x y c' * vD f c := by
      unfold vN
      generalize cX f c.1 c.2 = A at e1 ⊢
      generalize cY f c.1 c.2 = B at e2 ⊢
      generalize cX f c'.1 c'.2 = C at e1 ⊢
      generalize cY f c'.1 c'.2 = D at e2 ⊢
      grind
    have e4 : vN f x y c * q * vD f c' = vN f x y c' * q * vD f c := by grind
    have e5 : p * vD f c * vD f c' = p * vD f c' * vD f c := by grind
    omega
/-- There is a corner, and a facet that shows. -/
theorem shape_some (S : SOk n f) : ∃ a, a < n ∧ Sh f n a := by
  have h0 : 0 < n := by have := S.lo; omega
  have d0 := S.dd h0
  obtain ⟨j, hj, pj, hb⟩ := best (P := fun j => j < n ∧ 0 < dd f 0 j) (R := fun a b => f (a * 3 + 2) * dd f 0 b ≤ f (b * 3 + 2) * dd f 0 a)
    (fun a b _ _ => by omega)
    (fun a b c pa pb pc r1 r2 => by
      have m1 := Int.mul_le_mul_of_nonneg_right r1 (Int.le_of_lt pc.2)
      have m2 := Int.mul_le_mul_of_nonneg_right r2 (Int.le_of_lt pa.2)
      refine le_of_mul pb.2 ?_
      have e1 : f (a * 3 + 2) * dd f 0 c * dd f 0 b = f (a * 3 + 2) * dd f 0 b * dd f 0 c := by grind
      have e2 : f (c * 3 + 2) * dd f 0 a * dd f 0 b = f (c * 3 + 2) * dd f 0 b * dd f 0 a := by grind
      have e3 : f (b * 3 + 2) * dd f 0 a * dd f 0 c = f (b * 3 + 2) * dd f 0 c * dd f 0 a := by grind
      omega) n ⟨0, h0, h0, d0⟩
  have slack : ∀ m, m < n → f (j * 3 + 2) * dd f 0 m ≤ f (m * 3 + 2) * dd f 0 j := fun m hm => by
    by_cases c : 0 < dd f 0 m
    · exact hb m hm ⟨hm, c⟩
    · have m1 := mul_nz (Int.le_of_lt (S.g hj)) (show dd f 0 m ≤ 0 by omega)
      have m2 := mul_pp (S.g hm) pj.2
      omega
  obtain ⟨k, hk, nx⟩ := S.next hj
  have v : Vx f n j k := by
    refine ⟨nx.1, fun m hm => ?_⟩
    rcases Int.lt_trichotomy (Lf f j m) 0 with h | h | h
    · have i : Dt f j k m * dd f 0 j = (f (m * 3 + 2) * dd f 0 j - f (j * 3 + 2) * dd f 0 m) * Lf f j k - (f (k * 3 + 2) * dd f 0 j - f (j * 3 + 2) * dd f 0 k) * Lf f j m := by
        unfold Dt dd dtT Lf cr; grind
      have s1 := slack m hm
      have s2 := slack k hk
      have m1 := mul_nn (a := f (m * 3 + 2) * dd f 0 j - f (j * 3 + 2) * dd f 0 m) (by omega) (Int.le_of_lt nx.1)
      have m2 := mul_nz (a := f (k * 3 + 2) * dd f 0 j - f (j * 3 + 2) * dd f 0 k) (by omega) (Int.le_of_lt h)
      exact nn_left (b := dd f 0 j) (by omega) pj.2
    · rcases S.line hj hm h with rfl | ⟨h1, h2⟩
      · rw [E_self]; exact Int.le_refl _
      · have e1 := opp_L h1 h2 k
        unfold Dt
        rw [e1, h]
        have m1 := mul_pp (S.g hj) nx.1
        have m2 := mul_pp (S.g hm) nx.1
        omega
    · have := nx.2 m hm h
      omega
  obtain ⟨i, k', hi, -, sh, -⟩ := S.corner hj hk v
  exact ⟨i, hi, sh⟩
end Shape
/-- A fraction's two numbers, nothing above 1 dividing both: the same for fractions that are the same. -/
theorem red_same {p q p' q' : Int} (hq : 0 < q) (hq' : 0 < q') (h : p * q' = p' * q) : p.tdiv (Int.gcd p q : Nat) = p'.tdiv (Int.gcd p' q' : Nat) ∧ q.tdiv (Int.gcd p q : Nat) = q'.tdiv (Int.gcd p' q' : Nat) := by
  have part : ∀ {p q : Int}, 0 < q → ∃ g a b : Int, ((Int.gcd p q : Nat) : Int) = g ∧ 0 < g ∧ p = g * a ∧ q = g * b ∧ Int.gcd a b = 1 ∧ 0 < b := fun {p q} hq => by
    obtain ⟨a, ha⟩ := Int.gcd_dvd_left p q
    obtain ⟨b, hb⟩ := Int.gcd_dvd_right p q
    have gp : 0 < Int.gcd p q := Nat.pos_of_ne_zero (fun e => by rw [e] at hb; simp at hb; omega)
    have gp' : (0 : Int) < ((Int.gcd p q : Nat) : Int) := by omega
    refine ⟨_, a, b, rfl, gp', ha, hb, ?_, pos_left (b := ((Int.gcd p q : Nat) : Int)) (by rw [Int.mul_comm, ← hb]; exact hq) gp'⟩
    have e : Int.gcd p q = Int.gcd p q * Int.gcd a b := by
      have := Int.gcd_mul_left ((Int.gcd p q : Nat) : Int) a b
      rw [← ha, ← hb] at this
      simpa using this
    exact Nat.eq_of_mul_eq_mul_left gp (by rw [← e]; omega)
  obtain ⟨g, a, b, hg, gp, rfl, rfl, c1, bp⟩ := part (p := p) hq
  obtain ⟨g', a', b', hg', gp', rfl, rfl, c2, bp'⟩ := part (p := p') hq'
  rw [hg, hg', Int.mul_tdiv_cancel_left _ (by omega), Int.mul_tdiv_cancel_left _ (by omega), Int.mul_tdiv_cancel_left _ (by omega), Int.mul_tdiv_cancel_left _ (by omega)]
  have e : a * b' = b * a' := by
    refine Int.eq_of_mul_eq_mul_right (Int.ne_of_gt (mul_pp gp gp')) ?_
    grind
  rcases par c1 c2 e with ⟨rfl, rfl⟩ | ⟨-, e2⟩
  · exact ⟨rfl, rfl⟩
  · omega
end Go.Proofs.Ytealbihplfpgeaa
