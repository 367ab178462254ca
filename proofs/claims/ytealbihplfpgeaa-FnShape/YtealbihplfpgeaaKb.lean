/-
  Corners as they are seen from (0, 0), turning to the left. Mathematics alone: no function of the program.
-/
import Derived.Test.YtealbihplfpgeaaKa
namespace Go.Proofs.Ytealbihplfpgeaa
open Go.RowKit Go.Shelf Go.Sort

/-- A corner's three numbers. -/
def gX (f : Nat → Int) (c : Nat × Nat) : Int := cX f c.1 c.2
def gY (f : Nat → Int) (c : Nat × Nat) : Int := cY f c.1 c.2
def gD (f : Nat → Int) (c : Nat × Nat) : Int := cD f c.1 c.2
/-- The turn from one to another. -/
def tn (f : Nat → Int) (a b : Nat × Nat) : Int := gX f a * gY f b - gY f a * gX f b
/-- The same corner. -/
def eqc (f : Nat → Int) (a b : Nat × Nat) : Prop := gX f a = gX f b ∧ gY f a = gY f b ∧ gD f a = gD f b
theorem tn_swap (f : Nat → Int) (a b : Nat × Nat) : tn f a b = -tn f b a := by unfold tn; grind
theorem tn_self (f : Nat → Int) (a : Nat × Nat) : tn f a a = 0 := by unfold tn; grind
theorem tn_P (f : Nat → Int) (a b c d : Nat × Nat) : tn f a b * tn f c d = tn f a c * tn f b d - tn f a d * tn f b c := by unfold tn; grind
theorem eqc.left {f : Nat → Int} {a b : Nat × Nat} (h : eqc f a b) (c : Nat × Nat) : tn f a c = tn f b c := by unfold tn; rw [h.1, h.2.1]
theorem eqc.right {f : Nat → Int} {a b : Nat × Nat} (h : eqc f a b) (c : Nat × Nat) : tn f c a = tn f c b := by unfold tn; rw [h.1, h.2.1]
theorem eqc.symm {f : Nat → Int} {a b : Nat × Nat} (h : eqc f a b) : eqc f b a := ⟨h.1.symm, h.2.1.symm, h.2.2.symm⟩
theorem eqc.trans {f : Nat → Int} {a b c : Nat × Nat} (h : eqc f a b) (k : eqc f b c) : eqc f a c := ⟨h.1.trans k.1, h.2.1.trans k.2.1, h.2.2.trans k.2.2⟩
/-- Three numbers that nothing above 1 divides, told by their proportions. -/
theorem gd3_scale {k x y d : Int} (hk : 0 < k) (h : gd3 (k * x) (k * y) (k * d) = k) : gd3 x y d = 1 := by
  unfold gd3 at h ⊢
  have e1 : ((Int.gcd (k * x) (k * y) : Nat) : Int) = k * ((Int.gcd x y : Nat) : Int) := by
    rw [Int.gcd_mul_left]
    have : ((k.natAbs : Nat) : Int) = k := by omega
    rw [Int.natCast_mul, this]
  rw [e1, Int.gcd_mul_left, Int.natCast_mul, show ((k.natAbs : Nat) : Int) = k by omega] at h
  have : k * ((Int.gcd ((Int.gcd x y : Nat) : Int) d : Nat) : Int) = k * 1 := by rw [h]; omega
  exact Int.eq_of_mul_eq_mul_left (Int.ne_of_gt hk) this
theorem prop_same {x y d x' y' d' : Int} (h : gd3 x y d = 1) (h' : gd3 x' y' d' = 1) (hd : 0 < d) (hd' : 0 < d') (e1 : x * d' = x' * d) (e2 : y * d' = y' * d) : x = x' ∧ y = y' ∧ d = d' := by
  have g1 : Int.gcd ((Int.gcd x y : Nat) : Int) d = 1 := by unfold gd3 at h; omega
  have g2 : Int.gcd ((Int.gcd x' y' : Nat) : Int) d' = 1 := by unfold gd3 at h'; omega
  have k1 : ((Int.gcd x y : Nat) : Int) * d' = d * ((Int.gcd x' y' : Nat) : Int) := by
    have a1 : Int.gcd (x * d') (y * d') = Int.gcd x y * d'.natAbs := Int.gcd_mul_right ..
    have a2 : Int.gcd (x' * d) (y' * d) = Int.gcd x' y' * d.natAbs := Int.gcd_mul_right ..
    rw [e1, e2, a2] at a1
    have a3 : ((Int.gcd x' y' * d.natAbs : Nat) : Int) = ((Int.gcd x y * d'.natAbs : Nat) : Int) := by rw [a1]
    rw [Int.natCast_mul, Int.natCast_mul, show ((d.natAbs : Nat) : Int) = d by omega, show ((d'.natAbs : Nat) : Int) = d' by omega] at a3
    rw [← a3, Int.mul_comm]
  rcases par g1 g2 k1 with ⟨-, e⟩ | ⟨-, e⟩
  · subst e
    exact ⟨Int.eq_of_mul_eq_mul_right (Int.ne_of_gt hd) e1, Int.eq_of_mul_eq_mul_right (Int.ne_of_gt hd) e2, rfl⟩
  · omega
section Shape
variable {n : Nat} {f : Nat → Int}
theorem corner_red {c : Nat × Nat} (h : c ∈ allP f n n) : gd3 (gX f c) (gY f c) (gD f c) = 1 ∧ 0 < gD f c := by
  have q := cn_at (mem_allP.1 h).2.2.1
  refine ⟨gd3_scale q.pos ?_, q.dp⟩
  have e : Lf f c.1 c.2 = kG f c.1 c.2 * cD f c.1 c.2 := q.dE
  have := q.kE
  rw [q.xE, q.yE, show cr (f (c.1 * 3)) (f (c.1 * 3 + 1)) (f (c.2 * 3)) (f (c.2 * 3 + 1)) = kG f c.1 c.2 * cD f c.1 c.2 from e] at this
  exact this.symm
/-- What a facet's normal tells of a corner. -/
def nm (f : Nat → Int) (i : Nat) (c : Nat × Nat) : Int := f (i * 3) * gX f c + f (i * 3 + 1) * gY f c
theorem nm_le {c : Nat × Nat} (h : c ∈ allP f n n) {i : Nat} (hi : i < n) : nm f i c ≤ f (i * 3 + 2) * gD f c := by
  have q := mem_allP.1 h
  have := (in_vx (n := n) q.2.2.1).2 q.2.2 i hi
  unfold outT at this
  unfold nm gX gY gD
  omega
theorem nm_tight {c : Nat × Nat} (h : c ∈ allP f n n) : nm f c.1 c = f (c.1 * 3 + 2) * gD f c := by
  have q := mem_allP.1 h
  have o := out_c q.2.2.1 c.1
  rw [E_self] at o
  have z := z_left (by rw [o]; rfl) (cn_at q.2.2.1).pos
  unfold outT at z
  unfold nm gX gY gD
  omega
/-- Corners on one line through (0, 0): one and the same, or on either side. -/
theorem SOk.col (S : SOk n f) {a b : Nat × Nat} (ha : a ∈ allP f n n) (hb : b ∈ allP f n n) (h : tn f a b = 0) : ∃ s t : Int, 0 < s ∧ t ≠ 0 ∧ s * gX f b = t * gX f a ∧ s * gY f b = t * gY f a ∧ (0 < t → eqc f a b) := by
  have qa := mem_allP.1 ha
  have qb := mem_allP.1 hb
  have ta := nm_tight ha
  have tb := nm_tight hb
  have ra := corner_red ha
  have rb := corner_red hb
  have pa : 0 < nm f a.1 a := by rw [ta]; exact mul_pp (S.g qa.1) ra.2
  have pb : 0 < nm f b.1 b := by rw [tb]; exact mul_pp (S.g qb.1) rb.2
  have e1 : nm f a.1 a * gX f b = nm f a.1 b * gX f a := by
    unfold tn at h; unfold nm; grind
  have e2 : nm f a.1 a * gY f b = nm f a.1 b * gY f a := by
    unfold tn at h; unfold nm; grind
  refine ⟨nm f a.1 a, nm f a.1 b, pa, fun z => ?_, e1, e2, fun tp => ?_⟩
  · rw [z, Int.zero_mul] at e1 e2
    have x0 : gX f b = 0 := by rcases Int.mul_eq_zero.1 e1 with c | c; omega; exact c
    have y0 : gY f b = 0 := by rcases Int.mul_eq_zero.1 e2 with c | c; omega; exact c
    unfold nm at pb
    rw [x0, y0] at pb
    simp at pb
  · have l1 := nm_le hb qa.1
    have l2 := nm_le ha qb.1
    -- s * P_b = t * P_a
    have m1 : nm f a.1 a * nm f b.1 b = nm f a.1 b * nm f b.1 a := by
      unfold nm at e1 e2 ⊢
      generalize gX f a = xa at *
      generalize gY f a = ya at *
      generalize gX f b = xb at *
      generalize gY f b = yb at *
      grind
    have ga := S.g qa.1
    have gb := S.g qb.1
    -- t D_a ≤ s D_b and s D_b ≤ t D_a
    have k1 : nm f a.1 b * gD f a ≤ nm f a.1 a * gD f b := by
      rw [ta]
      have := Int.mul_le_mul_of_nonneg_right l1 (Int.le_of_lt ra.2)
      have i : f (a.1 * 3 + 2) * gD f b * gD f a = f (a.1 * 3 + 2) * gD f a * gD f b := by grind
      omega
    have k2 : nm f a.1 a * gD f b ≤ nm f a.1 b * gD f a := by
      have u := Int.mul_le_mul_of_nonneg_left l2 (Int.le_of_lt tp)
      rw [← m1, tb] at u
      have i1 : nm f a.1 a * (f (b.1 * 3 + 2) * gD f b) = nm f a.1 a * gD f b * f (b.1 * 3 + 2) := by grind
      have i2 : nm f a.1 b * (f (b.1 * 3 + 2) * gD f a) = nm f a.1 b * gD f a * f (b.1 * 3 + 2) := by grind
      exact le_of_mul gb (by omega)
    have k : nm f a.1 a * gD f b = nm f a.1 b * gD f a := Int.le_antisymm k2 k1
    refine prop_same ra.1 rb.1 ra.2 rb.2 ?_ ?_
    · refine Int.eq_of_mul_eq_mul_right (Int.ne_of_gt pa) ?_
      grind
    · refine Int.eq_of_mul_eq_mul_right (Int.ne_of_gt pa) ?_
      grind
end Shape
end Go.Proofs.Ytealbihplfpgeaa
