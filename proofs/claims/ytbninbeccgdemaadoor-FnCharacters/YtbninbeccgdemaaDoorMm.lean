/-
  Products of cyclotomic numbers: the mathematics of the program's halves and of the specification's limbs. No walk.
-/
import Derived.Test.YtbninbeccgdemaaDoorEm
namespace Go.Proofs.YtbninbeccgdemaaDoor
open Go.RowKit

/-- Number i of the product. -/
def mulN (x y : Nat → Int) (i : Nat) : Int := es (fun t => x (t / 4) * y (t % 4)) pp i 16
theorem mul_split (M : Int) {x xh xl : Nat → Int} (y : Nat → Int) (h : ∀ j, j < 4 → x j = M * xh j + xl j) (i : Nat) : mulN x y i = M * mulN xh y i + mulN xl y i := by
  unfold mulN
  rw [← es_lin]
  refine es_congr fun j hj => ⟨?_, rfl⟩
  rw [h (j / 4) (by omega), Int.add_mul, Int.mul_assoc]
theorem prod_le {x y M N : Int} (hx : -M ≤ x ∧ x ≤ M) (hy : -N ≤ y ∧ y ≤ N) : -(M * N) ≤ x * y ∧ x * y ≤ M * N := by
  have h1 : x.natAbs ≤ M.natAbs := by omega
  have h2 : y.natAbs ≤ N.natAbs := by omega
  have h3 := Nat.mul_le_mul h1 h2
  rw [← Int.natAbs_mul, ← Int.natAbs_mul] at h3
  have : 0 ≤ M * N := Int.mul_nonneg (by omega) (by omega)
  omega
section
variable {x y : Nat → Int} (hx : ∀ j, j < 4 → -1000000 ≤ x j ∧ x j ≤ 1000000) (hy : ∀ j, j < 4 → -1000000000000 ≤ y j ∧ y j ≤ 1000000000000)
include hx hy
theorem item_num (t : Nat) (ht : t < 16) : -1000000000000000000 ≤ x (t / 4) * y (t % 4) ∧ x (t / 4) * y (t % 4) ≤ 1000000000000000000 := by
  have := prod_le (hx (t / 4) (by omega)) (hy (t % 4) (by omega))
  omega
theorem mul_cnt (k : Nat) (hk : k ≤ 16) (m : Nat) (hm : m < 12) : -4000000000000000000 ≤ cnt (fun t => x (t / 4) * y (t % 4)) pp k m ∧ cnt (fun t => x (t / 4) * y (t % 4)) pp k m ≤ 4000000000000000000 := by
  have h1 := cnt_by (B := 1000000000000000000) (fun t => x (t / 4) * y (t % 4)) pp k (fun j hj => item_num hx hy j (by omega)) m
  have h2 := pp_few k hk m hm
  omega
theorem mul_sums : ∀ i, i < 4 → ∀ k, k ≤ 12 → is64 (psum (term (cnt (fun t => x (t / 4) * y (t % 4)) pp 16) i) k) := by
  intro i hi k hk
  have h1 := psum_by (B := 1000000000000000000) (fun t => x (t / 4) * y (t % 4)) pp 16 (fun j hj => item_num hx hy j hj) i hi k hk
  have h2 := pp_wgt i hi k hk
  unfold is64
  omega
theorem mul_num (i : Nat) (hi : i < 4) : -6000000000000000000 ≤ mulN x y i ∧ mulN x y i ≤ 6000000000000000000 := by
  have h1 := psum_by (B := 1000000000000000000) (fun t => x (t / 4) * y (t % 4)) pp 16 (fun j hj => item_num hx hy j hj) i hi 12 (by decide)
  have h2 := pp_wgt i hi 12 (by decide)
  rw [cnt_sum _ _ _ _ (fun j hj => by unfold pp; omega)] at h1
  unfold mulN
  omega
end
/-- What the program joins of two halves. -/
def jn (h l : Int) : Int := min (max (h + l / 1000000) (-2000000)) 2000000 * 1000000 + l % 1000000
theorem jn_in (h l : Int) : (inC (jn h l) ↔ inC (1000000 * h + l)) ∧ (inC (1000000 * h + l) → jn h l = 1000000 * h + l) := by
  unfold jn inC
  omega
theorem told_jn {h0 l0 h1 l1 h2 l2 h3 l3 t0 t1 t2 t3 : Int} (e0 : t0 = 1000000 * h0 + l0) (e1 : t1 = 1000000 * h1 + l1) (e2 : t2 = 1000000 * h2 + l2) (e3 : t3 = 1000000 * h3 + l3) :
    told (jn h0 l0) (jn h1 l1) (jn h2 l2) (jn h3 l3) = told t0 t1 t2 t3 := by
  obtain ⟨a0, b0⟩ := jn_in h0 l0
  obtain ⟨a1, b1⟩ := jn_in h1 l1
  obtain ⟨a2, b2⟩ := jn_in h2 l2
  obtain ⟨a3, b3⟩ := jn_in h3 l3
  rw [← e0] at a0 b0
  rw [← e1] at a1 b1
  rw [← e2] at a2 b2
  rw [← e3] at a3 b3
  have hk : cOk (jn h0 l0) (jn h1 l1) (jn h2 l2) (jn h3 l3) = cOk t0 t1 t2 t3 := by
    unfold cOk
    rw [decide_eq_decide.2 a0, decide_eq_decide.2 a1, decide_eq_decide.2 a2, decide_eq_decide.2 a3]
  unfold told
  rw [hk]
  by_cases h : cOk t0 t1 t2 t3 = true
  · have hh := h
    simp only [cOk, Bool.and_eq_true, decide_eq_true_eq] at hh
    rw [b0 hh.1, b1 hh.2.1, b2 hh.2.2.1, b3 hh.2.2.2]
  · simp [h]
/-- The number of three limbs. -/
def wide (h m l : Int) : Int := h * 281474976710656 + m * 16777216 + l
theorem wide_plus (h m l s a b : Int) : wide (h + s * (a / 16777216) * (b / 16777216)) (m + s * (a / 16777216 * (b % 16777216) + a % 16777216 * (b / 16777216))) (l + s * (a % 16777216) * (b % 16777216)) = wide h m l + s * (a * b) := by
  have ha := Int.mul_ediv_add_emod a 16777216
  have hb := Int.mul_ediv_add_emod b 16777216
  generalize a / 16777216 = a1 at *
  generalize a % 16777216 = a0 at *
  generalize b / 16777216 = b1 at *
  generalize b % 16777216 = b0 at *
  subst ha hb
  unfold wide
  grind
/-- Small limbs. -/
def small (N h m l : Int) : Prop := (-(4000000000 * N) ≤ h ∧ h ≤ 4000000000 * N) ∧ (-(2100000000000 * N) ≤ m ∧ m ≤ 2100000000000 * N) ∧ (-(300000000000000 * N) ≤ l ∧ l ≤ 300000000000000 * N)
theorem small_plus {N h m l s a b : Int} (hs : small N h m l) (h1 : s = 1 ∨ s = -1) (ha : inC a) (hb : inC b) :
    small (N + 1) (h + s * (a / 16777216) * (b / 16777216)) (m + s * (a / 16777216 * (b % 16777216) + a % 16777216 * (b / 16777216))) (l + s * (a % 16777216) * (b % 16777216)) := by
  unfold inC at ha hb
  have u1 : -60000 ≤ a / 16777216 ∧ a / 16777216 ≤ 60000 := by omega
  have u2 : -16777216 ≤ a % 16777216 ∧ a % 16777216 ≤ 16777216 := by omega
  have v1 : -60000 ≤ b / 16777216 ∧ b / 16777216 ≤ 60000 := by omega
  have v2 : -16777216 ≤ b % 16777216 ∧ b % 16777216 ≤ 16777216 := by omega
  have p1 := prod_le u1 v1
  have p2 := prod_le u1 v2
  have p3 := prod_le u2 v1
  have p4 := prod_le u2 v2
  unfold small at *
  generalize a / 16777216 = a1 at *
  generalize a % 16777216 = a0 at *
  generalize b / 16777216 = b1 at *
  generalize b % 16777216 = b0 at *
  rcases h1 with rfl | rfl
  · simp only [Int.one_mul]
    omega
  · simp only [Int.neg_mul, Int.one_mul]
    omega
theorem wide_even (h m l : Int) : wide (h + (m + l / 16777216) / 16777216) ((m + l / 16777216) % 16777216) (l % 16777216) = wide h m l := by
  unfold wide
  omega
/-- A number whose first limb is too great is out of range. -/
theorem wide_out {h m l : Int} (hm : 0 ≤ m ∧ m < 16777216) (hl : 0 ≤ l ∧ l < 16777216) (hh : h < -4096 ∨ 4096 ≤ h) : ¬ inC (wide h m l) := by
  unfold inC wide
  omega
end Go.Proofs.YtbninbeccgdemaaDoor
