/-
  Products of cyclotomic numbers: the numbers of a product; that products hang on no bracketing; powers of the root. No walk.
-/
import Derived.Test.YthcanmnbaemdbaaDoorMr
namespace Go.Proofs.YthcanmnbaemdbaaDoor
open Go.RowKit

theorem mul_0 (a b c d x y z u : Int) : mulN (pt a b c d) (pt x y z u) 0 = a * x - b * u - c * z - d * y - d * u := by
  simp [mulN, es, pp, rp, pt]
  omega
theorem mul_1 (a b c d x y z u : Int) : mulN (pt a b c d) (pt x y z u) 1 = a * y + b * x - c * u - d * z := by
  simp [mulN, es, pp, rp, pt]
  omega
theorem mul_2 (a b c d x y z u : Int) : mulN (pt a b c d) (pt x y z u) 2 = a * z + b * y + c * x + b * u + c * z + d * y := by
  simp [mulN, es, pp, rp, pt]
  omega
theorem mul_3 (a b c d x y z u : Int) : mulN (pt a b c d) (pt x y z u) 3 = a * u + b * z + c * y + d * x + c * u + d * z := by
  simp [mulN, es, pp, rp, pt]
  omega
theorem mulT_ex (a b c d x y z u : Int) : mulT a b c d x y z u = told (a * x - b * u - c * z - d * y - d * u) (a * y + b * x - c * u - d * z) (a * z + b * y + c * x + b * u + c * z + d * y) (a * u + b * z + c * y + d * x + c * u + d * z) := by
  unfold mulT
  rw [mul_0, mul_1, mul_2, mul_3]
/-- Where a product is told, it is the product. -/
theorem mulR_yes {a b c d x y z u p q r s : Int} (h : mulR a b c d x y z u = .tuple #[cV p q r s, .bool true]) :
    p = a * x - b * u - c * z - d * y - d * u ∧ q = a * y + b * x - c * u - d * z ∧ r = a * z + b * y + c * x + b * u + c * z + d * y ∧ s = a * u + b * z + c * y + d * x + c * u + d * z := by
  unfold mulR at h
  split at h
  · rw [mulT_ex] at h
    unfold told at h
    split at h
    · simp at h
      exact ⟨h.1.1.symm, h.1.2.1.symm, h.1.2.2.1.symm, h.1.2.2.2.symm⟩
    · rename_i h1
      simp [h1] at h
  · simp at h
theorem mul_assoc4 {a b c d x y z u e f g h p q r s p' q' r' s' m0 m1 m2 m3 n0 n1 n2 n3 : Int}
    (h1 : mulR a b c d x y z u = .tuple #[cV p q r s, .bool true]) (h2 : mulR x y z u e f g h = .tuple #[cV p' q' r' s', .bool true])
    (h3 : mulR p q r s e f g h = .tuple #[cV m0 m1 m2 m3, .bool true]) (h4 : mulR a b c d p' q' r' s' = .tuple #[cV n0 n1 n2 n3, .bool true]) :
    m0 = n0 ∧ m1 = n1 ∧ m2 = n2 ∧ m3 = n3 := by
  obtain ⟨rfl, rfl, rfl, rfl⟩ := mulR_yes h1
  obtain ⟨rfl, rfl, rfl, rfl⟩ := mulR_yes h2
  obtain ⟨rfl, rfl, rfl, rfl⟩ := mulR_yes h3
  obtain ⟨rfl, rfl, rfl, rfl⟩ := mulR_yes h4
  clear h1 h2 h3 h4
  refine ⟨?_, ?_, ?_, ?_⟩ <;> grind
theorem cOk_small {a b c d : Int} (ha : -1000 ≤ a ∧ a ≤ 1000) (hb : -1000 ≤ b ∧ b ≤ 1000) (hc : -1000 ≤ c ∧ c ≤ 1000) (hd : -1000 ≤ d ∧ d ≤ 1000) : cOk a b c d = true := by
  refine (cOk_iff a b c d).2 fun i hi => ?_
  rcases (by omega : i = 0 ∨ i = 1 ∨ i = 2 ∨ i = 3) with rfl | rfl | rfl | rfl
  · show inC a; unfold inC; omega
  · show inC b; unfold inC; omega
  · show inC c; unfold inC; omega
  · show inC d; unfold inC; omega
/-- Times the root: where the numbers are small. -/
theorem mul_root {a b c d : Int} (ha : -100 ≤ a ∧ a ≤ 100) (hb : -100 ≤ b ∧ b ≤ 100) (hc : -100 ≤ c ∧ c ≤ 100) (hd : -100 ≤ d ∧ d ≤ 100) : mulR a b c d 0 1 0 0 = .tuple #[cV (-d) a (b + d) c, .bool true] := by
  have k1 : cOk a b c d = true := cOk_small (by omega) (by omega) (by omega) (by omega)
  have k2 : cOk (-d) a (b + d) c = true := cOk_small (by omega) (by omega) (by omega) (by omega)
  have k3 : cOk 0 1 0 0 = true := cOk_small (by omega) (by omega) (by omega) (by omega)
  unfold mulR
  rw [k1, k3, if_pos (by rfl), mulT_ex]
  have e0 : a * 0 - b * 0 - c * 0 - d * 1 - d * 0 = -d := by omega
  have e1 : a * 1 + b * 0 - c * 0 - d * 0 = a := by omega
  have e2 : a * 0 + b * 1 + c * 0 + b * 0 + c * 0 + d * 1 = b + d := by omega
  have e3 : a * 0 + b * 0 + c * 1 + d * 0 + c * 0 + d * 0 = c := by omega
  rw [e0, e1, e2, e3]
  unfold told
  rw [k2, if_pos (by rfl)]
/-- The numbers of 3 - w times the powers of the root, number j of power i. -/
def st (i j : Nat) : Int :=
  match i with
  | 0 => pt 3 (-1) 0 0 j
  | i + 1 => pt (-st i 3) (st i 0) (st i 1 + st i 3) (st i 2) j
theorem st_by : ∀ i, i < 13 → ∀ j, j < 4 → -100 ≤ st i j ∧ st i j ≤ 100 := by decide
theorem st_step (i : Nat) (hi : i < 12) : mulR (st i 0) (st i 1) (st i 2) (st i 3) 0 1 0 0 = .tuple #[cV (st (i + 1) 0) (st (i + 1) 1) (st (i + 1) 2) (st (i + 1) 3), .bool true] :=
  mul_root (st_by i (by omega) 0 (by decide)) (st_by i (by omega) 1 (by decide)) (st_by i (by omega) 2 (by decide)) (st_by i (by omega) 3 (by decide))
theorem st_12 : st 12 0 = 3 ∧ st 12 1 = -1 ∧ st 12 2 = 0 ∧ st 12 3 = 0 := by decide
end Go.Proofs.YthcanmnbaemdbaaDoor
