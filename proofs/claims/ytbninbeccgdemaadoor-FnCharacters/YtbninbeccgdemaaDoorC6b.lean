/-
  Characters: products of roots, sums along two rows, and traces told again. No walk but a copy.
-/
import Derived.Test.YtbninbeccgdemaaDoorC6a
import Derived.Maps.AppendAt
import Derived.Lib.SliceRun
namespace Go.Proofs.YtbninbeccgdemaaDoor
open Go.RowKit

/-- The conjugate of a power. -/
def cjx (m : Nat) : Nat := (12 - m) % 12
theorem conj_pow {m : Nat} (hm : m < 12) : conjT (rp (m * 4)) (rp (m * 4 + 1)) (rp (m * 4 + 2)) (rp (m * 4 + 3)) = rV (cjx m) := by
  rcases (by omega : m = 0 ∨ m = 1 ∨ m = 2 ∨ m = 3 ∨ m = 4 ∨ m = 5 ∨ m = 6 ∨ m = 7 ∨ m = 8 ∨ m = 9 ∨ m = 10 ∨ m = 11) with rfl | rfl | rfl | rfl | rfl | rfl | rfl | rfl | rfl | rfl | rfl | rfl <;> rfl
theorem cOk_small {a b c d : Int} (h : ∀ x ∈ [a, b, c, d], -1000000 ≤ x ∧ x ≤ 1000000) : cOk a b c d = true := by
  refine (cOk_iff a b c d).2 (fun i hi => ?_)
  have ha := h a (by simp)
  have hb := h b (by simp)
  have hc := h c (by simp)
  have hd := h d (by simp)
  rcases (by omega : i = 0 ∨ i = 1 ∨ i = 2 ∨ i = 3) with rfl | rfl | rfl | rfl
  · show inC a; exact ⟨by omega, by omega⟩
  · show inC b; exact ⟨by omega, by omega⟩
  · show inC c; exact ⟨by omega, by omega⟩
  · show inC d; exact ⟨by omega, by omega⟩
theorem told_small {a b c d : Int} (h : ∀ x ∈ [a, b, c, d], -1000000 ≤ x ∧ x ≤ 1000000) : told a b c d = .tuple #[cV a b c d, .bool true] := by
  unfold told
  rw [cOk_small h]
  rfl
theorem rp_one (i : Nat) : -1 ≤ rp i ∧ rp i ≤ 1 := by
  unfold rp
  split <;> omega
def prq (m m' : Nat) (i : Nat) : Int := mulN (pt (rp (m * 4)) (rp (m * 4 + 1)) (rp (m * 4 + 2)) (rp (m * 4 + 3))) (pt (rp (m' * 4)) (rp (m' * 4 + 1)) (rp (m' * 4 + 2)) (rp (m' * 4 + 3))) i
theorem prq_all : ∀ m, m < 12 → ∀ m', m' < 12 → ∀ i, i < 4 → prq m m' i = rp ((m + m') % 12 * 4 + i) := by decide +kernel
theorem mul_pow {m m' : Nat} (hm : m < 12) (hm' : m' < 12) : mulR (rp (m * 4)) (rp (m * 4 + 1)) (rp (m * 4 + 2)) (rp (m * 4 + 3)) (rp (m' * 4)) (rp (m' * 4 + 1)) (rp (m' * 4 + 2)) (rp (m' * 4 + 3)) = .tuple #[rV ((m + m') % 12), .bool true] := by
  have sm : ∀ k : Nat, ∀ x ∈ [rp (k * 4), rp (k * 4 + 1), rp (k * 4 + 2), rp (k * 4 + 3)], -1000000 ≤ x ∧ x ≤ 1000000 := fun k x hx => by
    have : -1 ≤ x ∧ x ≤ 1 := by
      simp only [List.mem_cons, List.not_mem_nil, or_false] at hx
      rcases hx with rfl | rfl | rfl | rfl <;> exact rp_one _
    omega
  unfold mulR
  rw [cOk_small (sm m), cOk_small (sm m')]
  simp only [Bool.and_self, if_true]
  unfold mulT
  have e := prq_all m hm m' hm'
  unfold prq at e
  rw [e 0 (by omega), e 1 (by omega), e 2 (by omega), e 3 (by omega)]
  exact told_small (sm ((m + m') % 12))
/-- The power at place j of row i by that of row k, turned round. -/
def ex (n : Int) (i k j : Nat) : Nat := (cp n i j + cjx (cp n k j)) % 12
theorem ex_lt (n : Int) (i k j : Nat) : ex n i k j < 12 := by unfold ex; omega
/-- Number c of the sum of the first j. -/
def sx (n : Int) (i k : Nat) (c : Nat) : Nat → Int
  | 0 => 0
  | j + 1 => sx n i k c j + rp (ex n i k j * 4 + c)
theorem sx_num (n : Int) (i k c : Nat) : ∀ j : Nat, -(j : Int) ≤ sx n i k c j ∧ sx n i k c j ≤ (j : Int)
  | 0 => by simp [sx]
  | j + 1 => by
    have := sx_num n i k c j
    have := rp_one (ex n i k j * 4 + c)
    unfold sx
    omega
theorem sx1 : ∀ i, i < 1 → ∀ k, k < 1 → ∀ c, c < 4 → sx 1 i k c 1 = if c = 0 ∧ i = k then 1 else 0 := by decide +kernel
theorem sx2 : ∀ i, i < 2 → ∀ k, k < 2 → ∀ c, c < 4 → sx 2 i k c 2 = if c = 0 ∧ i = k then 2 else 0 := by decide +kernel
theorem sx3 : ∀ i, i < 3 → ∀ k, k < 3 → ∀ c, c < 4 → sx 3 i k c 3 = if c = 0 ∧ i = k then 3 else 0 := by decide +kernel
theorem sx4 : ∀ i, i < 4 → ∀ k, k < 4 → ∀ c, c < 4 → sx 4 i k c 4 = if c = 0 ∧ i = k then 4 else 0 := by decide +kernel
theorem sx6 : ∀ i, i < 6 → ∀ k, k < 6 → ∀ c, c < 4 → sx 6 i k c 6 = if c = 0 ∧ i = k then 6 else 0 := by decide +kernel
theorem sx12 : ∀ i, i < 12 → ∀ k, k < 12 → ∀ c, c < 4 → sx 12 i k c 12 = if c = 0 ∧ i = k then 12 else 0 := by decide +kernel
theorem sx_all {n : Int} {N : Nat} (hN : (N : Int) = n) (h : side n) {i k c : Nat} (hi : i < N) (hk : k < N) (hc : c < 4) : sx n i k c N = if c = 0 ∧ i = k then n else 0 := by
  rcases h with rfl | rfl | rfl | rfl | rfl | rfl
  · obtain rfl : N = 1 := by omega
    exact sx1 i hi k hk c hc
  · obtain rfl : N = 2 := by omega
    exact sx2 i hi k hk c hc
  · obtain rfl : N = 3 := by omega
    exact sx3 i hi k hk c hc
  · obtain rfl : N = 4 := by omega
    exact sx4 i hi k hk c hc
  · obtain rfl : N = 6 := by omega
    exact sx6 i hi k hk c hc
  · obtain rfl : N = 12 := by omega
    exact sx12 i hi k hk c hc
/-- Number c of the sum of the first k rows' places j, each so often. -/
def ux (n : Int) (F : Nat → Int) (j c : Nat) : Nat → Int
  | 0 => 0
  | k + 1 => ux n F j c k + F k * rp (cp n k j * 4 + c)
theorem ux_num {n : Int} {F : Nat → Int} {j c : Nat} : ∀ {k : Nat}, (∀ x, x < k → -12000 ≤ F x ∧ F x ≤ 12000) → -(12000 * (k : Int)) ≤ ux n F j c k ∧ ux n F j c k ≤ 12000 * (k : Int)
  | 0, _ => by simp [ux]
  | k + 1, h => by
    have h1 := ux_num (n := n) (F := F) (j := j) (c := c) (k := k) (fun x hx => h x (by omega))
    have h2 := h k (by omega)
    have h3 : -12000 ≤ F k * rp (cp n k j * 4 + c) ∧ F k * rp (cp n k j * 4 + c) ≤ 12000 := by
      have := rp_one (cp n k j * 4 + c)
      rcases (by omega : rp (cp n k j * 4 + c) = -1 ∨ rp (cp n k j * 4 + c) = 0 ∨ rp (cp n k j * 4 + c) = 1) with e | e | e <;> rw [e] <;> omega
    unfold ux
    omega
end Go.Proofs.YtbninbeccgdemaaDoor
