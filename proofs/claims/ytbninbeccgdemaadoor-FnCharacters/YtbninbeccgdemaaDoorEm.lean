/-
  Sums of powers of the root: how often each power stands, and what that comes to. No walk.
-/
import Derived.Test.YtbninbeccgdemaaDoorCm
namespace Go.Proofs.YtbninbeccgdemaaDoor
open Go.RowKit

/-- How much of power m the first k items bring: c tells how much an item brings, p of which power. -/
def cnt (c : Nat → Int) (p : Nat → Nat) : Nat → Nat → Int
  | 0, _ => 0
  | k + 1, m => cnt c p k m + (if p k = m then c k else 0)
/-- What the first k items come to, number i of four. -/
def es (c : Nat → Int) (p : Nat → Nat) (i : Nat) : Nat → Int
  | 0 => 0
  | k + 1 => es c p i k + c k * rp (p k * 4 + i)
theorem psum_more (g : Nat → Int) (r : Nat → Int) (c : Int) (m : Nat) (N : Nat) : psum (fun j => (g j + (if m = j then c else 0)) * r j) N = psum (fun j => g j * r j) N + (if m < N then c * r m else 0) := by
  induction N with
  | zero => simp [psum]
  | succ N ih =>
    simp only [psum, ih]
    by_cases h : m = N
    · subst h
      simp [Int.add_mul]
      omega
    · by_cases h2 : m < N
      · have h3 : m < N + 1 := by omega
        simp [h, h2, h3]
        omega
      · have h3 : ¬ m < N + 1 := by omega
        simp [h, h2, h3]
theorem cnt_sum (c : Nat → Int) (p : Nat → Nat) (i : Nat) (k : Nat) (hp : ∀ j, j < k → p j < 12) : psum (term (cnt c p k) i) 12 = es c p i k := by
  induction k with
  | zero => simp [psum, term, cnt, es]
  | succ k ih =>
    have e : term (cnt c p (k + 1)) i = fun j => (cnt c p k j + (if p k = j then c k else 0)) * rp (j * 4 + i) := by
      funext j
      rfl
    rw [e, psum_more, if_pos (hp k (by omega))]
    have := ih (fun j hj => hp j (by omega))
    rw [show (fun j => cnt c p k j * rp (j * 4 + i)) = term (cnt c p k) i from rfl, this]
    rfl
theorem rp_cases {i : Nat} (h : i < 48) : rp i = -1 ∨ rp i = 0 ∨ rp i = 1 := by
  have := rp_num i h
  omega
theorem cnt_num {B : Int} (c : Nat → Int) (p : Nat → Nat) (k : Nat) (hc : ∀ j, j < k → -B ≤ c j ∧ c j ≤ B) (m : Nat) (hB : 0 ≤ B) : -(B * (k : Int)) ≤ cnt c p k m ∧ cnt c p k m ≤ B * (k : Int) := by
  induction k with
  | zero => simp [cnt]
  | succ k ih =>
    have h1 := ih (fun j hj => hc j (by omega))
    have h2 := hc k (by omega)
    have e : B * ((k + 1 : Nat) : Int) = B * (k : Int) + B := by rw [Int.natCast_add, Int.mul_add]; simp
    rw [e]
    simp only [cnt]
    split <;> omega
theorem term_num {n : Nat → Int} {i k : Nat} {B : Int} (hn : -B ≤ n k ∧ n k ≤ B) (hi : i < 4) (hk : k < 12) : -B ≤ term n i k ∧ term n i k ≤ B := by
  unfold term
  generalize n k = x at *
  rcases rp_cases (show k * 4 + i < 48 by omega) with h | h | h <;> rw [h] <;> omega
theorem psum_num {g : Nat → Int} {B : Int} {N : Nat} (h : ∀ j, j < N → -B ≤ g j ∧ g j ≤ B) : -(B * (N : Int)) ≤ psum g N ∧ psum g N ≤ B * (N : Int) := by
  induction N with
  | zero => simp [psum]
  | succ N ih =>
    have h1 := ih (fun j hj => h j (by omega))
    have h2 := h N (by omega)
    have e : B * ((N + 1 : Nat) : Int) = B * (N : Int) + B := by rw [Int.natCast_add, Int.mul_add]; simp
    rw [e]
    simp only [psum]
    omega
theorem es_num {B : Int} (c : Nat → Int) (p : Nat → Nat) (i : Nat) (hi : i < 4) (k : Nat) (hp : ∀ j, j < k → p j < 12) (hc : ∀ j, j < k → -B ≤ c j ∧ c j ≤ B) : -(B * (k : Int)) ≤ es c p i k ∧ es c p i k ≤ B * (k : Int) := by
  induction k with
  | zero => simp [es]
  | succ k ih =>
    have h1 := ih (fun j hj => hp j (by omega)) (fun j hj => hc j (by omega))
    have h2 := hc k (by omega)
    have h3 := hp k (by omega)
    have e : B * ((k + 1 : Nat) : Int) = B * (k : Int) + B := by rw [Int.natCast_add, Int.mul_add]; simp
    rw [e]
    simp only [es]
    generalize c k = x at *
    rcases rp_cases (show p k * 4 + i < 48 by omega) with h | h | h <;> rw [h] <;> omega
theorem cnt_set (c : Nat → Int) (p : Nat → Nat) (k : Nat) (hp : p k < 12) : (a12 (cnt c p k)).setIfInBounds (p k) (.int .i64 (cnt c p k (p k) + c k)) = a12 (cnt c p (k + 1)) := by
  obtain ⟨m, hm⟩ : ∃ m, p k = m := ⟨_, rfl⟩
  simp only [cnt, hm]
  rw [hm] at hp
  rcases (by omega : m = 0 ∨ m = 1 ∨ m = 2 ∨ m = 3 ∨ m = 4 ∨ m = 5 ∨ m = 6 ∨ m = 7 ∨ m = 8 ∨ m = 9 ∨ m = 10 ∨ m = 11) with rfl | rfl | rfl | rfl | rfl | rfl | rfl | rfl | rfl | rfl | rfl | rfl <;> simp
/-- Few items, all small: nothing is too great. -/
theorem cnt_fits {B : Int} (c : Nat → Int) (p : Nat → Nat) (n : Nat) (hn : n ≤ 1000) (h0 : 0 ≤ B) (hB : B ≤ 100000000000000) (hc : ∀ j, j < n → -B ≤ c j ∧ c j ≤ B) : (∀ k, k < 12 → -9000000000000000000 ≤ cnt c p n k ∧ cnt c p n k ≤ 9000000000000000000) ∧ ∀ i, i < 4 → ∀ k, k ≤ 12 → is64 (psum (term (cnt c p n) i) k) := by
  have hbn : 0 ≤ B * (n : Int) ∧ B * (n : Int) ≤ 100000000000000000 := by
    have h1 := Int.mul_le_mul_of_nonneg_right (c := (n : Int)) hB (by omega)
    have h2 := Int.mul_nonneg h0 (show 0 ≤ (n : Int) by omega)
    omega
  refine ⟨fun k hk => ?_, fun i hi k hk => ?_⟩
  · have := cnt_num c p n hc k h0
    omega
  · have := psum_num (g := term (cnt c p n) i) (B := 100000000000000000) (N := k) (fun j hj => term_num (by have := cnt_num c p n hc j h0; omega) hi (by omega))
    unfold is64
    omega
/-- The opposite's powers: the conjugate. -/
theorem rp_conj : ∀ m, m < 12 → ∀ m', m' < 12 → (m + m') % 12 = 0 → rp (m' * 4) = rp (m * 4) + rp (m * 4 + 2) ∧ rp (m' * 4 + 1) = rp (m * 4 + 1) ∧ rp (m' * 4 + 2) = -rp (m * 4 + 2) ∧ rp (m' * 4 + 3) = -rp (m * 4 + 1) - rp (m * 4 + 3) := by decide
theorem es_conj (c : Nat → Int) (p q : Nat → Nat) (k : Nat) (hp : ∀ j, j < k → p j < 12 ∧ q j < 12 ∧ (p j + q j) % 12 = 0) :
    es c q 0 k = es c p 0 k + es c p 2 k ∧ es c q 1 k = es c p 1 k ∧ es c q 2 k = -es c p 2 k ∧ es c q 3 k = -es c p 1 k - es c p 3 k := by
  induction k with
  | zero => simp [es]
  | succ k ih =>
    obtain ⟨h0, h1, h2, h3⟩ := ih (fun j hj => hp j (by omega))
    obtain ⟨a, b, c'⟩ := hp k (by omega)
    obtain ⟨r0, r1, r2, r3⟩ := rp_conj _ a _ b c'
    simp only [es, Nat.add_zero, r0, r1, r2, r3, Int.mul_add, Int.mul_sub, Int.mul_neg]
    omega
/-- How many of the first k items have power m. -/
def cntn (p : Nat → Nat) : Nat → Nat → Nat
  | 0, _ => 0
  | k + 1, m => cntn p k m + (if p k = m then 1 else 0)
theorem cnt_by {B : Int} (c : Nat → Int) (p : Nat → Nat) (k : Nat) (hc : ∀ j, j < k → -B ≤ c j ∧ c j ≤ B) (m : Nat) : -(B * (cntn p k m : Int)) ≤ cnt c p k m ∧ cnt c p k m ≤ B * (cntn p k m : Int) := by
  induction k with
  | zero => simp [cnt, cntn]
  | succ k ih =>
    have h1 := ih (fun j hj => hc j (by omega))
    have h2 := hc k (by omega)
    simp only [cnt, cntn]
    split
    · have e : B * ((cntn p k m + 1 : Nat) : Int) = B * (cntn p k m : Int) + B := by rw [Int.natCast_add, Int.mul_add]; simp
      rw [e]
      omega
    · simpa using h1
/-- How many of them come to number i, by the powers below K. -/
def wgt (p : Nat → Nat) (k i : Nat) : Nat → Nat
  | 0 => 0
  | K + 1 => wgt p k i K + cntn p k K * (rp (K * 4 + i)).natAbs
theorem psum_by {B : Int} (c : Nat → Int) (p : Nat → Nat) (k : Nat) (hc : ∀ j, j < k → -B ≤ c j ∧ c j ≤ B) (i : Nat) (hi : i < 4) (K : Nat) (hK : K ≤ 12) : -(B * (wgt p k i K : Int)) ≤ psum (term (cnt c p k) i) K ∧ psum (term (cnt c p k) i) K ≤ B * (wgt p k i K : Int) := by
  induction K with
  | zero => simp [psum, wgt]
  | succ K ih =>
    have h1 := ih (by omega)
    have h2 := cnt_by c p k hc K
    simp only [psum, wgt, term]
    rcases rp_cases (show K * 4 + i < 48 by omega) with h | h | h <;> rw [h]
    · have e : B * ((wgt p k i K + cntn p k K * Int.natAbs (-1) : Nat) : Int) = B * (wgt p k i K : Int) + B * (cntn p k K : Int) := by simp [Int.mul_add]
      rw [e]
      omega
    · simpa using h1
    · have e : B * ((wgt p k i K + cntn p k K * Int.natAbs 1 : Nat) : Int) = B * (wgt p k i K : Int) + B * (cntn p k K : Int) := by simp [Int.mul_add]
      rw [e]
      omega
/-- What items come to is linear in how much they bring. -/
theorem es_lin (M : Int) (c d : Nat → Int) (p : Nat → Nat) (i k : Nat) : es (fun j => M * c j + d j) p i k = M * es c p i k + es d p i k := by
  induction k with
  | zero => simp [es]
  | succ k ih =>
    simp only [es, ih, Int.add_mul, Int.mul_add, Int.mul_assoc]
    omega
theorem es_congr {c d : Nat → Int} {p q : Nat → Nat} {i k : Nat} (h : ∀ j, j < k → c j = d j ∧ p j = q j) : es c p i k = es d q i k := by
  induction k with
  | zero => rfl
  | succ k ih =>
    obtain ⟨h1, h2⟩ := h k (by omega)
    simp only [es, ih (fun j hj => h j (by omega)), h1, h2]
/-- Products: item t is number t / 4 of one times number t % 4 of the other. -/
def pp (t : Nat) : Nat := t / 4 + t % 4
theorem pp_few : ∀ k, k ≤ 16 → ∀ m, m < 12 → cntn pp k m ≤ 4 := by decide
theorem pp_wgt : ∀ i, i < 4 → ∀ K, K ≤ 12 → wgt pp 16 i K ≤ 6 := by decide
end Go.Proofs.YtbninbeccgdemaaDoor
