/-
  Pairs of reflections that add up: what both sides count. No function of the program.
-/
import Derived.Test.YtpelbbkkdmlmiaaT15a
namespace Go.Proofs.Ytpelbbkkdmlmiaa
open Go.RowKit

/-- How many of the first n are so. -/
def cs (p : Nat → Bool) : Nat → Nat
  | 0 => 0
  | n + 1 => cs p n + if p n then 1 else 0
/-- How many pairs, the second below n and the first below the second. -/
def ds (p : Nat → Nat → Bool) : Nat → Nat
  | 0 => 0
  | n + 1 => ds p n + cs (p n) n
/-- How many pairs, the first below i and the second behind it, below n. -/
def es (p : Nat → Nat → Bool) (n : Nat) : Nat → Nat
  | 0 => 0
  | i + 1 => es p n i + cs (fun k => decide (i < k) && p i k) n
theorem cs_le (p : Nat → Bool) : ∀ n, cs p n ≤ n
  | 0 => Nat.le_refl _
  | n + 1 => by have := cs_le p n; simp only [cs]; split <;> omega
theorem ds_le (p : Nat → Nat → Bool) : ∀ n, ds p n ≤ n * n
  | 0 => Nat.le_refl _
  | n + 1 => by
    have h1 := ds_le p n
    have h2 := cs_le (p n) n
    have h3 : (n + 1) * (n + 1) = n * n + 2 * n + 1 := by rw [Nat.add_mul, Nat.mul_add]; omega
    simp only [ds]
    omega
theorem cs_none (p : Nat → Bool) : ∀ n, (∀ k, k < n → p k = false) → cs p n = 0
  | 0, _ => rfl
  | n + 1, h => by rw [cs, cs_none p n (fun k hk => h k (by omega)), h n (by omega)]; rfl
theorem cs_same {p q : Nat → Bool} : ∀ n, (∀ k, k < n → p k = q k) → cs p n = cs q n
  | 0, _ => rfl
  | n + 1, h => by rw [cs, cs, cs_same n (fun k hk => h k (by omega)), h n (by omega)]
theorem es_more (p : Nat → Nat → Bool) (n : Nat) : ∀ i, i ≤ n → es p (n + 1) i = es p n i + cs (fun k => p k n) i
  | 0, _ => rfl
  | i + 1, h => by
    have h1 := es_more p n i (by omega)
    simp only [es, h1, cs]
    have : i < n := by omega
    simp only [this, decide_true, Bool.true_and]
    omega
theorem es_ds (p : Nat → Nat → Bool) : ∀ n, es p n n = ds (fun i k => p k i) n
  | 0 => rfl
  | n + 1 => by
    rw [ds, ← es_ds p n, es, es_more p n n (Nat.le_refl _), cs_none _ (n + 1)]
    · omega
    · intro k hk
      simp; omega
theorem ds_same {p q : Nat → Nat → Bool} : ∀ n, (∀ i k, i < n → k < i → p i k = q i k) → ds p n = ds q n
  | 0, _ => rfl
  | n + 1, h => by rw [ds, ds, ds_same n (fun i k hi hk => h i k (by omega) hk), cs_same n (fun k hk => h n k (by omega) hk)]
theorem ds_none {p : Nat → Nat → Bool} : ∀ n, (∀ i k, i < n → k < i → p i k = false) → ds p n = 0
  | 0, _ => rfl
  | n + 1, h => by rw [ds, ds_none n (fun i k hi hk => h i k (by omega) hk), cs_none _ n (fun k hk => h n k (by omega) hk)]
/-- Two of the list add up to h. -/
def adds (f : Nat → Int) (a b c : Int) (i k : Nat) : Bool := decide (f (k * 4) + f (i * 4) = a ∧ f (k * 4 + 1) + f (i * 4 + 1) = b ∧ f (k * 4 + 2) + f (i * 4 + 2) = c)
def alik (f : Nat → Int) (i k : Nat) : Bool := decide (f (k * 4 + 3) = f (i * 4 + 3))
def pP (f : Nat → Int) (a b c : Int) (i k : Nat) : Bool := adds f a b c i k && alik f i k
def pM (f : Nat → Int) (a b c : Int) (i k : Nat) : Bool := adds f a b c i k && !alik f i k
theorem adds_sym (f : Nat → Int) (a b c : Int) (i k : Nat) : adds f a b c i k = adds f a b c k i := decide_eq_decide.2 ⟨fun h => by omega, fun h => by omega⟩
theorem alik_sym (f : Nat → Int) (i k : Nat) : alik f i k = alik f k i := decide_eq_decide.2 ⟨fun h => h.symm, fun h => h.symm⟩
/-- How many pairs add up to h, alike and unlike. -/
def pl (f : Nat → Int) (n : Nat) (a b c : Int) : Nat := ds (pP f a b c) n
def mi (f : Nat → Int) (n : Nat) (a b c : Int) : Nat := ds (pM f a b c) n
theorem pl_es (f : Nat → Int) (n : Nat) (a b c : Int) : es (pP f a b c) n n = pl f n a b c := by
  rw [es_ds]
  exact ds_same n fun i k _ _ => by simp only [pP, adds_sym f a b c k i, alik_sym f k i]
theorem mi_es (f : Nat → Int) (n : Nat) (a b c : Int) : es (pM f a b c) n n = mi f n a b c := by
  rw [es_ds]
  exact ds_same n fun i k _ _ => by simp only [pM, adds_sym f a b c k i, alik_sym f k i]
theorem es_le (p : Nat → Nat → Bool) (n : Nat) : ∀ i, es p n i ≤ i * n
  | 0 => Nat.zero_le _
  | i + 1 => by
    have h1 := es_le p n i
    have h2 := cs_le (fun k => decide (i < k) && p i k) n
    rw [es, Nat.add_mul]
    omega
/-- The sums over the third reflection. -/
def tP (f : Nat → Int) (n : Nat) : Nat → Nat
  | 0 => 0
  | i + 1 => tP f n i + if f (i * 4 + 3) < 0 then mi f n (f (i * 4)) (f (i * 4 + 1)) (f (i * 4 + 2)) else pl f n (f (i * 4)) (f (i * 4 + 1)) (f (i * 4 + 2))
def tM (f : Nat → Int) (n : Nat) : Nat → Nat
  | 0 => 0
  | i + 1 => tM f n i + if f (i * 4 + 3) < 0 then pl f n (f (i * 4)) (f (i * 4 + 1)) (f (i * 4 + 2)) else mi f n (f (i * 4)) (f (i * 4 + 1)) (f (i * 4 + 2))
theorem pl_le (f : Nat → Int) (n : Nat) (a b c : Int) (hn : n ≤ 60) : pl f n a b c ≤ 3600 := Nat.le_trans (ds_le _ _) (Nat.mul_le_mul hn hn)
theorem mi_le (f : Nat → Int) (n : Nat) (a b c : Int) (hn : n ≤ 60) : mi f n a b c ≤ 3600 := Nat.le_trans (ds_le _ _) (Nat.mul_le_mul hn hn)
theorem tP_le (f : Nat → Int) (n : Nat) (hn : n ≤ 60) : ∀ i, tP f n i ≤ i * 3600
  | 0 => Nat.le_refl _
  | i + 1 => by
    have h1 := tP_le f n hn i
    have h2 := pl_le f n (f (i * 4)) (f (i * 4 + 1)) (f (i * 4 + 2)) hn
    have h3 := mi_le f n (f (i * 4)) (f (i * 4 + 1)) (f (i * 4 + 2)) hn
    rw [tP]
    split <;> omega
theorem tM_le (f : Nat → Int) (n : Nat) (hn : n ≤ 60) : ∀ i, tM f n i ≤ i * 3600
  | 0 => Nat.le_refl _
  | i + 1 => by
    have h1 := tM_le f n hn i
    have h2 := pl_le f n (f (i * 4)) (f (i * 4 + 1)) (f (i * 4 + 2)) hn
    have h3 := mi_le f n (f (i * 4)) (f (i * 4 + 1)) (f (i * 4 + 2)) hn
    rw [tM]
    split <;> omega
/-- The list is one of reflections with signs, none twice. -/
def gOk (f : Nat → Int) (i : Nat) : Prop := sOk (f (i * 4)) (f (i * 4 + 1)) (f (i * 4 + 2)) (f (i * 4 + 3)) ∧ ∀ k, k < i → ¬ same3 (f (k * 4)) (f (k * 4 + 1)) (f (k * 4 + 2)) (f (i * 4)) (f (i * 4 + 1)) (f (i * 4 + 2))
def SgOk (n : Nat) (f : Nat → Int) : Prop := n ≤ 60 ∧ ∀ i, i < n → gOk f i
theorem SgOk.hk {n : Nat} {f : Nat → Int} (h : SgOk n f) {i : Nat} (hi : i < n) : hkR (f (i * 4)) (f (i * 4 + 1)) (f (i * 4 + 2)) := (h.2 i hi).1.1
end Go.Proofs.Ytpelbbkkdmlmiaa
