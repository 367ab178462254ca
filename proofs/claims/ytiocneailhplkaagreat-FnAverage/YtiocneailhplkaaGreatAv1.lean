/-
  Averages: places and points of a map, sums over a group's operators, the share. No function of the program.
-/
import Derived.Test.YtiocneailhplkaaGreatB17a
import Derived.Test.YtiocneailhplkaaGreatPa
namespace Go.Proofs.YtiocneailhplkaaGreat
open Go.RowKit

/-- How many twenty-fourths a place is wide. -/
def byN (N : Int) : Int := 24 / N
/-- Where place k lies. -/
def pnN (N : Int) (k : Nat) : T3 := (byN N * ((k : Int) % N), byN N * ((k : Int) / N % N), byN N * ((k : Int) / N / N))
/-- No point between places. -/
def fitN (N : Int) (p : T3) : Prop := p.1 % byN N = 0 ∧ p.2.1 % byN N = 0 ∧ p.2.2 % byN N = 0
instance (N : Int) (p : T3) : Decidable (fitN N p) := by unfold fitN; infer_instance
/-- The number of the place at a point. -/
def nmN (N : Int) (p : T3) : Int := (p.2.2 / byN N * N + p.2.1 / byN N) * N + p.1 / byN N
theorem byN_is {N : Int} (h : side N) : byN N * N = 24 ∧ 2 ≤ byN N ∧ byN N ≤ 24 := by
  rcases h with rfl | rfl | rfl | rfl | rfl | rfl <;> decide
theorem pnN_in {N : Int} (h : side N) {k : Nat} (hk : (k : Int) < N * N * N) : inT (pnN N k) := by
  show inP _ _ _
  unfold inP pnN
  simp only
  rcases h with rfl | rfl | rfl | rfl | rfl | rfl
  · rw [show byN 1 = 24 by decide]; omega
  · rw [show byN 2 = 12 by decide]; omega
  · rw [show byN 3 = 8 by decide]; omega
  · rw [show byN 4 = 6 by decide]; omega
  · rw [show byN 6 = 4 by decide]; omega
  · rw [show byN 12 = 2 by decide]; omega
theorem nmN_lt {N : Int} (h : side N) {p : T3} (hp : inT p) : (0 ≤ p.1 / byN N ∧ p.1 / byN N < N) ∧ (0 ≤ p.2.1 / byN N ∧ p.2.1 / byN N < N) ∧ (0 ≤ p.2.2 / byN N ∧ p.2.2 / byN N < N) ∧ 0 ≤ nmN N p ∧ nmN N p < N * N * N := by
  obtain ⟨x, y, z⟩ := p
  have h' : inP x y z := hp
  unfold inP at h'
  unfold nmN
  simp only
  rcases h with rfl | rfl | rfl | rfl | rfl | rfl
  · rw [show byN 1 = 24 by decide]; omega
  · rw [show byN 2 = 12 by decide]; omega
  · rw [show byN 3 = 8 by decide]; omega
  · rw [show byN 4 = 6 by decide]; omega
  · rw [show byN 6 = 4 by decide]; omega
  · rw [show byN 12 = 2 by decide]; omega
theorem nm_pn {N : Int} (h : side N) {k : Nat} (hk : (k : Int) < N * N * N) : fitN N (pnN N k) ∧ nmN N (pnN N k) = k := by
  unfold fitN nmN pnN
  simp only
  rcases h with rfl | rfl | rfl | rfl | rfl | rfl
  · rw [show byN 1 = 24 by decide]; omega
  · rw [show byN 2 = 12 by decide]; omega
  · rw [show byN 3 = 8 by decide]; omega
  · rw [show byN 4 = 6 by decide]; omega
  · rw [show byN 6 = 4 by decide]; omega
  · rw [show byN 12 = 2 by decide]; omega
theorem pn_nm {N : Int} (h : side N) {p : T3} (hp : inT p) (hf : fitN N p) : pnN N (nmN N p).toNat = p := by
  have h0 := (nmN_lt h hp).2.2.2.1
  obtain ⟨x, y, z⟩ := p
  have h' : inP x y z := hp
  unfold inP at h'
  unfold fitN at hf
  simp only at hf
  have e : ((nmN N (x, y, z)).toNat : Int) = nmN N (x, y, z) := by omega
  unfold pnN
  rw [e]
  unfold nmN
  simp only
  rcases h with rfl | rfl | rfl | rfl | rfl | rfl
  · rw [show byN 1 = 24 by decide] at hf ⊢; refine Prod.ext ?_ (Prod.ext ?_ ?_) <;> simp only <;> omega
  · rw [show byN 2 = 12 by decide] at hf ⊢; refine Prod.ext ?_ (Prod.ext ?_ ?_) <;> simp only <;> omega
  · rw [show byN 3 = 8 by decide] at hf ⊢; refine Prod.ext ?_ (Prod.ext ?_ ?_) <;> simp only <;> omega
  · rw [show byN 4 = 6 by decide] at hf ⊢; refine Prod.ext ?_ (Prod.ext ?_ ?_) <;> simp only <;> omega
  · rw [show byN 6 = 4 by decide] at hf ⊢; refine Prod.ext ?_ (Prod.ext ?_ ?_) <;> simp only <;> omega
  · rw [show byN 12 = 2 by decide] at hf ⊢; refine Prod.ext ?_ (Prod.ext ?_ ?_) <;> simp only <;> omega
/-- Where operator i takes place k. -/
def goN (N : Int) (A : Nat → OpD) (k i : Nat) : T3 := aK (A i).key (pnN N k)
/-- The sum over some operators. -/
def avL (N : Int) (A : Nat → OpD) (f : Nat → Int) (k : Nat) (js : List Nat) : Int := (js.map (fun i => f (nmN N (goN N A k i)).toNat)).sum
theorem avL_snoc (N : Int) (A : Nat → OpD) (f : Nat → Int) (k : Nat) (js : List Nat) (i : Nat) : avL N A f k (js ++ [i]) = avL N A f k js + f (nmN N (goN N A k i)).toNat := by
  unfold avL
  rw [List.map_append, List.sum_append]
  simp
theorem avL_range (N : Int) (A : Nat → OpD) (f : Nat → Int) (k i : Nat) : avL N A f k (List.range (i + 1)) = avL N A f k (List.range i) + f (nmN N (goN N A k i)).toNat := by
  rw [List.range_succ, avL_snoc]
theorem avL_le {N : Int} {A : Nat → OpD} {f : Nat → Int} {k len : Nat} (hN : side N) (hl : (len : Int) = N * N * N) (hf : ∀ i, i < len → 0 ≤ f i ∧ f i ≤ 12288) : ∀ js : List Nat, 0 ≤ avL N A f k js ∧ avL N A f k js ≤ 12288 * js.length
  | [] => by unfold avL; simp
  | i :: js => by
    have ih := avL_le hN hl hf (A := A) (k := k) js
    have h1 := nmN_lt hN (p := goN N A k i) (aK_in _ _)
    have h2 := hf (nmN N (goN N A k i)).toNat (by omega)
    have e : avL N A f k (i :: js) = f (nmN N (goN N A k i)).toNat + avL N A f k js := by unfold avL; simp
    rw [e, List.length_cons]
    omega
/-- Residues to a power, as both sides reckon it. -/
def pwF : Nat → Int → Int → Int → Int
  | 0, out, _, _ => out
  | t + 1, out, b, e => if e ≤ 0 then out else pwF t (if e % 2 = 1 then out * b % 12289 else out) (b * b % 12289) (e / 2)
/-- One by a residue. -/
def shN (n : Nat) : Int := pwF 14 1 n 12287
theorem pwF_lt : ∀ (t : Nat) (out b e : Int), 0 ≤ out ∧ out < 12289 → 0 ≤ pwF t out b e ∧ pwF t out b e < 12289
  | 0, out, b, e, h => h
  | t + 1, out, b, e, h => by
    unfold pwF
    split
    · exact h
    · refine pwF_lt t _ _ _ ?_
      split
      · omega
      · exact h
theorem shN_lt (n : Nat) : 0 ≤ shN n ∧ shN n < 12289 := pwF_lt _ _ _ _ (by omega)
theorem shN_inv : ∀ n : Nat, n < 193 → n ≠ 0 → (n : Int) * shN n % 12289 = 1 := by
  have h : ∀ n ∈ List.range 193, n ≠ 0 → (n : Int) * shN n % 12289 = 1 := by decide +kernel
  exact fun n hn h0 => h n (List.mem_range.2 hn) h0
/-- The average's numbers. -/
def avF (N : Int) (n : Nat) (A : Nat → OpD) (f : Nat → Int) (k : Nat) : Int := avL N A f k (List.range n) * shN n % 12289
theorem avF_lt (N : Int) (n : Nat) (A : Nat → OpD) (f : Nat → Int) (k : Nat) : 0 ≤ avF N n A f k ∧ avF N n A f k ≤ 12288 := by unfold avF; omega
/-- All places come to places. -/
def goodN (N : Int) (n len : Nat) (A : Nat → OpD) : Prop := ∀ k, k < len → ∀ i, i < n → fitN N (goN N A k i)
end Go.Proofs.YtiocneailhplkaaGreat
