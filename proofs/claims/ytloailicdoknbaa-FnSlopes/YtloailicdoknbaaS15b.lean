/-
  Slopes of a tape, forward: what they are. No walk.
-/
import Derived.Test.YtloailicdoknbaaS15a
namespace Go.Proofs.Ytloailicdoknbaa
open Go.RowKit

/-- A node's slope along input al, given those ahead of it. -/
def dnd (al : Int) (d v : Nat → Int) (op a b : Int) : Int :=
  if op = 1 then (if a = al then 1 else 0) else if op = 2 then d a.toNat + d b.toNat else if op = 3 then d a.toNat * v b.toNat + v a.toNat * d b.toNat else if op = 4 then - d a.toNat else 0
def dL (al : Int) (v f : Nat → Int) : Nat → List Int
  | 0 => []
  | k + 1 => dL al v f k ++ [mp (dnd al (fun j => (dL al v f k).getD j 0) v (f (k * 3)) (f (k * 3 + 1)) (f (k * 3 + 2)))]
def dv (al : Int) (v f : Nat → Int) (k : Nat) : Int := mp (dnd al (fun j => (dL al v f k).getD j 0) v (f (k * 3)) (f (k * 3 + 1)) (f (k * 3 + 2)))
theorem dL_eq (al : Int) (v f : Nat → Int) : ∀ k, dL al v f k = (List.range k).map (dv al v f)
  | 0 => rfl
  | k + 1 => by rw [dL, List.range_succ, List.map_append, ← dL_eq al v f k]; rfl
theorem dv_in (al : Int) (v f : Nat → Int) (k : Nat) : 0 ≤ dv al v f k ∧ dv al v f k < 12289 := mp_in _
theorem dnd_congr {d d' v : Nat → Int} {inp al : Int} {k : Nat} {op a b : Int} (h : stOk inp (k : Int) op a b) (hv : ∀ j, j < k → d j = d' j) : dnd al d v op a b = dnd al d' v op a b := by
  unfold dnd
  unfold stOk at h
  by_cases h1 : op = 1
  · rw [if_pos h1, if_pos h1]
  rw [if_neg h1, if_neg h1]
  by_cases h2 : op = 2
  · rw [if_pos h2, if_pos h2, hv _ (by omega), hv _ (by omega)]
  rw [if_neg h2, if_neg h2]
  by_cases h3 : op = 3
  · rw [if_pos h3, if_pos h3, hv _ (by omega), hv _ (by omega)]
  rw [if_neg h3, if_neg h3]
  by_cases h4 : op = 4
  · rw [if_pos h4, if_pos h4, hv _ (by omega)]
  rw [if_neg h4, if_neg h4]
theorem dv_eq (al : Int) {n : Nat} {inp : Int} {f : Nat → Int} (v : Nat → Int) (ok : TpOk n inp f) {k : Nat} (hk : k < n) : dv al v f k = mp (dnd al (dv al v f) v (f (k * 3)) (f (k * 3 + 1)) (f (k * 3 + 2))) := by
  rw [dv, dnd_congr (ok.2.2 k hk) (fun j hj => ?_)]
  rw [dL_eq]
  simp [List.getD, hj]
/-- The sum of a node's slopes times those of what it names. -/
def ss (pf D : Nat → Int) : Nat → Int
  | 0 => 0
  | j + 1 => ss pf D j + pf (j * 2 + 1) * D (pf (j * 2)).toNat
/-- The unit along input al. -/
def un (al : Nat) (j : Nat) : Int := if j = al then 1 else 0
theorem ss_dnd {inp k al : Nat} {op a b : Int} {d v : Nat → Int} (h : stOk (inp : Int) (k : Int) op a b) : ss (spF (inp : Int) op a b v) (Fx inp (un al) d) (spM op) = dnd (al : Int) d v op a b := by
  have F1 : ∀ A : Nat, ((inp : Int) + (A : Int)).toNat = inp + A := fun A => by omega
  rcases h.ways with ⟨e1, e2, A, e3, hA⟩ | ⟨e1, A, B, e2, e3, hA, hB⟩ | ⟨e1, A, B, e2, e3, hA, hB⟩ | ⟨e1, e2, A, e3, hA⟩ | ⟨e1, e2⟩
  · subst e1 e2 e3
    show 0 + 1 * Fx inp (un al) d (A : Int).toNat = if (A : Int) = (al : Int) then 1 else 0
    rw [Int.toNat_natCast, Fx_in _ _ (by omega), un]
    by_cases e : A = al
    · rw [if_pos e, if_pos (by omega)]; rfl
    · rw [if_neg e, if_neg (by omega)]; rfl
  · subst e1 e2 e3
    show 0 + 1 * Fx inp (un al) d ((inp : Int) + (A : Int)).toNat + 1 * Fx inp (un al) d ((inp : Int) + (B : Int)).toNat = d A + d B
    rw [F1, F1, Fx_at, Fx_at]
    omega
  · subst e1 e2 e3
    show 0 + v B * Fx inp (un al) d ((inp : Int) + (A : Int)).toNat + v A * Fx inp (un al) d ((inp : Int) + (B : Int)).toNat = d A * v B + v A * d B
    rw [F1, F1, Fx_at, Fx_at, Int.zero_add, Int.mul_comm (v B) (d A)]
  · subst e1 e2 e3
    show 0 + -1 * Fx inp (un al) d ((inp : Int) + (A : Int)).toNat = - d A
    rw [F1, Fx_at]
    omega
  · subst e1 e2
    rfl
theorem spM_le (op : Int) : spM op ≤ 2 := by unfold spM; split; omega; split <;> omega
/-- A slope's place lies ahead of the node; the slope is small. -/
theorem sp_in {inp k : Nat} {op a b : Int} {v : Nat → Int} (h : stOk (inp : Int) (k : Int) op a b) (hv : ∀ j, 0 ≤ v j ∧ v j < 12289) {j : Nat} (hj : j < spM op) :
    (∃ P : Nat, spF (inp : Int) op a b v (j * 2) = (P : Int) ∧ P < inp + k) ∧ -12289 ≤ spF (inp : Int) op a b v (j * 2 + 1) ∧ spF (inp : Int) op a b v (j * 2 + 1) ≤ 12289 := by
  rcases h.ways with ⟨e1, e2, A, e3, hA⟩ | ⟨e1, A, B, e2, e3, hA, hB⟩ | ⟨e1, A, B, e2, e3, hA, hB⟩ | ⟨e1, e2, A, e3, hA⟩ | ⟨e1, e2⟩
  · subst e1 e2 e3
    have : j < 1 := hj
    obtain rfl : j = 0 := by omega
    exact ⟨⟨A, rfl, by omega⟩, by show -12289 ≤ (1 : Int); omega, by show (1 : Int) ≤ 12289; omega⟩
  · subst e1 e2 e3
    have : j < 2 := hj
    obtain rfl | rfl : j = 0 ∨ j = 1 := by omega
    · exact ⟨⟨inp + A, rfl, by omega⟩, by show -12289 ≤ (1 : Int); omega, by show (1 : Int) ≤ 12289; omega⟩
    · exact ⟨⟨inp + B, rfl, by omega⟩, by show -12289 ≤ (1 : Int); omega, by show (1 : Int) ≤ 12289; omega⟩
  · subst e1 e2 e3
    have : j < 2 := hj
    have hA' := hv A
    have hB' := hv B
    obtain rfl | rfl : j = 0 ∨ j = 1 := by omega
    · exact ⟨⟨inp + A, rfl, by omega⟩, by show -12289 ≤ v B; omega, by show v B ≤ 12289; omega⟩
    · exact ⟨⟨inp + B, rfl, by omega⟩, by show -12289 ≤ v A; omega, by show v A ≤ 12289; omega⟩
  · subst e1 e2 e3
    have : j < 1 := hj
    obtain rfl : j = 0 := by omega
    exact ⟨⟨inp + A, rfl, by omega⟩, by show -12289 ≤ (-1 : Int); omega, by show (-1 : Int) ≤ 12289; omega⟩
  · subst e1 e2
    have : j < 0 := hj
    omega
theorem mulB {x y : Int} (h1 : -12289 ≤ x ∧ x ≤ 12289) (h2 : 0 ≤ y ∧ y ≤ 12289) : -151019521 ≤ x * y ∧ x * y ≤ 151019521 := by
  have a := Int.mul_le_mul_of_nonneg_right h1.2 h2.1
  have b := Int.mul_le_mul_of_nonneg_right h1.1 h2.1
  omega
/-- Partial sums are small. -/
theorem ss_in {pf D : Nat → Int} {m : Nat} (hp : ∀ j, j < m → -12289 ≤ pf (j * 2 + 1) ∧ pf (j * 2 + 1) ≤ 12289) (hD : ∀ j, j < m → 0 ≤ D (pf (j * 2)).toNat ∧ D (pf (j * 2)).toNat ≤ 12289) : ∀ j, j ≤ m → -(j : Int) * 151019521 ≤ ss pf D j ∧ ss pf D j ≤ (j : Int) * 151019521
  | 0, _ => by simp [ss]
  | j + 1, hj => by
    have h1 := ss_in hp hD j (by omega)
    have h2 := mulB (hp j (by omega)) (hD j (by omega))
    rw [ss]
    push_cast
    omega
end Go.Proofs.Ytloailicdoknbaa
