/-
  Atoms and their opposites counted. No walk.
-/
import Derived.Test.YtohboecnhneolaaEc
import Derived.Test.YtohboecnhneolaaMpA
namespace Go.Proofs.Ytohboecnhneolaa
open Go.RowKit

/-- An atom of the list. -/
def qA (f : Nat → Int) (k : Nat) : Q4A := (f (k * 4), f (k * 4 + 1), f (k * 4 + 2), f (k * 4 + 3))
/-- The atom at the opposite place. -/
def opA (x : Q4A) : Q4A := ((-x.1) % 12, (-x.2.1) % 12, (-x.2.2.1) % 12, x.2.2.2)
def rtA (x : Q4A) : Prop := (0 ≤ x.1 ∧ x.1 ≤ 11) ∧ (0 ≤ x.2.1 ∧ x.2.1 ≤ 11) ∧ (0 ≤ x.2.2.1 ∧ x.2.2.1 ≤ 11) ∧ (-1000 ≤ x.2.2.2 ∧ x.2.2.2 ≤ 1000)
theorem qA_rt {n k : Nat} {f : Nat → Int} (h : AOk n f) (hk : k < n) : rtA (qA f k) := aOk_in (h.2 k hk)
theorem rtA_sm {x : Q4A} (h : rtA x) : smA x := by
  obtain ⟨h1, h2, h3, h4⟩ := h
  exact ⟨⟨by omega, by omega⟩, ⟨by omega, by omega⟩, ⟨by omega, by omega⟩, ⟨by omega, by omega⟩⟩
theorem opA_rt {x : Q4A} (h : rtA x) : rtA (opA x) := by
  obtain ⟨h1, h2, h3, h4⟩ := h
  refine ⟨?_, ?_, ?_, h4⟩
  · show 0 ≤ (-x.1) % 12 ∧ (-x.1) % 12 ≤ 11
    omega
  · show 0 ≤ (-x.2.1) % 12 ∧ (-x.2.1) % 12 ≤ 11
    omega
  · show 0 ≤ (-x.2.2.1) % 12 ∧ (-x.2.2.1) % 12 ≤ 11
    omega
theorem opA_op {x : Q4A} (h : rtA x) : opA (opA x) = x := by
  obtain ⟨h1, h2, h3, h4⟩ := h
  refine Prod.ext ?_ (Prod.ext ?_ (Prod.ext ?_ rfl))
  · show (-((-x.1) % 12)) % 12 = x.1
    omega
  · show (-((-x.2.1) % 12)) % 12 = x.2.1
    omega
  · show (-((-x.2.2.1) % 12)) % 12 = x.2.2.1
    omega
theorem opA_iff {x y : Q4A} (hx : rtA x) (hy : rtA y) : opA x = y ↔ x = opA y :=
  ⟨fun h => by rw [← h, opA_op hx], fun h => by rw [h, opA_op hy]⟩
/-- How often an atom stands in the list, less how often its opposite does. -/
def sur (f : Nat → Int) : Nat → Q4A → Int
  | 0, _ => 0
  | k + 1, x => sur f k x + (if qA f k = x then 1 else 0) - (if opA (qA f k) = x then 1 else 0)
theorem sur_le (f : Nat → Int) (x : Q4A) : ∀ k : Nat, -(k : Int) ≤ sur f k x ∧ sur f k x ≤ k
  | 0 => by simp [sur]
  | k + 1 => by
    have h := sur_le f x k
    simp only [sur]
    split <;> split <;> omega
theorem sur_op {n : Nat} {f : Nat → Int} (h : AOk n f) {x : Q4A} (hx : rtA x) : ∀ k : Nat, k ≤ n → sur f k (opA x) = - sur f k x
  | 0, _ => rfl
  | k + 1, hk => by
    have e := sur_op h hx k (by omega)
    have hq := qA_rt h (show k < n by omega)
    have e1 : (qA f k = opA x) ↔ (opA (qA f k) = x) := (opA_iff hq hx).symm
    have e2 : (opA (qA f k) = opA x) ↔ (qA f k = x) := by rw [opA_iff hq (opA_rt hx), opA_op hx]
    simp only [sur, e]
    simp only [e1, e2]
    split <;> split <;> omega
/-- The count as the specification makes it. -/
def cns (f : Nat → Int) (a b : Q4A) : Nat → Int
  | 0 => 0
  | k + 1 => cns f a b k + (if qA f k = a then 1 else 0) - (if qA f k = b then 1 else 0)
theorem cns_le (f : Nat → Int) (a b : Q4A) : ∀ k : Nat, -(k : Int) ≤ cns f a b k ∧ cns f a b k ≤ k
  | 0 => by simp [cns]
  | k + 1 => by
    have h := cns_le f a b k
    simp only [cns]
    split <;> split <;> omega
theorem cns_sur {n : Nat} {f : Nat → Int} (h : AOk n f) {x : Q4A} (hx : rtA x) : ∀ k : Nat, k ≤ n → cns f x (opA x) k = sur f k x
  | 0, _ => rfl
  | k + 1, hk => by
    have e := cns_sur h hx k (by omega)
    have hq := qA_rt h (show k < n by omega)
    have e1 : (qA f k = opA x) ↔ (opA (qA f k) = x) := (opA_iff hq hx).symm
    simp only [sur, cns, e]
    simp only [e1]
/-- What Signed tells. -/
def SgT (n : Nat) (f : Nat → Int) : Prop := AOk n f ∧ ∀ i, i < n → sur f n (qA f i) = 0
theorem SgT.all {n : Nat} {f : Nat → Int} (h : SgT n f) {x : Q4A} (hx : ∃ i, i < n ∧ (x = qA f i ∨ x = opA (qA f i))) : sur f n x = 0 := by
  obtain ⟨i, hi, rfl | rfl⟩ := hx
  · exact h.2 i hi
  · rw [sur_op h.1 (qA_rt h.1 hi) n (Nat.le_refl _), h.2 i hi]; rfl
/-- Two steps of the map. -/
theorem sur_set {f : Nat → Int} {k : Nat} {F : Q4A → Int} (h : ∀ x, F x = sur f k x) (x : Q4A) :
    setA (setA F (qA f k) (F (qA f k) + 1)) (opA (qA f k)) (setA F (qA f k) (F (qA f k) + 1) (opA (qA f k)) - 1) x = sur f (k + 1) x := by
  simp only [setA, sur, h]
  by_cases e1 : x = opA (qA f k)
  · subst e1
    by_cases e2 : opA (qA f k) = qA f k
    · simp only [e2, if_true]
    · have e3 : ¬ qA f k = opA (qA f k) := fun e => e2 e.symm
      rw [if_pos rfl, if_neg e2, if_neg e3, if_pos rfl]; omega
  · have e3 : ¬ opA (qA f k) = x := fun e => e1 e.symm
    rw [if_neg e1, if_neg e3]
    by_cases e2 : x = qA f k
    · rw [if_pos e2, if_pos e2.symm, e2]; omega
    · have e4 : ¬ qA f k = x := fun e => e2 e.symm
      rw [if_neg e2, if_neg e4]; omega
end Go.Proofs.Ytohboecnhneolaa
