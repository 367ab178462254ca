/-
  What a plan shows, as a mask. Mathematics alone: no function of the program.
-/
import Derived.Test.YtcpeaenophaphaaAt
namespace Go.Proofs.Ytcpeaenophaphaa
open Go.RowKit

/-- The reflections that stand in a plan's exposures. -/
def shw (n : Nat → Nat) (f : Nat → Nat → Int) (l : List Nat) (r : Nat) : Prop := ∃ i, i ∈ l ∧ Hs f i (n i) r
theorem shw_nil (n : Nat → Nat) (f : Nat → Nat → Int) (r : Nat) : ¬ shw n f [] r := fun ⟨_, h, _⟩ => by cases h
theorem shw_add (n : Nat → Nat) (f : Nat → Nat → Int) (l : List Nat) (k r : Nat) : shw n f (l ++ [k]) r ↔ (shw n f l r ∨ Hs f k (n k) r) := by
  constructor
  · rintro ⟨i, h, h1⟩
    rcases List.mem_append.1 h with h | h
    · exact .inl ⟨i, h, h1⟩
    · simp at h; subst h; exact .inr h1
  · rintro (⟨i, h, h1⟩ | h)
    · exact ⟨i, List.mem_append.2 (.inl h), h1⟩
    · exact ⟨k, by simp, h⟩
theorem mem_at {l : List Nat} {i : Nat} : i ∈ l ↔ ∃ j, j < l.length ∧ l.getD j 0 = i := by
  constructor
  · intro h
    obtain ⟨j, hj, e⟩ := List.getElem_of_mem h
    exact ⟨j, hj, by rw [List.getD_eq_getElem?_getD, List.getElem?_eq_getElem hj]; exact e⟩
  · rintro ⟨j, hj, rfl⟩
    rw [List.getD_eq_getElem?_getD, List.getElem?_eq_getElem hj]
    exact List.getElem_mem hj
theorem rsg_ris {N : Nat} {l : List Nat} (h : rsg N l) : Ris l.length (fun i => (toI l).getD i 0) N := by
  constructor
  · intro j hj
    have h1 := h.2 _ (mem_at.2 ⟨j, hj, rfl⟩)
    simp only [toI_at hj]
    omega
  · intro j hj
    have h1 := List.pairwise_iff_getElem.1 h.1 j (j + 1) (by omega) hj (by omega)
    simp only [toI_at (show j < l.length by omega), toI_at hj]
    rw [List.getD_eq_getElem?_getD, List.getElem?_eq_getElem (by omega), List.getD_eq_getElem?_getD, List.getElem?_eq_getElem hj]
    simp only [Option.getD_some]
    omega
/-- A plan shows everything just where it shows each reflection that stands in some exposure. -/
theorem cov_iff {N : Nat} {n : Nat → Nat} {f : Nat → Nat → Int} (hx : ExOk N n f) {l : List Nat} (h : rsg N l) : Cov N n f l ↔ ∀ r, r < 64 → (shw n f l r ↔ ∃ i, i < N ∧ Hs f i (n i) r) := by
  have e : ∀ r, (∃ j, j < l.length ∧ Hs f ((toI l).getD j 0).toNat (n ((toI l).getD j 0).toNat) r) ↔ shw n f l r := by
    intro r
    constructor
    · rintro ⟨j, hj, h1⟩
      rw [toI_at hj, Int.toNat_natCast] at h1
      exact ⟨_, mem_at.2 ⟨j, hj, rfl⟩, h1⟩
    · rintro ⟨i, hi, h1⟩
      obtain ⟨j, hj, rfl⟩ := mem_at.1 hi
      refine ⟨j, hj, ?_⟩
      rw [toI_at hj, Int.toNat_natCast]
      exact h1
  constructor
  · intro hc r hr
    exact (e r).symm.trans (hc.2.2 r hr)
  · intro hc
    exact ⟨hx, rsg_ris h, fun r hr => (e r).trans (hc r hr)⟩
/-- Its mask is that of all just where it shows everything. -/
theorem stands_iff {N : Nat} {n : Nat → Nat} {f : Nat → Nat → Int} (hx : ExOk N n f) {l : List Nat} (h : rsg N l) : msk (shw n f l) 64 = msk (fun r => ∃ i, i < N ∧ Hs f i (n i) r) 64 ↔ Cov N n f l := by
  rw [cov_iff hx h]
  exact msk_inj
theorem stands_nil (n : Nat → Nat) (f : Nat → Nat → Int) : msk (shw n f []) 64 = 0 := msk_none fun r _ => shw_nil n f r
theorem stands_add (n : Nat → Nat) (f : Nat → Nat → Int) (l : List Nat) (k : Nat) : bits .or .u64 ((msk (shw n f l) 64 : Nat) : Int) ((msk (Hs f k (n k)) 64 : Nat) : Int) = ((msk (shw n f (l ++ [k])) 64 : Nat) : Int) := by
  rw [mor, msk_congr (fun r _ => (shw_add n f l k r).symm)]
end Go.Proofs.Ytcpeaenophaphaa
