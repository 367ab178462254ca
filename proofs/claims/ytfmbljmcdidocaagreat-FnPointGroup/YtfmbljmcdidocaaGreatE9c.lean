/-
  A group turned by an operator: its mathematics; lists of operators in memory of their own, read alone. No function of the program.
-/
import Derived.Test.YtfmbljmcdidocaaGreatNQ
import Derived.Test.YtfmbljmcdidocaaGreatE9r
import Derived.Test.YtfmbljmcdidocaaGreatNI
import Derived.Test.YtfmbljmcdidocaaGreatE6c
namespace Go.Proofs.YtfmbljmcdidocaaGreat
open Go.RowKit

/-- The way back. -/
def backD (o : OpD) : OpD := ⟨9, backM o.f, 3, backV o.f o.h⟩
/-- The operator, one of the group, and the way back. -/
def wholeD (o : OpD) (A : Nat → OpD) (i : Nat) : OpD := mulD (mulD o (A i)) (backD o)
/-- All goes well. -/
def TurOk (n : Nat) (A : Nat → OpD) (o : OpD) : Prop := isG n A ∧ o.ok ∧ (backD o).ok ∧ ∀ i, i < n → (mulD o (A i)).ok ∧ (wholeD o A i).ok
/-- What has been put in. -/
structure TurI (A : Nat → OpD) (o : OpD) (i : Nat) (E : Nat → OpD) : Prop where
  so : ∀ t, t + 1 < i → ¬ 0 < lexC 12 (E t).key (E (t + 1)).key
  pe : ((List.range i).map (fun t => kV (E t).key)).Perm ((List.range i).map (fun t => kV (wholeD o A t).key))
  ok : ∀ t, t < i → (E t).ok
  all : ∀ t, t < i → (mulD o (A t)).ok ∧ (wholeD o A t).ok
theorem TurI.start (A : Nat → OpD) (o : OpD) (E : Nat → OpD) : TurI A o 0 E := ⟨fun t ht => by omega, List.Perm.refl _, fun t ht => by omega, fun t ht => by omega⟩
theorem TurI.add {A : Nat → OpD} {o : OpD} {i c : Nat} {E : Nat → OpD} (h : TurI A o i E) (h1 : (mulD o (A i)).ok) (h2 : (wholeD o A i).ok) (hc : c ≤ i) (hov : ∀ t, c ≤ t → t < i → 0 < lexC 12 (E t).key (wholeD o A i).key) (hun : c = 0 ∨ ¬ 0 < lexC 12 (E (c - 1)).key (wholeD o A i).key) : TurI A o (i + 1) (ins c E (wholeD o A i)) := by
  refine ⟨fun t ht => ?_, ?_, fun t ht => ?_, fun t ht => ?_⟩
  · rcases Nat.lt_trichotomy (t + 1) c with e | e | e
    · rw [ins_lo (by omega), ins_lo e]; exact h.so t (by omega)
    · rw [ins_lo (show t < c by omega), e, ins_at]
      rcases hun with e' | e'
      · omega
      · rwa [show c - 1 = t by omega] at e'
    · rw [ins_hi e]
      by_cases e' : t = c
      · rw [e', ins_at, show c + 1 - 1 = c by omega]
        have := lexC_pos.1 (hov c (Nat.le_refl _) (by omega))
        omega
      · rw [ins_hi (show c < t by omega)]
        have := h.so (t - 1) (by omega)
        rwa [show t - 1 + 1 = t + 1 - 1 by omega] at this
  · have e1 : (List.range (i + 1)).map (fun t => kV (ins c E (wholeD o A i) t).key) = (List.range (i + 1)).map (ins c (fun t => kV (E t).key) (kV (wholeD o A i).key)) := by
      refine List.map_congr_left (fun t _ => ?_)
      unfold ins
      split
      · rfl
      · split <;> rfl
    rw [e1]
    refine (ins_perm _ _ hc).trans ?_
    rw [List.range_succ, List.map_append, List.map_cons, List.map_nil]
    exact (h.pe.cons _).trans (List.perm_append_singleton _ _).symm
  · rcases Nat.lt_trichotomy t c with e | e | e
    · rw [ins_lo e]; exact h.ok t (by omega)
    · subst e; rw [ins_at]; exact h2
    · rw [ins_hi e]; exact h.ok _ (by omega)
  · by_cases e : t = i
    · subst e; exact ⟨h1, h2⟩
    · exact h.all t (by omega)
/-- What the specification's Turned tells. -/
def TurS (n : Nat) (A : Nat → OpD) (o : OpD) (m : Nat) (H : Nat → OpD) (b : Bool) : Prop :=
  (b = true ∧ m = n ∧ n ≤ 192 ∧ TurOk n A o ∧ TurI A o n H) ∨ (b = false ∧ m = 0 ∧ ¬ TurOk n A o)
/-- What the program's Turned tells. -/
def TurT (n : Nat) (A : Nat → OpD) (o : OpD) (m : Nat) (G : Nat → Nat → Int) (b : Bool) : Prop :=
  (b = true ∧ m = n ∧ TurOk n A o ∧ (((List.range n).map G).map kV).Perm ((List.range n).map (fun t => kV (wholeD o A t).key)) ∧ ∀ i j, i < j → j < n → ¬ lexC 12 (G j) (G i) < 0) ∨ (b = false ∧ m = 0 ∧ ¬ TurOk n A o)
theorem TurI.le {A : Nat → OpD} {o : OpD} {n : Nat} {E : Nat → OpD} (h : TurI A o n E) : ∀ i j, i < j → j < n → ¬ lexC 12 (E j).key (E i).key < 0 := by
  have tr : ∀ x y z : Nat → Int, ¬ lexC 12 y x < 0 → ¬ lexC 12 z y < 0 → ¬ lexC 12 z x < 0 := fun x y z h1 h2 h3 => by
    rcases lexC_range 12 x y with e | e | e
    · have hxy : lexC 12 x y < 0 := by omega
      exact h2 (lexC_trans h3 hxy)
    · rw [lexC_eq (f' := z) (h' := y) (fun _ _ => rfl) (lexC_zero.1 e)] at h3
      exact h2 h3
    · exact h1 (lexC_pos.1 (by omega))
  intro i j hij hj
  induction j with
  | zero => omega
  | succ j ih =>
    have h0 : ¬ lexC 12 (E (j + 1)).key (E j).key < 0 := fun e => h.so j hj (lexC_pos.2 e)
    by_cases e : i = j
    · rw [e]; exact h0
    · exact tr _ _ _ (ih (by omega) (by omega)) h0
/-- The program and the specification tell the same. -/
theorem tur_same {n m m' : Nat} {A H : Nat → OpD} {o : OpD} {G : Nat → Nat → Int} {b b' : Bool} (h1 : TurT n A o m G b) (h2 : TurS n A o m' H b') : b = b' ∧ m = m' ∧ ∀ i, i < m → kV (G i) = kV (H i).key := by
  rcases h1 with ⟨rfl, rfl, hok, hp, hs⟩ | ⟨rfl, rfl, hno⟩
  · rcases h2 with ⟨rfl, rfl, -, -, hI⟩ | ⟨rfl, -, hno⟩
    · refine ⟨rfl, rfl, ?_⟩
      have hperm : (((List.range m').map G).map kV).Perm ((List.range m').map (fun t => kV (H t).key)) := hp.trans hI.pe.symm
      have heq : ((List.range m').map G).map kV = (List.range m').map (fun t => kV (H t).key) := by
        refine List.Perm.eq_of_pairwise (le := leV) ?_ ?_ ?_ hperm
        · intro a b ha hb h1 h2
          obtain ⟨x, y, rfl, rfl, h⟩ := h1
          rw [leV_iff] at h2
          refine kV_inj.2 ?_
          rcases lexC_range 12 x y with e | e | e
          · exact absurd (by omega : lexC 12 x y < 0) h2
          · exact e
          · exact absurd (lexC_pos.1 (by omega : 0 < lexC 12 x y)) h
        · rw [List.pairwise_iff_getElem]
          intro i j hi hj hij
          simp only [List.getElem_map, List.getElem_range]
          simp at hj
          exact leV_iff.2 (hs i j hij hj)
        · rw [List.pairwise_iff_getElem]
          intro i j hi hj hij
          simp only [List.getElem_map, List.getElem_range]
          simp at hj
          exact leV_iff.2 (hI.le i j hij hj)
      intro i hi
      have : (((List.range m').map G).map kV)[i]'(by simp; omega) = ((List.range m').map (fun t => kV (H t).key))[i]'(by simp; omega) := by simp only [heq]
      simpa only [List.getElem_map, List.getElem_range] using this
    · exact absurd hok hno
  · rcases h2 with ⟨rfl, -, -, hok, -⟩ | ⟨rfl, rfl, -⟩
    · exact absurd hok hno
    · exact ⟨rfl, rfl, fun i hi => by omega⟩
end Go.Proofs.YtfmbljmcdidocaaGreat
