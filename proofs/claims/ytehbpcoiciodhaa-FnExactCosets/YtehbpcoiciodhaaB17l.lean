/-
  A group within a group: its number divides the greater one's. No function of the program.
-/
import Derived.Test.YtehbpcoiciodhaaNC
import Derived.Test.YtehbpcoiciodhaaMN
import Derived.Test.YtehbpcoiciodhaaNB
namespace Go.Proofs.Ytehbpcoiciodhaa
open Go.RowKit

/-- A sum of numbers. -/
def sumL (f : Nat → Nat) : Nat → Nat
  | 0 => 0
  | m + 1 => sumL f m + f m
theorem sumL_add (f g : Nat → Nat) : ∀ m, sumL (fun t => f t + g t) m = sumL f m + sumL g m
  | 0 => rfl
  | m + 1 => by
    unfold sumL
    rw [sumL_add f g m]
    omega
theorem sumL_zero {f : Nat → Nat} : ∀ {m : Nat}, (∀ t, t < m → f t = 0) → sumL f m = 0
  | 0, _ => rfl
  | m + 1, h => by
    unfold sumL
    rw [sumL_zero (m := m) (fun t ht => h t (by omega)), h m (by omega)]
theorem sumL_one {f : Nat → Nat} {t0 : Nat} : ∀ {m : Nat}, t0 < m → (∀ t, t < m → f t = if t = t0 then 1 else 0) → sumL f m = 1
  | 0, h, _ => absurd h (Nat.not_lt_zero _)
  | m + 1, h, hf => by
    unfold sumL
    by_cases e : t0 = m
    · rw [hf m (by omega), if_pos e.symm, sumL_zero (fun t ht => by rw [hf t (by omega), if_neg (by omega)])]
    · rw [hf m (by omega), if_neg (fun h' => e h'.symm), sumL_one (t0 := t0) (m := m) (by omega) (fun t ht => hf t (by omega))]
theorem sumL_dvd {f : Nat → Nat} {d : Nat} : ∀ {m : Nat}, (∀ t, t < m → f t = 0 ∨ f t = d) → d ∣ sumL f m
  | 0, _ => Nat.dvd_zero d
  | m + 1, h => by
    unfold sumL
    refine Nat.dvd_add (sumL_dvd (m := m) (fun t ht => h t (by omega))) ?_
    rcases h m (by omega) with e | e
    · rw [e]; exact Nat.dvd_zero d
    · rw [e]; exact Nat.dvd_refl d
/-- All numbers below n, parted by what a function tells of them. -/
theorem kN_split {r : Nat → Nat} {M : Nat} : ∀ {n : Nat}, (∀ i, i < n → r i < M) → sumL (fun t => kN (fun i => decide (r i = t)) n) M = n
  | 0, _ => sumL_zero (fun t _ => rfl)
  | n + 1, h => by
    have e : ∀ t, kN (fun i => decide (r i = t)) (n + 1) = kN (fun i => decide (r i = t)) n + if t = r n then 1 else 0 := fun t => by
      by_cases c : r n = t
      · rw [kN_yes (P := fun i => decide (r i = t)) (decide_eq_true c), if_pos c.symm]
      · rw [kN_no (P := fun i => decide (r i = t)) (decide_eq_false c), if_neg (fun x => c x.symm), Nat.add_zero]
    have e' : sumL (fun t => kN (fun i => decide (r i = t)) (n + 1)) M = sumL (fun t => kN (fun i => decide (r i = t)) n + if t = r n then 1 else 0) M := congrArg (fun f => sumL f M) (funext e)
    rw [e', sumL_add, kN_split (n := n) (fun i hi => h i (by omega)), sumL_one (h n (by omega)) (fun t _ => rfl)]
/-- As many as a function of the numbers below m, no two to one, meets. -/
theorem kN_image {n m : Nat} {s : Nat → Nat} {P : Nat → Bool} (h1 : ∀ t, t < m → s t < n ∧ P (s t) = true) (h2 : ∀ t t', t < m → t' < m → s t = s t' → t = t') (h3 : ∀ i, i < n → P i = true → ∃ t, t < m ∧ s t = i) : kN P n = m := by
  have nd : ((List.range m).map s).Nodup := by
    rw [List.Nodup, List.pairwise_iff_getElem]
    intro i j hi hj hij
    simp only [List.getElem_map, List.getElem_range]
    simp at hi hj
    intro e
    have := h2 i j hi hj e
    omega
  have nk : (kL P n).Nodup := List.Pairwise.filter _ List.nodup_range
  have hp : ((List.range m).map s).Perm (kL P n) := by
    refine (List.perm_ext_iff_of_nodup nd nk).2 (fun a => ⟨fun h => ?_, fun h => ?_⟩)
    · obtain ⟨t, ht, rfl⟩ := List.mem_map.1 h
      obtain ⟨x1, x2⟩ := h1 t (List.mem_range.1 ht)
      exact List.mem_filter.2 ⟨List.mem_range.2 x1, x2⟩
    · obtain ⟨x1, x2⟩ := List.mem_filter.1 h
      obtain ⟨t, ht, e⟩ := h3 a (List.mem_range.1 x1) x2
      exact List.mem_map.2 ⟨t, List.mem_range.2 ht, e⟩
  unfold kN
  rw [← hp.length_eq]
  simp
/-- The least number below n of which something holds, or n. -/
noncomputable def leastN (P : Nat → Prop) : Nat → Nat
  | 0 => 0
  | n + 1 => @ite _ (∃ i, i < n ∧ P i) (Classical.propDecidable _) (leastN P n) n
theorem leastN_at {P : Nat → Prop} : ∀ {n : Nat}, (∃ i, i < n ∧ P i) → leastN P n < n ∧ P (leastN P n)
  | 0, h => by obtain ⟨i, h, -⟩ := h; exact absurd h (Nat.not_lt_zero _)
  | n + 1, h => by
    unfold leastN
    by_cases c : ∃ i, i < n ∧ P i
    · rw [if_pos c]
      obtain ⟨a, b⟩ := leastN_at c
      exact ⟨by omega, b⟩
    · rw [if_neg c]
      obtain ⟨i, hi, hP⟩ := h
      have : i = n := by
        rcases Nat.lt_or_ge i n with h | h
        · exact absurd ⟨i, h, hP⟩ c
        · omega
      subst this
      exact ⟨by omega, hP⟩
theorem leastN_congr {P Q : Nat → Prop} : ∀ {n : Nat}, (∀ i, i < n → (P i ↔ Q i)) → leastN P n = leastN Q n
  | 0, _ => rfl
  | n + 1, h => by
    unfold leastN
    have e : (∃ i, i < n ∧ P i) ↔ (∃ i, i < n ∧ Q i) := ⟨fun ⟨i, a, b⟩ => ⟨i, a, (h i (by omega)).1 b⟩, fun ⟨i, a, b⟩ => ⟨i, a, (h i (by omega)).2 b⟩⟩
    by_cases c : ∃ i, i < n ∧ P i
    · rw [if_pos c, if_pos (e.1 c), leastN_congr (n := n) (fun i hi => h i (by omega))]
    · rw [if_neg c, if_neg (fun x => c (e.2 x))]
/-- A member's way back is a member. -/
theorem isG.inv {n i : Nat} {A : Nat → OpD} (h : isG n A) (hi : i < n) : ∃ j, j < n ∧ kV (mulQ (A j).key (A i).key) = kV oneK := by
  have hm : ∀ j, ∃ s, j < n → s < n ∧ kV (A s).key = kV (mulQ (A j).key (A i).key) := fun j => by
    by_cases hj : j < n
    · obtain ⟨s, h1, h2⟩ := h.mul hj hi
      exact ⟨s, fun _ => ⟨h1, h2⟩⟩
    · exact ⟨0, fun x => absurd x hj⟩
  obtain ⟨s, hs⟩ := Classical.axiomOfChoice hm
  obtain ⟨o, ho, eo⟩ := h.one
  have inj : ∀ a b, a < n → b < n → s a = s b → a = b := fun a b ha hb e => h.2.2.1.inj ha hb (strike_right (h.key hi) (h.key ha) (h.key hb) ((hs a ha).2.symm.trans (by rw [e]; exact (hs b hb).2)))
  have hall : kN (fun x => decide (∃ t, t < n ∧ s t = x)) n = n := kN_image (s := s) (fun t ht => ⟨(hs t ht).1, decide_eq_true ⟨t, ht, rfl⟩⟩) inj (fun x _ hx => of_decide_eq_true hx)
  have : ∃ t, t < n ∧ s t = o := by
    refine Classical.byContradiction (fun hn => ?_)
    have e1 : kN (fun x => decide (∃ t, t < n ∧ s t = x)) n < n := by
      have nk : (kL (fun x => decide (∃ t, t < n ∧ s t = x)) n).Nodup := List.Pairwise.filter _ List.nodup_range
      have hsub : kL (fun x => decide (∃ t, t < n ∧ s t = x)) n ⊆ (List.range n).erase o := fun a ha => by
        obtain ⟨x1, x2⟩ := List.mem_filter.1 ha
        exact (List.mem_erase_of_ne (fun e => hn (by rw [← e]; exact of_decide_eq_true x2))).2 x1
      have := nk.length_le_of_subset hsub
      rw [List.length_erase_of_mem (List.mem_range.2 ho)] at this
      simp at this
      unfold kN
      omega
    omega
  obtain ⟨t, ht, e⟩ := this
  exact ⟨t, ht, (hs t ht).2.symm.trans (by rw [e]; exact eo)⟩
/-- Lagrange: a group within a group divides it. -/
theorem group_dvd {n m : Nat} {A H : Nat → OpD} (hA : isG n A) (hH : isG m H) (hs : ∀ t, t < m → ∃ j, j < n ∧ kV (A j).key = kV (H t).key) : m ∣ n := by
  -- what goes together
  let R : Nat → Nat → Prop := fun i j => ∃ t, t < m ∧ kV (A j).key = kV (mulQ (H t).key (A i).key)
  have refl : ∀ i, i < n → R i i := fun i hi => by
    obtain ⟨o, ho, eo⟩ := hH.one
    refine ⟨o, ho, ?_⟩
    rw [mulQ_congr eo, one_mul (hA.key hi)]
  have trans : ∀ i j k, R i j → R j k → R i k := fun i j k ⟨t, ht, e⟩ ⟨u, hu, e2⟩ => by
    obtain ⟨v, hv, e3⟩ := hH.mul hu ht
    refine ⟨v, hv, ?_⟩
    rw [e2, mulQ_congr2 e, ← mulQ_assoc, mulQ_congr e3]
  have symm : ∀ i j, i < n → R i j → R j i := fun i j hi ⟨t, ht, e⟩ => by
    obtain ⟨v, hv, e3⟩ := hH.inv ht
    refine ⟨v, hv, ?_⟩
    rw [mulQ_congr2 e, ← mulQ_assoc, mulQ_congr e3, one_mul (hA.key hi)]
  let r : Nat → Nat := fun i => leastN (R i) n
  have hr : ∀ i, i < n → r i < n ∧ R i (r i) := fun i hi => leastN_at ⟨i, hi, refl i hi⟩
  have hrr : ∀ i j, i < n → j < n → R i j → r i = r j := fun i j hi hj h => leastN_congr (fun k _ => ⟨fun x => trans j i k (symm i j hi h) x, fun x => trans i j k h x⟩)
  have hcount : ∀ x, x < n → kN (fun i => decide (r i = x)) n = 0 ∨ kN (fun i => decide (r i = x)) n = m := fun x hx => by
    by_cases c : ∃ i, i < n ∧ r i = x
    · right
      obtain ⟨i0, h0, e0⟩ := c
      have hm : ∀ t, ∃ j, t < m → j < n ∧ kV (A j).key = kV (mulQ (H t).key (A i0).key) := fun t => by
        by_cases ht : t < m
        · obtain ⟨a, ha, ea⟩ := hs t ht
          obtain ⟨j, hj, ej⟩ := hA.mul ha h0
          exact ⟨j, fun _ => ⟨hj, by rw [ej, mulQ_congr ea]⟩⟩
        · exact ⟨0, fun y => absurd y ht⟩
      obtain ⟨s, hsx⟩ := Classical.axiomOfChoice hm
      refine kN_image (s := s) (fun t ht => ⟨(hsx t ht).1, decide_eq_true ?_⟩) (fun t t' ht ht' e => ?_) (fun i hi hP => ?_)
      · rw [← hrr i0 (s t) h0 (hsx t ht).1 ⟨t, ht, (hsx t ht).2⟩]; exact e0
      · exact hH.2.2.1.inj ht ht' (strike_right (hA.key h0) (hH.key ht) (hH.key ht') ((hsx t ht).2.symm.trans (by rw [e]; exact (hsx t' ht').2)))
      · have e1 : r i = x := of_decide_eq_true hP
        have a1 := (hr i hi).2
        have a0 := (hr i0 h0).2
        rw [e1] at a1
        rw [e0] at a0
        obtain ⟨t, ht, et⟩ := trans i0 x i a0 (symm i x hi a1)
        exact ⟨t, ht, hA.2.2.1.inj (hsx t ht).1 hi ((hsx t ht).2.trans et.symm)⟩
    · left
      have : kL (fun i => decide (r i = x)) n = [] := by
        unfold kL
        rw [List.filter_eq_nil_iff]
        intro i hi h
        exact c ⟨i, List.mem_range.1 hi, of_decide_eq_true h⟩
      unfold kN
      rw [this]
      rfl
  have := sumL_dvd hcount
  rw [kN_split (fun i hi => (hr i hi).1)] at this
  exact this
end Go.Proofs.Ytehbpcoiciodhaa
