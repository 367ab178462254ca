/-
  Operators as a group: ways back, what can be struck; a table's rows and columns. No function of the program.
-/
import Derived.Test.YtpolnkjmojofoaaML
import Derived.Test.YtpolnkjmojofoaaE8b
namespace Go.Proofs.Ytpolnkjmojofoaa
open Go.RowKit

/-- The way back. -/
def bkK (p : Nat → Int) : Nat → Int := cat 9 (backM p) (backV p (kh p))
theorem back_left {x : Nat → Int} (hx : kR x) : kV (mulQ (bkK x) x) = kV oneK := by
  refine kV_ext.2 ⟨fun j hj => ?_, fun i hi => ?_⟩
  · rw [mulQ_lo _ _ hj, mulM_congr (f := bkK x) (f' := backM x) (fun j h => cat_lo _ _ h) (fun _ _ => rfl) j hj, (mul_back hx.2.2 j hj).2]
    exact (cat_lo oneF (fun _ => 0) hj).symm
  · rw [mulQ_hi, behV_congr (f := bkK x) (f' := backM x) (h := kh (bkK x)) (h' := backV x (kh x)) (fun j h => cat_lo _ _ h) (fun j _ => cat_hi _ _ j) (fun _ _ => rfl) i hi, back_behV]
    exact (cat_hi oneF (fun _ => 0) i).symm
theorem back_right {x : Nat → Int} (hx : kR x) : kV (mulQ x (bkK x)) = kV oneK := by
  refine kV_ext.2 ⟨fun j hj => ?_, fun i hi => ?_⟩
  · rw [mulQ_lo _ _ hj, mulM_congr (g := bkK x) (g' := backM x) (fun _ _ => rfl) (fun j h => cat_lo _ _ h) j hj, (mul_back hx.2.2 j hj).1]
    exact (cat_lo oneF (fun _ => 0) hj).symm
  · rw [mulQ_hi, behV_congr (f := x) (f' := x) (h := kh x) (h' := kh x) (k := kh (bkK x)) (k' := backV x (kh x)) (fun _ _ => rfl) (fun _ _ => rfl) (fun j _ => cat_hi _ _ j) i hi, behV_back hx i hi]
    exact (cat_hi oneF (fun _ => 0) i).symm
theorem strike_left {x y z : Nat → Int} (hx : kR x) (hy : kR y) (hz : kR z) (h : kV (mulQ x y) = kV (mulQ x z)) : kV y = kV z := by
  have a : ∀ u, kR u → kV (mulQ (bkK x) (mulQ x u)) = kV u := fun u hu => by
    rw [← mulQ_assoc, mulQ_congr (back_left hx), one_mul hu]
  rw [← a y hy, ← a z hz, mulQ_congr2 h]
theorem strike_right {x y z : Nat → Int} (hx : kR x) (hy : kR y) (hz : kR z) (h : kV (mulQ y x) = kV (mulQ z x)) : kV y = kV z := by
  have a : ∀ u, kR u → kV (mulQ (mulQ u x) (bkK x)) = kV u := fun u hu => by
    rw [mulQ_assoc, mulQ_congr2 (back_right hx), mulQ_one hu]
  rw [← a y hy, ← a z hz, mulQ_congr h]
theorem Rises.inj {n i j : Nat} {A : Nat → OpD} (hR : Rises n A) (hi : i < n) (hj : j < n) (e : kV (A i).key = kV (A j).key) : i = j := by
  have e0 := kV_inj.1 e
  rcases Nat.lt_trichotomy i j with h | h | h
  · have := hR.lt h hj; omega
  · exact h
  · have := hR.lt h hi
    have := kV_inj.1 e.symm
    omega
theorem isG.key {n i : Nat} {A : Nat → OpD} (h : isG n A) (hi : i < n) : kR (A i).key := ok_R (h.2.1 i hi)
theorem isG.mul {n i k : Nat} {A : Nat → OpD} (h : isG n A) (hi : i < n) (hk : k < n) : ∃ j, j < n ∧ kV (A j).key = kV (mulQ (A i).key (A k).key) := by
  obtain ⟨j, hj, e⟩ := h.2.2.2.2 i k hi hk
  exact ⟨j, hj, (kV_inj.2 e).trans (mulK_key _ _)⟩
theorem isG.one {n : Nat} {A : Nat → OpD} (h : isG n A) : ∃ i, i < n ∧ kV (A i).key = kV oneK := by
  obtain ⟨i, hi, e⟩ := h.2.2.2.1
  exact ⟨i, hi, kV_inj.2 e⟩
theorem isG_of {n : Nat} {A : Nat → OpD} (h1 : n ≤ 192) (h2 : ∀ i, i < n → (A i).ok) (h3 : Rises n A) (h4 : ∃ i, i < n ∧ kV (A i).key = kV oneK) (h5 : ∀ i k, i < n → k < n → ∃ j, j < n ∧ kV (A j).key = kV (mulQ (A i).key (A k).key)) : isG n A := by
  refine ⟨h1, h2, h3, ?_, fun i k hi hk => ?_⟩
  · obtain ⟨i, hi, e⟩ := h4
    exact ⟨i, hi, kV_inj.1 e⟩
  · obtain ⟨j, hj, e⟩ := h5 i k hi hk
    exact ⟨j, hj, kV_inj.1 (e.trans (mulK_key _ _).symm)⟩
/-- A place in the table. -/
theorem tab_in {n i k : Nat} {A : Nat → OpD} (h : isG n A) (hi : i < n) (hk : k < n) : ∃ j, j < n ∧ kV (A j).key = kV (mulQ (A i).key (A k).key) ∧ tab n A (i * n + k) = (j : Int) := by
  obtain ⟨j, hj, e⟩ := h.mul hi hk
  exact ⟨j, hj, e, by rw [tab_at A hk, plc_eq h.2.2.1 hj e]⟩
theorem tab_row {n i k k' : Nat} {A : Nat → OpD} (h : isG n A) (hi : i < n) (hk : k < n) (hk' : k' < n) (e : tab n A (i * n + k) = tab n A (i * n + k')) : k = k' := by
  obtain ⟨j, hj, e1, t1⟩ := tab_in h hi hk
  obtain ⟨j', hj', e2, t2⟩ := tab_in h hi hk'
  have : j = j' := by omega
  subst this
  exact h.2.2.1.inj hk hk' (strike_left (h.key hi) (h.key hk) (h.key hk') (e1.symm.trans e2))
theorem tab_col {n i k k' : Nat} {A : Nat → OpD} (h : isG n A) (hi : i < n) (hk : k < n) (hk' : k' < n) (e : tab n A (k * n + i) = tab n A (k' * n + i)) : k = k' := by
  obtain ⟨j, hj, e1, t1⟩ := tab_in h hk hi
  obtain ⟨j', hj', e2, t2⟩ := tab_in h hk' hi
  have : j = j' := by omega
  subst this
  exact h.2.2.1.inj hk hk' (strike_right (h.key hi) (h.key hk) (h.key hk') (e1.symm.trans e2))
/-- Two lists of values, one the other in another order. -/
theorem perm_find {n : Nat} {F G : Nat → Nat → Int} (hp : ((List.range n).map (fun t => kV (F t))).Perm ((List.range n).map (fun t => kV (G t)))) {t : Nat} (ht : t < n) : ∃ s, s < n ∧ kV (F t) = kV (G s) := by
  have h1 : kV (F t) ∈ (List.range n).map (fun t => kV (F t)) := List.mem_map.2 ⟨t, List.mem_range.2 ht, rfl⟩
  obtain ⟨s, hs, e⟩ := List.mem_map.1 (hp.mem_iff.1 h1)
  exact ⟨s, List.mem_range.1 hs, e.symm⟩
theorem nodup_inj {n : Nat} {F : Nat → Nat → Int} (h : ∀ i j, i < n → j < n → kV (F i) = kV (F j) → i = j) : ((List.range n).map (fun t => kV (F t))).Nodup := by
  rw [List.Nodup, List.pairwise_iff_getElem]
  intro i j hi hj hij
  simp only [List.getElem_map, List.getElem_range]
  simp at hi hj
  intro e
  have := h i j hi hj e
  omega
end Go.Proofs.Ytpolnkjmojofoaa
