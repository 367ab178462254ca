/-
  What a list of right operators makes is the list itself, in order, just if it is a group. No function of the program.
-/
import Derived.Test.YtmjeplhigjlopaaGt
import Derived.Test.YtmjeplhigjlopaaGc
namespace Go.Proofs.Ytmjeplhigjlopaa
open Go.RowKit

theorem kV_ext {x y : Nat → Int} : kV x = kV y ↔ (∀ j, j < 9 → x j = y j) ∧ ∀ i, i < 3 → x (9 + i) = y (9 + i) := by
  rw [kV_inj, lexC_zero]
  constructor
  · exact fun h => ⟨fun j hj => h j (by omega), fun i hi => h (9 + i) (by omega)⟩
  · rintro ⟨h1, h2⟩ j hj
    by_cases e : j < 9
    · exact h1 j e
    · have := h2 (j - 9) (by omega)
      rwa [show 9 + (j - 9) = j by omega] at this
theorem mulM_congr {f f' g g' : Nat → Int} (h1 : ∀ j, j < 9 → f j = f' j) (h2 : ∀ j, j < 9 → g j = g' j) (i : Nat) (hi : i < 9) : mulM f g i = mulM f' g' i := by
  rw [mulM_at, mulM_at, h1 _ (by omega), h1 _ (by omega), h1 _ (by omega), h2 _ (by omega), h2 _ (by omega), h2 _ (by omega)]
theorem behV_congr {f f' h h' k k' : Nat → Int} (h1 : ∀ j, j < 9 → f j = f' j) (h2 : ∀ j, j < 3 → h j = h' j) (h3 : ∀ j, j < 3 → k j = k' j) (i : Nat) (hi : i < 3) : behV f h k i = behV f' h' k' i := by
  unfold behV
  rw [movV_at, movV_at, h1 _ (by omega), h1 _ (by omega), h1 _ (by omega), h3 _ (by omega), h3 _ (by omega), h3 _ (by omega), h2 _ hi]
theorem mulQ_lo (x y : Nat → Int) {j : Nat} (hj : j < 9) : mulQ x y j = mulM x y j := cat_lo _ _ hj
theorem mulQ_hi (x y : Nat → Int) (i : Nat) : mulQ x y (9 + i) = behV x (kh x) (kh y) i := cat_hi _ _ i
theorem mulQ_congr2 {x y y' : Nat → Int} (h : kV y = kV y') : kV (mulQ x y) = kV (mulQ x y') := by
  obtain ⟨h1, h2⟩ := kV_ext.1 h
  refine kV_ext.2 ⟨fun j hj => ?_, fun i hi => ?_⟩
  · rw [mulQ_lo _ _ hj, mulQ_lo _ _ hj]; exact mulM_congr (fun _ _ => rfl) h1 j hj
  · rw [mulQ_hi, mulQ_hi]; exact behV_congr (fun _ _ => rfl) (fun _ _ => rfl) h2 i hi
theorem mulQ_assoc (x z u : Nat → Int) : kV (mulQ (mulQ x z) u) = kV (mulQ x (mulQ z u)) := by
  refine kV_ext.2 ⟨fun j hj => ?_, fun i hi => ?_⟩
  · rw [mulQ_lo _ _ hj, mulQ_lo _ _ hj, mulM_congr (fun _ h => mulQ_lo x z h) (fun _ _ => rfl) j hj, mulM_assoc _ _ _ j hj]
    exact (mulM_congr (fun _ _ => rfl) (fun _ h => mulQ_lo z u h) j hj).symm
  · rw [mulQ_hi, mulQ_hi, behV_congr (f := mulQ x z) (f' := mulM x z) (h := kh (mulQ x z)) (h' := behV x (kh x) (kh z)) (k := kh u) (k' := kh u) (fun _ h => mulQ_lo x z h) (fun j _ => mulQ_hi x z j) (fun _ _ => rfl) i hi, behV_assoc _ _ _ _ _ i hi]
    exact (behV_congr (fun _ _ => rfl) (fun _ _ => rfl) (fun j _ => mulQ_hi z u j) i hi).symm
theorem mulQ_one {x : Nat → Int} (hx : kR x) : kV (mulQ x oneK) = kV x := by
  refine kV_ext.2 ⟨fun j hj => ?_, fun i hi => ?_⟩
  · rw [mulQ_lo _ _ hj, mulM_congr (f := x) (f' := x) (g := oneK) (g' := oneF) (fun _ _ => rfl) (fun j h => cat_lo oneF (fun _ => 0) h) j hj]
    exact (mul_one x j hj).1
  · rw [mulQ_hi]
    have h0 : ∀ j, kh oneK j = 0 := fun j => cat_hi oneF (fun _ => 0) j
    unfold behV
    rw [movV_at, h0, h0, h0]
    have := hx.2.1 i hi
    unfold kh at this ⊢
    omega
theorem mulK_key (a b : OpD) : kV (mulK a b) = kV (mulQ a.key b.key) := by
  refine kV_ext.2 ⟨fun j hj => ?_, fun i hi => ?_⟩
  · rw [mulQ_lo _ _ hj]
    unfold mulK
    rw [cat_lo _ _ hj]
    exact (mulM_congr (fun j h => cat_lo _ _ h) (fun j h => cat_lo _ _ h) j hj).symm
  · rw [mulQ_hi]
    unfold mulK
    rw [cat_hi]
    exact (behV_congr (fun j h => cat_lo _ _ h) (fun j _ => cat_hi _ _ j) (fun j _ => cat_hi _ _ j) i hi).symm
theorem ok_R {o : OpD} (h : o.ok) : kR o.key := by
  obtain ⟨-, -, h1, h2, h3⟩ := h
  refine ⟨fun i hi => by unfold OpD.key; rw [cat_lo _ _ hi]; exact h1 i hi, fun i hi => by unfold OpD.key kh; rw [cat_hi]; exact h2 i hi, ?_⟩
  have e : det3 o.key = det3 o.f := by
    unfold det3 OpD.key
    simp only [cat_lo o.f o.h (show 0 < 9 by omega), cat_lo o.f o.h (show 1 < 9 by omega), cat_lo o.f o.h (show 2 < 9 by omega), cat_lo o.f o.h (show 3 < 9 by omega), cat_lo o.f o.h (show 4 < 9 by omega), cat_lo o.f o.h (show 5 < 9 by omega), cat_lo o.f o.h (show 6 < 9 by omega), cat_lo o.f o.h (show 7 < 9 by omega), cat_lo o.f o.h (show 8 < 9 by omega)]
  rw [e]; exact h3
/-- The list's values. -/
def FV (n : Nat) (A : Nat → OpD) : List Value := (List.range n).map fun i => kV (A i).key
theorem mem_FV {n : Nat} {A : Nat → OpD} {v : Value} : v ∈ FV n A ↔ ∃ i, i < n ∧ v = kV (A i).key := by
  unfold FV
  rw [List.mem_map]
  constructor
  · rintro ⟨i, hi, e⟩; exact ⟨i, List.mem_range.1 hi, e.symm⟩
  · rintro ⟨i, hi, e⟩; exact ⟨i, List.mem_range.2 hi, e.symm⟩
theorem FV_nodup {n : Nat} {A : Nat → OpD} (h : Rises n A) : (FV n A).Nodup := by
  unfold FV List.Nodup
  rw [List.pairwise_iff_getElem]
  intro i j hi hj hij
  simp at hi hj
  simp only [List.getElem_map, List.getElem_range]
  intro e
  have := h.lt hij hj
  rw [kV_inj.1 e] at this
  omega
theorem reach_in {n : Nat} {A : Nat → OpD} (hG : isG n A) {L : List (Nat → Int)} (hL : ∀ u ∈ L, ∃ t, t < n ∧ u = (A t).key) {x : Nat → Int} (h : Reach [kV oneK] L.length (nth L) x) : kV x ∈ FV n A := by
  obtain ⟨-, -, -, ⟨i1, hi1, e1⟩, hcl⟩ := hG
  induction h with
  | base h => rw [List.mem_singleton] at h; exact mem_FV.2 ⟨i1, hi1, h.trans (kV_inj.2 e1).symm⟩
  | step h1 h2 h3 ih =>
    obtain ⟨i, hi, e⟩ := mem_FV.1 ih
    obtain ⟨t, ht, et⟩ := hL _ (nth_mem h2)
    obtain ⟨j, hj, ej⟩ := hcl i t hi ht
    refine mem_FV.2 ⟨j, hj, ?_⟩
    rw [h3, mulQ_congr e, et, ← mulK_key, kV_inj.2 ej]
theorem noG_not {n : Nat} {A : Nat → OpD} (h : NoG n (fun i => (A i).key)) : ¬ isG n A := by
  intro hG
  obtain ⟨L, hL, hb⟩ := h
  rcases hb with ⟨x, h1, h2⟩ | ⟨ls, h1, h2, h3⟩
  · obtain ⟨i, hi, e⟩ := mem_FV.1 (reach_in hG hL h1)
    exact h2 (kR_congr e.symm (ok_R (hG.2.1 i hi)))
  · have := h2.length_le_of_subset (l₂ := FV n A) (fun v hv => by
      obtain ⟨x, hx, rfl⟩ := List.mem_map.1 hv
      exact reach_in hG hL (h3 x hx))
    simp [FV, h1] at this
    have := hG.1
    omega
/-- In order. -/
def leV (a b : Value) : Prop := ∃ x y, a = kV x ∧ b = kV y ∧ ¬ lexC 12 y x < 0
theorem leV_iff {x y : Nat → Int} : leV (kV x) (kV y) ↔ ¬ lexC 12 y x < 0 := by
  constructor
  · rintro ⟨x', y', e1, e2, h⟩
    have h1 := lexC_zero.1 (kV_inj.1 e1)
    have h2 := lexC_zero.1 (kV_inj.1 e2)
    rwa [lexC_congr h2 h1]
  · exact fun h => ⟨x, y, rfl, rfl, h⟩
theorem made_iff {n m : Nat} {A : Nat → OpD} {G : Nat → Nat → Int} {L ks : List (Nat → Int)} (hok : ∀ i, i < n → (A i).ok) (hn : n ≤ 192) (hm : m = ks.length) (hnd : (ks.map kV).Nodup) (hp : (((List.range m).map G).map kV).Perm (ks.map kV))
    (hs : ∀ i j, i < j → j < m → ¬ lexC 12 (G j) (G i) < 0) (hM : MadeG n (fun i => (A i).key) L ks) : (m = n ∧ ∀ i, i < m → lexC 12 (G i) (A i).key = 0) ↔ isG n A := by
  have hGn : (((List.range m).map G).map kV).Nodup := hp.nodup_iff.2 hnd
  constructor
  · rintro ⟨rfl, he⟩
    have hFV : FV m A = ((List.range m).map G).map kV := by
      unfold FV
      rw [List.map_map]
      apply List.map_congr_left
      intro i hi
      exact (kV_inj.2 (he i (List.mem_range.1 hi))).symm
    have hin : ∀ v, v ∈ ks.map kV ↔ v ∈ FV m A := fun v => by rw [hFV]; exact hp.mem_iff.symm
    have hmul : ∀ y, Reach [kV oneK] L.length (nth L) y → ∀ x ∈ ks, kV (mulQ x y) ∈ ks.map kV := by
      intro y hy
      induction hy with
      | base h =>
        intro x hx
        rw [List.mem_singleton] at h
        rw [mulQ_congr2 h, mulQ_one (hM.grows.right x hx)]
        exact List.mem_map_of_mem hx
      | step h1 h2 h3 ih =>
        intro x hx
        obtain ⟨z, hz, ez⟩ := List.mem_map.1 (ih x hx)
        have := hM.closed z hz _ h2
        rw [mulQ_congr ez, mulQ_assoc] at this
        rw [mulQ_congr2 h3]
        exact this
    refine ⟨hn, hok, fun i hi => ?_, ?_, fun i k hi hk => ?_⟩
    · have h1 := hs i (i + 1) (by omega) hi
      have e1 := lexC_zero.1 (he i (by omega))
      have e2 := lexC_zero.1 (he (i + 1) hi)
      rw [← lexC_congr e1 e2]
      rcases lexC_range 12 (G i) (G (i + 1)) with h | h | h
      · omega
      · exfalso
        unfold List.Nodup at hGn
        rw [List.pairwise_iff_getElem] at hGn
        have := hGn i (i + 1) (by simp; omega) (by simp; omega) (by omega)
        simp only [List.getElem_map, List.getElem_range] at this
        exact this (kV_inj.2 h)
      · exact absurd (lexC_pos.1 (by omega : 0 < lexC 12 (G i) (G (i + 1)))) h1
    · obtain ⟨i, hi, e⟩ := mem_FV.1 ((hin _).1 (hM.grows.has (kV oneK) (by simp)))
      exact ⟨i, hi, kV_inj.1 e.symm⟩
    · obtain ⟨x, hx, ex⟩ := List.mem_map.1 (hM.has i hi)
      obtain ⟨y, hy, ey⟩ := List.mem_map.1 (hM.has k hk)
      have := hmul y (hM.grows.reach y hy) x hx
      rw [mulQ_congr ex, mulQ_congr2 ey, ← mulK_key] at this
      obtain ⟨j, hj, ej⟩ := mem_FV.1 ((hin _).1 this)
      exact ⟨j, hj, kV_inj.1 ej.symm⟩
  · intro hG
    have hperm : (((List.range m).map G).map kV).Perm (FV n A) := by
      refine hp.trans ((List.perm_ext_iff_of_nodup hnd (FV_nodup hG.2.2.1)).2 fun v => ⟨fun hv => ?_, fun hv => ?_⟩)
      · obtain ⟨x, hx, rfl⟩ := List.mem_map.1 hv
        exact reach_in hG hM.of (hM.grows.reach x hx)
      · obtain ⟨i, hi, rfl⟩ := mem_FV.1 hv
        exact hM.has i hi
    have hmn : m = n := by have := hperm.length_eq; simpa [FV] using this
    subst hmn
    have heq : ((List.range m).map G).map kV = FV m A := by
      refine List.Perm.eq_of_pairwise (le := leV) ?_ ?_ ?_ hperm
      · intro a b ha hb h1 h2
        obtain ⟨x, y, rfl, rfl, h⟩ := h1
        rw [leV_iff] at h2
        refine kV_inj.2 ?_
        rcases lexC_range 12 x y with e | e | e
        · exact absurd (by omega : lexC 12 x y < 0) h2
        · exact e
        · exact absurd (lexC_pos.1 (by omega : 0 < lexC 12 x y)) h
      · rw [List.pairwise_iff_getElem]
        intro i j hi hj hij
        simp only [List.getElem_map, List.getElem_range]
        simp at hj
        exact leV_iff.2 (hs i j hij hj)
      · unfold FV
        rw [List.pairwise_iff_getElem]
        intro i j hi hj hij
        simp only [List.getElem_map, List.getElem_range]
        simp at hj
        rw [leV_iff]
        intro h
        exact lexC_irrefl 12 _ (lexC_trans (hG.2.2.1.lt hij hj) h)
    refine ⟨rfl, fun i hi => ?_⟩
    have : (((List.range m).map G).map kV)[i]'(by simp; omega) = (FV m A)[i]'(by simp [FV]; omega) := by simp only [heq]
    simp only [List.getElem_map, List.getElem_range, FV] at this
    exact kV_inj.1 this
end Go.Proofs.Ytmjeplhigjlopaa
