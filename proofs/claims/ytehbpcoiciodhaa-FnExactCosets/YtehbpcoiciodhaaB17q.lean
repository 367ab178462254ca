/-
  Cosets: the parts of a group by a group within it: as many in each, apart, and all of it. No function of the program.
-/
import Derived.Test.YtehbpcoiciodhaaE12b
import Derived.Test.YtehbpcoiciodhaaB17l
namespace Go.Proofs.Ytehbpcoiciodhaa
open Go.RowKit

/-- A group within a group. -/
structure SubG (n : Nat) (A : Nat → OpD) (m : Nat) (C : Nat → OpD) : Prop where
  g : isG n A
  h : isG m C
  s : ∀ t, t < m → ∃ j, j < n ∧ kV (A j).key = kV (C t).key
theorem isG.rinv {n i : Nat} {A : Nat → OpD} (h : isG n A) (hi : i < n) : ∃ j, j < n ∧ kV (mulQ (A i).key (A j).key) = kV oneK := by
  obtain ⟨v, hv, e1⟩ := h.inv hi
  obtain ⟨u, hu, e2⟩ := h.inv hv
  have e3 : kV (A i).key = kV (A u).key := by
    have a1 : kV (mulQ (mulQ (A u).key (A v).key) (A i).key) = kV (A i).key := by rw [mulQ_congr e2, one_mul (h.key hi)]
    have a2 : kV (mulQ (mulQ (A u).key (A v).key) (A i).key) = kV (A u).key := by rw [mulQ_assoc, mulQ_congr2 e1, mulQ_one (h.key hu)]
    exact a1.symm.trans a2
  exact ⟨v, hv, by rw [mulQ_congr e3]; exact e2⟩
theorem SubG.refl {n m i : Nat} {A C : Nat → OpD} (h : SubG n A m C) (hi : i < n) : inPart A m C i i := by
  obtain ⟨o, ho, eo⟩ := h.h.one
  exact ⟨o, ho, by rw [mulQ_congr2 eo, mulQ_one (h.g.key hi)]⟩
theorem SubG.trans {n m i j k : Nat} {A C : Nat → OpD} (h : SubG n A m C) (h1 : inPart A m C i j) (h2 : inPart A m C j k) : inPart A m C i k := by
  obtain ⟨t, ht, e⟩ := h1
  obtain ⟨u, hu, e2⟩ := h2
  obtain ⟨v, hv, e3⟩ := h.h.mul ht hu
  exact ⟨v, hv, by rw [e2, mulQ_congr e, mulQ_assoc, mulQ_congr2 e3.symm]⟩
theorem SubG.symm {n m i j : Nat} {A C : Nat → OpD} (h : SubG n A m C) (hi : i < n) (h1 : inPart A m C i j) : inPart A m C j i := by
  obtain ⟨t, ht, e⟩ := h1
  obtain ⟨v, hv, e3⟩ := h.h.rinv ht
  exact ⟨v, hv, by rw [mulQ_congr e, mulQ_assoc, mulQ_congr2 e3, mulQ_one (h.g.key hi)]⟩
/-- The product of one of the group and one of the group within it. -/
theorem SubG.prod {n m i k : Nat} {A C : Nat → OpD} (h : SubG n A m C) (hi : i < n) (hk : k < m) : ∃ j, j < n ∧ kV (A j).key = kV (mulQ (A i).key (C k).key) := by
  obtain ⟨a, ha, ea⟩ := h.s k hk
  obtain ⟨j, hj, ej⟩ := h.g.mul hi ha
  exact ⟨j, hj, by rw [ej, mulQ_congr2 ea]⟩
theorem opens_at {A : Nat → OpD} {m : Nat} {C : Nat → OpD} : ∀ {i t : Nat}, t ∈ opens A m C i → ¬ ∃ s ∈ opens A m C t, inPart A m C s t
  | 0, t, h => by simp [opens] at h
  | i + 1, t, h => by
    by_cases e : ∃ t ∈ opens A m C i, inPart A m C t i
    · rw [opens_old e] at h
      exact opens_at h
    · rw [opens_new e] at h
      rcases List.mem_append.1 h with h | h
      · exact opens_at h
      · have := List.mem_singleton.1 h
        subst this
        exact e
theorem opens_up {A : Nat → OpD} {m : Nat} {C : Nat → OpD} {i t : Nat} (h : t ∈ opens A m C i) : t ∈ opens A m C (i + 1) := by
  by_cases e : ∃ t ∈ opens A m C i, inPart A m C t i
  · rw [opens_old e]; exact h
  · rw [opens_new e]; exact List.mem_append_left _ h
theorem opens_low {A : Nat → OpD} {m : Nat} {C : Nat → OpD} {s t : Nat} (hst : s < t) : ∀ {i : Nat}, t ≤ i → s ∈ opens A m C i → s ∈ opens A m C t
  | 0, ht, _ => by omega
  | i + 1, ht, hs => by
    by_cases e : t = i + 1
    · rw [e]; exact hs
    · refine opens_low hst (i := i) (by omega) ?_
      by_cases c : ∃ t ∈ opens A m C i, inPart A m C t i
      · rwa [opens_old c] at hs
      · rw [opens_new c] at hs
        rcases List.mem_append.1 hs with h | h
        · exact h
        · have := List.mem_singleton.1 h
          omega
theorem opens_rise {A : Nat → OpD} {m : Nat} {C : Nat → OpD} : ∀ i, (opens A m C i).Pairwise (· < ·)
  | 0 => by simp [opens]
  | i + 1 => by
    by_cases e : ∃ t ∈ opens A m C i, inPart A m C t i
    · rw [opens_old e]; exact opens_rise i
    · rw [opens_new e, List.pairwise_append]
      exact ⟨opens_rise i, List.pairwise_singleton _ _, fun a ha b hb => by
        have h1 := opens_lt ha
        have h2 := List.mem_singleton.1 hb
        omega⟩
/-- Two that open parts have no one in common. -/
theorem SubG.apart {n m t t' j : Nat} {A C : Nat → OpD} (h : SubG n A m C) (ht : t ∈ opens A m C n) (ht' : t' ∈ opens A m C n) (h1 : inPart A m C t j) (h2 : inPart A m C t' j) : t = t' := by
  have key : ∀ {a b : Nat}, a < b → a ∈ opens A m C n → b ∈ opens A m C n → inPart A m C a j → inPart A m C b j → False := fun hab ha hb p q => by
    have hbn := opens_lt hb
    exact opens_at hb ⟨_, opens_low hab (by omega) ha, h.trans p (h.symm hbn q)⟩
  rcases Nat.lt_trichotomy t t' with e | e | e
  · exact (key e ht ht' h1 h2).elim
  · exact e
  · exact (key e ht' ht h2 h1).elim
theorem SubG.cover {n m : Nat} {A C : Nat → OpD} (h : SubG n A m C) : ∀ {i : Nat}, i ≤ n → ∀ j, j < i → ∃ t ∈ opens A m C i, inPart A m C t j
  | 0, _, j, hj => by omega
  | i + 1, hi, j, hj => by
    by_cases e : j = i
    · subst e
      by_cases c : ∃ t ∈ opens A m C j, inPart A m C t j
      · obtain ⟨t, h1, h2⟩ := c
        exact ⟨t, opens_up h1, h2⟩
      · exact ⟨j, by rw [opens_new c]; simp, h.refl (by omega)⟩
    · obtain ⟨t, h1, h2⟩ := h.cover (i := i) (by omega) j (by omega)
      exact ⟨t, opens_up h1, h2⟩
/-- The one that opens part s. -/
noncomputable def cosO (n : Nat) (A : Nat → OpD) (m : Nat) (C : Nat → OpD) (s : Nat) : Nat := (opens A m C n).getD s 0
/-- How many parts there are. -/
noncomputable def cosL (n : Nat) (A : Nat → OpD) (m : Nat) (C : Nat → OpD) : Nat := (opens A m C n).length
theorem cosO_mem {n m s : Nat} {A C : Nat → OpD} (hs : s < cosL n A m C) : cosO n A m C s ∈ opens A m C n := by
  unfold cosO
  rw [List.getD_eq_getElem?_getD, List.getElem?_eq_getElem hs]
  exact List.getElem_mem hs
theorem cosO_lt {n m s : Nat} {A C : Nat → OpD} (hs : s < cosL n A m C) : cosO n A m C s < n := opens_lt (cosO_mem hs)
theorem cosO_inj {n m s t : Nat} {A C : Nat → OpD} (hs : s < cosL n A m C) (ht : t < cosL n A m C) (e : cosO n A m C s = cosO n A m C t) : s = t := by
  have hp := List.pairwise_iff_getElem.1 (opens_rise (A := A) (m := m) (C := C) n)
  unfold cosO at e
  rw [List.getD_eq_getElem?_getD, List.getElem?_eq_getElem hs, List.getD_eq_getElem?_getD, List.getElem?_eq_getElem ht] at e
  simp only [Option.getD_some] at e
  rcases Nat.lt_trichotomy s t with c | c | c
  · have := hp s t hs ht c; omega
  · exact c
  · have := hp t s ht hs c; omega
theorem cosO_of {n m t : Nat} {A C : Nat → OpD} (h : t ∈ opens A m C n) : ∃ s, s < cosL n A m C ∧ cosO n A m C s = t := by
  obtain ⟨s, hs, e⟩ := List.getElem_of_mem h
  refine ⟨s, hs, ?_⟩
  unfold cosO
  rw [List.getD_eq_getElem?_getD, List.getElem?_eq_getElem hs]
  exact e
theorem sumL_same {f : Nat → Nat} {d : Nat} : ∀ {m : Nat}, (∀ t, t < m → f t = d) → sumL f m = m * d
  | 0, _ => by simp [sumL]
  | m + 1, h => by
    unfold sumL
    rw [sumL_same (m := m) (fun t ht => h t (by omega)), h m (by omega), Nat.add_mul, Nat.one_mul]
/-- All parts together are as many as the group. -/
theorem SubG.count {n m : Nat} {A C : Nat → OpD} (h : SubG n A m C) : cosL n A m C * m = n := by
  have hr : ∀ j, ∃ s, j < n → s < cosL n A m C ∧ inPart A m C (cosO n A m C s) j := fun j => by
    by_cases hj : j < n
    · obtain ⟨t, h1, h2⟩ := h.cover (Nat.le_refl n) j hj
      obtain ⟨s, hs, e⟩ := cosO_of h1
      exact ⟨s, fun _ => ⟨hs, e ▸ h2⟩⟩
    · exact ⟨0, fun y => absurd y hj⟩
  obtain ⟨r, hr⟩ := Classical.axiomOfChoice hr
  have h1 := kN_split (n := n) (M := cosL n A m C) (r := r) (fun i hi => (hr i hi).1)
  refine (sumL_same (fun t ht => ?_)).symm.trans h1
  have ho := cosO_lt ht
  have hm : ∀ k, ∃ j, k < m → j < n ∧ kV (A j).key = kV (mulQ (A (cosO n A m C t)).key (C k).key) := fun k => by
    by_cases hk : k < m
    · obtain ⟨j, hj, ej⟩ := h.prod ho hk
      exact ⟨j, fun _ => ⟨hj, ej⟩⟩
    · exact ⟨0, fun y => absurd y hk⟩
  obtain ⟨s, hs⟩ := Classical.axiomOfChoice hm
  refine kN_image (s := s) (fun k hk => ⟨(hs k hk).1, decide_eq_true ?_⟩) (fun k k' hk hk' e => ?_) (fun i hi hP => ?_)
  · have h2 := hr (s k) (hs k hk).1
    exact cosO_inj h2.1 ht (h.apart (cosO_mem h2.1) (cosO_mem ht) h2.2 ⟨k, hk, (hs k hk).2⟩)
  · exact h.h.2.2.1.inj hk hk' (strike_left (h.g.key ho) (h.h.key hk) (h.h.key hk') ((hs k hk).2.symm.trans (by rw [e]; exact (hs k' hk').2)))
  · have e1 : r i = t := of_decide_eq_true hP
    have h2 := (hr i hi).2
    rw [e1] at h2
    obtain ⟨k, hk, ek⟩ := h2
    exact ⟨k, hk, h.g.2.2.1.inj (hs k hk).1 hi ((hs k hk).2.trans ek.symm)⟩
theorem SubG.some {n m : Nat} {A C : Nat → OpD} (h : SubG n A m C) : 0 < n ∧ 0 < m ∧ 0 < cosL n A m C ∧ cosL n A m C ≤ 192 := by
  obtain ⟨i, hi, -⟩ := h.g.one
  obtain ⟨j, hj, -⟩ := h.h.one
  have hc := h.count
  refine ⟨by omega, by omega, ?_, ?_⟩
  · rcases Nat.eq_zero_or_pos (cosL n A m C) with e | e
    · rw [e] at hc; omega
    · exact e
  · have := h.g.1
    have : cosL n A m C ≤ cosL n A m C * m := Nat.le_mul_of_pos_right _ (by omega)
    omega
/-- A part, in order. -/
def PartB (A : Nat → OpD) (m : Nat) (C : Nat → OpD) (t : Nat) (B : Nat → OpD) : Prop :=
  ((List.range m).map (fun k => kV (B k).key)).Perm ((List.range m).map (fun k => kV (mulQ (A t).key (C k).key))) ∧ ∀ i j, i < j → j < m → ¬ lexC 12 (B j).key (B i).key < 0
theorem PartB.at {A C B : Nat → OpD} {m t k : Nat} (h : PartB A m C t B) (hk : k < m) : ∃ j, j < m ∧ kV (B k).key = kV (mulQ (A t).key (C j).key) :=
  perm_find (F := fun k => (B k).key) (G := fun k => mulQ (A t).key (C k).key) h.1 hk
theorem PartB.of {A C B : Nat → OpD} {m t j : Nat} (h : PartB A m C t B) (hj : j < m) : ∃ k, k < m ∧ kV (B k).key = kV (mulQ (A t).key (C j).key) := by
  obtain ⟨k, hk, e⟩ := perm_find (G := fun k => (B k).key) (F := fun k => mulQ (A t).key (C k).key) h.1.symm hj
  exact ⟨k, hk, e.symm⟩
theorem PartB.ne {n m t k k' : Nat} {A C B : Nat → OpD} (hS : SubG n A m C) (ht : t < n) (h : PartB A m C t B) (hk : k < m) (hk' : k' < m) (hne : k ≠ k') : kV (B k).key ≠ kV (B k').key := by
  have nd : ((List.range m).map (fun k => kV (mulQ (A t).key (C k).key))).Nodup := nodup_inj (F := fun k => mulQ (A t).key (C k).key) (fun i j hi hj e => hS.h.2.2.1.inj hi hj (strike_left (hS.g.key ht) (hS.h.key hi) (hS.h.key hj) e))
  have nd2 := (h.1.nodup_iff).2 nd
  rw [List.Nodup, List.pairwise_iff_getElem] at nd2
  rcases Nat.lt_or_gt_of_ne hne with c | c
  · have := nd2 k k' (by simpa using hk) (by simpa using hk') c
    simpa using this
  · have := nd2 k' k (by simpa using hk') (by simpa using hk) c
    simpa using fun e => this (by simpa using e.symm)
/-- What Cosets tells: how many parts, and what stands in each. -/
def CosT (n : Nat) (A : Nat → OpD) (m : Nat) (C : Nat → OpD) (L : Nat) (B : Nat → Nat → OpD) : Prop :=
  (SubG n A m C ∧ L = cosL n A m C ∧ ∀ s, s < L → PartB A m C (cosO n A m C s) (B s)) ∨ (¬ SubG n A m C ∧ L = 0)
/-- Two that tell it tell the same. -/
theorem cos_same {n m L L' : Nat} {A C : Nat → OpD} {B B' : Nat → Nat → OpD} (h1 : CosT n A m C L B) (h2 : CosT n A m C L' B') : L = L' ∧ ∀ s, s < L → ∀ k, k < m → kV (B s k).key = kV (B' s k).key := by
  rcases h1 with ⟨hS, e1, p1⟩ | ⟨hS, e1⟩
  · rcases h2 with ⟨-, e2, p2⟩ | ⟨hno, -⟩
    · refine ⟨e1.trans e2.symm, fun s hs k hk => ?_⟩
      obtain ⟨a1, a2⟩ := p1 s hs
      obtain ⟨b1, b2⟩ := p2 s (by omega)
      exact sorted_same (G := fun k => (B s k).key) (H := fun k => (B' s k).key) (a1.trans b1.symm) a2 b2 k hk
    · exact absurd hS hno
  · rcases h2 with ⟨hyes, -⟩ | ⟨-, e2⟩
    · exact absurd hyes hS
    · exact ⟨e1.trans e2.symm, fun s hs => by omega⟩
end Go.Proofs.Ytehbpcoiciodhaa
