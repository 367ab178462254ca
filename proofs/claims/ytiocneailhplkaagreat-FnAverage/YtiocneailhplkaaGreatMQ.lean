/-
  The program's Close. Walked.
-/
import Derived.Test.YtiocneailhplkaaGreatMP
import Derived.Test.YtiocneailhplkaaGreatMN
namespace Go.Proofs.YtiocneailhplkaaGreat
open Go.RowKit

/-- What Close tells: m operators G, and whether they are a group. -/
def ClsT (n : Nat) (A : Nat → OpD) (m : Nat) (G : Nat → Nat → Int) (b : Bool) : Prop :=
  (b = true ∧ n ≤ 12 ∧ (∀ i, i < n → (A i).ok) ∧ 0 < m ∧ ∃ L ks, m = ks.length ∧ (ks.map kV).Nodup ∧ (((List.range m).map G).map kV).Perm (ks.map kV) ∧ (∀ i j, i < j → j < m → ¬ lexC 12 (G j) (G i) < 0) ∧ MadeG n (fun i => (A i).key) L ks) ∨
  (b = false ∧ m = 0 ∧ ¬ (n ≤ 12 ∧ (∀ i, i < n → (A i).ok) ∧ ¬ NoG n (fun i => (A i).key)))
theorem opsA_empty {w : World} {lo : Nat} (A : Nat → OpD) (hb : lo ≤ w.heap.size) : OpsA (w.alloc (.cells #[] 57)) lo (w.alloc (.cells #[] 57)).heap.size w.heap.size 0 (fun _ => undef) (fun _ => undef) A :=
  ⟨⟨hb, by simp, #[], at_new 57 w #[], fun i hi => by omega⟩, fun i hi => by omega, fun i hi => by omega, fun i j hi => by omega, fun i j hi => by omega⟩
end Go.Proofs.YtiocneailhplkaaGreat
/-
  Words of generators: put together from the left and from the right they are the same. No function of the program.
-/
namespace Go.Proofs.YtiocneailhplkaaGreat
open Go.RowKit

/-- What comes of the one that does nothing by products on the left. -/
inductive ReachL (n : Nat) (F : Nat → Nat → Int) : (Nat → Int) → Prop
  | base {x : Nat → Int} : kV x = kV oneK → ReachL n F x
  | step {x y : Nat → Int} {i : Nat} : ReachL n F x → i < n → kV y = kV (mulQ (F i) x) → ReachL n F y
/-- Not all right, or too many. -/
def BadL (n : Nat) (F : Nat → Nat → Int) : Prop := (∃ x, ReachL n F x ∧ ¬ kR x) ∨ ∃ ls : List (Nat → Int), ls.length = 193 ∧ (ls.map kV).Nodup ∧ ∀ x ∈ ls, ReachL n F x
theorem ReachL.congr {n : Nat} {F : Nat → Nat → Int} {x y : Nat → Int} (h : ReachL n F x) (e : kV y = kV x) : ReachL n F y := by
  cases h with
  | base h => exact .base (e.trans h)
  | step h1 h2 h3 => exact .step h1 h2 (e.trans h3)
theorem ReachL.right {n : Nat} {F : Nat → Nat → Int} {x : Nat → Int} (hR : ∀ t, t < n → kR (F t)) (h : ReachL n F x) {t : Nat} (ht : t < n) : ReachL n F (mulQ x (F t)) := by
  induction h with
  | base h => exact .step (.base (x := oneK) rfl) ht (by rw [mulQ_congr h, one_mul (hR t ht), mulQ_one (hR t ht)])
  | step h1 h2 h3 ih => exact .step ih h2 (by rw [mulQ_congr h3, mulQ_assoc])
theorem Reach.left {n : Nat} {F : Nat → Nat → Int} {L : List (Nat → Int)} {x : Nat → Int} (hR : ∀ t, t < n → kR (F t)) (hL : ∀ u ∈ L, ∃ t, t < n ∧ u = F t) (h : Reach [kV oneK] L.length (nth L) x) : ReachL n F x := by
  induction h with
  | base h => exact .base (List.mem_singleton.1 h)
  | step h1 h2 h3 ih =>
    obtain ⟨t, ht, e⟩ := hL _ (nth_mem h2)
    rw [e] at h3
    exact (ih.right hR ht).congr h3
theorem MadeG.mul {n : Nat} {F : Nat → Nat → Int} {L ks : List (Nat → Int)} (hM : MadeG n F L ks) : ∀ y, Reach [kV oneK] L.length (nth L) y → ∀ x ∈ ks, kV (mulQ x y) ∈ ks.map kV := by
  intro y hy
  induction hy with
  | base h =>
    intro x hx
    rw [List.mem_singleton] at h
    rw [mulQ_congr2 h, mulQ_one (hM.grows.right x hx)]
    exact List.mem_map_of_mem hx
  | step h1 h2 h3 ih =>
    intro x hx
    obtain ⟨z, hz, ez⟩ := List.mem_map.1 (ih x hx)
    have := hM.closed z hz _ h2
    rw [mulQ_congr ez, mulQ_assoc] at this
    rw [mulQ_congr2 h3]
    exact this
theorem MadeG.hasL {n : Nat} {F : Nat → Nat → Int} {L ks : List (Nat → Int)} (hM : MadeG n F L ks) {x : Nat → Int} (h : ReachL n F x) : kV x ∈ ks.map kV := by
  induction h with
  | base h => rw [h]; exact hM.grows.has _ (by simp)
  | step h1 h2 h3 ih =>
    obtain ⟨z, hz, ez⟩ := List.mem_map.1 ih
    obtain ⟨u, hu, eu⟩ := List.mem_map.1 (hM.has _ h2)
    have := hM.mul z (hM.grows.reach z hz) u hu
    rw [mulQ_congr eu, mulQ_congr2 ez] at this
    rw [h3]
    exact this
theorem MadeG.notBad {n : Nat} {F : Nat → Nat → Int} {L ks : List (Nat → Int)} (hM : MadeG n F L ks) : ¬ BadL n F := by
  rintro (⟨x, h1, h2⟩ | ⟨ls, h1, h2, h3⟩)
  · obtain ⟨z, hz, ez⟩ := List.mem_map.1 (hM.hasL h1)
    exact h2 (kR_congr ez (hM.grows.right z hz))
  · have := h2.length_le_of_subset (l₂ := ks.map kV) (fun v hv => by
      obtain ⟨x, hx, rfl⟩ := List.mem_map.1 hv
      exact hM.hasL (h3 x hx))
    have h4 := hM.grows.few
    simp at this
    omega
theorem NoG.bad {n : Nat} {F : Nat → Nat → Int} (hR : ∀ t, t < n → kR (F t)) (h : NoG n F) : BadL n F := by
  obtain ⟨L, hL, hb⟩ := h
  rcases hb with ⟨x, h1, h2⟩ | ⟨ls, h1, h2, h3⟩
  · exact .inl ⟨x, h1.left hR hL, h2⟩
  · exact .inr ⟨ls, h1, h2, fun x hx => (h3 x hx).left hR hL⟩
/-- A list that has the one that does nothing, and its products on the left with the generators: it has all words. -/
theorem closedL_has {n : Nat} {F : Nat → Nat → Int} {ks : List (Nat → Int)} (h1 : kV oneK ∈ ks.map kV) (hc : ∀ x ∈ ks, ∀ i, i < n → kV (mulQ (F i) x) ∈ ks.map kV) {x : Nat → Int} (h : ReachL n F x) : kV x ∈ ks.map kV := by
  induction h with
  | base h => rw [h]; exact h1
  | step h1 h2 h3 ih =>
    obtain ⟨z, hz, ez⟩ := List.mem_map.1 ih
    rw [h3, ← mulQ_congr2 ez]
    exact hc z hz _ h2
/-- What the program makes and what the specification makes are the same, in order. -/
theorem same_words {n m k : Nat} {F G H : Nat → Nat → Int} {L ks : List (Nat → Int)} (hR : ∀ t, t < n → kR (F t)) (hnd : (ks.map kV).Nodup) (hp : (((List.range m).map G).map kV).Perm (ks.map kV)) (hs : ∀ i j, i < j → j < m → ¬ lexC 12 (G j) (G i) < 0) (hM : MadeG n F L ks)
    (hH : ∀ i, i + 1 < k → lexC 12 (H i) (H (i + 1)) < 0) (hr : ∀ i, i < k → ReachL n F (H i)) (h1 : kV oneK ∈ ((List.range k).map H).map kV) (hc : ∀ i, i < k → ∀ t, t < n → kV (mulQ (F t) (H i)) ∈ ((List.range k).map H).map kV) : m = k ∧ ∀ i, i < m → kV (G i) = kV (H i) := by
  have hlt : ∀ i j, i < j → j < k → lexC 12 (H i) (H j) < 0 := by
    intro i j hij hj
    induction j with
    | zero => omega
    | succ j ih =>
      by_cases e : i = j
      · rw [e]; exact hH j hj
      · exact lexC_trans (ih (by omega) (by omega)) (hH j hj)
  have hHn : (((List.range k).map H).map kV).Nodup := by
    unfold List.Nodup
    rw [List.pairwise_iff_getElem]
    intro i j hi hj hij
    simp at hj
    simp only [List.getElem_map, List.getElem_range]
    intro e
    have := hlt i j hij hj
    rw [kV_inj.1 e] at this
    omega
  have hperm : (((List.range m).map G).map kV).Perm (((List.range k).map H).map kV) := by
    refine hp.trans ((List.perm_ext_iff_of_nodup hnd hHn).2 fun v => ⟨fun hv => ?_, fun hv => ?_⟩)
    · obtain ⟨x, hx, rfl⟩ := List.mem_map.1 hv
      refine closedL_has h1 (fun y hy t ht => ?_) ((hM.grows.reach x hx).left hR hM.of)
      obtain ⟨i, hi, rfl⟩ := List.mem_map.1 hy
      exact hc i (List.mem_range.1 hi) t ht
    · obtain ⟨x, hx, rfl⟩ := List.mem_map.1 hv
      obtain ⟨i, hi, rfl⟩ := List.mem_map.1 hx
      exact hM.hasL (hr i (List.mem_range.1 hi))
  have hmk : m = k := by have := hperm.length_eq; simpa using this
  subst hmk
  have heq : ((List.range m).map G).map kV = ((List.range m).map H).map kV := by
    refine List.Perm.eq_of_pairwise (le := leV) ?_ ?_ ?_ hperm
    · intro a b ha hb h1 h2
      obtain ⟨x, y, rfl, rfl, h⟩ := h1
      rw [leV_iff] at h2
      refine kV_inj.2 ?_
      rcases lexC_range 12 x y with e | e | e
      · exact absurd (by omega : lexC 12 x y < 0) h2
      · exact e
      · exact absurd (lexC_pos.1 (by omega : 0 < lexC 12 x y)) h
    · rw [List.pairwise_iff_getElem]
      intro i j hi hj hij
      simp only [List.getElem_map, List.getElem_range]
      simp at hj
      exact leV_iff.2 (hs i j hij hj)
    · rw [List.pairwise_iff_getElem]
      intro i j hi hj hij
      simp only [List.getElem_map, List.getElem_range]
      simp at hj
      rw [leV_iff]
      intro h
      exact lexC_irrefl 12 _ (lexC_trans (hlt i j hij hj) h)
  refine ⟨rfl, fun i hi => ?_⟩
  have : (((List.range m).map G).map kV)[i]'(by simp; omega) = (((List.range m).map H).map kV)[i]'(by simp; omega) := by simp only [heq]
  simpa only [List.getElem_map, List.getElem_range] using this
end Go.Proofs.YtiocneailhplkaaGreat
