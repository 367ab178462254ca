/-
  What Corners leaves names each corner once. Mathematics alone: no function of the program.
-/
import Derived.Test.YtealbihplfpgeaaKo
namespace Go.Proofs.Ytealbihplfpgeaa
open Go.RowKit Go.Shelf Go.Sort Go.Lib

theorem cntP_one {p : Nat → Bool} : ∀ {k : Nat}, 0 < cntP p k ↔ ∃ a, a < k ∧ p a = true
  | 0 => by simp [cntP]
  | k + 1 => by
    have ih := cntP_one (p := p) (k := k)
    simp only [cntP]
    constructor
    · intro h
      by_cases e : p k = true
      · exact ⟨k, by omega, e⟩
      · rw [if_neg e] at h
        obtain ⟨a, ha, pa⟩ := ih.1 (by omega)
        exact ⟨a, by omega, pa⟩
    · rintro ⟨a, ha, pa⟩
      by_cases e : a = k
      · rw [← e, if_pos pa]; omega
      · have := ih.2 ⟨a, by omega, pa⟩
        omega
theorem cntP_two {p : Nat → Bool} : ∀ {k : Nat}, 1 < cntP p k ↔ ∃ a b, a < b ∧ b < k ∧ p a = true ∧ p b = true
  | 0 => by simp [cntP]
  | k + 1 => by
    have ih := cntP_two (p := p) (k := k)
    have i1 := cntP_one (p := p) (k := k)
    simp only [cntP]
    constructor
    · intro h
      by_cases e : p k = true
      · rw [if_pos e] at h
        obtain ⟨a, ha, pa⟩ := i1.1 (by omega)
        exact ⟨a, k, ha, by omega, pa, e⟩
      · rw [if_neg e] at h
        obtain ⟨a, b, h1, h2, h3⟩ := ih.1 (by omega)
        exact ⟨a, b, h1, by omega, h3⟩
    · rintro ⟨a, b, h1, h2, pa, pb⟩
      by_cases e : b = k
      · rw [← e, if_pos pb]
        rw [e] at h1
        have := i1.2 ⟨a, h1, pa⟩
        rw [← e] at this
        omega
      · have := ih.2 ⟨a, b, h1, by omega, pa, pb⟩
        omega
section Shape
variable {n : Nat} {f : Nat → Int}
theorem eqc.ht {o a b : Nat × Nat} (h : eqc f a b) : ht f o a = ht f o b := by
  have t := h.right o
  rcases ht_cases f o a with ⟨x, hx⟩ | ⟨x, nx, hx⟩ <;> rcases ht_cases f o b with ⟨y, hy⟩ | ⟨y, ny, hy⟩
  · omega
  · exfalso
    rcases hx with hx | hx
    · exact ny (hx.trans h)
    · omega
  · exfalso
    rcases hy with hy | hy
    · exact nx (hy.trans h.symm)
    · omega
  · omega
theorem SOk.tri (S : SOk n f) {o u v : Nat × Nat} (ho : o ∈ allP f n n) (hu : u ∈ allP f n n) (hv : v ∈ allP f n n) (h1 : ¬ cf f o u v < 0) (h2 : ¬ cf f o v u < 0) : eqc f u v := by
  rw [cf_lt] at h1 h2
  have s := tn_swap f u v
  have e : ht f o u = ht f o v := by omega
  exact S.dir ho hu hv e (by omega)
theorem eqc.cf {o a b c : Nat × Nat} (h : eqc f a b) : cf f o a c < 0 ↔ cf f o b c < 0 := by
  rw [cf_lt, cf_lt, h.ht (o := o), h.left c]
theorem d3_eq {l : List (Nat × Nat)} {a b : Nat} (ha : a < l.length) (hb : b < l.length) : (d3 f l)[a]! = (d3 f l)[b]! ↔ eqc f l[a] l[b] := by
  rw [d3_get f l ha, d3_get f l hb]
  simp only [Prod.mk.injEq]
  exact Iff.rfl
theorem SOk.keptApart (S : SOk n f) {l : List (Nat × Nat)} {o : Nat × Nat} (hp : l.Perm (allP f n n)) (ho : o ∈ allP f n n) (hs : Seen f o l) {a b : Nat} (hab : a < b) (hb : b < l.length) (hk : keeps (d3 f l) b = true) : (d3 f l)[a]! ≠ (d3 f l)[b]! := by
  intro e
  have hk' : (d3 f l)[b]! ≠ (d3 f l)[b - 1]! := by
    unfold keeps at hk
    rcases of_decide_eq_true hk with c | c
    · omega
    · exact c
  apply hk'
  have e1 := (d3_eq (f := f) (by omega : a < l.length) hb).1 e
  rw [d3_eq hb (by omega)]
  by_cases h1 : a = b - 1
  · subst h1; exact e1.symm
  have hs' := List.pairwise_iff_getElem.1 hs
  have m : ∀ j (hj : j < l.length), l[j] ∈ allP f n n := fun j hj => hp.mem_iff.1 (List.getElem_mem hj)
  have s1 := hs' a (b - 1) (by omega) (by omega) (by omega)
  have s2 := hs' (b - 1) b (by omega) hb (by omega)
  have s3 : ¬ cf f o l[a] l[b - 1] < 0 := fun z => s2 (e1.cf.1 z)
  exact e1.symm.trans (S.tri ho (m a (by omega)) (m (b - 1) (by omega)) s3 s1)
theorem kept_has {l : List (Nat × Nat)} : ∀ (i : Nat), i < l.length → ∃ j, j < (kept f l).size ∧ (kept f l)[j]! = (d3 f l)[i]! := by
  intro i
  induction i with
  | zero =>
    intro hi
    have hm : (d3 f l)[0]! ∈ compactUpTo (d3 f l) (d3 f l).size := List.mem_map.2 ⟨0, List.mem_filter.2 ⟨List.mem_range.2 (by rw [d3_size]; exact hi), keeps_lt_one _ 0 (by omega)⟩, rfl⟩
    obtain ⟨j, hj, e⟩ := List.mem_iff_getElem.1 hm
    exact ⟨j, hj, by rw [getElem!_pos _ j (show j < (kept f l).size from hj)]; exact e⟩
  | succ i ih =>
    intro hi
    by_cases hk : keeps (d3 f l) (i + 1) = true
    · have hm : (d3 f l)[i + 1]! ∈ compactUpTo (d3 f l) (d3 f l).size := List.mem_map.2 ⟨i + 1, List.mem_filter.2 ⟨List.mem_range.2 (by rw [d3_size]; exact hi), hk⟩, rfl⟩
      obtain ⟨j, hj, e⟩ := List.mem_iff_getElem.1 hm
      exact ⟨j, hj, by rw [getElem!_pos _ j (show j < (kept f l).size from hj)]; exact e⟩
    · obtain ⟨j, hj, e⟩ := ih (by omega)
      refine ⟨j, hj, e.trans ?_⟩
      unfold keeps at hk
      have h2 : ¬ (i + 1 = 0 ∨ (d3 f l)[i + 1]! ≠ (d3 f l)[i + 1 - 1]!) := fun z => hk (decide_eq_true z)
      have h3 : (d3 f l)[i + 1]! = (d3 f l)[i + 1 - 1]! := Classical.not_not.1 fun z => h2 (.inr z)
      exact h3.symm
theorem SOk.keptNo (S : SOk n f) {l : List (Nat × Nat)} {o : Nat × Nat} (hp : l.Perm (allP f n n)) (ho : o ∈ allP f n n) (hs : Seen f o l) {a b : Nat} (hab : a < b) (hb : b < (kept f l).size) : (kept f l)[a]! ≠ (kept f l)[b]! := by
  have hpw : (compactUpTo (d3 f l) (d3 f l).size).Pairwise (· ≠ ·) := by
    unfold compactUpTo
    rw [List.pairwise_map]
    have h1 : ((List.range (d3 f l).size).filter (keeps (d3 f l))).Pairwise (· < ·) := List.Pairwise.filter _ List.pairwise_lt_range
    refine List.Pairwise.imp_of_mem ?_ h1
    intro x y hx hy hxy
    have hy' := List.mem_filter.1 hy
    exact S.keptApart hp ho hs hxy (by have := List.mem_range.1 hy'.1; rwa [d3_size] at this) hy'.2
  have := List.pairwise_iff_getElem.1 hpw a b (Nat.lt_trans hab hb) hb hab
  rw [getElem!_pos (kept f l) a (Nat.lt_trans hab hb), getElem!_pos (kept f l) b hb]
  exact this
theorem SOk.counts (S : SOk n f) : Counts f n := by
  intro l o hp ho hs i hi
  unfold onC
  rw [cntP_two]
  have on : ∀ j, ∀ p : Nat × Nat, (kept f l)[j]! = (gX f p, gY f p, gD f p) → (onT (f (i * 3)) (f (i * 3 + 1)) (f (i * 3 + 2)) (kept f l) j = true ↔ ou f i p = 0) := fun j p e => by
    unfold onT
    rw [e, decide_eq_true_eq]
    exact Iff.rfl
  constructor
  · rintro ⟨a, b, hab, hb, pa, pb⟩
    obtain ⟨p, hpm, e1⟩ := kept_mem (Nat.lt_trans hab hb)
    obtain ⟨q, hqm, e2⟩ := kept_mem hb
    refine shows_of (hp.mem_iff.1 hpm) (hp.mem_iff.1 hqm) ((on a p e1).1 pa) ((on b q e2).1 pb) (fun e => ?_)
    refine S.keptNo hp ho hs hab hb ?_
    rw [e1, e2, e.1, e.2.1, e.2.2]
  · intro sh
    obtain ⟨p, q, hpm, hqm, p1, q1, hne⟩ := S.twoOn hi sh
    have get : ∀ p, p ∈ allP f n n → ∃ j, j < (kept f l).size ∧ (kept f l)[j]! = (gX f p, gY f p, gD f p) := fun p hpp => by
      obtain ⟨x, hx, e⟩ := List.mem_iff_getElem.1 (hp.mem_iff.2 hpp)
      obtain ⟨j, hj, e'⟩ := kept_has (f := f) x hx
      exact ⟨j, hj, by rw [e', d3_get f l hx, e]⟩
    obtain ⟨a, ha, e1⟩ := get p hpm
    obtain ⟨b, hb, e2⟩ := get q hqm
    have hab : a ≠ b := fun e => hne (by
      rw [e, e2] at e1
      simp only [Prod.mk.injEq] at e1
      exact ⟨e1.1.symm, e1.2.1.symm, e1.2.2.symm⟩)
    rcases Nat.lt_or_gt_of_ne hab with h | h
    · exact ⟨a, b, h, hb, (on a p e1).2 p1, (on b q e2).2 q1⟩
    · exact ⟨b, a, h, ha, (on b q e2).2 q1, (on a p e1).2 p1⟩
end Shape
end Go.Proofs.Ytealbihplfpgeaa
