/-
  A group within a group: its number divides the greater one's. No function of the program.
-/
import Derived.Test.YtfmbljmcdidocaaGreatNC
import Derived.Test.YtfmbljmcdidocaaGreatMN
import Derived.Test.YtfmbljmcdidocaaGreatNB
import Derived.Test.YtfmbljmcdidocaaGreatOB
import Derived.Test.YtfmbljmcdidocaaGreatOC
import Derived.Test.YtfmbljmcdidocaaGreatOA
import Derived.Test.YtfmbljmcdidocaaGreatDrA
import Derived.Test.YtfmbljmcdidocaaGreatNL
import Derived.Test.YtfmbljmcdidocaaGreatNN
import Derived.Test.YtfmbljmcdidocaaGreatE6c
import Derived.Test.YtfmbljmcdidocaaGreatKd3
import Derived.Test.YtfmbljmcdidocaaGreatB17i
namespace Go.Proofs.YtfmbljmcdidocaaGreat
open Go.RowKit

/-- A sum of numbers. -/
def sumL (f : Nat → Nat) : Nat → Nat
  | 0 => 0
  | m + 1 => sumL f m + f m
theorem sumL_add (f g : Nat → Nat) : ∀ m, sumL (fun t => f t + g t) m = sumL f m + sumL g m
  | 0 => rfl
  | m + 1 => by
    unfold sumL
    rw [sumL_add f g m]
    omega
theorem sumL_zero {f : Nat → Nat} : ∀ {m : Nat}, (∀ t, t < m → f t = 0) → sumL f m = 0
  | 0, _ => rfl
  | m + 1, h => by
    unfold sumL
    rw [sumL_zero (m := m) (fun t ht => h t (by omega)), h m (by omega)]
theorem sumL_one {f : Nat → Nat} {t0 : Nat} : ∀ {m : Nat}, t0 < m → (∀ t, t < m → f t = if t = t0 then 1 else 0) → sumL f m = 1
  | 0, h, _ => absurd h (Nat.not_lt_zero _)
  | m + 1, h, hf => by
    unfold sumL
    by_cases e : t0 = m
    · rw [hf m (by omega), if_pos e.symm, sumL_zero (fun t ht => by rw [hf t (by omega), if_neg (by omega)])]
    · rw [hf m (by omega), if_neg (fun h' => e h'.symm), sumL_one (t0 := t0) (m := m) (by omega) (fun t ht => hf t (by omega))]
theorem sumL_dvd {f : Nat → Nat} {d : Nat} : ∀ {m : Nat}, (∀ t, t < m → f t = 0 ∨ f t = d) → d ∣ sumL f m
  | 0, _ => Nat.dvd_zero d
  | m + 1, h => by
    unfold sumL
    refine Nat.dvd_add (sumL_dvd (m := m) (fun t ht => h t (by omega))) ?_
    rcases h m (by omega) with e | e
    · rw [e]; exact Nat.dvd_zero d
    · rw [e]; exact Nat.dvd_refl d
/-- All numbers below n, parted by what a function tells of them. -/
theorem kN_split {r : Nat → Nat} {M : Nat} : ∀ {n : Nat}, (∀ i, i < n → r i < M) → sumL (fun t => kN (fun i => decide (r i = t)) n) M = n
  | 0, _ => sumL_zero (fun t _ => rfl)
  | n + 1, h => by
    have e : ∀ t, kN (fun i => decide (r i = t)) (n + 1) = kN (fun i => decide (r i = t)) n + if t = r n then 1 else 0 := fun t => by
      by_cases c : r n = t
      · rw [kN_yes (P := fun i => decide (r i = t)) (decide_eq_true c), if_pos c.symm]
      · rw [kN_no (P := fun i => decide (r i = t)) (decide_eq_false c), if_neg (fun x => c x.symm), Nat.add_zero]
    have e' : sumL (fun t => kN (fun i => decide (r i = t)) (n + 1)) M = sumL (fun t => kN (fun i => decide (r i = t)) n + if t = r n then 1 else 0) M := congrArg (fun f => sumL f M) (funext e)
    rw [e', sumL_add, kN_split (n := n) (fun i hi => h i (by omega)), sumL_one (h n (by omega)) (fun t _ => rfl)]
/-- As many as a function of the numbers below m, no two to one, meets. -/
theorem kN_image {n m : Nat} {s : Nat → Nat} {P : Nat → Bool} (h1 : ∀ t, t < m → s t < n ∧ P (s t) = true) (h2 : ∀ t t', t < m → t' < m → s t = s t' → t = t') (h3 : ∀ i, i < n → P i = true → ∃ t, t < m ∧ s t = i) : kN P n = m := by
  have nd : ((List.range m).map s).Nodup := by
    rw [List.Nodup, List.pairwise_iff_getElem]
    intro i j hi hj hij
    simp only [List.getElem_map, List.getElem_range]
    simp at hi hj
    intro e
    have := h2 i j hi hj e
    omega
  have nk : (kL P n).Nodup := List.Pairwise.filter _ List.nodup_range
  have hp : ((List.range m).map s).Perm (kL P n) := by
    refine (List.perm_ext_iff_of_nodup nd nk).2 (fun a => ⟨fun h => ?_, fun h => ?_⟩)
    · obtain ⟨t, ht, rfl⟩ := List.mem_map.1 h
      obtain ⟨x1, x2⟩ := h1 t (List.mem_range.1 ht)
      exact List.mem_filter.2 ⟨List.mem_range.2 x1, x2⟩
    · obtain ⟨x1, x2⟩ := List.mem_filter.1 h
      obtain ⟨t, ht, e⟩ := h3 a (List.mem_range.1 x1) x2
      exact List.mem_map.2 ⟨t, List.mem_range.2 ht, e⟩
  unfold kN
  rw [← hp.length_eq]
  simp
/-- The least number below n of which something holds, or n. -/
noncomputable def leastN (P : Nat → Prop) : Nat → Nat
  | 0 => 0
  | n + 1 => @ite _ (∃ i, i < n ∧ P i) (Classical.propDecidable _) (leastN P n) n
theorem leastN_at {P : Nat → Prop} : ∀ {n : Nat}, (∃ i, i < n ∧ P i) → leastN P n < n ∧ P (leastN P n)
  | 0, h => by obtain ⟨i, h, -⟩ := h; exact absurd h (Nat.not_lt_zero _)
  | n + 1, h => by
    unfold leastN
    by_cases c : ∃ i, i < n ∧ P i
    · rw [if_pos c]
      obtain ⟨a, b⟩ := leastN_at c
      exact ⟨by omega, b⟩
    · rw [if_neg c]
      obtain ⟨i, hi, hP⟩ := h
      have : i = n := by
        rcases Nat.lt_or_ge i n with h | h
        · exact absurd ⟨i, h, hP⟩ c
        · omega
      subst this
      exact ⟨by omega, hP⟩
theorem leastN_congr {P Q : Nat → Prop} : ∀ {n : Nat}, (∀ i, i < n → (P i ↔ Q i)) → leastN P n = leastN Q n
  | 0, _ => rfl
  | n + 1, h => by
    unfold leastN
    have e : (∃ i, i < n ∧ P i) ↔ (∃ i, i < n ∧ Q i) := ⟨fun ⟨i, a, b⟩ => ⟨i, a, (h i (by omega)).1 b⟩, fun ⟨i, a, b⟩ => ⟨i, a, (h i (by omega)).2 b⟩⟩
    by_cases c : ∃ i, i < n ∧ P i
    · rw [if_pos c, if_pos (e.1 c), leastN_congr (n := n) (fun i hi => h i (by omega))]
    · rw [if_neg c, if_neg (fun x => c (e.2 x))]
/-- A member's way back is a member. -/
theorem isG.inv {n i : Nat} {A : Nat → OpD} (h : isG n A) (hi : i < n) : ∃ j, j < n ∧ kV (mulQ (A j).key (A i).key) = kV oneK := by
  have hm : ∀ j, ∃ s, j < n → s < n ∧ kV (A s).key = kV (mulQ (A j).key (A i).key) := fun j => by
    by_cases hj : j < n
    · obtain ⟨s, h1, h2⟩ := h.mul hj hi
      exact ⟨s, fun _ => ⟨h1, h2⟩⟩
    · exact ⟨0, fun x => absurd x hj⟩
  obtain ⟨s, hs⟩ := Classical.axiomOfChoice hm
  obtain ⟨o, ho, eo⟩ := h.one
  have inj : ∀ a b, a < n → b < n → s a = s b → a = b := fun a b ha hb e => h.2.2.1.inj ha hb (strike_right (h.key hi) (h.key ha) (h.key hb) ((hs a ha).2.symm.trans (by rw [e]; exact (hs b hb).2)))
  have hall : kN (fun x => decide (∃ t, t < n ∧ s t = x)) n = n := kN_image (s := s) (fun t ht => ⟨(hs t ht).1, decide_eq_true ⟨t, ht, rfl⟩⟩) inj (fun x _ hx => of_decide_eq_true hx)
  have : ∃ t, t < n ∧ s t = o := by
    refine Classical.byContradiction (fun hn => ?_)
    have e1 : kN (fun x => decide (∃ t, t < n ∧ s t = x)) n < n := by
      have nk : (kL (fun x => decide (∃ t, t < n ∧ s t = x)) n).Nodup := List.Pairwise.filter _ List.nodup_range
      have hsub : kL (fun x => decide (∃ t, t < n ∧ s t = x)) n ⊆ (List.range n).erase o := fun a ha => by
        obtain ⟨x1, x2⟩ := List.mem_filter.1 ha
        exact (List.mem_erase_of_ne (fun e => hn (by rw [← e]; exact of_decide_eq_true x2))).2 x1
      have := nk.length_le_of_subset hsub
      rw [List.length_erase_of_mem (List.mem_range.2 ho)] at this
      simp at this
      unfold kN
      omega
    omega
  obtain ⟨t, ht, e⟩ := this
  exact ⟨t, ht, (hs t ht).2.symm.trans (by rw [e]; exact eo)⟩
/-- Lagrange: a group within a group divides it. -/
theorem group_dvd {n m : Nat} {A H : Nat → OpD} (hA : isG n A) (hH : isG m H) (hs : ∀ t, t < m → ∃ j, j < n ∧ kV (A j).key = kV (H t).key) : m ∣ n := by
  -- what goes together
  let R : Nat → Nat → Prop := fun i j => ∃ t, t < m ∧ kV (A j).key = kV (mulQ (H t).key (A i).key)
  have refl : ∀ i, i < n → R i i := fun i hi => by
    obtain ⟨o, ho, eo⟩ := hH.one
    refine ⟨o, ho, ?_⟩
    rw [mulQ_congr eo, one_mul (hA.key hi)]
  have trans : ∀ i j k, R i j → R j k → R i k := fun i j k ⟨t, ht, e⟩ ⟨u, hu, e2⟩ => by
    obtain ⟨v, hv, e3⟩ := hH.mul hu ht
    refine ⟨v, hv, ?_⟩
    rw [e2, mulQ_congr2 e, ← mulQ_assoc, mulQ_congr e3]
  have symm : ∀ i j, i < n → R i j → R j i := fun i j hi ⟨t, ht, e⟩ => by
    obtain ⟨v, hv, e3⟩ := hH.inv ht
    refine ⟨v, hv, ?_⟩
    rw [mulQ_congr2 e, ← mulQ_assoc, mulQ_congr e3, one_mul (hA.key hi)]
  let r : Nat → Nat := fun i => leastN (R i) n
  have hr : ∀ i, i < n → r i < n ∧ R i (r i) := fun i hi => leastN_at ⟨i, hi, refl i hi⟩
  have hrr : ∀ i j, i < n → j < n → R i j → r i = r j := fun i j hi hj h => leastN_congr (fun k _ => ⟨fun x => trans j i k (symm i j hi h) x, fun x => trans i j k h x⟩)
  have hcount : ∀ x, x < n → kN (fun i => decide (r i = x)) n = 0 ∨ kN (fun i => decide (r i = x)) n = m := fun x hx => by
    by_cases c : ∃ i, i < n ∧ r i = x
    · right
      obtain ⟨i0, h0, e0⟩ := c
      have hm : ∀ t, ∃ j, t < m → j < n ∧ kV (A j).key = kV (mulQ (H t).key (A i0).key) := fun t => by
        by_cases ht : t < m
        · obtain ⟨a, ha, ea⟩ := hs t ht
          obtain ⟨j, hj, ej⟩ := hA.mul ha h0
          exact ⟨j, fun _ => ⟨hj, by rw [ej, mulQ_congr ea]⟩⟩
        · exact ⟨0, fun y => absurd y ht⟩
      obtain ⟨s, hsx⟩ := Classical.axiomOfChoice hm
      refine kN_image (s := s) (fun t ht => ⟨(hsx t ht).1, decide_eq_true ?_⟩) (fun t t' ht ht' e => ?_) (fun i hi hP => ?_)
      · rw [← hrr i0 (s t) h0 (hsx t ht).1 ⟨t, ht, (hsx t ht).2⟩]; exact e0
      · exact hH.2.2.1.inj ht ht' (strike_right (hA.key h0) (hH.key ht) (hH.key ht') ((hsx t ht).2.symm.trans (by rw [e]; exact (hsx t' ht').2)))
      · have e1 : r i = x := of_decide_eq_true hP
        have a1 := (hr i hi).2
        have a0 := (hr i0 h0).2
        rw [e1] at a1
        rw [e0] at a0
        obtain ⟨t, ht, et⟩ := trans i0 x i a0 (symm i x hi a1)
        exact ⟨t, ht, hA.2.2.1.inj (hsx t ht).1 hi ((hsx t ht).2.trans et.symm)⟩
    · left
      have : kL (fun i => decide (r i = x)) n = [] := by
        unfold kL
        rw [List.filter_eq_nil_iff]
        intro i hi h
        exact c ⟨i, List.mem_range.1 hi, of_decide_eq_true h⟩
      unfold kN
      rw [this]
      rfl
  have := sumL_dvd hcount
  rw [kN_split (fun i hi => (hr i hi).1)] at this
  exact this
end Go.Proofs.YtfmbljmcdidocaaGreat
/-
  The turns of a group: they are a group, and each is met as often as the one that turns nothing. No function of the program.
-/
namespace Go.Proofs.YtfmbljmcdidocaaGreat
open Go.RowKit

theorem kI_is {P : Nat → Bool} {n j : Nat} (hj : j < kN P n) : P (kI P n j) = true := by
  have hj' : j < (kL P n).length := hj
  unfold kI
  rw [List.getElem?_eq_getElem hj', Option.getD_some]
  exact (List.mem_filter.1 (List.getElem_mem hj')).2
theorem kI_inj {P : Nat → Bool} {n i j : Nat} (hi : i < kN P n) (hj : j < kN P n) (e : kI P n i = kI P n j) : i = j := by
  have hi' : i < (kL P n).length := hi
  have hj' : j < (kL P n).length := hj
  unfold kI at e
  rw [List.getElem?_eq_getElem hi', List.getElem?_eq_getElem hj', Option.getD_some, Option.getD_some] at e
  have nd : (kL P n).Nodup := List.Pairwise.filter _ List.nodup_range
  rw [List.Nodup, List.pairwise_iff_getElem] at nd
  rcases Nat.lt_trichotomy i j with h | h | h
  · exact absurd e (nd i j hi' hj' h)
  · exact h
  · exact absurd e.symm (nd j i hj' hi' h)
theorem kI_has {P : Nat → Bool} {n i : Nat} (hi : i < n) (hP : P i = true) : ∃ j, j < kN P n ∧ kI P n j = i := by
  have hm : i ∈ kL P n := List.mem_filter.2 ⟨List.mem_range.2 hi, hP⟩
  obtain ⟨j, hj, e⟩ := List.getElem_of_mem hm
  refine ⟨j, hj, ?_⟩
  unfold kI
  rw [List.getElem?_eq_getElem hj, Option.getD_some]
  exact e
theorem zk_lo (x : Nat → Int) {j : Nat} (hj : j < 9) : zk x j = x j := cat_lo _ _ hj
theorem zk_hi (x : Nat → Int) (i : Nat) : zk x (9 + i) = 0 := cat_hi _ _ i
theorem zk_eq {x y : Nat → Int} : kV (zk x) = kV (zk y) ↔ ∀ j, j < 9 → x j = y j := by
  constructor
  · intro h j hj
    have := (kV_ext.1 h).1 j hj
    rwa [zk_lo _ hj, zk_lo _ hj] at this
  · intro h
    exact kV_ext.2 ⟨fun j hj => by rw [zk_lo _ hj, zk_lo _ hj]; exact h j hj, fun i _ => by rw [zk_hi, zk_hi]⟩
theorem zk_congr {x y : Nat → Int} (h : kV x = kV y) : kV (zk x) = kV (zk y) := zk_eq.2 (kV_ext.1 h).1
theorem zk_one : kV (zk oneK) = kV oneK :=
  kV_ext.2 ⟨fun j hj => zk_lo _ hj, fun i hi => by rw [zk_hi]; exact (cat_hi oneF (fun _ => 0) i).symm⟩
theorem zk_mul (x y : Nat → Int) : kV (zk (mulQ x y)) = kV (mulQ (zk x) (zk y)) := by
  refine kV_ext.2 ⟨fun j hj => ?_, fun i hi => ?_⟩
  · rw [zk_lo _ hj, mulQ_lo _ _ hj, mulQ_lo _ _ hj]
    exact (mulM_congr (fun j h => zk_lo x h) (fun j h => zk_lo y h) j hj).symm
  · rw [zk_hi, mulQ_hi, behV_congr (f := zk x) (f' := zk x) (h := kh (zk x)) (h' := fun _ => 0) (k := kh (zk y)) (k' := fun _ => 0) (fun _ _ => rfl) (fun j _ => zk_hi x j) (fun j _ => zk_hi y j) i hi]
    unfold behV
    rw [movV_at]
    simp
theorem turn_ok {o : OpD} (h : o.ok) : (turnD o).ok := ⟨rfl, rfl, isR_turn h.2.2⟩
theorem turn_R {o : OpD} (h : o.ok) : kR (zk o.key) := by
  have h1 := ok_R (turn_ok h)
  have e := kV_ext.1 (zk_key o)
  refine ⟨fun i hi => ?_, fun i hi => ?_, ?_⟩
  · rw [e.1 i hi]; exact h1.1 i hi
  · show 0 ≤ zk o.key (9 + i) ∧ zk o.key (9 + i) < 24
    rw [zk_hi]; omega
  · have d : det3 (zk o.key) = det3 (turnD o).key := by
      unfold det3
      simp only [e.1 0 (by omega), e.1 1 (by omega), e.1 2 (by omega), e.1 3 (by omega), e.1 4 (by omega), e.1 5 (by omega), e.1 6 (by omega), e.1 7 (by omega), e.1 8 (by omega)]
    rw [d]; exact h1.2.2
/-- The new turns of a group in order. -/
theorem turns_stay {n : Nat} {A : Nat → OpD} (hG : isG n A) : Stay 12 (zF (fun i => (A i).key)) n := stay_of (fun i j hij hj h => by
  have := z_le hG.2.2.1 hij hj
  exact this (lexC_pos.2 h))
/-- The turn of a member has a place. -/
theorem turns_at {n i : Nat} {A : Nat → OpD} (hG : isG n A) (hi : i < n) : ∃ t, t < kN (dk A) n ∧ kV (zk (A (kI (dk A) n t)).key) = kV (zk (A i).key) := by
  obtain ⟨t, ht, e⟩ := (turns_stay hG).all i hi
  exact ⟨t, ht, kV_inj.2 e⟩
theorem turns_rise {n : Nat} {A : Nat → OpD} (hG : isG n A) : Rises (kN (dk A) n) (fun t => turnD (A (kI (dk A) n t))) := fun t ht => by
  have := (turns_stay hG).up t ht
  rw [key_z]
  exact this
theorem turns_inj {n s t : Nat} {A : Nat → OpD} (hG : isG n A) (hs : s < kN (dk A) n) (ht : t < kN (dk A) n) (e : kV (zk (A (kI (dk A) n s)).key) = kV (zk (A (kI (dk A) n t)).key)) : s = t :=
  (turns_rise hG).inj hs ht (by rw [← zk_key, ← zk_key]; exact e)
/-- The turns of a group are a group. -/
theorem turns_group {n : Nat} {A : Nat → OpD} (hG : isG n A) : isG (kN (dk A) n) (fun t => turnD (A (kI (dk A) n t))) := by
  refine isG_of (Nat.le_trans (kN_le _ _) hG.1) (fun i hi => turn_ok (hG.2.1 _ (kI_lt hi))) (turns_rise hG) ?_ (fun i k hi hk => ?_)
  · obtain ⟨i, hi, e⟩ := hG.one
    obtain ⟨t, ht, e2⟩ := turns_at hG hi
    refine ⟨t, ht, ?_⟩
    show kV (turnD (A (kI (dk A) n t))).key = kV oneK
    rw [← zk_key, e2, zk_congr e, zk_one]
  · obtain ⟨j, hj, e⟩ := hG.mul (kI_lt hi) (kI_lt hk)
    obtain ⟨t, ht, e2⟩ := turns_at hG hj
    refine ⟨t, ht, ?_⟩
    show kV (turnD (A (kI (dk A) n t))).key = kV (mulQ (turnD (A (kI (dk A) n i))).key (turnD (A (kI (dk A) n k))).key)
    rw [← zk_key, e2, zk_congr e, zk_mul, mulQ_congr (zk_key _), mulQ_congr2 (zk_key _)]
/-- This member turns nothing. -/
def stillP (A : Nat → OpD) (i : Nat) : Prop := ∀ j, j < 9 → (A i).f j = oneF j
theorem still_zk {A : Nat → OpD} {i : Nat} : stillP A i ↔ kV (zk (A i).key) = kV oneK := by
  rw [← zk_one, zk_eq]
  have o : ∀ j, j < 9 → oneK j = oneF j := fun j hj => cat_lo _ _ hj
  exact ⟨fun h j hj => by rw [key_lo _ hj, o j hj]; exact h j hj, fun h j hj => by rw [← key_lo (A i) hj, ← o j hj]; exact h j hj⟩
theorem oneK_R : kR oneK := by decide
theorem sumL_same {f : Nat → Nat} {d : Nat} : ∀ {m : Nat}, (∀ t, t < m → f t = d) → sumL f m = m * d
  | 0, _ => by simp [sumL]
  | m + 1, h => by
    unfold sumL
    rw [sumL_same (m := m) (fun t ht => h t (by omega)), h m (by omega), Nat.succ_mul]
open Classical in
/-- Each turn is met as often as the one that turns nothing. -/
theorem turns_count {n s : Nat} {A : Nat → OpD} (hG : isG n A) (hs : kN (fun i => decide (stillP A i)) n = s) : kN (dk A) n * s = n := by
  have hr0 : ∀ i, ∃ t, i < n → t < kN (dk A) n ∧ kV (zk (A (kI (dk A) n t)).key) = kV (zk (A i).key) := fun i => by
    by_cases hi : i < n
    · obtain ⟨t, h⟩ := turns_at hG hi
      exact ⟨t, fun _ => h⟩
    · exact ⟨0, fun h => absurd h hi⟩
  obtain ⟨r, hr⟩ := Classical.axiomOfChoice hr0
  have hfib : ∀ t, t < kN (dk A) n → kN (fun i => decide (r i = t)) n = s := fun t ht => by
    have h0 : kI (dk A) n t < n := kI_lt ht
    have hm : ∀ u, ∃ j, u < s → j < n ∧ kV (A j).key = kV (mulQ (A (kI (fun i => decide (stillP A i)) n u)).key (A (kI (dk A) n t)).key) := fun u => by
      by_cases hu : u < s
      · obtain ⟨j, hj, ej⟩ := hG.mul (kI_lt (by rw [hs]; exact hu)) h0
        exact ⟨j, fun _ => ⟨hj, ej⟩⟩
      · exact ⟨0, fun y => absurd y hu⟩
    obtain ⟨q, hq⟩ := Classical.axiomOfChoice hm
    refine kN_image (s := q) (fun u hu => ⟨(hq u hu).1, decide_eq_true ?_⟩) (fun u u' hu hu' e => ?_) (fun i hi hP => ?_)
    · have hus : u < kN (fun i => decide (stillP A i)) n := by rw [hs]; exact hu
      have hst : stillP A (kI (fun i => decide (stillP A i)) n u) := of_decide_eq_true (kI_is hus)
      have e1 : kV (zk (A (q u)).key) = kV (zk (A (kI (dk A) n t)).key) := by
        rw [zk_congr (hq u hu).2, zk_mul, mulQ_congr (still_zk.1 hst), one_mul (turn_R (hG.2.1 _ h0))]
      obtain ⟨a, b⟩ := hr (q u) (hq u hu).1
      exact turns_inj hG a ht (b.trans e1)
    · have hus : u < kN (fun i => decide (stillP A i)) n := by rw [hs]; exact hu
      have hus' : u' < kN (fun i => decide (stillP A i)) n := by rw [hs]; exact hu'
      have := strike_right (hG.key h0) (hG.key (kI_lt hus)) (hG.key (kI_lt hus')) ((hq u hu).2.symm.trans (by rw [e]; exact (hq u' hu').2))
      exact kI_inj hus hus' (hG.2.2.1.inj (kI_lt hus) (kI_lt hus') this)
    · have e1 : r i = t := of_decide_eq_true hP
      have e2 := (hr i hi).2
      rw [e1] at e2
      obtain ⟨j, hj, ej⟩ := hG.inv h0
      obtain ⟨u, hu, eu⟩ := hG.mul hi hj
      have hmul : kV (mulQ (A u).key (A (kI (dk A) n t)).key) = kV (A i).key := by
        rw [mulQ_congr eu, mulQ_assoc, mulQ_congr2 ej, mulQ_one (hG.key hi)]
      have hz : kV (zk (A u).key) = kV oneK := by
        refine strike_right (turn_R (hG.2.1 _ h0)) (turn_R (hG.2.1 _ hu)) oneK_R ?_
        rw [← zk_mul, zk_congr hmul, ← e2, one_mul (turn_R (hG.2.1 _ h0))]
      obtain ⟨p, hp, ep⟩ := kI_has (P := fun i => decide (stillP A i)) hu (decide_eq_true (still_zk.2 hz))
      rw [hs] at hp
      refine ⟨p, hp, hG.2.2.1.inj (hq p hp).1 hi ?_⟩
      rw [(hq p hp).2, ep]
      exact hmul
  rw [← sumL_same hfib]
  exact kN_split (fun i hi => (hr i hi).1)
/-- A sum of numbers. -/
def sumZ (f : Nat → Int) : Nat → Int
  | 0 => 0
  | m + 1 => sumZ f m + f m
theorem sumZ_add (f g : Nat → Int) : ∀ m, sumZ (fun t => f t + g t) m = sumZ f m + sumZ g m
  | 0 => rfl
  | m + 1 => by
    simp only [sumZ]
    rw [sumZ_add f g m]
    omega
theorem sumZ_congr {f g : Nat → Int} : ∀ {m : Nat}, (∀ t, t < m → f t = g t) → sumZ f m = sumZ g m
  | 0, _ => rfl
  | m + 1, h => by
    simp only [sumZ]
    rw [sumZ_congr (m := m) (fun t ht => h t (by omega)), h m (by omega)]
theorem sumZ_zero {f : Nat → Int} : ∀ {m : Nat}, (∀ t, t < m → f t = 0) → sumZ f m = 0
  | 0, _ => rfl
  | m + 1, h => by
    simp only [sumZ]
    rw [sumZ_zero (m := m) (fun t ht => h t (by omega)), h m (by omega)]; rfl
theorem sumZ_one {f : Nat → Int} {t0 : Nat} : ∀ {m : Nat}, t0 < m → (∀ t, t < m → f t = if t = t0 then 1 else 0) → sumZ f m = 1
  | 0, h, _ => absurd h (Nat.not_lt_zero _)
  | m + 1, h, hf => by
    simp only [sumZ]
    by_cases e : t0 = m
    · rw [hf m (by omega), if_pos e.symm, sumZ_zero (fun t ht => by rw [hf t (by omega), if_neg (by omega)])]; rfl
    · rw [hf m (by omega), if_neg (fun h' => e h'.symm), sumZ_one (t0 := t0) (m := m) (by omega) (fun t ht => hf t (by omega))]; rfl
/-- Each of the first m is counted once. -/
theorem cnt_sum {q x : Nat → Q4Kn} {L : Nat} (inj : ∀ s t, s < L → t < L → x s = x t → s = t) : ∀ m : Nat, (∀ j, j < m → ∃ t, t < L ∧ x t = q j) → sumZ (fun t => cntK q m (x t)) L = m
  | 0, _ => sumZ_zero (fun t _ => rfl)
  | m + 1, h => by
    obtain ⟨t0, h0, e0⟩ := h m (by omega)
    have e : sumZ (fun t => cntK q (m + 1) (x t)) L = sumZ (fun t => cntK q m (x t) + if q m = x t then 1 else 0) L := rfl
    rw [e, sumZ_add, cnt_sum inj m (fun j hj => h j (by omega)), sumZ_one (t0 := t0) h0 (fun t ht => by
      by_cases c : t = t0
      · rw [if_pos c, if_pos (by rw [c]; exact e0.symm)]
      · rw [if_neg c, if_neg (fun c2 => c (inj t t0 ht h0 (c2.symm.trans e0.symm)))])]
    omega
theorem FinK.sum {q : Nat → Q4Kn} {m L : Nat} {R : Nat → Q4Kn} (h : FinK q m L R) : sumZ (fun t => (R t).2.2.2) L = m := by
  rw [sumZ_congr (g := fun t => cntK q m (pr0 (R t) 0)) (fun t ht => h.cnt t ht)]
  exact cnt_sum (fun s t hs ht e => h.inj hs ht (pr0_iff.1 e)) m h.all
theorem FinK.ord {q : Nat → Q4Kn} {m L : Nat} {R : Nat → Q4Kn} (h : FinK q m L R) {t : Nat} (ht : t + 1 < L) : (R t).1 ≤ (R (t + 1)).1 := by
  obtain ⟨p, hp, h1, h2⟩ := lexC_neg.1 (show lexC 3 (t3f (pr3 (R t))) (t3f (pr3 (R (t + 1)))) < 0 from h.up t ht)
  by_cases e : p = 0
  · subst e
    have : (R t).1 < (R (t + 1)).1 := h2
    omega
  · have : (R t).1 = (R (t + 1)).1 := h1 0 (by omega)
    omega
/-- Part of the sum. -/
theorem FinK.part {q : Nat → Q4Kn} {m L : Nat} {R : Nat → Q4Kn} (h : FinK q m L R) : ∀ t, t ≤ L → 0 ≤ sumZ (fun t => (R t).2.2.2) t ∧ sumZ (fun t => (R t).2.2.2) t ≤ t * m
  | 0, _ => by simp [sumZ]
  | t + 1, ht => by
    have h1 := h.part t (by omega)
    have h2 := cntK_le q (pr0 (R t) 0) m
    have h3 := h.cnt t (by omega)
    have h4 : ((t : Int) + 1) * (m : Int) = t * m + m := by rw [Int.add_mul, Int.one_mul]
    simp only [sumZ]
    rw [show ((t + 1 : Nat) : Int) = (t : Int) + 1 from rfl, h4, h3]
    omega
end Go.Proofs.YtfmbljmcdidocaaGreat
/-
  The law of the point group and its kinds: walked.
-/
namespace Go.Proofs.YtfmbljmcdidocaaGreat
open Go.RowKit

theorem recs_cell {w w' : World} {g L : Nat} {R : Nat → Q4Kn} (h : Recs 4 w g L (flR R)) (hb : Below w.heap.size w w') {i : Nat} (hi : i < L) : w'.cell? ⟨g, i * 4 + 3, none⟩ = some (.int .i64 (R i).2.2.2) ∧ w'.cell? ⟨g, i * 4, none⟩ = some (.int .i64 (R i).1) := by
  have e3 : flR R (i * 4 + 3) = (R i).2.2.2 := by
    unfold flR
    rw [show (i * 4 + 3) / 4 = i by omega, show (i * 4 + 3) % 4 = 3 by omega]; rfl
  have e0 : flR R (i * 4) = (R i).1 := by
    unfold flR
    rw [show i * 4 / 4 = i by omega, show i * 4 % 4 = 0 by omega]; rfl
  exact ⟨by rw [← e3]; exact (hb.cell (p := ⟨g, i * 4 + 3, none⟩) h.1).trans (h.2 _ (by omega)), by rw [← e0]; exact (hb.cell (p := ⟨g, i * 4, none⟩) h.1).trans (h.2 _ (by omega))⟩
open Classical in
/-- How many of the first turn nothing. -/
noncomputable def stN (A : Nat → OpD) (i : Nat) : Nat := kN (fun i => decide (stillP A i)) i
theorem stN_yes {A : Nat → OpD} {i : Nat} (h : stillP A i) : stN A (i + 1) = stN A i + 1 := by
  classical
  exact kN_yes (P := fun i => decide (stillP A i)) (decide_eq_true h)
theorem stN_no {A : Nat → OpD} {i : Nat} (h : ¬ stillP A i) : stN A (i + 1) = stN A i := by
  classical
  exact kN_no (P := fun i => decide (stillP A i)) (decide_eq_false h)
theorem stN_le (A : Nat → OpD) (i : Nat) : stN A i ≤ i := kN_le _ _
set_option maxRecDepth 100000 in
set_option maxHeartbeats 3000000 in
theorem pointGroup_walk {w : World} {a : Option Addr} {len cap : Nat} (hr : Row w w.heap.size a len) :
    Calls Tryz.prog 3 #[.slice a len cap] w fun e w' => e = .returned (.bool true) ∧ Below w.heap.size w w' := by
  go_enter Tryz.func3, Tryz.ntmps3
  go_wp2_with fail
  refine (big_any a len cap w hr.1).mono ?_
  rintro e w' ⟨rfl, rfl⟩
  by_cases hb : 1048576 < len
  · simp only [decide_eq_true hb]
    go_wp2
    go_ret
    exact ⟨rfl, Below.refl _ _⟩
  simp only [decide_eq_false hb]
  go_wp2_with fail
  refine (drawPoint_any hr).mono ?_
  rintro e w1 ⟨g, n, c, A, rfl, hn, L, B, -⟩
  clear hr hb
  have HL := hid_of L
  have HB := hid_of B
  clear L B
  go_wp2_with fail
  refine (groupOk_any HL.out (by omega)).mono ?_
  rintro e w2 ⟨⟨r, rfl, hrr⟩, b2⟩
  replace HL := hid_of (HL.out.below b2)
  replace HB := hid_of (HB.out.trans (b2.mono HB.out.size))
  clear b2
  cases r
  · clear hrr HL
    go_wp2
    go_ret
    exact ⟨rfl, HB.out⟩
  have HG : Hid (isG n A) := hid_of (hrr.1 rfl)
  have hn2 : n ≤ 192 := HG.out.1
  clear hrr hn
  have hn' : (n : Int) ≤ 192 := by omega
  go_wp2_with fail
  refine (copyOps_any HL.out hn2 HG.out.2.1).mono ?_
  rintro e w3 ⟨⟨X, Y, v, rfl, P⟩, b3⟩
  obtain ⟨g3, c3, rfl, -, L3⟩ := P.opsL
  have HL3 := hid_of L3
  replace HL := hid_of (HL.out.below b3)
  replace HB := hid_of (HB.out.trans (b3.mono HB.out.size))
  clear P L3 b3
  go_wp2_with fail
  refine (implPoint_any HL3.out (by omega)).mono ?_
  rintro e w4 ⟨⟨gp, m, cp, X4, Y4, rfl, hO, hcase⟩, b4⟩
  have hm0 : m = kN (dk A) n := by
    rcases hcase with ⟨-, h⟩ | ⟨h, -⟩
    · exact h
    · exact absurd HG.out h
  have HM := hid_of hm0
  have hO2 := hO.alike (A' := fun t => turnD (A (kI (dk A) n t))) (fun i hi => ⟨rfl, rfl, fun j hj => (zk_lo _ hj).trans (key_lo _ hj), fun j hj => zk_hi _ j⟩)
  have HP := hid_of hO2.opsL
  have HG2 : Hid (isG m (fun t => turnD (A (kI (dk A) n t)))) := by
    have := turns_group HG.out
    rw [← hm0] at this
    exact this
  have hm2 : m ≤ 192 := HG2.out.1
  replace HL := hid_of (HL.out.below b4)
  replace HB := hid_of (HB.out.trans (b4.mono HB.out.size))
  have H44 : Hid (Below w4.heap.size w4 w4) := hid_of (Below.refl _ _)
  clear hcase hm0 hO hO2 b4 HL3
  go_wp2
  go_loopw [5, 6] (fun v s wr => ∃ i : Nat, i ≤ n ∧ v = .int .i64 ((stN A i : Nat) : Int) ∧ s = .int .i64 (i : Int) ∧ Hid (Below w4.heap.size w4 wr)) (fun _ s _ => n - (intOf s).toNat)
  case atStart => exact ⟨0, Nat.zero_le _, rfl, rfl, H44⟩
  case round =>
    clear H44
    obtain ⟨i, hi, rfl, rfl, HK⟩ := hrel
    by_cases hlt : i < n
    · have hlt' : (i : Int) < (n : Int) := by omega
      obtain ⟨x1, c1, x2, d1, f1, f2, s1, s2⟩ := HL.out.2 i hlt
      have ok := HG.out.2.1 i hlt
      rw [ok.1] at f1 s1
      have CLi : Hid (∀ wq, Kb wr wq → wq.cell? ⟨g, i * 2, none⟩ = some (.slice x1 9 c1)) := fun wq hq => (hq.cell (p := ⟨g, i * 2, none⟩) (Nat.lt_of_lt_of_le HL.out.1 HK.out.size)).trans ((HK.out.cell (p := ⟨g, i * 2, none⟩) HL.out.1).trans f1)
      have CSr : Hid (∀ wq, Kb wr wq → Src wq x1 9 (A i).f) := fun wq hq => (s1.below HK.out).below hq
      clear f1 f2 s1 s2 ok
      obtain ⟨N, hN⟩ : ∃ N, stN A i = N := ⟨_, rfl⟩
      have hN192 : N ≤ 192 := by have := stN_le A i; omega
      have hw1 : IntKind.i64.wrap ((N : Int) + 1) = (N : Int) + 1 := IntWalk.i64_in _ (by omega)
      have HN := hid_of hN
      rw [hN]
      clear hN
      go_wp2_with fail
      obtain ⟨u0, hu0, bb⟩ : ∃ uu, wr.drew = uu ∧ Below wr.heap.size wr uu := ⟨_, rfl, (Below.refl _ _).drew⟩
      have bk0 : Kb wr u0 := bb
      clear bb
      refine wp_region_held_drew (S := Kb u0) (by kernel_rfl) (by rw [hu0]; exact Below.refl _ _) (fun hHeld => ?_)
      rw [hu0] at hHeld ⊢
      clear hu0
      have bu : Kb u0 u0 := Below.refl _ _
      change wpAnyH _ _ _ _ _ 8 #[false, false, false, false, false, false, false, false] _ _
      refine wpAnyH_take (i := 0) (v := .slice ((some ⟨g, 0, none⟩)) n c) rfl (by kernel_rfl) (by kernel_rfl) (by kernel_rfl) (fun _ _ _ h => h) (Or.inl ⟨by kernel_rfl, ?_⟩) hHeld ?_
      · intro w' hSw; go_simp
      try simp only [Act.put, List.setIfInBounds_toArray, List.set_cons_zero, List.set_cons_succ, List.getElem_toArray, List.getElem_cons_zero]
      refine wpAnyH_take (i := 1) (v := .int .i64 ((i : Int))) rfl (by kernel_rfl) (by kernel_rfl) (by kernel_rfl) (fun _ _ _ h => h) (Or.inl ⟨by kernel_rfl, ?_⟩) hHeld ?_
      · intro w' hSw; go_simp
      try simp only [Act.put, List.setIfInBounds_toArray, List.set_cons_zero, List.set_cons_succ, List.getElem_toArray, List.getElem_cons_succ, List.getElem_cons_zero]
      refine wpAnyH_take (i := 2) (v := .pointer (some ⟨g, i * 2, none⟩)) rfl (by kernel_rfl) (by kernel_rfl) (by kernel_rfl) (fun _ _ _ h => h) (Or.inl ⟨by kernel_rfl, ?_⟩) hHeld ?_
      · intro w' hSw; go_simp
      try simp only [Act.put, List.setIfInBounds_toArray, List.set_cons_zero, List.set_cons_succ, List.getElem_toArray, List.getElem_cons_succ, List.getElem_cons_zero]
      refine wpAnyH_take (i := 3) (v := .pointer (some ⟨g, i * 2, none⟩)) rfl (by kernel_rfl) (by kernel_rfl) (by kernel_rfl) (fun _ _ _ h => h) (Or.inl ⟨by kernel_rfl, ?_⟩) hHeld ?_
      · intro w' hSw; go_simp
      try simp only [Act.put, List.setIfInBounds_toArray, List.set_cons_zero, List.set_cons_succ, List.getElem_toArray, List.getElem_cons_succ, List.getElem_cons_zero]
      refine wpAnyH_take (i := 4) (v := .slice x1 9 c1) rfl (by kernel_rfl) (by kernel_rfl) (by kernel_rfl) (fun _ _ _ h => h) (Or.inl ⟨by kernel_rfl, ?_⟩) hHeld ?_
      · intro w' hSw; have z0 := CLi.out _ (bk0.trans (Below.mono hSw bk0.size)); go_simp
      try simp only [Act.put, List.setIfInBounds_toArray, List.set_cons_zero, List.set_cons_succ, List.getElem_toArray, List.getElem_cons_succ, List.getElem_cons_zero]
      refine wpAnyH_ready (rs := [5]) (by kernel_rfl) (by simp) ?_
      refine AllReadyH.cons rfl (fun KK hK' => ?_) AllReadyH.nil
      go_simp
      refine (one_any _).mono ?_
      rintro e u1 ⟨g1, g2, rfl, h1, bb⟩
      have H1 : Hid (Src u1 (some ⟨g1, 0, none⟩) 9 oneF) := by
        obtain ⟨x, y, e, a1, -⟩ := h1
        cases e
        obtain ⟨_, _, e2, hs⟩ := a1.src
        cases e2
        exact hs
      replace bu : Kb u0 u1 := bu.trans (bb.mono bu.size)
      clear bb h1
      try go_wp2_with fail
      clear hHeld
      refine hK'.out _ _ (bu) (fun hHeld => ?_)
      clear hK' KK
      try simp only [List.setIfInBounds_toArray, List.set_cons_zero, List.set_cons_succ]
      refine wpAnyH_take (i := 6) (v := .slice ((some ⟨g1, 0, none⟩)) 9 9) rfl (by kernel_rfl) (by kernel_rfl) (by kernel_rfl) (fun _ _ _ h => h) (Or.inl ⟨by kernel_rfl, ?_⟩) hHeld ?_
      · intro w' hSw; have hfd : ∀ u, (Instr.field 31 (.agg #[.slice (some ⟨g1, 0, none⟩) 9 9, .slice (some ⟨g2, 0, none⟩) 3 3]) 0).run Tryz.prog u = .ok (.slice (some ⟨g1, 0, none⟩) 9 9) u := (fun _ => by first | rfl | kernel_rfl); go_simp
      try simp only [Act.put, List.setIfInBounds_toArray, List.set_cons_zero, List.set_cons_succ, List.getElem_toArray, List.getElem_cons_succ, List.getElem_cons_zero]
      refine wpAnyH_ready (rs := [7]) (by kernel_rfl) (by simp) ?_
      refine AllReadyH.cons rfl (fun KK hK' => ?_) AllReadyH.nil
      go_simp
      refine (sameInts_any (CSr.out _ (bk0.trans (Below.mono bu bk0.size))) H1.out (by omega) (by omega)).mono ?_
      rintro e u2 ⟨⟨r, rfl, hrr⟩, bb⟩
      replace bu : Kb u0 u2 := bu.trans (bb.mono bu.size)
      clear bb
      have HR := hid_of hrr
      clear hrr H1
      try go_wp2_with fail
      clear hHeld
      refine hK'.out _ _ (bu) (fun hHeld => ?_)
      clear hK' KK
      try simp only [List.setIfInBounds_toArray, List.set_cons_zero, List.set_cons_succ]
      refine wpAnyH_done (by kernel_rfl) ?_ _
      clear hHeld
      have bz := hid_of (bk0.trans (Below.mono bu bk0.size))
      have hiff : r = true ↔ stillP A i := HR.out.trans ⟨fun h => h.2, fun h => ⟨trivial, h⟩⟩
      have HKz := hid_of (HK.out.trans (bz.out.mono HK.out.size))
      cases r
      · have hst : stN A (i + 1) = N := (stN_no (fun h => absurd (hiff.2 h) (by decide))).trans HN.out
        have HST := hid_of hst
        clear hst hiff HR
        go_wp2
        exact ⟨⟨i + 1, by omega, by rw [HST.out], by go_num, HKz⟩, by simp [intOf]; omega⟩
      · have hst : stN A (i + 1) = N + 1 := (stN_yes (hiff.1 rfl)).trans (by rw [HN.out])
        have HST := hid_of hst
        clear hst hiff HR
        go_wp2
        exact ⟨⟨i + 1, by omega, by rw [HST.out]; go_num, by go_num, HKz⟩, by simp [intOf]; omega⟩
    · obtain rfl : i = n := by omega
      have hlt' : ¬ (i : Int) < (i : Int) := by omega
      obtain ⟨N, hN⟩ : ∃ N, stN A i = N := ⟨_, rfl⟩
      have hcount : m * N = i := by
        rw [HM.out, ← hN]
        classical
        exact turns_count HG.out rfl
      have hmul : (m : Int) * (N : Int) = (i : Int) := by rw [← hcount]; simp
      have hw1 : IntKind.i64.wrap ((m : Int) * (N : Int)) = (i : Int) := by rw [hmul]; exact IntWalk.i64_in _ (by omega)
      have hne : ((i : Int) != (i : Int)) = false := bne_self_eq_false _
      rw [hN]
      replace HL := hid_of (HL.out.below HK.out)
      replace HP := hid_of (HP.out.below HK.out)
      replace HB := hid_of (HB.out.trans (HK.out.mono HB.out.size))
      clear hN hcount HK
      go_wp2_with fail
      refine (copyOps_any HP.out hm2 HG2.out.2.1).mono ?_
      rintro e w5 ⟨⟨X5, Y5, v5, rfl, P5⟩, b5⟩
      obtain ⟨g5, c5, rfl, -, L5⟩ := P5.opsL
      have HL5 := hid_of L5
      replace HL := hid_of (HL.out.below b5)
      replace HB := hid_of (HB.out.trans (b5.mono HB.out.size))
      clear P5 L5 b5 HP
      go_wp2_with fail
      refine (implGroupOk_any HL5.out (by omega)).mono ?_
      rintro e w6 ⟨⟨r6, rfl, hr6⟩, b6⟩
      obtain rfl : r6 = true := hr6.2 HG2.out
      replace HL := hid_of (HL.out.below b6)
      replace HB := hid_of (HB.out.trans (b6.mono HB.out.size))
      clear b6 hr6 HL5
      go_wp2_with fail
      refine (implKinds_any HL.out (by omega)).mono ?_
      rintro e w7 ⟨⟨v7, K, m', R, rfl, hnn, hA7, hK, hcase, HF⟩, b7⟩
      obtain rfl : m' = m := by
        rcases hcase with ⟨-, h⟩ | ⟨h, -⟩
        · rw [HM.out]; exact h
        · exact absurd HG.out h
      obtain ⟨gk, ck, rfl, -, hck, -, hLd⟩ := hA7.nn hnn
      have HRC := hid_of hLd.recsN
      have HFK := hid_of HF
      replace HB := hid_of (HB.out.trans (b7.mono HB.out.size))
      have H77 : Hid (Below w7.heap.size w7 w7) := hid_of (Below.refl _ _)
      have hK' : (K : Int) ≤ 192 := by omega
      clear hcase hA7 hnn hLd HF b7 HL hmul hw1 hne hck
      go_wp2
      go_loopw [7, 9] (fun v s wr => ∃ t : Nat, t ≤ K ∧ v = .int .i64 (sumZ (fun t => (R t).2.2.2) t) ∧ s = .int .i64 (t : Int) ∧ Hid (Below w7.heap.size w7 wr)) (fun _ s _ => K - (intOf s).toNat)
      case atStart => exact ⟨0, Nat.zero_le _, rfl, rfl, H77⟩
      case round =>
        clear H77
        obtain ⟨t, ht, rfl, rfl, HK⟩ := hrel
        obtain ⟨S, hS⟩ : ∃ S, sumZ (fun t => (R t).2.2.2) t = S := ⟨_, rfl⟩
        by_cases hlt : t < K
        · have hlt' : (t : Int) < (K : Int) := by omega
          obtain ⟨k3, -⟩ := recs_cell HRC.out HK.out hlt
          have hp1 := HFK.out.part t ht
          have hp2 := HFK.out.part (t + 1) (by omega)
          have hS1 : sumZ (fun t => (R t).2.2.2) (t + 1) = S + (R t).2.2.2 := by rw [← hS]; rfl
          obtain ⟨y, hy⟩ : ∃ y, (R t).2.2.2 = y := ⟨_, rfl⟩
          rw [hy] at k3 hS1
          rw [hS1] at hp2
          have hle : ((t + 1 : Nat) : Int) * (m' : Int) ≤ 192 * 192 := Int.mul_le_mul (by omega) (by omega) (by omega) (by omega)
          have hw2 : IntKind.i64.wrap (S + y) = S + y := IntWalk.i64_in _ (by omega)
          have HS1 := hid_of hS1
          rw [hS]
          clear hS hS1 hp1 hp2 hle hy
          by_cases h0 : t = 0
          · have hz : ¬ (0 : Int) < (t : Int) := by omega
            have HZ := hid_of h0
            clear h0
            go_wp2_with fail
            obtain ⟨u0, hu0, bb⟩ : ∃ uu, wr.drew = uu ∧ Below wr.heap.size wr uu := ⟨_, rfl, (Below.refl _ _).drew⟩
            have bk0 : Kb wr u0 := bb
            clear bb
            refine wp_region_held_drew (S := Kb u0) (by kernel_rfl) (by rw [hu0]; exact Below.refl _ _) (fun hHeld => ?_)
            rw [hu0] at hHeld ⊢
            clear hu0
            have bu : Kb u0 u0 := Below.refl _ _
            change wpAnyH _ _ _ _ _ 16 #[false, false, false, false, false, false, false, false, false, false, false, false, false, false, false, false] _ _
            refine wpAnyH_take (i := 0) (v := .int .i64 ((t : Int))) rfl (by kernel_rfl) (by kernel_rfl) (by kernel_rfl) (fun _ _ _ h => h) (Or.inl ⟨by kernel_rfl, ?_⟩) hHeld ?_
            · intro w' hSw; go_simp
            try simp only [Act.put, List.setIfInBounds_toArray, List.set_cons_zero, List.set_cons_succ, List.getElem_toArray, List.getElem_cons_zero]
            refine wpAnyH_take (i := 1) (v := .bool false) rfl (by kernel_rfl) (by kernel_rfl) (by kernel_rfl) (fun _ _ _ h => h) (Or.inl ⟨by kernel_rfl, ?_⟩) hHeld ?_
            · intro w' hSw; go_simp; exact HZ.out
            try simp only [Act.put, List.setIfInBounds_toArray, List.set_cons_zero, List.set_cons_succ, List.getElem_toArray, List.getElem_cons_succ, List.getElem_cons_zero]
            refine wpAnyH_take (i := 2) (v := .bool false) rfl (by kernel_rfl) (by kernel_rfl) (by kernel_rfl) (fun _ _ _ h => h) (Or.inl ⟨by kernel_rfl, ?_⟩) hHeld ?_
            · intro w' hSw; go_simp
            try simp only [Act.put, List.setIfInBounds_toArray, List.set_cons_zero, List.set_cons_succ, List.getElem_toArray, List.getElem_cons_succ, List.getElem_cons_zero]
            refine wpAnyH_take (i := 3) (v := undef) rfl (by kernel_rfl) (by kernel_rfl) (by kernel_rfl) (fun _ _ _ h => h) (Or.inr ⟨by kernel_rfl, rfl⟩) hHeld ?_
            try simp only [Act.put, List.setIfInBounds_toArray, List.set_cons_zero, List.set_cons_succ, List.getElem_toArray, List.getElem_cons_succ, List.getElem_cons_zero]
            refine wpAnyH_take (i := 4) (v := undef) rfl (by kernel_rfl) (by kernel_rfl) (by kernel_rfl) (fun _ _ _ h => h) (Or.inr ⟨by kernel_rfl, rfl⟩) hHeld ?_
            try simp only [Act.put, List.setIfInBounds_toArray, List.set_cons_zero, List.set_cons_succ, List.getElem_toArray, List.getElem_cons_succ, List.getElem_cons_zero]
            refine wpAnyH_take (i := 5) (v := undef) rfl (by kernel_rfl) (by kernel_rfl) (by kernel_rfl) (fun _ _ _ h => h) (Or.inr ⟨by kernel_rfl, rfl⟩) hHeld ?_
            try simp only [Act.put, List.setIfInBounds_toArray, List.set_cons_zero, List.set_cons_succ, List.getElem_toArray, List.getElem_cons_succ, List.getElem_cons_zero]
            refine wpAnyH_take (i := 6) (v := undef) rfl (by kernel_rfl) (by kernel_rfl) (by kernel_rfl) (fun _ _ _ h => h) (Or.inr ⟨by kernel_rfl, rfl⟩) hHeld ?_
            try simp only [Act.put, List.setIfInBounds_toArray, List.set_cons_zero, List.set_cons_succ, List.getElem_toArray, List.getElem_cons_succ, List.getElem_cons_zero]
            refine wpAnyH_take (i := 7) (v := undef) rfl (by kernel_rfl) (by kernel_rfl) (by kernel_rfl) (fun _ _ _ h => h) (Or.inr ⟨by kernel_rfl, rfl⟩) hHeld ?_
            try simp only [Act.put, List.setIfInBounds_toArray, List.set_cons_zero, List.set_cons_succ, List.getElem_toArray, List.getElem_cons_succ, List.getElem_cons_zero]
            refine wpAnyH_take (i := 8) (v := undef) rfl (by kernel_rfl) (by kernel_rfl) (by kernel_rfl) (fun _ _ _ h => h) (Or.inr ⟨by kernel_rfl, rfl⟩) hHeld ?_
            try simp only [Act.put, List.setIfInBounds_toArray, List.set_cons_zero, List.set_cons_succ, List.getElem_toArray, List.getElem_cons_succ, List.getElem_cons_zero]
            refine wpAnyH_take (i := 9) (v := undef) rfl (by kernel_rfl) (by kernel_rfl) (by kernel_rfl) (fun _ _ _ h => h) (Or.inr ⟨by kernel_rfl, rfl⟩) hHeld ?_
            try simp only [Act.put, List.setIfInBounds_toArray, List.set_cons_zero, List.set_cons_succ, List.getElem_toArray, List.getElem_cons_succ, List.getElem_cons_zero]
            refine wpAnyH_take (i := 10) (v := undef) rfl (by kernel_rfl) (by kernel_rfl) (by kernel_rfl) (fun _ _ _ h => h) (Or.inr ⟨by kernel_rfl, rfl⟩) hHeld ?_
            try simp only [Act.put, List.setIfInBounds_toArray, List.set_cons_zero, List.set_cons_succ, List.getElem_toArray, List.getElem_cons_succ, List.getElem_cons_zero]
            refine wpAnyH_take (i := 11) (v := undef) rfl (by kernel_rfl) (by kernel_rfl) (by kernel_rfl) (fun _ _ _ h => h) (Or.inr ⟨by kernel_rfl, rfl⟩) hHeld ?_
            try simp only [Act.put, List.setIfInBounds_toArray, List.set_cons_zero, List.set_cons_succ, List.getElem_toArray, List.getElem_cons_succ, List.getElem_cons_zero]
            refine wpAnyH_take (i := 12) (v := undef) rfl (by kernel_rfl) (by kernel_rfl) (by kernel_rfl) (fun _ _ _ h => h) (Or.inr ⟨by kernel_rfl, rfl⟩) hHeld ?_
            try simp only [Act.put, List.setIfInBounds_toArray, List.set_cons_zero, List.set_cons_succ, List.getElem_toArray, List.getElem_cons_succ, List.getElem_cons_zero]
            refine wpAnyH_take (i := 13) (v := undef) rfl (by kernel_rfl) (by kernel_rfl) (by kernel_rfl) (fun _ _ _ h => h) (Or.inr ⟨by kernel_rfl, rfl⟩) hHeld ?_
            try simp only [Act.put, List.setIfInBounds_toArray, List.set_cons_zero, List.set_cons_succ, List.getElem_toArray, List.getElem_cons_succ, List.getElem_cons_zero]
            refine wpAnyH_take (i := 14) (v := undef) rfl (by kernel_rfl) (by kernel_rfl) (by kernel_rfl) (fun _ _ _ h => h) (Or.inr ⟨by kernel_rfl, rfl⟩) hHeld ?_
            try simp only [Act.put, List.setIfInBounds_toArray, List.set_cons_zero, List.set_cons_succ, List.getElem_toArray, List.getElem_cons_succ, List.getElem_cons_zero]
            refine wpAnyH_take (i := 15) (v := .bool false) rfl (by kernel_rfl) (by kernel_rfl) (by kernel_rfl) (fun _ _ _ h => h) (Or.inl ⟨by kernel_rfl, ?_⟩) hHeld ?_
            · intro w' hSw; go_simp
            try simp only [Act.put, List.setIfInBounds_toArray, List.set_cons_zero, List.set_cons_succ, List.getElem_toArray, List.getElem_cons_succ, List.getElem_cons_zero]
            refine wpAnyH_done (by kernel_rfl) ?_ _
            clear hHeld
            have bz := hid_of (bk0.trans (Below.mono bu bk0.size))
            go_wp2
            exact ⟨⟨t + 1, by omega, by rw [HS1.out], by go_num, hid_of (HK.out.trans (bz.out.mono HK.out.size))⟩, by simp [intOf]; omega⟩
          · obtain ⟨i1, hi1⟩ : ∃ i1, t = i1 + 1 := ⟨t - 1, by omega⟩
            have hz : (0 : Int) < (t : Int) := by omega
            have hz2 : 0 < t := by omega
            have hw3 : IntKind.i64.wrap ((t : Int) - 1) = (i1 : Int) := (IntWalk.i64_in _ (by omega)).trans (by omega)
            have hkk : (t : Int) - 1 = (i1 : Int) := by omega
            have hw4 : IntKind.i64.wrap (i1 : Int) = (i1 : Int) := IntWalk.i64_in _ (by omega)
            have hlt2 : (i1 : Int) < (K : Int) := by omega
            obtain ⟨-, c1⟩ := recs_cell HRC.out HK.out (show i1 < K by omega)
            obtain ⟨-, c2⟩ := recs_cell HRC.out HK.out hlt
            have hord := HFK.out.ord (t := i1) (by omega)
            rw [← hi1] at hord
            have hglt : gk < wr.heap.size := Nat.lt_of_lt_of_le HRC.out.1 HK.out.size
            obtain ⟨o1, ho1⟩ : ∃ o, (R i1).1 = o := ⟨_, rfl⟩
            obtain ⟨o2, ho2⟩ : ∃ o, (R t).1 = o := ⟨_, rfl⟩
            rw [ho1] at c1 hord
            rw [ho2] at c2 hord
            have CLo : Hid (∀ wq, Kb wr wq → wq.cell? ⟨gk, i1 * 4, none⟩ = some (.int .i64 o1) ∧ wq.cell? ⟨gk, t * 4, none⟩ = some (.int .i64 o2)) := fun wq hq => ⟨(hq.cell (p := ⟨gk, i1 * 4, none⟩) hglt).trans c1, (hq.cell (p := ⟨gk, t * 4, none⟩) hglt).trans c2⟩
            have hno : ¬ o2 < o1 := by omega
            have hno2 : ¬ o1 > o2 := hno
            clear hord ho1 ho2 c1 c2 hi1 h0
            go_wp2_with fail
            obtain ⟨u0, hu0, bb⟩ : ∃ uu, wr.drew = uu ∧ Below wr.heap.size wr uu := ⟨_, rfl, (Below.refl _ _).drew⟩
            have bk0 : Kb wr u0 := bb
            clear bb
            refine wp_region_held_drew (S := Kb u0) (by kernel_rfl) (by rw [hu0]; exact Below.refl _ _) (fun hHeld => ?_)
            rw [hu0] at hHeld ⊢
            clear hu0
            have bu : Kb u0 u0 := Below.refl _ _
            change wpAnyH _ _ _ _ _ 16 #[false, false, false, false, false, false, false, false, false, false, false, false, false, false, false, false] _ _
            refine wpAnyH_take (i := 0) (v := .int .i64 ((t : Int))) rfl (by kernel_rfl) (by kernel_rfl) (by kernel_rfl) (fun _ _ _ h => h) (Or.inl ⟨by kernel_rfl, ?_⟩) hHeld ?_
            · intro w' hSw; go_simp
            try simp only [Act.put, List.setIfInBounds_toArray, List.set_cons_zero, List.set_cons_succ, List.getElem_toArray, List.getElem_cons_zero]
            refine wpAnyH_take (i := 1) (v := .bool true) rfl (by kernel_rfl) (by kernel_rfl) (by kernel_rfl) (fun _ _ _ h => h) (Or.inl ⟨by kernel_rfl, ?_⟩) hHeld ?_
            · intro w' hSw; go_simp
            try simp only [Act.put, List.setIfInBounds_toArray, List.set_cons_zero, List.set_cons_succ, List.getElem_toArray, List.getElem_cons_succ, List.getElem_cons_zero]
            refine wpAnyH_take (i := 2) (v := .bool true) rfl (by kernel_rfl) (by kernel_rfl) (by kernel_rfl) (fun _ _ _ h => h) (Or.inl ⟨by kernel_rfl, ?_⟩) hHeld ?_
            · intro w' hSw; go_simp
            try simp only [Act.put, List.setIfInBounds_toArray, List.set_cons_zero, List.set_cons_succ, List.getElem_toArray, List.getElem_cons_succ, List.getElem_cons_zero]
            refine wpAnyH_take (i := 3) (v := .slice ((some ⟨gk, 0, none⟩)) K ck) rfl (by kernel_rfl) (by kernel_rfl) (by kernel_rfl) (fun _ _ _ h => h) (Or.inl ⟨by kernel_rfl, ?_⟩) hHeld ?_
            · intro w' hSw; go_simp
            try simp only [Act.put, List.setIfInBounds_toArray, List.set_cons_zero, List.set_cons_succ, List.getElem_toArray, List.getElem_cons_succ, List.getElem_cons_zero]
            refine wpAnyH_take (i := 4) (v := .int .i64 ((t : Int))) rfl (by kernel_rfl) (by kernel_rfl) (by kernel_rfl) (fun _ _ _ h => h) (Or.inl ⟨by kernel_rfl, ?_⟩) hHeld ?_
            · intro w' hSw; go_simp
            try simp only [Act.put, List.setIfInBounds_toArray, List.set_cons_zero, List.set_cons_succ, List.getElem_toArray, List.getElem_cons_succ, List.getElem_cons_zero]
            refine wpAnyH_take (i := 5) (v := .int .i64 ((i1 : Int))) rfl (by kernel_rfl) (by kernel_rfl) (by kernel_rfl) (fun _ _ _ h => h) (Or.inl ⟨by kernel_rfl, ?_⟩) hHeld ?_
            · intro w' hSw; go_simp
            try simp only [Act.put, List.setIfInBounds_toArray, List.set_cons_zero, List.set_cons_succ, List.getElem_toArray, List.getElem_cons_succ, List.getElem_cons_zero]
            refine wpAnyH_take (i := 6) (v := .pointer (some ⟨gk, i1 * 4, none⟩)) rfl (by kernel_rfl) (by kernel_rfl) (by kernel_rfl) (fun _ _ _ h => h) (Or.inl ⟨by kernel_rfl, ?_⟩) hHeld ?_
            · intro w' hSw; go_simp
            try simp only [Act.put, List.setIfInBounds_toArray, List.set_cons_zero, List.set_cons_succ, List.getElem_toArray, List.getElem_cons_succ, List.getElem_cons_zero]
            refine wpAnyH_take (i := 7) (v := .pointer (some ⟨gk, i1 * 4, none⟩)) rfl (by kernel_rfl) (by kernel_rfl) (by kernel_rfl) (fun _ _ _ h => h) (Or.inl ⟨by kernel_rfl, ?_⟩) hHeld ?_
            · intro w' hSw; go_simp
            try simp only [Act.put, List.setIfInBounds_toArray, List.set_cons_zero, List.set_cons_succ, List.getElem_toArray, List.getElem_cons_succ, List.getElem_cons_zero]
            refine wpAnyH_take (i := 8) (v := .int .i64 (o1)) rfl (by kernel_rfl) (by kernel_rfl) (by kernel_rfl) (fun _ _ _ h => h) (Or.inl ⟨by kernel_rfl, ?_⟩) hHeld ?_
            · intro w' hSw; obtain ⟨z0, z1⟩ := CLo.out _ (bk0.trans (Below.mono hSw bk0.size)); go_simp
            try simp only [Act.put, List.setIfInBounds_toArray, List.set_cons_zero, List.set_cons_succ, List.getElem_toArray, List.getElem_cons_succ, List.getElem_cons_zero]
            refine wpAnyH_take (i := 9) (v := .slice ((some ⟨gk, 0, none⟩)) K ck) rfl (by kernel_rfl) (by kernel_rfl) (by kernel_rfl) (fun _ _ _ h => h) (Or.inl ⟨by kernel_rfl, ?_⟩) hHeld ?_
            · intro w' hSw; go_simp
            try simp only [Act.put, List.setIfInBounds_toArray, List.set_cons_zero, List.set_cons_succ, List.getElem_toArray, List.getElem_cons_succ, List.getElem_cons_zero]
            refine wpAnyH_take (i := 10) (v := .int .i64 ((t : Int))) rfl (by kernel_rfl) (by kernel_rfl) (by kernel_rfl) (fun _ _ _ h => h) (Or.inl ⟨by kernel_rfl, ?_⟩) hHeld ?_
            · intro w' hSw; go_simp
            try simp only [Act.put, List.setIfInBounds_toArray, List.set_cons_zero, List.set_cons_succ, List.getElem_toArray, List.getElem_cons_succ, List.getElem_cons_zero]
            refine wpAnyH_take (i := 11) (v := .pointer (some ⟨gk, t * 4, none⟩)) rfl (by kernel_rfl) (by kernel_rfl) (by kernel_rfl) (fun _ _ _ h => h) (Or.inl ⟨by kernel_rfl, ?_⟩) hHeld ?_
            · intro w' hSw; go_simp
            try simp only [Act.put, List.setIfInBounds_toArray, List.set_cons_zero, List.set_cons_succ, List.getElem_toArray, List.getElem_cons_succ, List.getElem_cons_zero]
            refine wpAnyH_take (i := 12) (v := .pointer (some ⟨gk, t * 4, none⟩)) rfl (by kernel_rfl) (by kernel_rfl) (by kernel_rfl) (fun _ _ _ h => h) (Or.inl ⟨by kernel_rfl, ?_⟩) hHeld ?_
            · intro w' hSw; go_simp
            try simp only [Act.put, List.setIfInBounds_toArray, List.set_cons_zero, List.set_cons_succ, List.getElem_toArray, List.getElem_cons_succ, List.getElem_cons_zero]
            refine wpAnyH_take (i := 13) (v := .int .i64 (o2)) rfl (by kernel_rfl) (by kernel_rfl) (by kernel_rfl) (fun _ _ _ h => h) (Or.inl ⟨by kernel_rfl, ?_⟩) hHeld ?_
            · intro w' hSw; obtain ⟨z0, z1⟩ := CLo.out _ (bk0.trans (Below.mono hSw bk0.size)); go_simp
            try simp only [Act.put, List.setIfInBounds_toArray, List.set_cons_zero, List.set_cons_succ, List.getElem_toArray, List.getElem_cons_succ, List.getElem_cons_zero]
            refine wpAnyH_take (i := 14) (v := .bool false) rfl (by kernel_rfl) (by kernel_rfl) (by kernel_rfl) (fun _ _ _ h => h) (Or.inl ⟨by kernel_rfl, ?_⟩) hHeld ?_
            · intro w' hSw; go_simp
            try simp only [Act.put, List.setIfInBounds_toArray, List.set_cons_zero, List.set_cons_succ, List.getElem_toArray, List.getElem_cons_succ, List.getElem_cons_zero]
            refine wpAnyH_take (i := 15) (v := .bool false) rfl (by kernel_rfl) (by kernel_rfl) (by kernel_rfl) (fun _ _ _ h => h) (Or.inl ⟨by kernel_rfl, ?_⟩) hHeld ?_
            · intro w' hSw; go_simp
            try simp only [Act.put, List.setIfInBounds_toArray, List.set_cons_zero, List.set_cons_succ, List.getElem_toArray, List.getElem_cons_succ, List.getElem_cons_zero]
            refine wpAnyH_done (by kernel_rfl) ?_ _
            clear hHeld
            have bz := hid_of (bk0.trans (Below.mono bu bk0.size))
            go_wp2
            exact ⟨⟨t + 1, by omega, by rw [HS1.out], by go_num, hid_of (HK.out.trans (bz.out.mono HK.out.size))⟩, by simp [intOf]; omega⟩
        · obtain rfl : t = K := by omega
          have hlt' : ¬ (t : Int) < (t : Int) := by omega
          have hSm : S = (m' : Int) := by rw [← hS]; exact HFK.out.sum
          rw [hS, hSm]
          have heq : ((m' : Int) == (m' : Int)) = true := by simp
          clear hS hSm
          have HBF := hid_of (HB.out.trans (HK.out.mono HB.out.size))
          clear HB HK HRC HFK
          go_wp2
          go_ret
          exact ⟨rfl, HBF.out⟩
end Go.Proofs.YtfmbljmcdidocaaGreat
