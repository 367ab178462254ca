/-
  Leaps counted; lists in order. No function of the program.
-/
import Derived.Test.YtjlmiadmobbibaaBm
import Derived.Test.YtjlmiadmobbibaaBi
namespace Go.Proofs.Ytjlmiadmobbibaa
open Go.RowKit

def sm (g : Nat → Nat) : Nat → Nat
  | 0 => 0
  | k + 1 => sm g k + g k
theorem sm_add (g h : Nat → Nat) (k : Nat) : sm (fun i => g i + h i) k = sm g k + sm h k := by
  induction k with
  | zero => rfl
  | succ k ih => simp only [sm, ih]; omega
theorem sm_zero (k : Nat) : sm (fun _ => 0) k = 0 := by
  induction k with
  | zero => rfl
  | succ k ih => simp only [sm, ih]
theorem sm_swap (g : Nat → Nat → Nat) (m n : Nat) : sm (fun a => sm (fun b => g a b) n) m = sm (fun b => sm (fun a => g a b) m) n := by
  induction m with
  | zero => simp only [sm, sm_zero]
  | succ m ih => simp only [sm, ih, sm_add]
def ind (f : Nat → Int) (p : Int × Int) (a b : Nat) : Nat := if lpp f a b = p then 1 else 0
theorem lpp_self (f : Nat → Int) (i : Nat) : lpp f i i = (0, 0) := by simp [lpp]
theorem lpC_count (f : Nat → Int) {p : Int × Int} (hp : p ≠ (0, 0)) (i j : Nat) : (lpC f i j).count p = sm (fun b => ind f p i b) j := by
  induction j with
  | zero => rfl
  | succ j ih =>
    rw [lpC, sm]
    by_cases e : i = j
    · rw [if_pos e, ih, ind, ← e, lpp_self, if_neg (fun h => hp h.symm)]; rfl
    · rw [if_neg e, List.count_append, ih, ind, List.count_singleton]
      simp
theorem lpR_count (f : Nat → Int) {p : Int × Int} (hp : p ≠ (0, 0)) (n i : Nat) : (lpR f n i).count p = sm (fun a => sm (fun b => ind f p a b) n) i := by
  induction i with
  | zero => rfl
  | succ i ih => rw [lpR, List.count_append, ih, lpC_count f hp, sm]
theorem take_getD (l : List (Int × Int)) {k : Nat} (h : k < l.length) : l.take (k + 1) = l.take k ++ [l.getD k (0, 0)] := by
  rw [List.take_add_one, List.getD_eq_getElem?_getD, List.getElem?_eq_getElem h]; rfl
theorem cnt_count (l : List (Int × Int)) (p : Int × Int) (k : Nat) (h : k ≤ l.length) : cnt l p k = (l.take k).count p := by
  induction k with
  | zero => simp [cnt]
  | succ k ih =>
    rw [cnt, take_getD l h, List.count_append, ih (by omega), List.count_singleton]
    obtain ⟨q, hq⟩ : ∃ q, l.getD k (0, 0) = q := ⟨_, rfl⟩
    rw [hq]
    by_cases e : q = p
    · simp [e]
    · simp [e]
/-- How many pairs of spots make this leap. -/
def cN (n : Nat) (f : Nat → Int) (p : Int × Int) : Nat := sm (fun a => sm (fun b => ind f p a b) n) n
theorem cnt_cN (n : Nat) (f : Nat → Int) {p : Int × Int} (hp : p ≠ (0, 0)) : cnt (lpR f n n) p (lpR f n n).length = cN n f p := by
  rw [cnt_count _ _ _ (Nat.le_refl _), List.take_length, lpR_count f hp]; rfl
theorem mem_lpR (n : Nat) (f : Nat → Int) {p : Int × Int} (hp : p ≠ (0, 0)) : p ∈ lpR f n n ↔ 0 < cN n f p := by
  rw [← List.count_pos_iff, lpR_count f hp]; rfl
theorem dsT_mem (l : List (Int × Int)) (p : Int × Int) (k : Nat) (h : k ≤ l.length) : p ∈ dsT l k ↔ p ∈ l.take k := by
  induction k with
  | zero => simp [dsT]
  | succ k ih =>
    have ih := ih (by omega)
    rw [dsT, take_getD l h, List.mem_append, ← ih]
    by_cases e : l.getD k (0, 0) ∈ dsT l k
    · rw [if_pos e]
      constructor
      · exact .inl
      · rintro (h1 | h1)
        · exact h1
        · simp only [List.mem_singleton] at h1; rw [h1]; exact e
    · rw [if_neg e, List.mem_append]
theorem dsT_nodup (l : List (Int × Int)) (k : Nat) : (dsT l k).Nodup := by
  induction k with
  | zero => simp [dsT]
  | succ k ih =>
    rw [dsT]
    by_cases e : l.getD k (0, 0) ∈ dsT l k
    · rw [if_pos e]; exact ih
    · rw [if_neg e, List.nodup_append]
      refine ⟨ih, by simp, ?_⟩
      intro a ha b hb
      simp only [List.mem_singleton] at hb
      intro hab
      exact e (by rw [← hb, ← hab]; exact ha)
theorem nodup_get {l : List (Int × Int)} (h : l.Nodup) {i j : Nat} (hij : i < j) (hj : j < l.length) : l.getD i (0, 0) ≠ l.getD j (0, 0) := by
  rw [List.getD_eq_getElem?_getD, List.getD_eq_getElem?_getD, List.getElem?_eq_getElem (by omega), List.getElem?_eq_getElem hj]
  have := List.pairwise_iff_getElem.1 h i j (by omega) hj hij
  simpa using this
theorem mem_getD {l : List (Int × Int)} {p : Int × Int} : p ∈ l ↔ ∃ i, i < l.length ∧ l.getD i (0, 0) = p := by
  constructor
  · intro hh
    obtain ⟨i, hi, he⟩ := List.getElem_of_mem hh
    refine ⟨i, hi, ?_⟩
    rw [List.getD_eq_getElem?_getD, List.getElem?_eq_getElem hi, he]; rfl
  · rintro ⟨i, hi, rfl⟩
    rw [List.getD_eq_getElem?_getD, List.getElem?_eq_getElem hi]
    exact List.getElem_mem _
/-- In order, each before the next. -/
def Srt {T : Type} (lt : T → T → Prop) (m : Nat) (F : Nat → T) : Prop := ∀ i j, i < j → j < m → lt (F i) (F j)
theorem srt_same {T : Type} {lt : T → T → Prop} (s : Swo lt) {m m' : Nat} {F F' : Nat → T} (h : Srt lt m F) (h' : Srt lt m' F') (e : ∀ v, Mem m F v ↔ Mem m' F' v) : ∀ i, i < m → (i < m' ∧ F i = F' i) := by
  intro i
  induction i using Nat.strongRecOn with
  | ind i ih =>
    intro hi
    obtain ⟨k, hk, ek⟩ := (e (F i)).1 ⟨i, hi, rfl⟩
    have hki : i ≤ k := by
      refine Nat.le_of_not_lt fun hh => ?_
      have h1 := (ih k hh (by omega)).2
      have h2 := h k i hh hi
      rw [h1, ek] at h2
      exact s.irr _ h2
    have him : i < m' := by omega
    refine ⟨him, ?_⟩
    obtain ⟨k', hk', ek'⟩ := (e (F' i)).2 ⟨i, him, rfl⟩
    have hki' : i ≤ k' := by
      refine Nat.le_of_not_lt fun hh => ?_
      have h1 := (ih k' hh (by omega)).2
      have h2 := h' k' i hh him
      rw [← h1, ek'] at h2
      exact s.irr _ h2
    by_cases e1 : k = i
    · rw [← ek, e1]
    · by_cases e2 : k' = i
      · rw [← ek', e2]
      · have h1 := h' i k (by omega) hk
        have h2 := h i k' (by omega) hk'
        rw [ek] at h1
        rw [ek'] at h2
        exact absurd h1 (s.asy h2)
/-- What Votes tells. -/
def VsT (n : Nat) (f : Nat → Int) (m : Nat) (F : Nat → Vt) : Prop := Srt vlt m F ∧ ∀ v, Mem m F v ↔ (Ah v.x v.y ∧ v.c = (cN n f (v.x, v.y) : Int) ∧ 0 < cN n f (v.x, v.y))
theorem VsT.same {n : Nat} {f : Nat → Int} {m m' : Nat} {F F' : Nat → Vt} (h : VsT n f m F) (h' : VsT n f m' F') : m = m' ∧ ∀ i, i < m → F i = F' i := by
  have e : ∀ v, Mem m F v ↔ Mem m' F' v := fun v => (h.2 v).trans (h'.2 v).symm
  have a := srt_same vlt_swo h.1 h'.1 e
  have b := srt_same vlt_swo h'.1 h.1 (fun v => (e v).symm)
  have hm : m = m' := by
    rcases Nat.lt_trichotomy m m' with h1 | h1 | h1
    · have := (b m h1).1; omega
    · exact h1
    · have := (a m' h1).1; omega
  exact ⟨hm, fun i hi => (a i hi).2⟩
theorem Ah.ne {x y : Int} (h : Ah x y) : (x, y) ≠ (0, 0) := by
  intro e
  injection e with e1 e2
  unfold Ah at h
  omega
end Go.Proofs.Ytjlmiadmobbibaa
