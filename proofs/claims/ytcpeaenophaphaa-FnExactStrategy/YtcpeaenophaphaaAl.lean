/-
  Plans: rising lists of exposures, the shorter ahead, then by their numbers; and a search that takes the best first. Mathematics alone: no function of the program.
-/
import Derived.Test.YtcpeaenophaphaaBh
namespace Go.Proofs.Ytcpeaenophaphaa
open Go.RowKit

/-- By the first number that differs. -/
def lxl : List Nat → List Nat → Prop
  | [], [] => False
  | [], _ :: _ => True
  | _ :: _, [] => False
  | a :: s, b :: t => a < b ∨ (a = b ∧ lxl s t)
theorem lxl_irr (s : List Nat) : ¬ lxl s s := by
  induction s with
  | nil => simp [lxl]
  | cons a s ih => simp [lxl, ih]
theorem lxl_tr : ∀ s t u : List Nat, lxl s t → lxl t u → lxl s u
  | [], [], _ => fun h => absurd h (by simp [lxl])
  | [], _ :: _, [] => fun _ h => absurd h (by simp [lxl])
  | [], _ :: _, _ :: _ => fun _ _ => by simp [lxl]
  | _ :: _, [], _ => fun h => absurd h (by simp [lxl])
  | _ :: _, _ :: _, [] => fun _ h => absurd h (by simp [lxl])
  | a :: s, b :: t, c :: u => fun h1 h2 => by
    simp only [lxl] at h1 h2 ⊢
    rcases h1 with h1 | ⟨h1, h1'⟩ <;> rcases h2 with h2 | ⟨h2, h2'⟩
    · exact .inl (by omega)
    · exact .inl (by omega)
    · exact .inl (by omega)
    · exact .inr ⟨by omega, lxl_tr s t u h1' h2'⟩
theorem lxl_tri : ∀ s t : List Nat, ¬ lxl s t → ¬ lxl t s → s = t
  | [], [] => fun _ _ => rfl
  | [], _ :: _ => fun h => absurd (by simp [lxl]) h
  | _ :: _, [] => fun _ h => absurd (by simp [lxl]) h
  | a :: s, b :: t => fun h1 h2 => by
    simp only [lxl] at h1 h2
    have e : a = b := by omega
    subst e
    rw [lxl_tri s t (fun h => h1 (.inr ⟨rfl, h⟩)) (fun h => h2 (.inr ⟨rfl, h⟩))]
/-- The shorter plan is ahead; of two as long, the one with the less number where they first differ. -/
def plt (s t : List Nat) : Prop := s.length < t.length ∨ (s.length = t.length ∧ lxl s t)
theorem plt_tri {s t : List Nat} (h1 : ¬ plt s t) (h2 : ¬ plt t s) : s = t := by
  unfold plt at h1 h2
  have e : s.length = t.length := by omega
  exact lxl_tri s t (fun h => h1 (.inr ⟨e, h⟩)) (fun h => h2 (.inr ⟨e.symm, h⟩))
theorem plt_irr (s : List Nat) : ¬ plt s s := by
  rintro (h | ⟨-, h⟩)
  · omega
  · exact lxl_irr s h
theorem plt_tr {s t u : List Nat} (h1 : plt s t) (h2 : plt t u) : plt s u := by
  rcases h1 with h1 | ⟨e1, h1⟩ <;> rcases h2 with h2 | ⟨e2, h2⟩
  · exact .inl (by omega)
  · exact .inl (by omega)
  · exact .inl (by omega)
  · exact .inr ⟨by omega, lxl_tr _ _ _ h1 h2⟩
theorem plt_swo : Swo plt where
  irr := plt_irr
  tr := fun _ _ _ => plt_tr
  neg := fun x y z h1 h2 h3 => by
    by_cases a : plt y x
    · exact h2 (plt_tr a h3)
    · have e := plt_tri h1 a
      subst e
      exact h2 h3
/-- Rising numbers, all below n. -/
def rsg (n : Nat) (l : List Nat) : Prop := l.Pairwise (· < ·) ∧ ∀ x ∈ l, x < n
/-- The first number that may stand behind it. -/
def endOf (l : List Nat) : Nat := match l.getLast? with
  | none => 0
  | some x => x + 1
theorem endOf_add (l : List Nat) (x : Nat) : endOf (l ++ [x]) = x + 1 := by simp [endOf]
theorem endOf_le {n : Nat} {l : List Nat} (h : rsg n l) : endOf l ≤ n := by
  rcases List.eq_nil_or_concat l with rfl | ⟨s, x, rfl⟩
  · exact Nat.zero_le _
  · rw [List.concat_eq_append] at h ⊢
    rw [endOf_add]
    exact h.2 x (by simp)
theorem below_end {n : Nat} {l : List Nat} (h : rsg n l) : ∀ x ∈ l, x < endOf l := by
  rcases List.eq_nil_or_concat l with rfl | ⟨s, y, rfl⟩
  · intro x hx; cases hx
  · rw [List.concat_eq_append] at h ⊢
    rw [endOf_add]
    intro x hx
    have h1 := (List.pairwise_append.1 h.1).2.2
    rcases List.mem_append.1 hx with hx | hx
    · have := h1 x hx y (by simp); omega
    · simp at hx; omega
theorem rsg_add {n : Nat} {l : List Nat} {k : Nat} : rsg n (l ++ [k]) ↔ (rsg n l ∧ endOf l ≤ k ∧ k < n) := by
  constructor
  · intro h
    have h1 := List.pairwise_append.1 h.1
    have hl : rsg n l := ⟨h1.1, fun x hx => h.2 x (by simp [hx])⟩
    refine ⟨hl, ?_, h.2 k (by simp)⟩
    rcases List.eq_nil_or_concat l with rfl | ⟨s, x, rfl⟩
    · exact Nat.zero_le _
    · rw [List.concat_eq_append, endOf_add]
      have := h1.2.2 x (by simp) k (by simp)
      omega
  · rintro ⟨h, h1, h2⟩
    refine ⟨List.pairwise_append.2 ⟨h.1, by simp, fun x hx y hy => ?_⟩, fun x hx => ?_⟩
    · have := below_end h x hx
      simp at hy
      omega
    · rcases List.mem_append.1 hx with hx | hx
      · exact h.2 x hx
      · simp at hx; omega
theorem rsg_pre {n : Nat} {l p : List Nat} (h : rsg n p) (hp : l <+: p) : rsg n l := by
  obtain ⟨t, rfl⟩ := hp
  exact ⟨(List.pairwise_append.1 h.1).1, fun x hx => h.2 x (by simp [hx])⟩
/-- What begins a plan and is not the plan goes on by one number. -/
theorem pre_next {n : Nat} {l p : List Nat} (h : rsg n p) (hp : l <+: p) (hne : l ≠ p) : ∃ k, endOf l ≤ k ∧ k < n ∧ (l ++ [k]) <+: p := by
  obtain ⟨t, rfl⟩ := hp
  cases t with
  | nil => exact absurd (by simp) hne
  | cons k t =>
    have hpre : (l ++ [k]) <+: (l ++ k :: t) := ⟨t, by simp⟩
    obtain ⟨-, h1, h2⟩ := rsg_add.1 (rsg_pre h hpre)
    exact ⟨k, h1, h2, hpre⟩
theorem pre_ahead {l p : List Nat} (hp : l <+: p) : l = p ∨ plt l p := by
  obtain ⟨t, rfl⟩ := hp
  cases t with
  | nil => exact .inl (by simp)
  | cons k t => exact .inr (.inl (by simp))
theorem plt_grow (l : List Nat) (k : Nat) : plt l (l ++ [k]) := .inl (by simp)
/-- How the search stands: the plan in hand, and those that wait. -/
structure Srch (n : Nat) (cov : List Nat → Prop) (b : List Nat) (H : List Nat → Prop) : Prop where
  rb : rsg n b
  rh : ∀ q, H q → rsg n q
  gt : ∀ q, H q → plt b q
  par : ∀ q, H q → ∃ l k, q = l ++ [k] ∧ plt l b
  all : ∀ p, rsg n p → cov p → ∃ q, q <+: p ∧ (H q ∨ q = b)
theorem Srch.start (n : Nat) (cov : List Nat → Prop) : Srch n cov [] (fun _ => False) :=
  ⟨⟨.nil, fun x hx => by cases hx⟩, fun _ h => h.elim, fun _ h => h.elim, fun _ h => h.elim, fun p _ _ => ⟨[], List.nil_prefix, .inr rfl⟩⟩
/-- Those that wait, once the plan in hand has grown by all numbers from its end up to k. -/
def gro (b : List Nat) (H : List Nat → Prop) (k : Nat) (q : List Nat) : Prop := H q ∨ ∃ j, endOf b ≤ j ∧ j < k ∧ q = b ++ [j]
theorem gro_start (b : List Nat) (H : List Nat → Prop) (q : List Nat) : gro b H (endOf b) q ↔ H q := ⟨fun h => h.elim id (fun ⟨j, h1, h2, _⟩ => by omega), .inl⟩
theorem gro_next (b : List Nat) (H : List Nat → Prop) {k : Nat} (hk : endOf b ≤ k) (q : List Nat) : gro b H (k + 1) q ↔ (gro b H k q ∨ q = b ++ [k]) := by
  constructor
  · rintro (h | ⟨j, h1, h2, rfl⟩)
    · exact .inl (.inl h)
    · by_cases e : j = k
      · exact .inr (by rw [e])
      · exact .inl (.inr ⟨j, h1, by omega, rfl⟩)
  · rintro ((h | ⟨j, h1, h2, rfl⟩) | rfl)
    · exact .inl h
    · exact .inr ⟨j, h1, by omega, rfl⟩
    · exact .inr ⟨k, hk, by omega, rfl⟩
/-- A plan that is new is none of those that wait. -/
theorem Srch.new {n : Nat} {cov : List Nat → Prop} {b : List Nat} {H : List Nat → Prop} (s : Srch n cov b H) {k : Nat} : ¬ gro b H k (b ++ [k]) := by
  rintro (h | ⟨j, -, h2, h3⟩)
  · obtain ⟨l, i, e, hl⟩ := s.par _ h
    obtain ⟨e1, -⟩ := List.append_inj' e rfl
    subst e1
    exact plt_irr _ hl
  · obtain ⟨-, e⟩ := List.append_inj' h3 rfl
    injection e with e
    omega
theorem Srch.some {n : Nat} {cov : List Nat → Prop} {b : List Nat} {H : List Nat → Prop} (s : Srch n cov b H) (hb : ¬ cov b) {p : List Nat} (hp : rsg n p) (hc : cov p) : ∃ q, gro b H n q ∧ q <+: p := by
  obtain ⟨q, hq, h | rfl⟩ := s.all p hp hc
  · exact ⟨q, .inl h, hq⟩
  · obtain ⟨k, h1, h2, h3⟩ := pre_next hp hq (fun e => hb (by rw [e]; exact hc))
    exact ⟨_, .inr ⟨k, h1, h2, rfl⟩, h3⟩
theorem Srch.step {n : Nat} {cov : List Nat → Prop} {b : List Nat} {H : List Nat → Prop} (s : Srch n cov b H) (hb : ¬ cov b) {c : List Nat} {H' : List Nat → Prop} (hc : gro b H n c) (hH : ∀ q, H' q ↔ (gro b H n q ∧ q ≠ c)) (hbest : ∀ q, gro b H n q → ¬ plt q c) : Srch n cov c H' ∧ plt b c := by
  have hr : ∀ q, gro b H n q → rsg n q ∧ plt b q ∧ ∃ l k, q = l ++ [k] ∧ (plt l b ∨ l = b) := by
    rintro q (h | ⟨j, h1, h2, rfl⟩)
    · obtain ⟨l, k, e, hl⟩ := s.par q h
      exact ⟨s.rh q h, s.gt q h, l, k, e, .inl hl⟩
    · exact ⟨rsg_add.2 ⟨s.rb, h1, h2⟩, plt_grow _ _, b, j, rfl, .inr rfl⟩
  have hbc := (hr c hc).2.1
  refine ⟨⟨(hr c hc).1, fun q h => (hr q ((hH q).1 h).1).1, fun q h => ?_, fun q h => ?_, fun p hp hcov => ?_⟩, hbc⟩
  · obtain ⟨h1, h2⟩ := (hH q).1 h
    by_cases e : plt c q
    · exact e
    · exact absurd (plt_tri (hbest q h1) e) h2
  · obtain ⟨-, -, l, k, e, hl⟩ := hr q ((hH q).1 h).1
    refine ⟨l, k, e, ?_⟩
    rcases hl with hl | rfl
    · exact plt_tr hl hbc
    · exact hbc
  · obtain ⟨q, h1, h2⟩ := s.some hb hp hcov
    by_cases e : q = c
    · exact ⟨q, h2, .inr e⟩
    · exact ⟨q, h2, .inl ((hH q).2 ⟨h1, e⟩)⟩
/-- The best of all plans that show everything. -/
def BestP (n : Nat) (cov : List Nat → Prop) (b : List Nat) : Prop := rsg n b ∧ cov b ∧ ∀ p, rsg n p → cov p → ¬ plt p b
theorem BestP.same {n : Nat} {cov : List Nat → Prop} {b c : List Nat} (h : BestP n cov b) (h' : BestP n cov c) : b = c := plt_tri (h'.2.2 b h.1 h.2.1) (h.2.2 c h'.1 h'.2.1)
theorem Srch.done {n : Nat} {cov : List Nat → Prop} {b : List Nat} {H : List Nat → Prop} (s : Srch n cov b H) (hb : cov b) : BestP n cov b := by
  refine ⟨s.rb, hb, fun p hp hc h => ?_⟩
  obtain ⟨q, hq, h1 | rfl⟩ := s.all p hp hc
  · have h2 := s.gt q h1
    rcases pre_ahead hq with rfl | h3
    · exact plt_irr _ (plt_tr h h2)
    · exact plt_irr _ (plt_tr h (plt_tr h2 h3))
  · rcases pre_ahead hq with rfl | h3
    · exact plt_irr _ h
    · exact plt_irr _ (plt_tr h h3)
/-- All rising lists below n. -/
def subs : Nat → List (List Nat)
  | 0 => [[]]
  | n + 1 => subs n ++ (subs n).map (· ++ [n])
theorem subs_len (n : Nat) : (subs n).length = 2 ^ n := by
  induction n with
  | zero => rfl
  | succ n ih => rw [subs, List.length_append, List.length_map, ih, Nat.pow_succ]; omega
theorem mem_subs : ∀ (n : Nat) (l : List Nat), rsg n l → l ∈ subs n := by
  intro n
  induction n with
  | zero =>
    intro l h
    cases l with
    | nil => simp [subs]
    | cons a l => exact absurd (h.2 a (by simp)) (by omega)
  | succ n ih =>
    intro l h
    rw [subs, List.mem_append]
    rcases List.eq_nil_or_concat l with rfl | ⟨s, x, rfl⟩
    · exact .inl (ih [] ⟨.nil, fun x hx => by cases hx⟩)
    · rw [List.concat_eq_append] at h ⊢
      obtain ⟨h1, h2, h3⟩ := rsg_add.1 h
      have hs : ∀ k, k ≤ n → x ≤ k → rsg k s := fun k hk hx => ⟨h1.1, fun y hy => by have := below_end h1 y hy; omega⟩
      by_cases e : x = n
      · subst e
        exact .inr (List.mem_map.2 ⟨s, ih s (hs x (Nat.le_refl _) (Nat.le_refl _)), rfl⟩)
      · exact .inl (ih _ (rsg_add.2 ⟨hs n (Nat.le_refl _) (by omega), h2, by omega⟩))
theorem filter_lt {T : Type} {p q : T → Bool} {l : List T} (h : ∀ x, p x = true → q x = true) {a : T} (ha : a ∈ l) (h1 : p a = false) (h2 : q a = true) : (l.filter p).length < (l.filter q).length := by
  have hle : ∀ l : List T, (l.filter p).length ≤ (l.filter q).length := by
    intro l
    induction l with
    | nil => exact Nat.le_refl _
    | cons b l ih =>
      simp only [List.filter_cons]
      by_cases e : p b = true
      · rw [if_pos e, if_pos (h b e)]; simpa using ih
      · rw [if_neg e]
        split
        · simp only [List.length_cons]; omega
        · exact ih
  induction l with
  | nil => cases ha
  | cons b l ih =>
    simp only [List.filter_cons]
    rcases List.mem_cons.1 ha with rfl | ha
    · rw [if_neg (by simp [h1]), if_pos h2]
      have := hle l
      simp only [List.length_cons]; omega
    · have := ih ha
      by_cases e : p b = true
      · rw [if_pos e, if_pos (h b e)]; simpa using this
      · rw [if_neg e]
        split
        · simp only [List.length_cons]; omega
        · exact this
/-- How many plans are still behind this one. -/
noncomputable def behind (n : Nat) (b : List Nat) : Nat := ((subs n).filter (fun p => @decide (plt b p) (Classical.propDecidable _))).length
theorem behind_lt {n : Nat} {b c : List Nat} (hc : rsg n c) (h : plt b c) : behind n c < behind n b := by
  unfold behind
  refine filter_lt (a := c) (fun x hx => ?_) (mem_subs n c hc) ?_ ?_
  · simp only [decide_eq_true_eq] at hx ⊢
    exact plt_tr h hx
  · simp only [decide_eq_false_iff_not]
    exact plt_irr c
  · simp only [decide_eq_true_eq]
    exact h
/-- So many different things of a list are not more than it holds. -/
theorem inj_le {T : Type} : ∀ (m : Nat) (f : Nat → T) (l : List T), Inj m f → (∀ i, i < m → f i ∈ l) → m ≤ l.length := by
  intro m
  induction m with
  | zero => intros; exact Nat.zero_le _
  | succ m ih =>
    intro f l hf hm
    obtain ⟨s, t, e⟩ := List.append_of_mem (hm m (by omega))
    have := ih f (s ++ t) (fun i j hi hj => hf i j (by omega) (by omega)) (fun i hi => by
      have h1 := hm i (by omega)
      rw [e] at h1
      have h2 : f i ≠ f m := fun h => by have := hf i m (by omega) (by omega) h; omega
      simp only [List.mem_append, List.mem_cons] at h1 ⊢
      rcases h1 with h1 | h1 | h1
      · exact .inl h1
      · exact absurd h1 h2
      · exact .inr h1)
    rw [e]
    simp only [List.length_append, List.length_cons] at this ⊢
    omega
/-- No more plans can wait than there are. -/
theorem wait_le {n m : Nat} {f : Nat → List Nat} (hf : Inj m f) (h : ∀ i, i < m → rsg n (f i)) : m ≤ 2 ^ n := by
  rw [← subs_len]
  exact inj_le m f _ hf (fun i hi => mem_subs n _ (h i hi))
end Go.Proofs.Ytcpeaenophaphaa
