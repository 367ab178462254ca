/-
  The mathematics of outliers: what is left, how far each lies from the mean, which one is taken, and that both ways of taking end alike. No walk.
-/
import Derived.Test.YtnlbnjdfkbhkhaaGg
import Derived.Test.YtnlbnjdfkbhkhaaFb0
namespace Go.Proofs.Ytnlbnjdfkbhkhaa
open Go.RowKit

/-- What is left of n: the numbers that G does not have. -/
def kl (G : Nat → Bool) (n : Nat) : List Nat := (List.range n).filter (fun i => !G i)
theorem kl_no {G : Nat → Bool} {k : Nat} (h : G k = true) : kl G (k + 1) = kl G k := by simp [kl, List.range_succ, h]
theorem kl_yes {G : Nat → Bool} {k : Nat} (h : G k = false) : kl G (k + 1) = kl G k ++ [k] := by simp [kl, List.range_succ, h]
theorem kl_le (G : Nat → Bool) (n : Nat) : (kl G n).length ≤ n := by
  have := List.length_filter_le (fun i => !G i) (List.range n)
  simpa [kl] using this
theorem kl_mem {G : Nat → Bool} {n i : Nat} : i ∈ kl G n ↔ i < n ∧ G i = false := by simp [kl]
theorem kl_sorted (G : Nat → Bool) (n : Nat) : (kl G n).Pairwise (· < ·) := by
  unfold kl
  exact List.Pairwise.filter _ List.pairwise_lt_range
theorem kl_at {G : Nat → Bool} {n p : Nat} (hp : p < (kl G n).length) : (kl G n).getD p 0 < n ∧ G ((kl G n).getD p 0) = false := by
  have e : (kl G n).getD p 0 = (kl G n)[p] := by simp [hp]
  rw [e]
  exact kl_mem.1 (List.getElem_mem hp)
theorem kl_has {G : Nat → Bool} {n i : Nat} (hi : i < n) (hG : G i = false) : ∃ p, p < (kl G n).length ∧ (kl G n).getD p 0 = i := by
  obtain ⟨p, hp, e⟩ := List.getElem_of_mem (kl_mem.2 ⟨hi, hG⟩)
  exact ⟨p, hp, by simp [hp, e]⟩
theorem kl_lt {G : Nat → Bool} {n p q : Nat} (hq : q < (kl G n).length) (h : p < q) : (kl G n).getD p 0 < (kl G n).getD q 0 := by
  have hp : p < (kl G n).length := by omega
  have e1 : (kl G n).getD p 0 = (kl G n)[p] := by simp [hp]
  have e2 : (kl G n).getD q 0 = (kl G n)[q] := by simp [hq]
  rw [e1, e2]
  exact List.pairwise_iff_getElem.1 (kl_sorted G n) p q hp hq h
/-- One more is gone. -/
def upd (G : Nat → Bool) (x : Nat) : Nat → Bool := fun i => G i || (i == x)
theorem erase_at {l : List Nat} : ∀ {p : Nat}, l.Pairwise (· < ·) → (hp : p < l.length) → l.take p ++ l.drop (p + 1) = l.filter (fun i => !(i == l.getD p 0)) := by
  induction l with
  | nil => intro p _ hp; simp at hp
  | cons a t ih =>
    intro p hs hp
    rw [List.pairwise_cons] at hs
    cases p with
    | zero =>
      have : t.filter (fun i => !(i == a)) = t := List.filter_eq_self.2 (fun x hx => by have := hs.1 x hx; simp; omega)
      simp [this]
    | succ p =>
      have hp' : p < t.length := by simpa using hp
      have ht := ih hs.2 hp'
      have hne : a ≠ t.getD p 0 := by
        have e : t.getD p 0 = t[p] := by simp [hp']
        rw [e]
        have := hs.1 t[p] (List.getElem_mem hp')
        omega
      have e1 : (a :: t).getD (p + 1) 0 = t.getD p 0 := by simp
      rw [e1]
      simp only [List.take_succ_cons, List.drop_succ_cons, List.cons_append, ht]
      rw [List.filter_cons_of_pos (by simpa using hne)]
theorem kl_cut {G : Nat → Bool} {n p : Nat} (hp : p < (kl G n).length) : (kl G n).take p ++ (kl G n).drop (p + 1) = kl (upd G ((kl G n).getD p 0)) n := by
  rw [erase_at (kl_sorted G n) hp]
  obtain ⟨x, hx⟩ : ∃ x, (kl G n).getD p 0 = x := ⟨_, rfl⟩
  rw [hx]
  simp only [kl, List.filter_filter, upd]
  congr 1
  funext i
  cases G i <;> cases (i == x) <;> rfl
theorem kl_cut_len {G : Nat → Bool} {n x : Nat} (hx : x < n) (hG : G x = false) : (kl (upd G x) n).length + 1 = (kl G n).length := by
  obtain ⟨p, hp, e⟩ := kl_has hx hG
  rw [← e, ← kl_cut hp]
  simp
  omega
/-- What is gone. -/
def gl (G : Nat → Bool) (n : Nat) : List Nat := (List.range n).filter G
theorem gl_perm {G : Nat → Bool} {n x : Nat} (hx : x < n) (hG : G x = false) : (gl (upd G x) n).Perm (gl G n ++ [x]) := by
  induction n with
  | zero => omega
  | succ n ih =>
    simp only [gl, List.range_succ, List.filter_append] at *
    by_cases e : x = n
    · subst e
      have h1 : List.filter (upd G x) (List.range x) = List.filter G (List.range x) := List.filter_congr (fun i hi => by
        have : i < x := by simpa using hi
        have hne : (i == x) = false := by simp; omega
        simp [upd, hne])
      rw [h1]
      simp [upd, hG]
    · have h1 : x < n := by omega
      have h2 : upd G x n = G n := by
        have hne : (n == x) = false := by simp; omega
        simp [upd, hne]
      have := ih h1
      simp only [List.filter_cons, List.filter_nil, h2]
      cases G n
      · simpa using this
      · simp only [if_true]
        refine (this.append_right [n]).trans ?_
        simp only [List.append_assoc]
        exact List.Perm.append_left _ (List.Perm.swap _ _ _)
/-- The sum of the numbers of a list of places. -/
def sm (f : Nat → Int) (l : List Nat) : Int := (l.map (fun i => f (i * 4 + 3))).foldr (· + ·) 0
theorem sm_nil (f : Nat → Int) : sm f [] = 0 := rfl
theorem sm_cons (f : Nat → Int) (x : Nat) (l : List Nat) : sm f (x :: l) = f (x * 4 + 3) + sm f l := rfl
theorem sm_snoc (f : Nat → Int) (l : List Nat) (x : Nat) : sm f (l ++ [x]) = sm f l + f (x * 4 + 3) := by
  induction l with
  | nil => simp [sm]
  | cons a t ih => rw [List.cons_append, sm_cons, sm_cons, ih]; omega
def inI (f : Nat → Int) (n : Nat) : Prop := ∀ i, i < n → -1000000 ≤ f (i * 4 + 3) ∧ f (i * 4 + 3) ≤ 1000000
theorem sm_in {f : Nat → Int} {n : Nat} (h : inI f n) : ∀ (l : List Nat), (∀ x ∈ l, x < n) → -(1000000 * (l.length : Int)) ≤ sm f l ∧ sm f l ≤ 1000000 * (l.length : Int)
  | [], _ => by simp [sm]
  | a :: t, hl => by
    have h1 := sm_in h t (fun x hx => hl x (by simp [hx]))
    have h2 := h a (hl a (by simp))
    rw [sm_cons]
    simp only [List.length_cons]
    omega
theorem take_snoc (l : List Nat) {k : Nat} (hk : k < l.length) : l.take (k + 1) = l.take k ++ [l.getD k 0] := by
  rw [List.take_add_one]
  simp [hk]
/-- How far x lies from the mean, as often as there are numbers. -/
def df (f : Nat → Int) (c s : Int) (x : Nat) : Int := mag (c * f (x * 4 + 3) - s)
theorem df_nn (f : Nat → Int) (c s : Int) (x : Nat) : 0 ≤ df f c s x := by rw [df, mag_eq]; omega
/-- Among the first k of a list: the last one of the farthest. -/
def FarK (d : Nat → Int) (L : List Nat) (k p : Nat) (m : Int) : Prop :=
  (k = 0 ∧ p = 0 ∧ m = 0) ∨ (p < k ∧ m = d (L.getD p 0) ∧ (∀ q, q < k → d (L.getD q 0) ≤ m) ∧ ∀ q, p < q → q < k → d (L.getD q 0) < m)
theorem FarK.m_nn {d : Nat → Int} (hd : ∀ x, 0 ≤ d x) {L : List Nat} {k p : Nat} {m : Int} (h : FarK d L k p m) : 0 ≤ m := by
  rcases h with ⟨-, -, rfl⟩ | ⟨-, rfl, -⟩
  · exact Int.le_refl _
  · exact hd _
theorem FarK.take {d : Nat → Int} {L : List Nat} {k p : Nat} {m : Int} (h : FarK d L k p m) (hm : m ≤ d (L.getD k 0)) : FarK d L (k + 1) k (d (L.getD k 0)) := by
  refine .inr ⟨by omega, rfl, fun q hq => ?_, fun q h1 h2 => by omega⟩
  by_cases e : q = k
  · subst e; exact Int.le_refl _
  · rcases h with ⟨rfl, -, -⟩ | ⟨-, -, h1, -⟩
    · omega
    · exact Int.le_trans (h1 q (by omega)) hm
theorem FarK.stay {d : Nat → Int} (hd : ∀ x, 0 ≤ d x) {L : List Nat} {k p : Nat} {m : Int} (h : FarK d L k p m) (hm : ¬ m ≤ d (L.getD k 0)) : FarK d L (k + 1) p m := by
  rcases h with ⟨rfl, -, rfl⟩ | ⟨h0, h1, h2, h3⟩
  · exact absurd (hd _) hm
  · refine .inr ⟨by omega, h1, fun q hq => ?_, fun q hq1 hq2 => ?_⟩
    · by_cases e : q = k
      · subst e; omega
      · exact h2 q (by omega)
    · by_cases e : q = k
      · subst e; omega
      · exact h3 q hq1 (by omega)
theorem FarK.lt {d : Nat → Int} {L : List Nat} {k p : Nat} {m : Int} (h : FarK d L k p m) (hk : 0 < k) : p < k := by
  rcases h with ⟨rfl, -, -⟩ | ⟨h0, -⟩
  · omega
  · exact h0
/-- The one that is taken next. -/
def Pick (f : Nat → Int) (n : Nat) (M : Int) (G : Nat → Bool) (x : Nat) : Prop :=
  3 ≤ (kl G n).length ∧ x < n ∧ G x = false ∧ M * ((kl G n).length : Int) < df f (kl G n).length (sm f (kl G n)) x ∧
    ∀ i, i < n → G i = false → df f (kl G n).length (sm f (kl G n)) i ≤ df f (kl G n).length (sm f (kl G n)) x ∧ (x < i → df f (kl G n).length (sm f (kl G n)) i < df f (kl G n).length (sm f (kl G n)) x)
theorem Pick.same {f : Nat → Int} {n : Nat} {M : Int} {G : Nat → Bool} {x y : Nat} (h : Pick f n M G x) (k : Pick f n M G y) : x = y := by
  obtain ⟨-, h1, h2, -, h3⟩ := h
  obtain ⟨-, k1, k2, -, k3⟩ := k
  rcases Nat.lt_trichotomy x y with e | e | e
  · have a := (h3 y k1 k2).2 e
    have b := (k3 x h1 h2).1
    omega
  · exact e
  · have a := (k3 x h1 h2).2 e
    have b := (h3 y k1 k2).1
    omega
theorem FarK.pick {f : Nat → Int} {n : Nat} {M : Int} {G : Nat → Bool} {p : Nat} {m : Int} (h : FarK (df f (kl G n).length (sm f (kl G n))) (kl G n) (kl G n).length p m) (h3 : 3 ≤ (kl G n).length) (hm : ¬ m ≤ M * ((kl G n).length : Int)) : Pick f n M G ((kl G n).getD p 0) := by
  rcases h with ⟨e, -⟩ | ⟨h0, rfl, h1, h2⟩
  · omega
  · obtain ⟨a1, a2⟩ := kl_at h0
    refine ⟨h3, a1, a2, by omega, fun i hi hG => ?_⟩
    obtain ⟨q, hq, rfl⟩ := kl_has hi hG
    refine ⟨h1 q hq, fun hlt => h2 q ?_ hq⟩
    rcases Nat.lt_trichotomy p q with e | e | e
    · exact e
    · subst e; omega
    · have := kl_lt h0 e
      omega
theorem FarK.none {f : Nat → Int} {n : Nat} {M : Int} {G : Nat → Bool} {p : Nat} {m : Int} (h : FarK (df f (kl G n).length (sm f (kl G n))) (kl G n) (kl G n).length p m) (hm : m ≤ M * ((kl G n).length : Int)) : ∀ x, ¬ Pick f n M G x := by
  rintro x ⟨h3, hx, hG, hd, -⟩
  obtain ⟨q, hq, rfl⟩ := kl_has hx hG
  rcases h with ⟨e, -⟩ | ⟨h0, rfl, h1, h2⟩
  · omega
  · have := h1 q hq
    omega
theorem few_none {f : Nat → Int} {n : Nat} {M : Int} {G : Nat → Bool} (h : (kl G n).length < 3) : ∀ x, ¬ Pick f n M G x := fun x hp => by
  have := hp.1
  omega
/-- The specification's search among the first k. -/
def AtK (d : Nat → Int) (G : Nat → Bool) (T : Int) (k : Nat) (a wst : Int) : Prop :=
  (a = -1 ∧ wst = T ∧ ∀ i, i < k → G i = false → d i ≤ T) ∨
  ∃ x : Nat, a = (x : Int) ∧ x < k ∧ G x = false ∧ wst = d x ∧ T < d x ∧ ∀ i, i < k → G i = false → d i ≤ d x ∧ (x < i → d i < d x)
theorem AtK.gone {d : Nat → Int} {G : Nat → Bool} {T : Int} {k : Nat} {a wst : Int} (h : AtK d G T k a wst) (hG : G k = true) : AtK d G T (k + 1) a wst := by
  rcases h with ⟨h1, h2, h3⟩ | ⟨x, h1, h2, h3, h4, h5, h6⟩
  · refine .inl ⟨h1, h2, fun i hi hg => h3 i ?_ hg⟩
    by_cases e : i = k
    · subst e; rw [hG] at hg; cases hg
    · omega
  · refine .inr ⟨x, h1, by omega, h3, h4, h5, fun i hi hg => h6 i ?_ hg⟩
    by_cases e : i = k
    · subst e; rw [hG] at hg; cases hg
    · omega
theorem AtK.take {d : Nat → Int} {G : Nat → Bool} {T : Int} {k : Nat} {a wst : Int} (h : AtK d G T k a wst) (hG : G k = false) (hd : wst < d k ∨ (0 ≤ a ∧ d k = wst)) : AtK d G T (k + 1) (k : Int) (d k) := by
  refine .inr ⟨k, rfl, by omega, hG, rfl, ?_, fun i hi hg => ?_⟩
  · rcases h with ⟨h1, h2, h3⟩ | ⟨x, h1, h2, h3, h4, h5, h6⟩ <;> omega
  · by_cases e : i = k
    · subst e
      exact ⟨Int.le_refl _, fun h => by omega⟩
    · refine ⟨?_, fun h => by omega⟩
      rcases h with ⟨h1, h2, h3⟩ | ⟨x, h1, h2, h3, h4, h5, h6⟩
      · have := h3 i (by omega) hg
        omega
      · have := (h6 i (by omega) hg).1
        omega
theorem AtK.stay {d : Nat → Int} {G : Nat → Bool} {T : Int} {k : Nat} {a wst : Int} (h : AtK d G T k a wst) (hd : ¬ wst < d k) (hd2 : ¬ (0 ≤ a ∧ d k = wst)) : AtK d G T (k + 1) a wst := by
  rcases h with ⟨h1, h2, h3⟩ | ⟨x, h1, h2, h3, h4, h5, h6⟩
  · refine .inl ⟨h1, h2, fun i hi hg => ?_⟩
    by_cases e : i = k
    · subst e; omega
    · exact h3 i (by omega) hg
  · refine .inr ⟨x, h1, by omega, h3, h4, h5, fun i hi hg => ?_⟩
    by_cases e : i = k
    · subst e
      exact ⟨by omega, fun _ => by omega⟩
    · exact h6 i (by omega) hg
theorem AtK.pick {f : Nat → Int} {n : Nat} {M : Int} {G : Nat → Bool} {a wst : Int} (h : AtK (df f (kl G n).length (sm f (kl G n))) G (M * ((kl G n).length : Int)) n a wst) (h3 : 3 ≤ (kl G n).length) (ha : ¬ a < 0) : ∃ x : Nat, a = (x : Int) ∧ x < n ∧ Pick f n M G x := by
  rcases h with ⟨h1, -⟩ | ⟨x, h1, h2, h3', h4, h5, h6⟩
  · omega
  · exact ⟨x, h1, h2, h3, h2, h3', h5, h6⟩
theorem AtK.none {f : Nat → Int} {n : Nat} {M : Int} {G : Nat → Bool} {a wst : Int} (h : AtK (df f (kl G n).length (sm f (kl G n))) G (M * ((kl G n).length : Int)) n a wst) (ha : a < 0) : ∀ x, ¬ Pick f n M G x := by
  rintro x ⟨-, hx, hG, hd, -⟩
  rcases h with ⟨-, -, h3⟩ | ⟨y, h1, -⟩
  · have := h3 x hx hG
    omega
  · omega
/-- A row of takings. -/
def chn (f : Nat → Int) (n : Nat) (M : Int) : (Nat → Bool) → List Nat → (Nat → Bool) → Prop
  | G, [], G' => G = G'
  | G, x :: l, G' => Pick f n M G x ∧ chn f n M (upd G x) l G'
theorem chn.snoc {f : Nat → Int} {n : Nat} {M : Int} : ∀ {l : List Nat} {G G' : Nat → Bool} {x : Nat}, chn f n M G l G' → Pick f n M G' x → chn f n M G (l ++ [x]) (upd G' x)
  | [], G, G', x, h, hp => by
    have e : G = G' := h
    subst e
    exact ⟨hp, rfl⟩
  | y :: l, G, G', x, h, hp => ⟨h.1, chn.snoc h.2 hp⟩
theorem chn.same {f : Nat → Int} {n : Nat} {M : Int} : ∀ {l k : List Nat} {G A B : Nat → Bool}, chn f n M G l A → (∀ x, ¬ Pick f n M A x) → chn f n M G k B → (∀ x, ¬ Pick f n M B x) → A = B
  | [], [], G, A, B, h1, _, h2, _ => by
    have e1 : G = A := h1
    have e2 : G = B := h2
    rw [← e1, e2]
  | [], y :: k, G, A, B, h1, n1, h2, _ => by
    have e1 : G = A := h1
    subst e1
    exact absurd h2.1 (n1 y)
  | x :: l, [], G, A, B, h1, _, h2, n2 => by
    have e1 : G = B := h2
    subst e1
    exact absurd h1.1 (n2 x)
  | x :: l, y :: k, G, A, B, h1, n1, h2, n2 => by
    obtain rfl := h1.1.same h2.1
    exact chn.same h1.2 n1 h2.2 n2
theorem chn.perm {f : Nat → Int} {n : Nat} {M : Int} : ∀ {l : List Nat} {G A : Nat → Bool}, chn f n M G l A → (gl A n).Perm (gl G n ++ l)
  | [], G, A, h => by
    have e : G = A := h
    subst e
    simp
  | x :: l, G, A, h => by
    refine (chn.perm h.2).trans ?_
    have := (gl_perm h.1.2.1 h.1.2.2.1).append_right l
    simpa using this
theorem chn.lt {f : Nat → Int} {n : Nat} {M : Int} {l : List Nat} {A : Nat → Bool} (h : chn f n M (fun _ => false) l A) : l.length ≤ n := by
  have h1 := h.perm.length_eq
  have h2 := List.length_filter_le A (List.range n)
  have h3 : gl (fun _ => false) n = [] := by simp [gl]
  rw [h3] at h1
  simp [gl] at h1 h2
  omega
theorem sorted_gl {f : Nat → Int} {n : Nat} {M : Int} {l : List Nat} {A : Nat → Bool} (h : chn f n M (fun _ => false) l A) : (toI l).mergeSort (fun x y => decide (x ≤ y)) = toI (gl A n) := by
  have h3 : gl (fun _ => false) n = [] := by simp [gl]
  have hp := h.perm
  rw [h3, List.nil_append] at hp
  have p1 : ((toI l).mergeSort (fun x y => decide (x ≤ y))).Perm (toI (gl A n)) := (List.mergeSort_perm _ _).trans (hp.symm.map _)
  have s1 : ((toI l).mergeSort (fun x y => decide (x ≤ y))).Pairwise (fun a b => decide (a ≤ b) = true) :=
    List.pairwise_mergeSort (fun a b c h1 h2 => by simp at *; omega) (fun a b => by simp; omega) _
  have s2 : (toI (gl A n)).Pairwise (fun a b => decide (a ≤ b) = true) := by
    unfold toI
    rw [List.pairwise_map]
    refine List.Pairwise.imp ?_ (List.Pairwise.filter A (List.pairwise_lt_range (n := n)))
    intro a b hab
    simp
    omega
  exact List.Perm.eq_of_pairwise (fun a b _ _ h1 h2 => by simp at h1 h2; omega) s1 s2 p1
/-- The outliers. -/
def OutA (f : Nat → Int) (n : Nat) (M : Int) (ok : Prop) (A : List Int) : Prop :=
  (ok ∧ ∃ l G, chn f n M (fun _ => false) l G ∧ (∀ x, ¬ Pick f n M G x) ∧ A = toI (gl G n)) ∨ (¬ ok ∧ A = [])
theorem OutA.same {f : Nat → Int} {n : Nat} {M : Int} {ok : Prop} {A B : List Int} (h : OutA f n M ok A) (k : OutA f n M ok B) : A = B := by
  rcases h with ⟨h0, l, G, h1, h2, rfl⟩ | ⟨h0, rfl⟩
  · rcases k with ⟨-, l', G', k1, k2, rfl⟩ | ⟨k0, -⟩
    · rw [chn.same h1 h2 k1 k2]
    · exact absurd h0 k0
  · rcases k with ⟨k0, -⟩ | ⟨-, rfl⟩
    · exact absurd k0 h0
    · rfl
end Go.Proofs.Ytnlbnjdfkbhkhaa
