/-
  Sites: the points of a cell numbered, how large an orbit is, what a walk over the cell counts. No function of the program.
-/
import Derived.Test.YtiocneailhplkaaGreatB17a
import Derived.Test.YtiocneailhplkaaGreatO3b
import Derived.RangeFuncNested
namespace Go.Proofs.YtiocneailhplkaaGreat
open Go.RowKit

/-- The point of number q. -/
def ptN (q : Nat) : T3 := (((q / 576 : Nat) : Int), ((q / 24 % 24 : Nat) : Int), ((q % 24 : Nat) : Int))
/-- A point's number. -/
def plN (p : T3) : Int := (p.1 * 24 + p.2.1) * 24 + p.2.2
theorem ptN_in {q : Nat} (h : q < 13824) : inT (ptN q) := by
  show inP _ _ _
  unfold inP ptN
  simp only
  omega
theorem plN_pt (q : Nat) : plN (ptN q) = q := by
  unfold plN ptN
  simp only
  omega
theorem plN_lt {p : T3} (h : inT p) : 0 ≤ plN p ∧ plN p < 13824 := by
  obtain ⟨x, y, z⟩ := p
  have h' : inP x y z := h
  unfold inP at h'
  show 0 ≤ (x * 24 + y) * 24 + z ∧ (x * 24 + y) * 24 + z < 13824
  omega
theorem pt_plN {p : T3} (h : inT p) : ptN (plN p).toNat = p := by
  obtain ⟨x, y, z⟩ := p
  have h' : inP x y z := h
  unfold inP at h'
  show ptN ((x * 24 + y) * 24 + z).toNat = _
  unfold ptN
  refine Prod.ext ?_ (Prod.ext ?_ ?_) <;> simp only <;> omega
theorem ptN_inj {q r : Nat} (h : ptN q = ptN r) : q = r := by
  have := congrArg plN h
  rw [plN_pt, plN_pt] at this
  omega
/-- Of how many operators a point stays. -/
def stN (n : Nat) (A : Nat → OpD) (p : T3) : Nat := kN (fun i => decide (aK (A i).key p = p)) n
/-- The size of the orbit of point number q. -/
def rkN (n : Nat) (A : Nat → OpD) (q : Nat) : Nat := n / stN n A (ptN q)
/-- Where the first j operators take p, each point once. -/
def OrL (A : Nat → OpD) (p : T3) (j : Nat) (D : List T3) : Prop := D.Nodup ∧ ∀ x, x ∈ D ↔ ∃ i, i < j ∧ aK (A i).key p = x
theorem OrL.nil (A : Nat → OpD) (p : T3) : OrL A p 0 [] := ⟨List.nodup_nil, fun x => ⟨fun h => (by cases h), fun ⟨i, hi, _⟩ => by omega⟩⟩
theorem OrL.old {A : Nat → OpD} {p : T3} {j : Nat} {D : List T3} (h : OrL A p j D) (hm : aK (A j).key p ∈ D) : OrL A p (j + 1) D := by
  refine ⟨h.1, fun x => ⟨fun hx => ?_, fun ⟨i, hi, e⟩ => ?_⟩⟩
  · obtain ⟨i, hi, e⟩ := (h.2 x).1 hx
    exact ⟨i, by omega, e⟩
  · by_cases c : i = j
    · subst c; rw [← e]; exact hm
    · exact (h.2 x).2 ⟨i, by omega, e⟩
theorem OrL.new {A : Nat → OpD} {p : T3} {j : Nat} {D : List T3} (h : OrL A p j D) (hm : aK (A j).key p ∉ D) : OrL A p (j + 1) (aK (A j).key p :: D) := by
  refine ⟨List.nodup_cons.2 ⟨hm, h.1⟩, fun x => ⟨fun hx => ?_, fun ⟨i, hi, e⟩ => ?_⟩⟩
  · rcases List.mem_cons.1 hx with e | hx
    · exact ⟨j, by omega, e.symm⟩
    · obtain ⟨i, hi, e⟩ := (h.2 x).1 hx
      exact ⟨i, by omega, e⟩
  · by_cases c : i = j
    · subst c; rw [← e]; exact List.mem_cons_self
    · exact List.mem_cons_of_mem _ ((h.2 x).2 ⟨i, by omega, e⟩)
/-- Where some operators take p, each point once. -/
def OrJ (A : Nat → OpD) (p : T3) (js : List Nat) (D : List T3) : Prop := D.Nodup ∧ ∀ x, x ∈ D ↔ ∃ i, i ∈ js ∧ aK (A i).key p = x
theorem OrJ.nil (A : Nat → OpD) (p : T3) : OrJ A p [] [] := ⟨List.nodup_nil, fun x => ⟨fun h => (by cases h), fun ⟨i, hi, _⟩ => (by cases hi)⟩⟩
theorem OrJ.old {A : Nat → OpD} {p : T3} {js : List Nat} {j : Nat} {D : List T3} (h : OrJ A p js D) (hm : aK (A j).key p ∈ D) : OrJ A p (js ++ [j]) D := by
  refine ⟨h.1, fun x => ⟨fun hx => ?_, fun ⟨i, hi, e⟩ => ?_⟩⟩
  · obtain ⟨i, hi, e⟩ := (h.2 x).1 hx
    exact ⟨i, List.mem_append_left _ hi, e⟩
  · rcases List.mem_append.1 hi with hi | hi
    · exact (h.2 x).2 ⟨i, hi, e⟩
    · rw [List.mem_singleton] at hi
      subst hi; rw [← e]; exact hm
theorem OrJ.new {A : Nat → OpD} {p : T3} {js : List Nat} {j : Nat} {D : List T3} (h : OrJ A p js D) (hm : aK (A j).key p ∉ D) : OrJ A p (js ++ [j]) (aK (A j).key p :: D) := by
  refine ⟨List.nodup_cons.2 ⟨hm, h.1⟩, fun x => ⟨fun hx => ?_, fun ⟨i, hi, e⟩ => ?_⟩⟩
  · rcases List.mem_cons.1 hx with e | hx
    · exact ⟨j, by simp, e.symm⟩
    · obtain ⟨i, hi, e⟩ := (h.2 x).1 hx
      exact ⟨i, List.mem_append_left _ hi, e⟩
  · rcases List.mem_append.1 hi with hi | hi
    · exact List.mem_cons_of_mem _ ((h.2 x).2 ⟨i, hi, e⟩)
    · rw [List.mem_singleton] at hi
      subst hi; rw [← e]; exact List.mem_cons_self
theorem OrJ.inT {A : Nat → OpD} {p : T3} {js : List Nat} {D : List T3} (h : OrJ A p js D) {x : T3} (hx : x ∈ D) : inT x := by
  obtain ⟨i, -, e⟩ := (h.2 x).1 hx
  rw [← e]
  exact aK_in _ _
theorem OrJ.fin {n : Nat} {A : Nat → OpD} {p : T3} {js : List Nat} {D : List T3} (h : OrJ A p js D) (hj : ∀ i, i ∈ js ↔ i < n) : OrL A p n D :=
  ⟨h.1, fun x => (h.2 x).trans ⟨fun ⟨i, hi, e⟩ => ⟨i, (hj i).1 hi, e⟩, fun ⟨i, hi, e⟩ => ⟨i, (hj i).2 hi, e⟩⟩⟩
/-- The points of a list are points of the cell: no more of them than the cell has. -/
theorem OrJ.len {A : Nat → OpD} {p : T3} {js : List Nat} {D : List T3} (h : OrJ A p js D) : D.length ≤ js.length := by
  have hsub : D ⊆ js.map (fun i => aK (A i).key p) := fun x hx => by
    obtain ⟨i, hi, e⟩ := (h.2 x).1 hx
    exact List.mem_map.2 ⟨i, hi, e⟩
  have := List.Nodup.length_le_of_subset h.1 hsub
  simpa using this
theorem OrL.len {A : Nat → OpD} {p : T3} : ∀ {j : Nat} {D : List T3}, OrL A p j D → D.length ≤ j := by
  intro j D h
  have key : ∀ (j : Nat) (D : List T3), D.Nodup → (∀ x, x ∈ D → ∃ i, i < j ∧ aK (A i).key p = x) → D.length ≤ j := by
    intro j D hn hm
    have hsub : D ⊆ (List.range j).map (fun i => aK (A i).key p) := fun x hx => by
      obtain ⟨i, hi, e⟩ := hm x hx
      exact List.mem_map.2 ⟨i, List.mem_range.2 hi, e⟩
    have := List.Nodup.length_le_of_subset hn hsub
    simpa using this
  exact key j D h.1 (fun x hx => (h.2 x).1 hx)
theorem OrL.inT {A : Nat → OpD} {p : T3} {j : Nat} {D : List T3} (h : OrL A p j D) {x : T3} (hx : x ∈ D) : inT x := by
  obtain ⟨i, -, e⟩ := (h.2 x).1 hx
  rw [← e]
  exact aK_in _ _
/-- An orbit's size times the number of operators that keep the point. -/
theorem OrL.size {n : Nat} {A : Nat → OpD} {p : T3} {D : List T3} (hG : isG n A) (hp : Go.Proofs.YtiocneailhplkaaGreat.inT p) (h : OrL A p n D) : D.length * stN n A p = n := by
  have hg : ∀ t, t < D.length → D[t]?.getD p ∈ D := fun t ht => by
    rw [List.getElem?_eq_getElem ht]
    exact List.getElem_mem ht
  have e1 : sumN (fun t => kN (fun i => decide (aK (A i).key p = D[t]?.getD p)) n) D.length = n := by
    refine kN_parts (P := fun i => aK (A i).key p) (F := fun t => D[t]?.getD p) (fun t t' ht ht' e => ?_) (fun i hi => ?_)
    · have e' : D[t] = D[t'] := by
        simp only [List.getElem?_eq_getElem ht, List.getElem?_eq_getElem ht', Option.getD_some] at e
        exact e
      exact (List.getElem_inj (h₀ := ht) (h₁ := ht') h.1).1 e'
    · obtain ⟨t, ht, e⟩ := List.getElem_of_mem ((h.2 _).2 ⟨i, hi, rfl⟩)
      exact ⟨t, ht, by simp only [List.getElem?_eq_getElem ht, Option.getD_some]; exact e⟩
  rw [sumN_const (s := stN n A p) (fun t ht => by
    obtain ⟨a, ha, e⟩ := (h.2 _).1 (hg t ht)
    rw [← e]
    exact fiber hG hp ha)] at e1
  exact e1
theorem one_idx {n : Nat} {A : Nat → OpD} (hG : isG n A) {p : T3} (hp : inT p) : ∃ i, i < n ∧ aK (A i).key p = p := by
  obtain ⟨i, hi, e⟩ := hG.one
  exact ⟨i, hi, by rw [aK_congr e, aK_one hp]⟩
/-- The orbit of a point of an orbit is that orbit. -/
theorem OrL.swap {n a : Nat} {A : Nat → OpD} {p : T3} {D : List T3} (hG : isG n A) (h : OrL A p n D) (ha : a < n) : OrL A (aK (A a).key p) n D := by
  refine ⟨h.1, fun x => (h.2 x).trans ⟨fun ⟨i, hi, e⟩ => ?_, fun ⟨i, hi, e⟩ => ?_⟩⟩
  · obtain ⟨i', hi', e'⟩ := inj_onto (s := fun i => mulI n A i a) (fun i hi => (mulI_at hG hi ha).1) (fun i j hi hj e => mulI_right hG ha hi hj e) hi
    refine ⟨i', hi', ?_⟩
    rw [← mulI_aK hG hi' ha, show mulI n A i' a = i from e']
    exact e
  · exact ⟨mulI n A i a, (mulI_at hG hi ha).1, by rw [mulI_aK hG hi ha]; exact e⟩
theorem stN_pos {n : Nat} {A : Nat → OpD} (hG : isG n A) {p : T3} (hp : inT p) : 0 < stN n A p := by
  obtain ⟨i, hi, e⟩ := one_idx hG hp
  unfold stN
  rw [kN_count]
  exact List.countP_pos_iff.2 ⟨i, List.mem_range.2 hi, by simp [e]⟩
theorem stN_le (n : Nat) (A : Nat → OpD) (p : T3) : stN n A p ≤ n := by
  unfold stN
  rw [kN_count]
  have := List.countP_le_length (p := fun i => decide (aK (A i).key p = p)) (l := List.range n)
  simpa using this
theorem rkN_le (n : Nat) (A : Nat → OpD) (q : Nat) : rkN n A q ≤ n := Nat.div_le_self _ _
/-- An orbit's size, as the specification reckons it. -/
theorem OrL.rank {n q : Nat} {A : Nat → OpD} {D : List T3} (hG : isG n A) (hq : q < 13824) (h : OrL A (ptN q) n D) : rkN n A q = D.length := by
  have e := h.size hG (ptN_in hq)
  unfold rkN
  have hp := stN_pos hG (ptN_in hq)
  exact Nat.div_eq_of_eq_mul_left hp e.symm
theorem OrL.rank_all {n q : Nat} {A : Nat → OpD} {D : List T3} (hG : isG n A) (h : OrL A (ptN q) n D) {r : Nat} (hr : r < 13824) (hm : ptN r ∈ D) : rkN n A r = D.length := by
  obtain ⟨a, ha, e⟩ := (h.2 _).1 hm
  have h2 := h.swap hG ha
  rw [e] at h2
  exact h2.rank hG hr
/-- Every point has its orbit's list. -/
theorem orL_ex {A : Nat → OpD} (p : T3) : ∀ j, ∃ D, OrL A p j D
  | 0 => ⟨[], OrL.nil A p⟩
  | j + 1 => by
    obtain ⟨D, h⟩ := orL_ex (A := A) p j
    by_cases c : aK (A j).key p ∈ D
    · exact ⟨D, h.old c⟩
    · exact ⟨_, h.new c⟩
/-- A rank is at least one, and divides the group's order. -/
theorem rkN_div {n q : Nat} {A : Nat → OpD} (hG : isG n A) (hq : q < 13824) : 1 ≤ rkN n A q ∧ n % rkN n A q = 0 := by
  obtain ⟨D, h⟩ := orL_ex (A := A) (ptN q) n
  have e := h.size hG (ptN_in hq)
  rw [h.rank hG hq]
  obtain ⟨i, hi, ei⟩ := one_idx hG (ptN_in hq)
  have hm : ptN q ∈ D := (h.2 _).2 ⟨i, hi, ei⟩
  refine ⟨List.length_pos_of_mem hm, ?_⟩
  rw [← e]
  exact Nat.mul_mod_right _ _
/-- The points that the orbits of some points hold. -/
def Seen (n : Nat) (A : Nat → OpD) (l : List Nat) (q : Nat) : Prop := ∃ p, p ∈ l ∧ ∃ i, i < n ∧ aK (A i).key (ptN p) = ptN q
theorem Seen.self {n : Nat} {A : Nat → OpD} (hG : isG n A) {l : List Nat} {q : Nat} (hq : q ∈ l) (hN : q < 13824) : Seen n A l q := by
  obtain ⟨i, hi, e⟩ := one_idx hG (ptN_in hN)
  exact ⟨q, hq, i, hi, e⟩
/-- A seen point's orbit is seen. -/
theorem Seen.orbit {n : Nat} {A : Nat → OpD} (hG : isG n A) {l : List Nat} {q r : Nat} (h : Seen n A l q) {a : Nat} (ha : a < n) (e : aK (A a).key (ptN q) = ptN r) : Seen n A l r := by
  obtain ⟨p, hp, i, hi, e1⟩ := h
  exact ⟨p, hp, mulI n A a i, (mulI_at hG ha hi).1, by rw [mulI_aK hG ha hi, e1, e]⟩
/-- The way back. -/
theorem back_idx {n a : Nat} {A : Nat → OpD} (hG : isG n A) {p : T3} (hp : inT p) (ha : a < n) : ∃ b, b < n ∧ aK (A b).key (aK (A a).key p) = p := by
  obtain ⟨i, hi, e⟩ := one_idx hG hp
  obtain ⟨b, hb, e'⟩ := inj_onto (s := fun i => mulI n A i a) (fun i hi => (mulI_at hG hi ha).1) (fun i j hi hj e => mulI_right hG ha hi hj e) hi
  exact ⟨b, hb, by rw [← mulI_aK hG hb ha, show mulI n A b a = i from e']; exact e⟩
theorem Seen.none {n : Nat} {A : Nat → OpD} (hG : isG n A) {l : List Nat} {N r : Nat} {D : List T3} (hN : N < 13824) (h : ¬ Seen n A l N) (hD : OrL A (ptN N) n D) (hr : ptN r ∈ D) : ¬ Seen n A l r := by
  intro hs
  obtain ⟨a, ha, e⟩ := (hD.2 _).1 hr
  obtain ⟨b, hb, e'⟩ := back_idx hG (ptN_in hN) ha
  rw [e] at e'
  exact h (hs.orbit hG hb e')
theorem Seen.next {n : Nat} {A : Nat → OpD} {l : List Nat} {N q : Nat} {D : List T3} (hD : OrL A (ptN N) n D) : Seen n A (l ++ [N]) q ↔ Seen n A l q ∨ ptN q ∈ D := by
  constructor
  · rintro ⟨p, hp, i, hi, e⟩
    rcases List.mem_append.1 hp with hp | hp
    · exact .inl ⟨p, hp, i, hi, e⟩
    · rw [List.mem_singleton] at hp
      subst hp
      exact .inr ((hD.2 _).2 ⟨i, hi, e⟩)
  · rintro (⟨p, hp, h⟩ | h)
    · exact ⟨p, List.mem_append_left _ hp, h⟩
    · obtain ⟨i, hi, e⟩ := (hD.2 _).1 h
      exact ⟨N, by simp, i, hi, e⟩
theorem Seen.skip {n : Nat} {A : Nat → OpD} (hG : isG n A) {l : List Nat} {N q : Nat} (h : Seen n A l N) : Seen n A (l ++ [N]) q ↔ Seen n A l q := by
  constructor
  · rintro ⟨p, hp, i, hi, e⟩
    rcases List.mem_append.1 hp with hp | hp
    · exact ⟨p, hp, i, hi, e⟩
    · rw [List.mem_singleton] at hp
      subst hp
      exact h.orbit hG hi e
  · rintro ⟨p, hp, h⟩
    exact ⟨p, List.mem_append_left _ hp, h⟩
theorem kN_congr {P Q : Nat → Bool} : ∀ {n : Nat}, (∀ i, i < n → P i = Q i) → kN P n = kN Q n
  | 0, _ => rfl
  | n + 1, h => by
    have ih := kN_congr (n := n) (fun i hi => h i (by omega))
    have hn := h n (by omega)
    cases c : Q n
    · rw [kN_no c, kN_no (hn.trans c), ih]
    · rw [kN_yes c, kN_yes (hn.trans c), ih]
theorem kN_or {P Q : Nat → Bool} : ∀ {n : Nat}, (∀ i, i < n → ¬ (P i = true ∧ Q i = true)) → kN (fun i => P i || Q i) n = kN P n + kN Q n
  | 0, _ => rfl
  | n + 1, h => by
    have ih := kN_or (n := n) (fun i hi => h i (by omega))
    have hn := h n (by omega)
    cases c : P n <;> cases d : Q n
    · rw [kN_no (P := fun i => P i || Q i) (by simp [c, d]), kN_no c, kN_no d, ih]
    · rw [kN_yes (P := fun i => P i || Q i) (by simp [c, d]), kN_no c, kN_yes d, ih]; omega
    · rw [kN_yes (P := fun i => P i || Q i) (by simp [c, d]), kN_yes c, kN_no d, ih]; omega
    · exact absurd ⟨c, d⟩ hn
theorem kN_zero {P : Nat → Bool} : ∀ {n : Nat}, (∀ i, i < n → P i = false) → kN P n = 0
  | 0, _ => rfl
  | n + 1, h => by rw [kN_no (h n (by omega)), kN_zero (n := n) (fun i hi => h i (by omega))]
theorem kN_single (q0 : Nat) : ∀ {n : Nat}, q0 < n → kN (fun q => decide (q = q0)) n = 1
  | 0, h => by omega
  | n + 1, h => by
    by_cases c : n = q0
    · rw [kN_yes (by simp [c]), kN_zero (fun i hi => by simp; omega)]
    · rw [kN_no (by simp [c]), kN_single q0 (by omega)]
/-- How many points a list without repeats holds. -/
theorem kN_list : ∀ {D : List T3}, D.Nodup → (∀ x, x ∈ D → inT x) → kN (fun q => decide (ptN q ∈ D)) 13824 = D.length
  | [], _, _ => kN_zero (fun i _ => by simp)
  | x :: D, hn, hi => by
    have hx := hi x List.mem_cons_self
    obtain ⟨l0, l1⟩ := plN_lt hx
    have e1 := kN_single (plN x).toNat (n := 13824) (by omega)
    have e2 := kN_list (List.nodup_cons.1 hn).2 (fun y hy => hi y (List.mem_cons_of_mem _ hy))
    have e3 : kN (fun q => decide (ptN q ∈ x :: D)) 13824 = kN (fun q => decide (q = (plN x).toNat) || decide (ptN q ∈ D)) 13824 := kN_congr fun q _ => by
      have : ptN q = x ↔ q = (plN x).toNat := ⟨fun e => by rw [← e, plN_pt]; omega, fun e => by rw [e, pt_plN hx]⟩
      simp [List.mem_cons, this]
    rw [e3, kN_or (fun q _ => ?_), e1, e2, List.length_cons]
    · omega
    · rintro ⟨h1, h2⟩
      simp only [decide_eq_true_eq] at h1 h2
      rw [h1, pt_plN hx] at h2
      exact (List.nodup_cons.1 hn).1 h2
/-- How many of the marked points have orbits of r. -/
def cnN (n : Nat) (A : Nat → OpD) (s : Nat → Bool) (r : Nat) : Nat := kN (fun q => s q && decide (rkN n A q = r)) 13824
theorem cnN_next {n N : Nat} {A : Nat → OpD} {s s' : Nat → Bool} {D : List T3} (hG : isG n A) (hD : OrL A (ptN N) n D) (h : ∀ q, q < 13824 → s' q = (s q || decide (ptN q ∈ D))) (hd : ∀ q, q < 13824 → ptN q ∈ D → s q = false) (r : Nat) :
    cnN n A s' r = cnN n A s r + if r = D.length then D.length else 0 := by
  unfold cnN
  have e1 : kN (fun q => s' q && decide (rkN n A q = r)) 13824 = kN (fun q => (s q && decide (rkN n A q = r)) || (decide (ptN q ∈ D) && decide (rkN n A q = r))) 13824 := kN_congr fun q hq => by
    rw [h q hq, Bool.and_or_distrib_right]
  have e2 : kN (fun q => decide (ptN q ∈ D) && decide (rkN n A q = r)) 13824 = if r = D.length then D.length else 0 := by
    by_cases e : r = D.length
    · rw [if_pos e, ← kN_list hD.1 (fun x hx => hD.inT hx)]
      refine kN_congr fun q hq => ?_
      by_cases c : ptN q ∈ D
      · simp [c, hD.rank_all hG hq c, e]
      · simp [c]
    · rw [if_neg e]
      refine kN_zero fun q hq => ?_
      by_cases c : ptN q ∈ D
      · simp only [c, decide_true, Bool.true_and, decide_eq_false_iff_not, hD.rank_all hG hq c]
        exact fun e' => e e'.symm
      · simp [c]
  rw [e1, kN_or (fun q hq => ?_), e2]
  · rintro ⟨h1, h2⟩
    simp only [Bool.and_eq_true, decide_eq_true_eq] at h1 h2
    rw [hd q hq h2.1] at h1
    exact absurd h1.1 (by decide)
theorem cnN_le (n : Nat) (A : Nat → OpD) (s : Nat → Bool) (r : Nat) : cnN n A s r ≤ 13824 := by
  unfold cnN
  rw [kN_count]
  have := List.countP_le_length (p := fun q => s q && decide (rkN n A q = r)) (l := List.range 13824)
  simpa using this
/-- How many points have orbits of r. -/
def ckN (n : Nat) (A : Nat → OpD) (r : Nat) : Nat := kN (fun q => decide (rkN n A q = r)) 13824
theorem cnN_all {n : Nat} {A : Nat → OpD} {s : Nat → Bool} (h : ∀ q, q < 13824 → s q = true) (r : Nat) : cnN n A s r = ckN n A r := kN_congr fun q hq => by rw [h q hq, Bool.true_and]
theorem ckN_le (n : Nat) (A : Nat → OpD) (r : Nat) : ckN n A r ≤ 13824 := by
  unfold ckN
  rw [kN_count]
  have := List.countP_le_length (p := fun q => decide (rkN n A q = r)) (l := List.range 13824)
  simpa using this
/-- Of each size there is a whole number of orbits. -/
theorem cnN_mod {n : Nat} {A : Nat → OpD} (hG : isG n A) : ∀ N, N ≤ 13824 → ∃ s : Nat → Bool, (∀ q, q < 13824 → (s q = true ↔ Seen n A (List.range N) q)) ∧ ∀ r, cnN n A s r % r = 0
  | 0, _ => ⟨fun _ => false, fun q _ => ⟨fun h => (by cases h), fun ⟨p, hp, _⟩ => (by simp at hp)⟩, fun r => by
      have : cnN n A (fun _ => false) r = 0 := kN_zero (fun q _ => by simp)
      rw [this]; exact Nat.zero_mod _⟩
  | N + 1, h => by
    obtain ⟨s, h1, h2⟩ := cnN_mod hG N (by omega)
    cases e : s N
    · obtain ⟨D, hD⟩ := orL_ex (A := A) (ptN N) n
      have hns : ¬ Seen n A (List.range N) N := fun x => by rw [(h1 N (by omega)).2 x] at e; cases e
      refine ⟨fun q => s q || decide (ptN q ∈ D), fun q hq => ?_, fun r => ?_⟩
      · rw [List.range_succ, Seen.next hD, Bool.or_eq_true, decide_eq_true_eq, h1 q hq]
      · rw [cnN_next (s := s) (s' := fun q => s q || decide (ptN q ∈ D)) hG hD (fun q _ => rfl) (fun q hq hm => by
          cases c : s q
          · rfl
          · exact absurd ((h1 q hq).1 c) (Seen.none hG (by omega) hns hD hm)) r]
        split
        · rename_i er
          rw [← er, Nat.add_mod_right]
          exact h2 r
        · rw [Nat.add_zero]
          exact h2 r
    · refine ⟨s, fun q hq => ?_, h2⟩
      rw [List.range_succ, Seen.skip hG ((h1 N (by omega)).1 e), h1 q hq]
theorem ckN_mod {n : Nat} {A : Nat → OpD} (hG : isG n A) (r : Nat) : ckN n A r % r = 0 := by
  obtain ⟨s, h1, h2⟩ := cnN_mod hG 13824 (Nat.le_refl _)
  rw [← cnN_all (s := s) (fun q hq => (h1 q hq).2 (Seen.self hG (List.mem_range.2 hq) hq)) r]
  exact h2 r
theorem kN_pos {P : Nat → Bool} {n : Nat} (h : 0 < kN P n) : ∃ i, i < n ∧ P i = true := by
  rw [kN_count] at h
  obtain ⟨i, hi, hp⟩ := List.countP_pos_iff.1 h
  exact ⟨i, List.mem_range.1 hi, hp⟩
/-- The answer: the sizes that there are, in order, each with its number of points. -/
def siL (c : Nat → Nat) : Nat → List (Int × Int)
  | 0 => []
  | r + 1 => if 0 < c r then siL c r ++ [((c r : Int), (r : Int))] else siL c r
theorem siL_mem {c : Nat → Nat} {y : Int × Int} : ∀ {m : Nat}, y ∈ siL c m ↔ ∃ r, r < m ∧ 0 < c r ∧ y = ((c r : Int), (r : Int))
  | 0 => ⟨fun h => (by cases h), fun ⟨r, h, _⟩ => by omega⟩
  | m + 1 => by
    unfold siL
    split
    · rename_i hc
      rw [List.mem_append, siL_mem, List.mem_singleton]
      constructor
      · rintro (⟨r, h1, h2⟩ | h)
        · exact ⟨r, by omega, h2⟩
        · exact ⟨m, by omega, hc, h⟩
      · rintro ⟨r, h1, h2, h3⟩
        by_cases e : r = m
        · subst e; exact .inr h3
        · exact .inl ⟨r, by omega, h2, h3⟩
    · rename_i hc
      rw [siL_mem]
      constructor
      · rintro ⟨r, h1, h2⟩
        exact ⟨r, by omega, h2⟩
      · rintro ⟨r, h1, h2, h3⟩
        by_cases e : r = m
        · subst e; exact absurd h2 hc
        · exact ⟨r, by omega, h2, h3⟩
theorem siL_up {c : Nat → Nat} : ∀ {m : Nat}, (siL c m).Pairwise (fun x y => x.2 < y.2)
  | 0 => List.Pairwise.nil
  | m + 1 => by
    unfold siL
    split
    · rw [List.pairwise_append]
      refine ⟨siL_up, List.pairwise_singleton _ _, fun a ha b hb => ?_⟩
      rw [List.mem_singleton] at hb
      obtain ⟨r, h1, h2, rfl⟩ := siL_mem.1 ha
      subst hb
      show (r : Int) < (m : Int)
      omega
    · exact siL_up
theorem siL_len (c : Nat → Nat) : ∀ m, (siL c m).length ≤ m
  | 0 => Nat.le_refl _
  | m + 1 => by
    have ih := siL_len c m
    unfold siL
    split
    · rw [List.length_append]; simp; omega
    · omega
/-- Two lists that rise and hold the same are one. -/
theorem up_same : ∀ {l l' : List (Int × Int)}, l.Pairwise (fun x y => x.2 < y.2) → l'.Pairwise (fun x y => x.2 < y.2) → (∀ y, y ∈ l ↔ y ∈ l') → l = l'
  | [], [], _, _, _ => rfl
  | [], b :: l', _, _, h => absurd ((h b).2 List.mem_cons_self) (by simp)
  | a :: l, [], _, _, h => absurd ((h a).1 List.mem_cons_self) (by simp)
  | a :: l, b :: l', h1, h2, h => by
    obtain ⟨p1, p2⟩ := List.pairwise_cons.1 h1
    obtain ⟨q1, q2⟩ := List.pairwise_cons.1 h2
    have e : a = b := by
      rcases List.mem_cons.1 ((h a).1 List.mem_cons_self) with e | ha
      · exact e
      · rcases List.mem_cons.1 ((h b).2 List.mem_cons_self) with e | hb
        · exact e.symm
        · have := q1 a ha
          have := p1 b hb
          omega
    subst e
    refine congrArg (a :: ·) (up_same p2 q2 fun y => ⟨fun hy => ?_, fun hy => ?_⟩)
    · rcases List.mem_cons.1 ((h y).1 (List.mem_cons_of_mem _ hy)) with e | hy'
      · subst e; have := p1 y hy; omega
      · exact hy'
    · rcases List.mem_cons.1 ((h y).2 (List.mem_cons_of_mem _ hy)) with e | hy'
      · subst e; have := q1 y hy; omega
      · exact hy'
end Go.Proofs.YtiocneailhplkaaGreat
/-
  The iterators over the cell's points and over a point's deeds, where a round may write blocks of its choice: walked.
-/
namespace Go.Proofs.YtiocneailhplkaaGreat
open Go.RowKit Go.Shelf

/-- What lies below B, but for some blocks, stays as it is. -/
def KpS (B : Nat) (S : Nat → Prop) (W W' : World) : Prop := W.heap.size ≤ W'.heap.size ∧ ∀ k, k < B → ¬ S k → W'.heap[k]? = W.heap[k]?
theorem KpS.t {B : Nat} {S : Nat → Prop} {X Y Z : World} (h : KpS B S X Y) (k : KpS B S Y Z) : KpS B S X Z := ⟨Nat.le_trans h.1 k.1, fun i h1 h2 => (k.2 i h1 h2).trans (h.2 i h1 h2)⟩
theorem KpS.refl (B : Nat) (S : Nat → Prop) (W : World) : KpS B S W W := ⟨Nat.le_refl _, fun _ _ _ => rfl⟩
theorem KpS.below {B : Nat} {S : Nat → Prop} {W W' : World} (h : Below W.heap.size W W') (hB : B ≤ W.heap.size) : KpS B S W W' := ⟨h.size, fun k hk _ => h.block k (by omega)⟩
theorem kpS_b {B : Nat} {S : Nat → Prop} {w : World} (hB : B ≤ w.heap.size) (W : World) (l : Nat) (o o' : Obj) (hl : w.heap.size ≤ l) (h : W.heap[l]? = some o) (_ : o.isCells = false) (_ : o.isWalk = false) : KpS B S W (W.putObj l o') :=
  ⟨(grownBy_putObj' W l o').size, fun k hk _ => (grownBy_putObj' W l o').block k (by have := (Array.getElem?_eq_some_iff.1 h).1; omega) (fun e => by cases e; omega)⟩
theorem KpS.set {B : Nat} {S : Nat → Prop} {W W' : World} (h : KpS B S W W') {p : Nat} (hp : S p) (i : Nat) (v : Value) : KpS B S W (W'.setCell ⟨p, i, none⟩ v) :=
  ⟨Nat.le_trans h.1 (KeepsWalks.setCell W' _ v).size, fun k hk hS => (Below.heap_setCell _ _ _ k (fun e => hS (by rw [e]; exact hp))).trans (h.2 k hk hS)⟩
/-- What the iterator reads. -/
structure PtsS (W : World) (B : Nat) (S : Nat → Prop) (bd bp gd n cd : Nat) (Q : Nat → Nat) (K : Nat → Nat → Int) (x : T3) : Prop where
  dc : W.cell? ⟨bd, 0, none⟩ = some (.slice (some ⟨gd, 0, none⟩) n cd)
  pc : At 54 W bp #[.int .i64 x.1, .int .i64 x.2.1, .int .i64 x.2.2]
  dl : ∀ i, i < n → W.cell? ⟨gd, i, none⟩ = some (dV (Q i))
  bx : ∀ i, i < n → At 90 W (Q i) (opA (K i) (kh (K i)))
  lt : bd < B ∧ bp < B ∧ gd < B ∧ ¬ S bd ∧ ¬ S bp ∧ ¬ S gd ∧ B ≤ W.heap.size
  lq : ∀ i, i < n → Q i < B ∧ ¬ S (Q i)
theorem PtsS.kp {W W' : World} {B bd bp gd n cd : Nat} {S : Nat → Prop} {Q : Nat → Nat} {K : Nat → Nat → Int} {x : T3} (h : PtsS W B S bd bp gd n cd Q K x) (hk : KpS B S W W') : PtsS W' B S bd bp gd n cd Q K x := by
  obtain ⟨l1, l2, l3, n1, n2, n3, h7⟩ := h.lt
  exact ⟨(World.cell?_of_block (hk.2 bd l1 n1)).trans h.dc, (hk.2 bp l2 n2).trans h.pc, fun i hi => (World.cell?_of_block (hk.2 gd l3 n3)).trans (h.dl i hi), fun i hi => (hk.2 _ (h.lq i hi).1 (h.lq i hi).2).trans (h.bx i hi), ⟨l1, l2, l3, n1, n2, n3, Nat.le_trans h7 hk.1⟩, h.lq⟩
theorem PtsS.below {W W' : World} {B bd bp gd n cd : Nat} {S : Nat → Prop} {Q : Nat → Nat} {K : Nat → Nat → Int} {x : T3} (h : PtsS W B S bd bp gd n cd Q K x) (hb : Below W.heap.size W W') : PtsS W' B S bd bp gd n cd Q K x :=
  h.kp (KpS.below hb h.lt.2.2.2.2.2.2)
set_option maxRecDepth 100000 in
set_option maxHeartbeats 2000000 in
theorem pointsS_stops (n0 : Nat) {w : World} {B bd bp gd n cd : Nat} {S : Nat → Prop} {Q : Nat → Nat} {K : Nat → Nat → Int} {x : T3} (h : PtsS w B S bd bp gd n cd Q K x) (hn : n ≤ 192) (hR : ∀ i, i < n → isR (K i) (kh (K i))) (hp : inP x.1 x.2.1 x.2.2) :
    SeqStopsK (α := { x : Nat // x < n }) Fence.wide n0 Tryz.prog 86 #[.pointer (some ⟨bd, 0, none⟩), .pointer (some ⟨bp, 0, none⟩)] (fun y => #[tV (aK (K y.1) x)]) (KpS B S) (fun xs => xs = upl n n) (fun _ => True) n w := by
  intro l J Jx W bW hJ hJx hY h0
  have hwf : ∀ f, Fence.wide.fn f := fun _ => trivial
  have hwd : Fence.wide.depth.isSome = false := rfl
  have H := hid_of (h.below bW)
  clear h
  have hn' : (n : Int) ≤ 192 := by omega
  have zB := bW.size
  refine callsIn_of_wp Tryz.func86 rfl trivial ?_ rfl
  simp only [Tryz.ntmps86, List.size_toArray, List.length_cons, List.length_nil, Nat.reduceAdd, Nat.reduceSub, Array.replicate_succ, Array.replicate_zero, List.push_toArray, List.append_toArray, List.nil_append, List.cons_append]
  have c0 := H.out.dc
  gi_wp2
  clear c0
  gi_loopw [8] (fun u wr => ∃ t : Nat, t ≤ n ∧ u = .int .i64 (t : Int) ∧ Hid (PtsS wr B S bd bp gd n cd Q K x) ∧ J (upl n t) wr ∧ W.heap.size ≤ wr.heap.size) (fun u _ => n - (intOf u).toNat)
  case atStart => exact ⟨0, Nat.zero_le _, rfl, H, h0, Nat.le_refl _⟩
  case round =>
    clear H h0
    obtain ⟨t, ht, rfl, H, hj, zW⟩ := hrel
    by_cases htn : t < n
    · have htn' : (t : Int) < (n : Int) := by omega
      have dc := H.out.dl t htn
      obtain ⟨p0, p1, p2, -⟩ := H.out.pc.open3
      unfold dV at dc
      have CL := deed1_any (hR t htn) hp (H.out.bx t htn)
      have HPt : aK (K t) x = tO (actV (K t) (kh (K t)) (p3 x.1 x.2.1 x.2.2)) := rfl
      unfold tO at HPt
      unfold vA at CL
      obtain ⟨qt, hqt⟩ : ∃ q, Q t = q := ⟨_, rfl⟩
      rw [hqt] at dc CL
      generalize actV (K t) (kh (K t)) (p3 x.1 x.2.1 x.2.2) 0 = s0 at CL HPt
      generalize actV (K t) (kh (K t)) (p3 x.1 x.2.1 x.2.2) 1 = s1 at CL HPt
      generalize actV (K t) (kh (K t)) (p3 x.1 x.2.1 x.2.2) 2 = s2 at CL HPt
      have HPH := hid_of HPt
      clear HPt hqt
      unfold pV at CL
      gi_wp2_with fail
      refine (callsIn_wide.2 CL).mono ?_
      rintro e w2 ⟨rfl, bb⟩
      have H2 := hid_of (H.out.below bb)
      have J2 := hJ _ wr w2 none hj ⟨bb.os, bb.tape, bb.output, bb.size, fun k hk _ => bb.block k hk⟩ (fun r e => by cases e)
      have z2 := Nat.le_trans zW bb.size
      obtain ⟨fn, tmps, assign, body, hy, hRd⟩ := hY (upl n t) ⟨t, htn⟩ w2 J2 (by rw [upl_len n t ht]; exact htn)
      try dsimp only at hy
      rw [HPH.out] at hy
      try dsimp only at hy
      have HN := hid_of (upl_next htn)
      clear CL p0 p1 p2 dc hj bb H
      gi_wp2
      refine hRd.mono ?_
      rintro e W3 (⟨rfl, hJ3, hk3⟩ | ⟨rfl, hJx3⟩)
      · have z3 : W.heap.size ≤ W3.heap.size := Nat.le_trans z2 hk3.1
        have H3 := hid_of (H2.out.kp hk3)
        gi_wp2
        exact ⟨⟨t + 1, by omega, by go_num, H3, by rw [HN.out]; exact hJ3, z3⟩, by simp [intOf]; omega⟩
      · gi_wp2
        refine bodyPost_ret (results_none rfl _ _ _) rfl ?_
        exact ⟨⟨_, rfl⟩, .inr ⟨_, trivial, hJx3⟩⟩
    · obtain rfl : t = n := by omega
      have htn' : ¬ (t : Int) < (t : Int) := by omega
      gi_wp2
      go_end0
      exact ⟨⟨_, rfl⟩, .inl hj⟩
end Go.Proofs.YtiocneailhplkaaGreat
