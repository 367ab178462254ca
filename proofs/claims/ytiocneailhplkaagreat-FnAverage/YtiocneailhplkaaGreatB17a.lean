/-
  What a group's operators do with points, one behind the other; a point's orbit and what leaves it, counted. No function of the program.
-/
import Derived.Test.YtiocneailhplkaaGreatO3b
import Derived.Test.YtiocneailhplkaaGreatNB
import Derived.Test.YtiocneailhplkaaGreatQd
import Derived.Test.YtiocneailhplkaaGreatNC
import Derived.Test.YtiocneailhplkaaGreatE12c
namespace Go.Proofs.YtiocneailhplkaaGreat
open Go.RowKit

/-- Where an operator, told by its key, takes a point. -/
def aK (k : Nat → Int) (x : T3) : T3 := tO (actV k (kh k) (p3 x.1 x.2.1 x.2.2))
def inT (x : T3) : Prop := inP x.1 x.2.1 x.2.2
theorem aK_in (k : Nat → Int) (x : T3) : inT (aK k x) := by
  unfold inT inP aK tO actV
  simp only
  omega
theorem p3_tO (v : Nat → Int) {i : Nat} (hi : i < 3) : p3 (tO v).1 (tO v).2.1 (tO v).2.2 i = v i := by
  obtain rfl | rfl | rfl : i = 0 ∨ i = 1 ∨ i = 2 := by omega
  all_goals rfl
theorem tO_congr {v v' : Nat → Int} (h : ∀ i, i < 3 → v i = v' i) : tO v = tO v' := by
  unfold tO
  rw [h 0 (by omega), h 1 (by omega), h 2 (by omega)]
theorem aK_mul (a b : Nat → Int) (x : T3) : aK (mulQ a b) x = aK a (aK b x) := by
  refine tO_congr (fun i hi => ?_)
  show behV (mulQ a b) (kh (mulQ a b)) (p3 x.1 x.2.1 x.2.2) i = behV a (kh a) (p3 (aK b x).1 (aK b x).2.1 (aK b x).2.2) i
  rw [behV_congr (f := mulQ a b) (f' := mulM a b) (h := kh (mulQ a b)) (h' := behV a (kh a) (kh b)) (fun j hj => mulQ_lo a b hj) (fun j _ => mulQ_hi a b j) (fun _ _ => rfl) i hi, behV_assoc _ _ _ _ _ i hi]
  exact behV_congr (fun _ _ => rfl) (fun _ _ => rfl) (fun j hj => (p3_tO _ hj).symm) i hi
theorem aK_congr {k k' : Nat → Int} (h : kV k = kV k') (x : T3) : aK k x = aK k' x := by
  obtain ⟨h1, h2⟩ := kV_ext.1 h
  refine tO_congr (fun i hi => ?_)
  exact behV_congr (f := k) (f' := k') (h := kh k) (h' := kh k') h1 h2 (fun _ _ => rfl) i hi
theorem aK_one {x : T3} (hx : inT x) : aK oneK x = x := by
  obtain ⟨a, b, c⟩ := x
  obtain ⟨ha, hb, hc⟩ := hx
  simp only at ha hb hc
  unfold aK tO actV movV
  simp only [vsum, p3, kh]
  rw [show oneK (9 + 0) = 0 from rfl, show oneK (9 + 1) = 0 from rfl, show oneK (9 + 2) = 0 from rfl, show oneK (3 * 0 + 0) = 1 from rfl, show oneK (3 * 0 + 1) = 0 from rfl, show oneK (3 * 0 + 2) = 0 from rfl, show oneK (3 * 1 + 0) = 0 from rfl, show oneK (3 * 1 + 1) = 1 from rfl, show oneK (3 * 1 + 2) = 0 from rfl, show oneK (3 * 2 + 0) = 0 from rfl, show oneK (3 * 2 + 1) = 0 from rfl, show oneK (3 * 2 + 2) = 1 from rfl]
  refine Prod.ext ?_ (Prod.ext ?_ ?_)
  all_goals
    simp only
    omega
theorem aK_inj {k : Nat → Int} (hk : kR k) {x y : T3} (hx : inT x) (hy : inT y) (h : aK k x = aK k y) : x = y := by
  have e : ∀ u, inT u → aK (bkK k) (aK k u) = u := fun u hu => by
    rw [← aK_mul, aK_congr (back_left hk), aK_one hu]
  rw [← e x hx, ← e y hy, h]
theorem stay_aK (x y z : Int) (o : OpD) : stay x y z o = decide (aK o.key (x, y, z) = (x, y, z)) := by
  unfold stay
  refine decide_eq_decide.2 ?_
  unfold aK tO
  rw [key_act o _ 0 (by omega), key_act o _ 1 (by omega), key_act o _ 2 (by omega)]
  simp only [Prod.mk.injEq]
/-- A map of the numbers below n into themselves, no two to one, is all of them in another order. -/
theorem inj_perm {n : Nat} {s : Nat → Nat} (h1 : ∀ i, i < n → s i < n) (h2 : ∀ i j, i < n → j < n → s i = s j → i = j) : ((List.range n).map s).Perm (List.range n) := by
  have nd : ((List.range n).map s).Nodup := by
    rw [List.Nodup, List.pairwise_iff_getElem]
    intro i j hi hj hij
    simp only [List.getElem_map, List.getElem_range]
    simp at hi hj
    intro e
    have := h2 i j hi hj e
    omega
  refine (List.perm_ext_iff_of_nodup nd List.nodup_range).2 (fun a => ⟨fun h => ?_, fun h => ?_⟩)
  · obtain ⟨i, hi, rfl⟩ := List.mem_map.1 h
    exact List.mem_range.2 (h1 i (List.mem_range.1 hi))
  · refine Classical.byContradiction (fun hn => ?_)
    have ha := List.mem_range.1 h
    have hs : (List.range n).map s ⊆ (List.range n).erase a := by
      intro b hb
      obtain ⟨i, hi, rfl⟩ := List.mem_map.1 hb
      refine (List.mem_erase_of_ne (fun e => hn (by rw [← e]; exact hb))).2 (List.mem_range.2 (h1 i (List.mem_range.1 hi)))
    have := nd.length_le_of_subset hs
    rw [List.length_erase_of_mem h] at this
    simp at this
    omega
theorem inj_onto {n : Nat} {s : Nat → Nat} (h1 : ∀ i, i < n → s i < n) (h2 : ∀ i j, i < n → j < n → s i = s j → i = j) {j : Nat} (hj : j < n) : ∃ i, i < n ∧ s i = j := by
  obtain ⟨i, hi, e⟩ := List.mem_map.1 ((inj_perm h1 h2).mem_iff.2 (List.mem_range.2 hj))
  exact ⟨i, List.mem_range.1 hi, e⟩
theorem kN_count (P : Nat → Bool) (n : Nat) : kN P n = (List.range n).countP P := by
  unfold kN kL
  rw [List.countP_eq_length_filter]
theorem kN_perm {n : Nat} {s : Nat → Nat} {P Q : Nat → Bool} (h1 : ∀ i, i < n → s i < n) (h2 : ∀ i j, i < n → j < n → s i = s j → i = j) (h : ∀ i, i < n → P (s i) = Q i) : kN P n = kN Q n := by
  rw [kN_count, kN_count, ← (inj_perm h1 h2).countP_eq, List.countP_map]
  refine List.countP_congr (fun i hi => ?_)
  show P (s i) = true ↔ Q i = true
  rw [h i (List.mem_range.1 hi)]
/-- The place of a product. -/
noncomputable def mulI (n : Nat) (A : Nat → OpD) (a i : Nat) : Nat := @dite _ (∃ j, j < n ∧ kV (A j).key = kV (mulQ (A a).key (A i).key)) (Classical.propDecidable _) (fun h => Classical.choose h) (fun _ => 0)
theorem mulI_at {n a i : Nat} {A : Nat → OpD} (h : isG n A) (ha : a < n) (hi : i < n) : mulI n A a i < n ∧ kV (A (mulI n A a i)).key = kV (mulQ (A a).key (A i).key) := by
  have hh := h.mul ha hi
  unfold mulI
  rw [dif_pos hh]
  exact Classical.choose_spec hh
theorem mulI_left {n a i j : Nat} {A : Nat → OpD} (h : isG n A) (ha : a < n) (hi : i < n) (hj : j < n) (e : mulI n A a i = mulI n A a j) : i = j := by
  obtain ⟨-, e1⟩ := mulI_at h ha hi
  obtain ⟨-, e2⟩ := mulI_at h ha hj
  rw [e] at e1
  exact h.2.2.1.inj hi hj (strike_left (h.key ha) (h.key hi) (h.key hj) (e1.symm.trans e2))
theorem mulI_right {n a i j : Nat} {A : Nat → OpD} (h : isG n A) (ha : a < n) (hi : i < n) (hj : j < n) (e : mulI n A i a = mulI n A j a) : i = j := by
  obtain ⟨-, e1⟩ := mulI_at h hi ha
  obtain ⟨-, e2⟩ := mulI_at h hj ha
  rw [e] at e1
  exact h.2.2.1.inj hi hj (strike_right (h.key ha) (h.key hi) (h.key hj) (e1.symm.trans e2))
theorem mulI_aK {n a i : Nat} {A : Nat → OpD} (h : isG n A) (ha : a < n) (hi : i < n) (x : T3) : aK (A (mulI n A a i)).key x = aK (A a).key (aK (A i).key x) := by
  rw [aK_congr (mulI_at h ha hi).2, aK_mul]
/-- As many go to one point of the orbit as leave the point. -/
theorem fiber {n a : Nat} {A : Nat → OpD} (h : isG n A) {x : T3} (hx : inT x) (ha : a < n) : kN (fun i => decide (aK (A i).key x = aK (A a).key x)) n = kN (fun i => decide (aK (A i).key x = x)) n := by
  refine kN_perm (s := mulI n A a) (fun i hi => (mulI_at h ha hi).1) (fun i j hi hj => mulI_left h ha hi hj) (fun i hi => ?_)
  refine decide_eq_decide.2 ?_
  rw [mulI_aK h ha hi]
  exact ⟨fun e => aK_inj (h.key ha) (aK_in _ _) hx e, fun e => by rw [e]⟩
/-- A sum. -/
def sumN (f : Nat → Nat) : Nat → Nat
  | 0 => 0
  | m + 1 => sumN f m + f m
theorem sumN_const {f : Nat → Nat} {s : Nat} : ∀ {m : Nat}, (∀ t, t < m → f t = s) → sumN f m = m * s
  | 0, _ => by simp [sumN]
  | m + 1, h => by
    unfold sumN
    rw [sumN_const (m := m) (fun t ht => h t (by omega)), h m (by omega), Nat.add_mul, Nat.one_mul]
theorem sumN_add (f g : Nat → Nat) : ∀ m, sumN (fun t => f t + g t) m = sumN f m + sumN g m
  | 0 => rfl
  | m + 1 => by
    unfold sumN
    rw [sumN_add f g m]
    omega
theorem sumN_one {f : Nat → Nat} {t0 : Nat} : ∀ {m : Nat}, t0 < m → (∀ t, t < m → f t = if t = t0 then 1 else 0) → sumN f m = 1
  | 0, h, _ => absurd h (Nat.not_lt_zero _)
  | m + 1, h, hf => by
    unfold sumN
    by_cases e : t0 = m
    · rw [hf m (by omega), if_pos e.symm, sumN_const (s := 0) (fun t ht => by rw [hf t (by omega), if_neg (by omega)])]
      omega
    · rw [hf m (by omega), if_neg (fun h' => e h'.symm), sumN_one (t0 := t0) (m := m) (by omega) (fun t ht => hf t (by omega))]
theorem kN_parts {P : Nat → T3} {F : Nat → T3} {m : Nat} (hF : ∀ t t', t < m → t' < m → F t = F t' → t = t') : ∀ {n : Nat}, (∀ i, i < n → ∃ t, t < m ∧ F t = P i) → sumN (fun t => kN (fun i => decide (P i = F t)) n) m = n
  | 0, _ => by
    have := sumN_const (f := fun t => kN (fun i => decide (P i = F t)) 0) (s := 0) (m := m) (fun t _ => rfl)
    rw [this, Nat.mul_zero]
  | n + 1, h => by
    have e : ∀ t, kN (fun i => decide (P i = F t)) (n + 1) = kN (fun i => decide (P i = F t)) n + if P n = F t then 1 else 0 := fun t => by
      by_cases c : P n = F t
      · rw [kN_yes (P := fun i => decide (P i = F t)) (decide_eq_true c), if_pos c]
      · rw [kN_no (P := fun i => decide (P i = F t)) (decide_eq_false c), if_neg c, Nat.add_zero]
    have e' : sumN (fun t => kN (fun i => decide (P i = F t)) (n + 1)) m = sumN (fun t => kN (fun i => decide (P i = F t)) n + if P n = F t then 1 else 0) m := congrArg (fun f => sumN f m) (funext e)
    rw [e', sumN_add, kN_parts hF (n := n) (fun i hi => h i (by omega))]
    obtain ⟨t0, h0, e0⟩ := h n (by omega)
    rw [sumN_one (t0 := t0) h0 (fun t ht => ?_)]
    by_cases c : t = t0
    · rw [if_pos c, if_pos (by rw [c, e0])]
    · rw [if_neg c, if_neg (fun h' => c (hF t t0 ht h0 (h'.symm.trans e0.symm)))]
theorem kI_get {P : Nat → Bool} {n j : Nat} (hj : j < kN P n) : (kL P n)[j]? = some (kI P n j) := by
  unfold kI
  rw [List.getElem?_eq_getElem (show j < (kL P n).length from hj)]
  rfl
theorem kI_yes {P : Nat → Bool} {n j : Nat} (hj : j < kN P n) : P (kI P n j) = true := by
  have := List.mem_of_getElem? (kI_get hj)
  exact (List.mem_filter.1 this).2
theorem kI_up {P : Nat → Bool} {n j : Nat} (hj : j + 1 < kN P n) : kI P n j < kI P n (j + 1) := by
  have hp : (kL P n).Pairwise (· < ·) := List.Pairwise.filter _ List.pairwise_lt_range
  have := (List.pairwise_iff_getElem.1 hp) j (j + 1) (show j < (kL P n).length from by show j < kN P n; omega) hj (by omega)
  have e1 := kI_get (P := P) (n := n) (j := j) (by omega)
  have e2 := kI_get hj
  rw [List.getElem?_eq_getElem (show j < (kL P n).length from by show j < kN P n; omega)] at e1
  rw [List.getElem?_eq_getElem (show j + 1 < (kL P n).length from hj)] at e2
  rw [← Option.some.inj e1, ← Option.some.inj e2]
  exact this
theorem kI_onto {P : Nat → Bool} {n i : Nat} (hi : i < n) (h : P i = true) : ∃ j, j < kN P n ∧ kI P n j = i := by
  have hm : i ∈ kL P n := List.mem_filter.2 ⟨List.mem_range.2 hi, h⟩
  obtain ⟨j, hj, e⟩ := List.getElem_of_mem hm
  refine ⟨j, hj, ?_⟩
  have e1 := kI_get (P := P) (n := n) (j := j) hj
  rw [List.getElem?_eq_getElem hj] at e1
  rw [← Option.some.inj e1]
  exact e
/-- What leaves a point is a group. -/
theorem stab_group {n : Nat} {A : Nat → OpD} {x y z : Int} (h : isG n A) (hx : inP x y z) : isG (kN (fun i => stay x y z (A i)) n) (fun j => A (kI (fun i => stay x y z (A i)) n j)) := by
  obtain ⟨P, hP⟩ : ∃ P : Nat → Bool, (fun i => stay x y z (A i)) = P := ⟨_, rfl⟩
  have hPi : ∀ i, P i = true ↔ aK (A i).key (x, y, z) = (x, y, z) := fun i => by
    rw [← hP]
    show stay x y z (A i) = true ↔ _
    rw [stay_aK, decide_eq_true_eq]
  rw [hP]
  have hlt : ∀ j, j < kN P n → kI P n j < n := fun j hj => kI_lt hj
  refine isG_of (Nat.le_trans (kN_le _ _) h.1) (fun j hj => h.2.1 _ (hlt j hj)) (fun j hj => h.2.2.1.lt (kI_up hj) (hlt _ hj)) ?_ (fun j k hj hk => ?_)
  · obtain ⟨i, hi, e⟩ := h.one
    obtain ⟨j, hj, rfl⟩ := kI_onto (P := P) hi ((hPi i).2 (by rw [aK_congr e, aK_one (x := (x, y, z)) hx]))
    exact ⟨j, hj, e⟩
  · obtain ⟨i, hi, e⟩ := h.mul (hlt j hj) (hlt k hk)
    obtain ⟨l, hl, rfl⟩ := kI_onto (P := P) hi ((hPi i).2 (by rw [aK_congr e, aK_mul, (hPi _).1 (kI_yes hk), (hPi _).1 (kI_yes hj)]))
    exact ⟨l, hl, e⟩
end Go.Proofs.YtiocneailhplkaaGreat
