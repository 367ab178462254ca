/-
  Lists of rows of K numbers in order: what stays of one when neighbours that are alike go, and when two are the same. No function of the program.
-/
import Derived.Test.YtgjhbkpocbihbaaGreatNB
import Derived.Test.YtgjhbkpocbihbaaGreatMF
import Derived.Test.YtgjhbkpocbihbaaGreatMK
import Derived.Test.YtgjhbkpocbihbaaGreatND
import Derived.Test.YtgjhbkpocbihbaaGreatE7a
import Derived.Test.YtgjhbkpocbihbaaGreatMR
import Derived.Shelf.SlIter.Collect
import Derived.Maps.OwnIn
import Derived.RangeFuncKeeps
namespace Go.Proofs.YtgjhbkpocbihbaaGreat
open Go.RowKit

/-- This one is not as the one ahead of it. -/
def dupK (K : Nat) (F : Nat → Nat → Int) (i : Nat) : Bool := decide (i = 0 ∨ ¬ lexC K (F i) (F (i - 1)) = 0)
theorem lexC_symm0 {K : Nat} {x y : Nat → Int} (h : lexC K x y = 0) : lexC K y x = 0 := lexC_zero.2 (fun l hl => (lexC_zero.1 h l hl).symm)
theorem lexC_left {K : Nat} {x y z : Nat → Int} (h : lexC K x y = 0) : lexC K x z = lexC K y z := lexC_eq (lexC_zero.1 h) (fun _ _ => rfl)
theorem lexC_right {K : Nat} {x y z : Nat → Int} (h : lexC K y z = 0) : lexC K x y = lexC K x z := lexC_eq (fun _ _ => rfl) (lexC_zero.1 h)
/-- What stays: it rises, its last is as the last one looked at, and it has all that was there. -/
structure Stay (K : Nat) (F : Nat → Nat → Int) (n : Nat) : Prop where
  up : ∀ t, t + 1 < kN (dupK K F) n → lexC K (F (kI (dupK K F) n t)) (F (kI (dupK K F) n (t + 1))) < 0
  last : 0 < n → 0 < kN (dupK K F) n ∧ lexC K (F (kI (dupK K F) n (kN (dupK K F) n - 1))) (F (n - 1)) = 0
  all : ∀ i, i < n → ∃ t, t < kN (dupK K F) n ∧ lexC K (F (kI (dupK K F) n t)) (F i) = 0
theorem stay_of {K : Nat} {F : Nat → Nat → Int} : ∀ {n : Nat}, (∀ i j, i < j → j < n → ¬ lexC K (F j) (F i) < 0) → Stay K F n
  | 0, _ => ⟨fun t ht => absurd ht (Nat.not_lt_zero _), fun h => absurd h (Nat.lt_irrefl _), fun i hi => absurd hi (Nat.not_lt_zero _)⟩
  | n + 1, hs => by
    have S := stay_of (n := n) (fun i j h1 h2 => hs i j h1 (by omega))
    cases hd : dupK K F n
    · have hN := kN_no hd
      have h1 : ¬ (n = 0 ∨ ¬ lexC K (F n) (F (n - 1)) = 0) := of_decide_eq_false hd
      have h0 : 0 < n := Nat.pos_of_ne_zero fun e => h1 (.inl e)
      have he : lexC K (F n) (F (n - 1)) = 0 := Decidable.byContradiction fun e => h1 (.inr e)
      obtain ⟨l1, l2⟩ := S.last h0
      have l3 : lexC K (F (kI (dupK K F) n (kN (dupK K F) n - 1))) (F n) = 0 := by rw [lexC_right he]; exact l2
      refine ⟨fun t ht => ?_, fun _ => ⟨by omega, ?_⟩, fun i hi => ?_⟩
      · rw [kI_no hd, kI_no hd]; exact S.up t (by omega)
      · rw [kI_no hd, hN, Nat.add_sub_cancel]; exact l3
      · by_cases e : i = n
        · subst e; exact ⟨kN (dupK K F) i - 1, by omega, by rw [kI_no hd]; exact l3⟩
        · obtain ⟨t, ht, h⟩ := S.all i (by omega)
          exact ⟨t, by omega, by rw [kI_no hd]; exact h⟩
    · have hN := kN_yes hd
      have hnew := kI_new hd
      have less : ∀ t, t + 1 = kN (dupK K F) n → lexC K (F (kI (dupK K F) n t)) (F n) < 0 := fun t ht => by
        have h0 : 0 < n := by
          have := kN_le (dupK K F) n
          omega
        obtain ⟨l1, l2⟩ := S.last h0
        rw [show kN (dupK K F) n - 1 = t by omega] at l2
        have h1 : n = 0 ∨ ¬ lexC K (F n) (F (n - 1)) = 0 := of_decide_eq_true hd
        have h2 : ¬ lexC K (F n) (F (n - 1)) = 0 := by rcases h1 with h1 | h1; omega; exact h1
        have h3 := hs (n - 1) n (by omega) (by omega)
        have h4 : lexC K (F (n - 1)) (F n) < 0 := by
          rcases lexC_range K (F (n - 1)) (F n) with e | e | e
          · omega
          · exact absurd (lexC_symm0 e) h2
          · exact absurd (lexC_pos.1 (by omega : 0 < lexC K (F (n - 1)) (F n))) h3
        rw [lexC_left l2]
        exact h4
      refine ⟨fun t ht => ?_, fun _ => ⟨by omega, ?_⟩, fun i hi => ?_⟩
      · by_cases e : t + 1 = kN (dupK K F) n
        · rw [e, hnew, kI_old hd (by omega)]; exact less t e
        · rw [kI_old hd (by omega), kI_old hd (by omega)]; exact S.up t (by omega)
      · rw [hN, Nat.add_sub_cancel, hnew, Nat.add_sub_cancel]; exact lexC_zero.2 (fun _ _ => rfl)
      · by_cases e : i = n
        · subst e; exact ⟨kN (dupK K F) i, by omega, by rw [hnew]; exact lexC_zero.2 (fun _ _ => rfl)⟩
        · obtain ⟨t, ht, h⟩ := S.all i (by omega)
          exact ⟨t, by omega, by rw [kI_old hd ht]; exact h⟩
theorem up_lt {K n : Nat} {G : Nat → Nat → Int} (hG : ∀ t, t + 1 < n → lexC K (G t) (G (t + 1)) < 0) {i j : Nat} (hij : i < j) (hj : j < n) : lexC K (G i) (G j) < 0 := by
  obtain ⟨d, rfl⟩ : ∃ d, j = i + 1 + d := ⟨j - i - 1, by omega⟩
  induction d with
  | zero => exact hG i (by omega)
  | succ d ih => exact lexC_trans (ih (by omega) (by omega)) (hG (i + 1 + d) (by omega))
/-- Two lists that rise and hold the same are the same. -/
theorem rising_same {K : Nat} {G H : Nat → Nat → Int} : ∀ {n m : Nat}, (∀ t, t + 1 < n → lexC K (G t) (G (t + 1)) < 0) → (∀ t, t + 1 < m → lexC K (H t) (H (t + 1)) < 0) → (∀ i, i < n → ∃ j, j < m ∧ lexC K (G i) (H j) = 0) → (∀ j, j < m → ∃ i, i < n ∧ lexC K (G i) (H j) = 0) → n = m ∧ ∀ i, i < n → lexC K (G i) (H i) = 0
  | 0, m, _, _, _, h4 => ⟨by
      rcases Nat.eq_zero_or_pos m with e | e
      · exact e.symm
      · obtain ⟨i, hi, -⟩ := h4 0 e
        omega, fun i hi => absurd hi (Nat.not_lt_zero _)⟩
  | n + 1, 0, _, _, h3, _ => by obtain ⟨j, hj, -⟩ := h3 n (by omega); omega
  | n + 1, m + 1, h1, h2, h3, h4 => by
    have top : lexC K (G n) (H m) = 0 := by
      obtain ⟨j, hj, ej⟩ := h3 n (by omega)
      obtain ⟨i, hi, ei⟩ := h4 m (by omega)
      by_cases e : j = m
      · rw [← e]; exact ej
      · have a1 := up_lt h2 (show j < m by omega) (by omega)
        by_cases e' : i = n
        · rw [← e']; exact ei
        · have a2 := up_lt h1 (show i < n by omega) (by omega)
          rw [lexC_left ei] at a2
          rw [lexC_left (lexC_symm0 ej)] at a1
          exact absurd (lexC_trans a1 a2) (lexC_irrefl K _)
    obtain ⟨e1, e2⟩ := rising_same (n := n) (m := m) (fun t ht => h1 t (by omega)) (fun t ht => h2 t (by omega)) (fun i hi => by
      obtain ⟨j, hj, ej⟩ := h3 i (by omega)
      refine ⟨j, ?_, ej⟩
      by_cases e : j = m
      · exfalso
        subst e
        have a := up_lt h1 (show i < n by omega) (by omega)
        rw [lexC_left ej, lexC_left (lexC_symm0 top)] at a
        exact lexC_irrefl K _ a
      · omega) (fun j hj => by
      obtain ⟨i, hi, ei⟩ := h4 j (by omega)
      refine ⟨i, ?_, ei⟩
      by_cases e : i = n
      · exfalso
        subst e
        have a := up_lt h2 (show j < m by omega) (by omega)
        rw [lexC_left (lexC_symm0 ei), lexC_left top] at a
        exact lexC_irrefl K _ a
      · omega)
    refine ⟨by omega, fun i hi => ?_⟩
    by_cases e : i = n
    · subst e; rw [e1]; rw [e1] at top; exact top
    · exact e2 i (by omega)
end Go.Proofs.YtgjhbkpocbihbaaGreat
/-
  Lists of triples that rise and hold what was put in. No function of the program.
-/
namespace Go.Proofs.YtgjhbkpocbihbaaGreat
open Go.RowKit Go.Lib

/-- The numbers of a list of triples, one behind the other. -/
def fl3 (F : Nat → T3) (i : Nat) : Int := t3f (F (i / 3)) (i % 3)
theorem fl3_at (F : Nat → T3) (k : Nat) : fl3 F (k * 3) = (F k).1 ∧ fl3 F (k * 3 + 1) = (F k).2.1 ∧ fl3 F (k * 3 + 2) = (F k).2.2 := by
  unfold fl3
  rw [show k * 3 / 3 = k by omega, show k * 3 % 3 = 0 by omega, show (k * 3 + 1) / 3 = k by omega, show (k * 3 + 1) % 3 = 1 by omega, show (k * 3 + 2) / 3 = k by omega, show (k * 3 + 2) % 3 = 2 by omega]
  exact ⟨rfl, rfl, rfl⟩
theorem fl3_congr {F G : Nat → T3} {n : Nat} (h : ∀ t, t < n → F t = G t) {i : Nat} (hi : i < n * 3) : fl3 F i = fl3 G i := by
  unfold fl3
  rw [h _ (by omega)]
theorem c3_zero {x y : T3} : c3 x y = 0 ↔ x = y := by
  unfold c3
  rw [lexC_zero]
  constructor
  · intro h
    have h0 := h 0 (by omega)
    have h1 := h 1 (by omega)
    have h2 := h 2 (by omega)
    obtain ⟨a, b, c⟩ := x
    obtain ⟨a', b', c'⟩ := y
    simp only [t3f] at h0 h1 h2
    simp at h0 h1 h2
    rw [h0, h1, h2]
  · rintro rfl j _
    rfl
theorem c3_pos {x y : T3} : 0 < c3 x y ↔ c3 y x < 0 := lexC_pos
theorem c3_trans {x y z : T3} (h1 : c3 x y < 0) (h2 : c3 y z < 0) : c3 x z < 0 := lexC_trans h1 h2
theorem c3_tri (x y : T3) : c3 x y < 0 ∨ x = y ∨ c3 y x < 0 := by
  rcases lexC_range 3 (t3f x) (t3f y) with e | e | e
  · exact .inl (by unfold c3; omega)
  · exact .inr (.inl (c3_zero.1 e))
  · exact .inr (.inr (c3_pos.1 (by unfold c3; omega)))
/-- The first i have been put in: the list rises, and has these. -/
structure OrbI (P : Nat → T3) (i m : Nat) (F : Nat → T3) : Prop where
  up : ∀ t, t + 1 < m → c3 (F t) (F (t + 1)) < 0
  of : ∀ t, t < m → ∃ j, j < i ∧ F t = P j
  has : ∀ j, j < i → ∃ t, t < m ∧ F t = P j
  le : m ≤ i
theorem OrbI.start (P F : Nat → T3) : OrbI P 0 0 F := ⟨fun t ht => by omega, fun t ht => by omega, fun j hj => by omega, Nat.le_refl _⟩
theorem OrbI.skip {P F : Nat → T3} {i m t : Nat} (h : OrbI P i m F) (ht : t < m) (e : F t = P i) : OrbI P (i + 1) m F := by
  refine ⟨h.up, fun s hs => ?_, fun j hj => ?_, by have := h.le; omega⟩
  · obtain ⟨j, hj, e⟩ := h.of s hs
    exact ⟨j, by omega, e⟩
  · by_cases ej : j = i
    · subst ej; exact ⟨t, ht, e⟩
    · exact h.has j (by omega)
theorem OrbI.add {P F : Nat → T3} {i m c : Nat} (h : OrbI P i m F) (hc : c ≤ m) (lo : ∀ t, t < c → c3 (F t) (P i) < 0) (hi : c < m → c3 (P i) (F c) < 0) : OrbI P (i + 1) (m + 1) (ins c F (P i)) := by
  refine ⟨fun t ht => ?_, fun s hs => ?_, fun j hj => ?_, by have := h.le; omega⟩
  · rcases Nat.lt_trichotomy (t + 1) c with e | e | e
    · rw [ins_lo (by omega), ins_lo e]; exact h.up t (by omega)
    · rw [ins_lo (show t < c by omega), e, ins_at]; exact lo t (by omega)
    · rw [ins_hi e]
      by_cases e' : t = c
      · rw [e', ins_at, show c + 1 - 1 = c by omega]; exact hi (by omega)
      · rw [ins_hi (show c < t by omega)]
        have := h.up (t - 1) (by omega)
        rwa [show t - 1 + 1 = t + 1 - 1 by omega] at this
  · rcases Nat.lt_trichotomy s c with e | e | e
    · rw [ins_lo e]
      obtain ⟨j, hj, e⟩ := h.of s (by omega)
      exact ⟨j, by omega, e⟩
    · subst e; exact ⟨i, by omega, ins_at _ _ _⟩
    · rw [ins_hi e]
      obtain ⟨j, hj, e⟩ := h.of (s - 1) (by omega)
      exact ⟨j, by omega, e⟩
  · by_cases ej : j = i
    · subst ej; exact ⟨c, by omega, ins_at _ _ _⟩
    · obtain ⟨t, ht, e⟩ := h.has j (by omega)
      by_cases et : t < c
      · exact ⟨t, by omega, by rw [ins_lo et]; exact e⟩
      · exact ⟨t + 1, by omega, by rw [ins_hi (by omega), Nat.add_sub_cancel]; exact e⟩
theorem OrbI.same {P F F' : Nat → T3} {n m m' : Nat} (h : OrbI P n m F) (h' : OrbI P n m' F') : m = m' ∧ ∀ t, t < m → F t = F' t := by
  obtain ⟨e1, e2⟩ := rising_same (K := 3) (G := fun t => t3f (F t)) (H := fun t => t3f (F' t)) (n := m) (m := m') h.up h'.up (fun i hi => by
    obtain ⟨j, hj, e⟩ := h.of i hi
    obtain ⟨t, ht, e'⟩ := h'.has j hj
    exact ⟨t, ht, c3_zero.2 (e.trans e'.symm)⟩) (fun i hi => by
    obtain ⟨j, hj, e⟩ := h'.of i hi
    obtain ⟨t, ht, e'⟩ := h.has j hj
    exact ⟨t, ht, c3_zero.2 (e'.trans e.symm)⟩)
  exact ⟨e1, fun t ht => c3_zero.1 (e2 t ht)⟩
theorem OrbI.congr {P P' F : Nat → T3} {n m : Nat} (h : OrbI P n m F) (e : ∀ j, j < n → P j = P' j) : OrbI P' n m F := by
  refine ⟨h.up, fun t ht => ?_, fun j hj => ?_, h.le⟩
  · obtain ⟨j, hj, e1⟩ := h.of t ht
    exact ⟨j, hj, e1.trans (e j hj)⟩
  · obtain ⟨t, ht, e1⟩ := h.has j hj
    exact ⟨t, ht, e1.trans (e j hj)⟩
/-- Sorted and made compact. -/
theorem orb_compact {P : Nat → T3} {n : Nat} {d d' : Array T3} (hd : d.size = n) (hP : ∀ i, i < n → d[i]! = P i) (hs : d'.size = n) (hp : d'.toList.Perm d.toList) (hso : ∀ i j, i < j → j < n → ¬ c3 d'[j]! d'[i]! < 0) : OrbI P n (compactUpTo d' n).length (fun t => (compactUpTo d' n)[t]!) := by
  have S := stay_of (K := 3) (F := fun i => t3f d'[i]!) (n := n) hso
  have ek : ∀ j, keeps d' j = dupK 3 (fun i => t3f d'[i]!) j := fun j => by
    unfold keeps dupK
    refine decide_eq_decide.2 ?_
    have : lexC 3 (t3f d'[j]!) (t3f d'[j - 1]!) = 0 ↔ d'[j]! = d'[j - 1]! := c3_zero
    rw [this]
  have ef : keeps d' = dupK 3 (fun i => t3f d'[i]!) := funext ek
  have el : compactUpTo d' n = (kL (dupK 3 (fun i => t3f d'[i]!)) n).map (d'[·]!) := by
    unfold compactUpTo kL
    rw [ef]
  have len : (compactUpTo d' n).length = kN (dupK 3 (fun i => t3f d'[i]!)) n := by rw [el]; simp [kN]
  have get : ∀ t, t < kN (dupK 3 (fun i => t3f d'[i]!)) n → (compactUpTo d' n)[t]! = d'[kI (dupK 3 (fun i => t3f d'[i]!)) n t]! := fun t ht => by
    rw [List.getElem!_eq_getElem?_getD, el, List.getElem?_map]
    have hl : t < (kL (dupK 3 (fun i => t3f d'[i]!)) n).length := ht
    unfold kI
    simp [List.getElem?_eq_getElem hl]
  have mem : ∀ i, i < n → ∃ j, j < n ∧ d'[i]! = P j := fun i hi => by
    have h1 : d'[i]! ∈ d'.toList := by rw [getElem!_pos _ i (by omega)]; simp
    have h2 := hp.mem_iff.1 h1
    obtain ⟨j, hj, e⟩ := List.getElem_of_mem h2
    have hj' : j < d.size := by simpa using hj
    refine ⟨j, by omega, ?_⟩
    rw [← hP j (by omega), getElem!_pos _ j hj', ← e]
    simp
  have mem' : ∀ j, j < n → ∃ i, i < n ∧ d'[i]! = P j := fun j hj => by
    have h1 : P j ∈ d.toList := by rw [← hP j hj, getElem!_pos _ j (by omega)]; simp
    have h2 := hp.mem_iff.2 h1
    obtain ⟨i, hi, e⟩ := List.getElem_of_mem h2
    have hi' : i < d'.size := by simpa using hi
    refine ⟨i, by omega, ?_⟩
    rw [getElem!_pos _ i hi', ← e]
    simp
  rw [len]
  refine ⟨fun t ht => ?_, fun t ht => ?_, fun j hj => ?_, kN_le _ _⟩
  · show c3 (compactUpTo d' n)[t]! (compactUpTo d' n)[t + 1]! < 0
    rw [get t (by omega), get (t + 1) ht]
    exact S.up t ht
  · show ∃ j, j < n ∧ (compactUpTo d' n)[t]! = P j
    rw [get t ht]
    exact mem _ (kI_lt ht)
  · obtain ⟨i, hi, e⟩ := mem' j hj
    obtain ⟨t, ht, e'⟩ := S.all i hi
    refine ⟨t, ht, ?_⟩
    show (compactUpTo d' n)[t]! = P j
    rw [get t ht, ← e]
    exact c3_zero.1 e'
end Go.Proofs.YtgjhbkpocbihbaaGreat
/-
  Deeds of a list of operators: walked.
-/
namespace Go.Proofs.YtgjhbkpocbihbaaGreat
open Go.RowKit

/-- The cells of the first n deeds. -/
def dl (Q : Nat → Nat) (n : Nat) : List Value := (List.range n).map (fun i => dV (Q i))
theorem dl_len (Q : Nat → Nat) (n : Nat) : (dl Q n).length = n := by simp [dl]
theorem dl_next (Q : Nat → Nat) (n q : Nat) : dl (fun t => if t = n then q else Q t) (n + 1) = dl Q n ++ [dV q] := by
  have e : (List.range n).map (fun i => dV (if i = n then q else Q i)) = (List.range n).map (fun i => dV (Q i)) := List.map_congr_left (fun t ht => by
    have := List.mem_range.1 ht
    rw [if_neg (by omega)])
  unfold dl
  rw [List.range_succ, List.map_append, List.map_cons, List.map_nil]
  show (List.range n).map (fun i => dV (if i = n then q else Q i)) ++ [dV (if n = n then q else Q n)] = _
  rw [if_pos rfl, e]
theorem dl_get (Q : Nat → Nat) {n i : Nat} (hi : i < n) : (dl Q n)[i]? = some (dV (Q i)) := by
  unfold dl
  rw [List.getElem?_map, List.getElem?_range hi]
  rfl
/-- A list of deeds of the program's own; each one's operator lies in a block of its own. -/
structure DeedsG (w : World) (lo : Nat) (v : Value) (n : Nat) (Q : Nat → Nat) (K : Nat → Nat → Int) : Prop where
  row : w.ownsRow lo 103 1 v n (dl Q n)
  nn : v ≠ .slice none 0 0
  bx : ∀ i, i < n → lo ≤ Q i ∧ At 101 w (Q i) (opA (K i) (kh (K i)))
theorem DeedsG.below {w w' : World} {lo n : Nat} {v : Value} {Q : Nat → Nat} {K : Nat → Nat → Int} (h : DeedsG w lo v n Q K) (hb : Below w.heap.size w w') : DeedsG w' lo v n Q K :=
  ⟨own_below h.row hb, h.nn, fun i hi => ⟨(h.bx i hi).1, (h.bx i hi).2.below hb⟩⟩
theorem DeedsG.open {w : World} {lo n : Nat} {v : Value} {Q : Nat → Nat} {K : Nat → Nat → Int} (h : DeedsG w lo v n Q K) : ∃ g c, v = .slice (some ⟨g, 0, none⟩) n c ∧ lo ≤ g ∧ g < w.heap.size ∧ (∃ cur, At 103 w g cur) ∧ ∀ i, i < n → w.cell? ⟨g, i, none⟩ = some (dV (Q i)) := by
  obtain ⟨e0, h1 | ⟨g, c, cur, rfl, hb, hh, h3, h4, h5, h6⟩⟩ := h.row
  · exact absurd h1.1 h.nn
  · have a : At 103 w g cur := hh
    refine ⟨g, c, rfl, hb, a.lt, ⟨cur, a⟩, fun i hi => a.cell i ?_⟩
    have := congrArg (fun L => L[i]?) h6
    simp only [List.getElem?_take] at this
    rw [if_pos (by omega), dl_get Q hi] at this
    simpa using this
theorem news1d {w : World} {q : Nat} {x : Value} {t : TypeId} (a : At t w q #[x]) : ∀ j u, ([x] : List Value)[j]? = some u → w.cell? ((⟨q, 0, none⟩ : Addr).add j) = some u := by
  intro j u hu
  have h2 := a.cell j (v := u) (by simpa using hu)
  by_cases e : j = 0
  · subst e; simpa [Addr.add] using h2
  · simpa [Addr.add, e] using h2
/-- What is told of a list's deeds. -/
def DeP (w : World) (n : Nat) (F : Nat → Nat → Int) (e : Ending) (w' : World) : Prop := (∃ v Q, e = .returned v ∧ DeedsG w' w.heap.size v n Q F) ∧ Below w.heap.size w w'
theorem Tryz.info103 : (Tryz.prog.info? 103).map (fun i => (i.zero, i.size, i.bytes)) = some (some .nilFunc, 1, 8) := by kernel_rfl
set_option maxRecDepth 100000 in
set_option maxHeartbeats 3000000 in
theorem deedsOf_any {w : World} {base g n c : Nat} {F : Nat → Nat → Int} (hF : Oprs w base (.slice (some ⟨g, 0, none⟩) n c) n F) (hn : n ≤ 192) :
    Calls Tryz.prog 32 #[.slice (some ⟨g, 0, none⟩) n c] w (DeP w n F) := by
  have hbs : ∀ w, (Instr.buildSlice 56 0 #[]).run Tryz.prog w = .ok (.slice (some ⟨w.heap.size, 0, none⟩) 0 0) (w.alloc (.cells #[] 103)) := fun _ => by kernel_rfl
  obtain ⟨i0, hi0, hz0, hz1, hz2⟩ := info_parts Tryz.info103
  have hn' : (n : Int) ≤ 192 := by omega
  obtain ⟨W1, hW1, a1, B1, -⟩ := boxed w 103 #[]
  obtain ⟨p1, hp1⟩ : ∃ q, w.heap.size = q := ⟨_, rfl⟩
  have o1 : Hid (DeedsG W1 w.heap.size (.slice (some ⟨p1, 0, none⟩) 0 0) 0 (fun _ => 0) F) := ⟨⟨rfl, .inr ⟨p1, 0, #[], rfl, by omega, hp1 ▸ a1, Nat.le_refl _, Nat.zero_le _, rfl, rfl⟩⟩, ne_nil _ _ _, fun i hi => by omega⟩
  have HF : Hid (Oprs w base (.slice (some ⟨g, 0, none⟩) n c) n F) := hF
  clear hF a1
  go_enter Tryz.func32, Tryz.ntmps32
  go_wp2
  try rw [hp1]
  clear hW1 hp1
  go_loopw [3, 9] (fun v s wr => ∃ (i : Nat) (Q : Nat → Nat), i ≤ n ∧ s = .int .i64 (i : Int) ∧ Hid (DeedsG wr w.heap.size v i Q F) ∧ Below w.heap.size w wr) (fun _ s _ => n - (intOf s).toNat)
  case atStart => exact ⟨0, _, Nat.zero_le _, rfl, o1, B1⟩
  case round =>
    clear o1 B1
    obtain ⟨i, Q, hi, rfl, own, B⟩ := hrel
    by_cases hlt : i < n
    rotate_left
    · obtain rfl : i = n := by omega
      have hlt' : ¬ (i : Int) < (i : Int) := by omega
      go_wp2
      go_ret
      exact ⟨⟨_, Q, rfl, own.out⟩, B⟩
    have hlt' : (i : Int) < (n : Int) := by omega
    obtain ⟨e0, e1, e2, e3, e4, e5, e6, e7, e8, e9, e10, e11⟩ := (HF.out.below B).open i hlt
    obtain ⟨K, hK⟩ : ∃ K, F i = K := ⟨_, rfl⟩
    have HK : Hid (F i = K) := hK
    simp only [hK] at e0 e1 e2 e3 e4 e5 e6 e7 e8 e9 e10 e11
    clear hK
    obtain ⟨W7, hW7, a7, b7, -⟩ := boxed wr 101 (kc K).toArray
    obtain ⟨p7, hp7⟩ : ∃ p, wr.heap.size = p := ⟨_, rfl⟩
    rw [hp7] at a7
    have own7 := hid_of (own.out.below b7)
    replace B := B.trans (b7.mono B.size)
    have A7 : At 101 W7 p7 (opA K (kh K)) := a7
    clear own b7 a7
    obtain ⟨z0, z1, z2, z3, z4, z5, z6, z7, z8, z9, z10, z11⟩ := At.openk (x := K) A7
    have DD := deed_any K (kh K)
    have eK : opA K (kh K) = #[.int .i64 (K 0), .int .i64 (K 1), .int .i64 (K 2), .int .i64 (K 3), .int .i64 (K 4), .int .i64 (K 5), .int .i64 (K 6), .int .i64 (K 7), .int .i64 (K 8), .int .i64 (K 9), .int .i64 (K 10), .int .i64 (K 11)] := rfl
    rw [eK] at DD
    clear eK
    unfold kc at hW7
    go_wp2_with fail
    clear e0 e1 e2 e3 e4 e5 e6 e7 e8 e9 e10 e11 hW7 hp7
    refine (DD _).mono ?_
    rintro e w8 ⟨rfl, AD, hs8, b8⟩
    obtain ⟨qd, hqd⟩ : ∃ q, W7.heap.size = q := ⟨_, rfl⟩
    rw [hqd] at AD ⊢
    replace AD : At 101 w8 qd (opA K (kh K)) := AD
    have hqd' : w.heap.size ≤ qd := by rw [← hqd]; exact B.size
    have own8 := hid_of (own7.out.below b8)
    have B8 := B.trans (b8.mono B.size)
    clear z0 z1 z2 z3 z4 z5 z6 z7 z8 z9 z10 z11 own7 b8 hs8 hqd A7 B DD
    obtain ⟨W9, hW9, a9, b9, -⟩ := boxed w8 103 #[dV qd]
    obtain ⟨p9, hp9⟩ : ∃ p, w8.heap.size = p := ⟨_, rfl⟩
    rw [hp9] at a9
    have own9 := hid_of (own8.out.below b9)
    have row9 := hid_of own9.out.row
    have AD9 := AD.below b9
    have B9 := B8.trans (b9.mono B8.size)
    have hm1 : i + 1 ≤ maxLen := by unfold maxLen; omega
    have hm2 : (i + 1) * 8 ≤ 140737488355328 := by omega
    clear own8 AD b9 B8
    unfold dV at hW9 a9 ⊢
    go_wp2_with (at_builtin; refine Hid.out (?_ : Hid _))
    refine (?_ : wpList _ _ _ _ _ _)
    refine wpList_append_own_at _ rfl _ _ _ rfl w.heap.size 103 i0 _ 1 8 Tryz.underlying56 hi0 hz0 hz1 hz2 rfl (by omega) u3 i (dl Q i) rfl row9.out ⟨p9, 0, none⟩ 1 1 [dV qd] rfl rfl (news1d a9) (by intro u hu; simp at hu; subst hu; rfl) hm1 hm2 B9.size ?_
    intro v7 w7 hown7 hgrow7 hne7 hblk7
    have BF : Below w.heap.size w w7 := B9.grown hgrow7 B9.size (fun x hx => ownBlock_ge row9.out hx)
    have hbox : ∀ q, At 101 W9 q (opA K (kh K)) → True := fun _ _ => trivial
    have keep : ∀ {q : Nat} {vs : Array Value}, At 101 W9 q vs → At 101 w7 q vs := fun {q vs} a => by
      refine (hgrow7.block q a.lt (fun e => ?_)).trans a
      obtain ⟨g', c', e', -, -, ⟨cur, ac⟩, -⟩ := own9.out.open
      rw [e'] at e
      simp only [Value.ownBlock, Option.some.injEq] at e
      subst e
      have := ac.symm.trans a
      simp at this
    have OF : Hid (DeedsG w7 w.heap.size v7 (i + 1) (fun t => if t = i then qd else Q t) F) := by
      refine ⟨by rw [dl_next]; exact hown7, fun e => by have := (hne7.1 e).2; omega, fun t ht => ?_⟩
      by_cases e : t = i
      · subst e
        rw [if_pos rfl, HK.out]
        exact ⟨hqd', keep AD9⟩
      · rw [if_neg e]
        exact ⟨(own9.out.bx t (by omega)).1, keep (own9.out.bx t (by omega)).2⟩
    clear hown7 hgrow7 hne7 hblk7 own9 row9 AD9 B9 a9 hW9 hp9 hbox
    go_wp2
    exact ⟨⟨i + 1, _, by omega, by go_num, OF, BF⟩, by simp [intOf]; omega⟩
end Go.Proofs.YtgjhbkpocbihbaaGreat
/-
  Lists of Point: taken over, measured, held against each other, marked. Walked.
-/
namespace Go.Proofs.YtgjhbkpocbihbaaGreat
open Go.RowKit

abbrev pointV (x0 x1 x2 : Int) : Value := .agg #[.int .i64 x0, .int .i64 x1, .int .i64 x2]
theorem Point.open {w : World} {g n : Nat} {f : Nat → Int} (h : Recs 3 w g n f) (k : Nat) (hk : k < n) : w.cell? ⟨g, k * 3, none⟩ = some (.int .i64 (f (k * 3))) ∧ w.cell? ⟨g, k * 3 + 1, none⟩ = some (.int .i64 (f (k * 3 + 1))) ∧ w.cell? ⟨g, k * 3 + 2, none⟩ = some (.int .i64 (f (k * 3 + 2))) :=
  ⟨h.2 _ (by omega), h.2 _ (by omega), h.2 _ (by omega)⟩
theorem Point.openI {w : World} {g off n : Nat} {f : Nat → Int} (h : Ints w g off (n * 3) f) (k : Nat) (hk : k < n) : w.cell? ⟨g, off + k * 3, none⟩ = some (.int .i64 (f (k * 3))) ∧ w.cell? ⟨g, off + k * 3 + 1, none⟩ = some (.int .i64 (f (k * 3 + 1))) ∧ w.cell? ⟨g, off + k * 3 + 2, none⟩ = some (.int .i64 (f (k * 3 + 2))) :=
  ⟨h (k * 3) (by omega), h (k * 3 + 1) (by omega), h (k * 3 + 2) (by omega)⟩
theorem Point.put {w : World} {g n k : Nat} {f : Nat → Int} (h : LaidK 3 64 w g n k f) (hk : k < n) : LaidK 3 64 (((w.setCell ⟨g, k * 3, none⟩ (.int .i64 (f (k * 3)))).setCell ⟨g, k * 3 + 1, none⟩ (.int .i64 (f (k * 3 + 1)))).setCell ⟨g, k * 3 + 2, none⟩ (.int .i64 (f (k * 3 + 2)))) g n (k + 1) f := by
  obtain ⟨cur, h1, h2, h3⟩ := h
  refine ⟨_, (((h1.set (k * 3) _).set (k * 3 + 1) _).set (k * 3 + 2) _), by simpa using h2, fun i hi => ?_⟩
  by_cases e2 : i = k * 3 + 2
  · subst e2
    rw [Array.getElem?_setIfInBounds, if_pos rfl, if_pos (by simp; omega)]
  rw [Array.getElem?_setIfInBounds, if_neg (by omega)]
  by_cases e1 : i = k * 3 + 1
  · subst e1
    rw [Array.getElem?_setIfInBounds, if_pos rfl, if_pos (by simp; omega)]
  rw [Array.getElem?_setIfInBounds, if_neg (by omega)]
  by_cases e0 : i = k * 3
  · subst e0
    rw [Array.getElem?_setIfInBounds, if_pos rfl, if_pos (by omega)]
  rw [Array.getElem?_setIfInBounds, if_neg (by omega)]
  exact h3 i (by omega)
theorem Point.box {t : TypeId} {w : World} {q : Nat} {v0 v1 v2 : Value} (h : At t w q #[v0, v1, v2]) : w.cell? ⟨q, 0, none⟩ = some v0 ∧ w.cell? ⟨q, 1, none⟩ = some v1 ∧ w.cell? ⟨q, 2, none⟩ = some v2 ∧ q < w.heap.size := ⟨h.cell 0 rfl, h.cell 1 rfl, h.cell 2 rfl, h.lt⟩
theorem Point.boxF {t : TypeId} {w : World} {q : Nat} {vs : Array Value} (h : At t w q vs) : w.frozen? ⟨q, 0, none⟩ = false ∧ w.frozen? ⟨q, 1, none⟩ = false ∧ w.frozen? ⟨q, 2, none⟩ = false := ⟨h.frozen 0, h.frozen 1, h.frozen 2⟩
theorem Point.putBox {t : TypeId} {w : World} {q : Nat} {v0 v1 v2 : Value} (h : At t w q #[v0, v1, v2]) (x0 x1 x2 : Value) : At t (((w.setCell ⟨q, 0, none⟩ x0).setCell ⟨q, 1, none⟩ x1).setCell ⟨q, 2, none⟩ x2) q #[x0, x1, x2] := by
  have := (((h.set 0 x0).set 1 x1).set 2 x2)
  simpa using this
theorem Point.putBelow {w0 w : World} {q N : Nat} (h : Below N w0 w) (hq : N ≤ q) (x0 x1 x2 : Value) : Below N w0 (((w.setCell ⟨q, 0, none⟩ x0).setCell ⟨q, 1, none⟩ x1).setCell ⟨q, 2, none⟩ x2) := (((h.setCell hq _).setCell hq _).setCell hq _)
theorem infoPoint : (Tryz.prog.info? 64).map (fun i => (i.zero, i.size, i.bytes)) = some (some (.agg #[.int .i64 0, .int .i64 0, .int .i64 0]), 3, 24) := by kernel_rfl
theorem makePoint (M : Nat) (hM : M ≤ 1048576) : ∃ C : Array Value, C.size = M * 3 ∧ ∀ w, (Instr.makeSlice 78 (.int .i64 (M : Int)) (.int .i64 (M : Int))).run Tryz.prog w = .ok (.slice (some ⟨w.heap.size, 0, none⟩) M M) (w.alloc (.cells C 64)) := by
  obtain ⟨i0, hi0, hz0, hz1, hz2⟩ := info_parts infoPoint
  refine ⟨madeCells (Value.agg #[.int .i64 0, .int .i64 0, .int .i64 0]).cells (M * 3), by simp [madeCells], fun w => ?_⟩
  have := run_make (P := Tryz.prog) w 78 64 i0 _ Tryz.underlying78 hi0 hz0 .i64 .i64 (M : Int) (M : Int) (by omega) (by omega) (by rw [hz2]; omega) (by omega)
  rw [this, hz1]
  simp
/-- The cells of the structs k of two lists. -/
def Point.Two (g1 g2 k : Nat) (f : Nat → Int) (w : World) : Prop :=
  (w.cell? ⟨g1, k * 3, none⟩ = some (.int .i64 (f (k * 3))) ∧ w.cell? ⟨g1, k * 3 + 1, none⟩ = some (.int .i64 (f (k * 3 + 1))) ∧ w.cell? ⟨g1, k * 3 + 2, none⟩ = some (.int .i64 (f (k * 3 + 2)))) ∧
  (w.cell? ⟨g2, k * 3, none⟩ = some (.int .i64 (f (k * 3))) ∧ w.cell? ⟨g2, k * 3 + 1, none⟩ = some (.int .i64 (f (k * 3 + 1))) ∧ w.cell? ⟨g2, k * 3 + 2, none⟩ = some (.int .i64 (f (k * 3 + 2))))
theorem Point.two_of {w : World} {g1 g2 n k : Nat} {f : Nat → Int} (h1 : Recs 3 w g1 n f) (h2 : Recs 3 w g2 n f) (hk : k < n) : Point.Two g1 g2 k f w := ⟨Point.open h1 k hk, Point.open h2 k hk⟩
end Go.Proofs.YtgjhbkpocbihbaaGreat
/-
  What an iterator gives, appended, as the library does it, at points; walked.
-/
namespace Go.Proofs.YtgjhbkpocbihbaaGreat
open Go.RowKit Go.Maps Go.Sort Go.Shelf

/-- The cells of a list of triples. -/
def lc3 (l : List T3) : List Value := l.flatMap e3
theorem lc3_snoc (l : List T3) (x : T3) : lc3 (l ++ [x]) = lc3 l ++ e3 x := by simp [lc3]
theorem lc3_len (l : List T3) : (lc3 l).length = l.length * 3 := by
  induction l with
  | nil => rfl
  | cons a l ih => simp only [lc3, List.flatMap_cons, List.length_append, List.length_cons] at ih ⊢; rw [ih]; simp [e3]; omega
theorem cell3_new {t : TypeId} (W : World) (q : Nat) (x : T3) (a : At t W q #[.int .i64 x.1, .int .i64 x.2.1, .int .i64 x.2.2]) (j : Nat) (u : Value) (h : (e3 x)[j]? = some u) : W.cell? ((⟨q, 0, none⟩ : Addr).add j) = some u := by
  have h1 : (#[.int .i64 x.1, .int .i64 x.2.1, .int .i64 x.2.2] : Array Value)[j]? = some u := by
    have : (e3 x).toArray[j]? = some u := by simpa using h
    exact this
  have h2 := a.cell j h1
  by_cases e : j = 0
  · subst e; simpa [Addr.add] using h2
  · simpa [Addr.add, e] using h2
def apAssign3 : Code := (Code.region 2
                    #[{ dst := some 5, op := Op.alloc 64, type := 0, pos := "iter.go:51", after := #[], guard := none },
                      { dst := none, op := Op.store 64 (Operand.tmp 5) (Operand.tmp 7), type := 0, pos := "iter.go:51",
                        after := #[{ on := 0, ground := Ground.data }, { on := 0, ground := Ground.phase }],
                        guard := none }]
                    false)
def apBody3 : Code := (Code.block 1
                    (Code.region 3
                      #[{ dst := some 8, op := Op.load 78 (Operand.tmp 2), type := 78, pos := "iter.go:52",
                          after := #[], guard := none },
                        { dst := some 9, op := Op.load 64 (Operand.tmp 5), type := 64, pos := "iter.go:52",
                          after := #[], guard := none },
                        { dst := some 10, op := Op.buildSlice 78 1 #[(0, Operand.tmp 9)], type := 78,
                          pos := "iter.go:52", after := #[{ on := 1, ground := Ground.data }], guard := none },
                        { dst := some 11,
                          op :=
                            Op.call
                              { callee := Callee.builtin Builtin.append, args := #[Operand.tmp 8, Operand.tmp 10],
                                argTypes := #[78, 78] },
                          type := 78, pos := "iter.go:52",
                          after := #[{ on := 0, ground := Ground.data }, { on := 2, ground := Ground.data }],
                          guard := none },
                        { dst := none, op := Op.store 78 (Operand.tmp 2) (Operand.tmp 11), type := 0,
                          pos := "iter.go:52",
                          after :=
                            #[{ on := 3, ground := Ground.data }, { on := 3, ground := Ground.chain },
                              { on := 0, ground := Ground.phase }, { on := 1, ground := Ground.phase },
                              { on := 2, ground := Ground.phase }, { on := 3, ground := Ground.phase }],
                          guard := none }]
                      false))
/-- What lies below B, but for block g, stays as it is. -/
def KpB (B g : Nat) (W W' : World) : Prop := W.heap.size ≤ W'.heap.size ∧ ∀ k, k < B → k ≠ g → W'.heap[k]? = W.heap[k]?
theorem KpB.t {b g : Nat} {A B C : World} (h : KpB b g A B) (k : KpB b g B C) : KpB b g A C := ⟨Nat.le_trans h.1 k.1, fun i h1 h2 => (k.2 i h1 h2).trans (h.2 i h1 h2)⟩
def apRec3 (fn : FuncId) (a0 sv : Value) (Bs D : Nat) (st : LoopState) (pend : Option Code) : Loop :=
  { state := st, pending := pend, fn, tmps := #[a0, sv, .pointer (some ⟨Bs, 0, none⟩), undef, .slice none 0 0, undef, sv, undef, undef, undef, undef, undef, undef], params := #[7], assign := apAssign3, body := apBody3, defers := D }
structure ApAt3 (w0 : World) (B0 g0 : Nat) (fn : FuncId) (a0 sv : Value) (Bs l D : Nat) (ss : List T3) (W : World) : Prop where
  box : ∃ v, W.heap[Bs]? = some (.cells #[v] 78 (0, 0)) ∧ W.ownsRow B0 64 3 v ss.length (lc3 ss) ∧ v ≠ .slice none 0 0 ∧ (∀ k, v.ownBlock = some k → k = g0 ∨ w0.heap.size ≤ k)
  L : W.heap[l]? = some (.loop (apRec3 fn a0 sv Bs D .ready none))
  K : W.heap[D]? = some (.deferred (some []))
  kept : Kept g0 w0 W
theorem Kept.grownK {p : Nat} {w0 W W' : World} {row : Option Nat} (h : Kept p w0 W) (hg : W.grownBy W' row) (hr : ∀ k, row = some k → k = p ∨ w0.heap.size ≤ k) : Kept p w0 W' :=
  ⟨hg.os.trans h.os, hg.tape.trans h.tape, hg.output.trans h.output, Nat.le_trans h.size hg.size, fun k hk hne => (hg.block k (Nat.lt_of_lt_of_le hk h.size) (fun e => by rcases hr k e.symm with e' | e'; exact hne e'; omega)).trans (h.block k hk hne)⟩
theorem KpB.grownK {B g : Nat} {W W' : World} {row : Option Nat} (hg : W.grownBy W' row) (hB : B ≤ W.heap.size) (hr : ∀ k, row = some k → k = g ∨ B ≤ k) : KpB B g W W' := ⟨hg.size, fun k hk hne => hg.block k (by omega) (fun e => by rcases hr k e.symm with e' | e'; exact hne e'; omega)⟩
theorem ap_abides3 (w0 : World) (B0 g0 : Nat) (fn : FuncId) (a0 sv : Value) (Bs l D B : Nat) (hB : w0.heap.size ≤ B) : AbidesFrom B (ApAt3 w0 B0 g0 fn a0 sv Bs l D) := fun s W W' row h hg hrow => by
  have hrow' : ∀ r, row = some r → ∃ o : Obj, W.heap[r]? = some o ∧ o.isWalk = true := fun r e => (hrow r e).2
  obtain ⟨v, hv, hr, hn, hb⟩ := h.box
  exact ⟨⟨v, (grownBy_keeps hg hrow' hv rfl).trans hv, ownsRow_abides_a hr hg hrow', hn, hb⟩, (grownBy_keeps hg hrow' h.L rfl).trans h.L, (grownBy_keeps hg hrow' h.K rfl).trans h.K,
    h.kept.grownK hg (fun k e => .inr (Nat.le_trans hB (hrow k e).1))⟩
set_option maxRecDepth 100000 in
set_option maxHeartbeats 2000000 in
theorem apYield3 (F : Fence) (m : Nat) (w0 : World) (B0 g0 : Nat) (fn : FuncId) (hfn : F.fn fn) (a0 sv : Value) (Bs l D : Nat) (hBl : Bs ≠ l) (hDl : D ≠ l) (hDB : D ≠ Bs) (h0B : w0.heap.size ≤ Bs) (h0l : w0.heap.size ≤ l) (hB0 : B0 ≤ w0.heap.size)
    (N : Nat) (hN : N ≤ maxLen) (hNb : N * 24 ≤ 140737488355328) (ss : List T3) (x : T3) (W : World) (h : ApAt3 w0 B0 g0 fn a0 sv Bs l D ss W) (hlen : ss.length < N) :
    YieldAt F m Tryz.prog l #[tV x] W fun e W' => e = .returned (.bool true) ∧ ApAt3 w0 B0 g0 fn a0 sv Bs l D (ss ++ [x]) W' ∧ KpB w0.heap.size g0 W W' := by
  have hne : (78 : Nat) ≠ 64 := by decide
  obtain ⟨i0, hi, hz0, hz1, hz2⟩ := info_parts infoPoint
  obtain ⟨v, hv, hrow, hvn, hvb⟩ := h.box
  refine ⟨fn, #[a0, sv, .pointer (some ⟨Bs, 0, none⟩), undef, .slice none 0 0, undef, sv, tV x, undef, undef, undef, undef, undef], apAssign3, apBody3, by simpa [apRec3] using run_yield (P := Tryz.prog) (args := #[tV x]) h.L rfl, roundIn_of_wpIn hfn ?_⟩
  obtain ⟨x0, x1, x2⟩ := x
  obtain ⟨W5, hW5⟩ : ∃ W5, W.alloc (.cells #[.int .i64 x0, .int .i64 x1, .int .i64 x2] 64) = W5 := ⟨_, rfl⟩
  have hBl1 : Bs < W.heap.size := (Array.getElem?_eq_some_iff.1 hv).1
  have hl1 : l < W.heap.size := (Array.getElem?_eq_some_iff.1 h.L).1
  have hD1 : D < W.heap.size := (Array.getElem?_eq_some_iff.1 h.K).1
  have z0 : w0.heap.size ≤ W.heap.size := h.kept.size
  have hg5 : W.grownBy W5 none := by rw [← hW5]; exact World.grownBy_alloc W _ none
  have hk5 : KpB w0.heap.size g0 W W5 := KpB.grownK hg5 z0 (fun k e => by cases e)
  have hv5 : W5.heap[Bs]? = some (.cells #[v] 78 (0, 0)) := by rw [← hW5]; exact (Below.heap_alloc _ _ Bs hBl1).trans hv
  have hK5 : W5.heap[D]? = some (.deferred (some [])) := by rw [← hW5]; exact (Below.heap_alloc _ _ D hD1).trans h.K
  have hL5 : W5.heap[l]? = some (.loop (apRec3 fn a0 sv Bs D .ready none)) := by rw [← hW5]; exact (Below.heap_alloc _ _ l hl1).trans h.L
  have hrow5 : W5.ownsRow B0 64 3 v ss.length (lc3 ss) := by rw [← hW5]; exact hrow.alloc _
  have hb5 : Kept g0 w0 W5 := h.kept.grownK hg5 (fun k e => by cases e)
  have hx5 : W5.heap[W.heap.size]? = some (.cells #[.int .i64 x0, .int .i64 x1, .int .i64 x2] 64 (0, 0)) := by rw [← hW5]; exact World.alloc_heap_new W _
  obtain ⟨qx, hqx⟩ : ∃ q, W.heap.size = q := ⟨_, rfl⟩
  rw [hqx] at hx5
  have hl : l < W5.heap.size := (Array.getElem?_eq_some_iff.1 hL5).1
  have hbr := run_beginRound (P := Tryz.prog) hL5 rfl
  obtain ⟨W2, hW2⟩ : ∃ W2, W5.putObj l (.loop { apRec3 fn a0 sv Bs D .ready none with state := .busy }) = W2 := ⟨_, rfl⟩
  rw [hW2] at hbr
  have hg2 : W5.grownBy W2 (some l) := by rw [← hW2]; exact grownBy_putObj_a _ _ _
  have hk2 : KpB w0.heap.size g0 W W2 := hk5.t (KpB.grownK hg2 hb5.size (fun k e => by cases e; exact .inr h0l))
  have hv2 : W2.heap[Bs]? = some (.cells #[v] 78 (0, 0)) := by rw [← hW2]; exact (World.putObj_heap_other hBl).trans hv5
  have hK2 : W2.heap[D]? = some (.deferred (some [])) := by rw [← hW2]; exact (World.putObj_heap_other hDl).trans hK5
  have hL2 : W2.heap[l]? = some (.loop { apRec3 fn a0 sv Bs D .ready none with state := .busy }) := by rw [← hW2]; exact World.putObj_heap_same hl
  have hrow2 : W2.ownsRow B0 64 3 v ss.length (lc3 ss) := hrow5.kept hg2 (ownsRow_ne_a hrow5 hL5 (fun cur e => by first | cases e | exact hne (Obj.cells.inj e).2.1))
  have hb2 : Kept g0 w0 W2 := hb5.grownK hg2 (fun k e => by cases e; exact .inr h0l)
  have hx2 : At 64 W2 qx #[.int .i64 x0, .int .i64 x1, .int .i64 x2] := by rw [← hW2]; exact (World.putObj_heap_other (by omega)).trans hx5
  clear hW2 hg2 hv5 hK5 hL5 hrow5 hb5 hx5 hk5 hg5
  obtain ⟨hc2, hf2⟩ := cell_of_box_a hv2
  obtain ⟨d0, d1, d2, -⟩ := hx2.open3
  have hBlt : Bs < W2.heap.size := (Array.getElem?_eq_some_iff.1 hv2).1
  have hl2 : l < W2.heap.size := (Array.getElem?_eq_some_iff.1 hL2).1
  have hDlt : D < W2.heap.size := (Array.getElem?_eq_some_iff.1 hK2).1
  have ne_of : ∀ {j : Nat} {o : Obj}, W2.heap[j]? = some o → (∀ cur, o ≠ .cells cur 64 (0, 0)) → some j ≠ v.ownBlock := fun hj hno => by
    rcases ownsRow_ne_a hrow2 hj hno with e | e
    · rw [e]; simp
    · exact fun e' => e e'.symm
  obtain ⟨W6, hW6⟩ : ∃ W6, W2.alloc (.cells #[.int .i64 x0, .int .i64 x1, .int .i64 x2] 64) = W6 := ⟨_, rfl⟩
  have hg6 : W2.grownBy W6 none := by rw [← hW6]; exact World.grownBy_alloc W2 _ none
  have hx6 : At 64 W6 W2.heap.size #[.int .i64 x0, .int .i64 x1, .int .i64 x2] := by rw [← hW6]; exact World.alloc_heap_new W2 _
  have hrow6 : W6.ownsRow B0 64 3 v ss.length (lc3 ss) := by rw [← hW6]; exact hrow2.alloc _
  have hv6 : W6.heap[Bs]? = some (.cells #[v] 78 (0, 0)) := by rw [← hW6]; exact (Below.heap_alloc _ _ Bs hBlt).trans hv2
  have hK6 : W6.heap[D]? = some (.deferred (some [])) := by rw [← hW6]; exact (Below.heap_alloc _ _ D hDlt).trans hK2
  have hL6 : W6.heap[l]? = some (.loop { apRec3 fn a0 sv Bs D .ready none with state := .busy }) := by rw [← hW6]; exact (Below.heap_alloc _ _ l hl2).trans hL2
  have hs6 : W6.heap.size = W2.heap.size + 1 := by rw [← hW6]; simp
  have hb6 : Kept g0 w0 W6 := hb2.grownK hg6 (fun k e => by cases e)
  have hk6 : KpB w0.heap.size g0 W W6 := hk2.t (KpB.grownK hg6 hb2.size (fun k e => by cases e))
  have z6 : B0 ≤ W6.heap.size := Nat.le_trans hB0 hb6.size
  clear hk2 hg6
  unfold apAssign3
  gi_wp2_with (rw [Oper.semAt_eq _ _ _ (fun c h => by cases h)]; go_simp; try go_bits)
  unfold apBody3
  gi_wp2_with (first
    | (gi_at_builtin; refine wpListIn_append_own_at _ rfl _ _ 78 rfl B0 64 i0 _ 3 24 Tryz.underlying78 hi hz0 hz1 hz2 rfl (by decide) v _ _ rfl hrow6 ⟨W2.heap.size, 0, none⟩ 1 1 (e3 (x0, x1, x2)) rfl rfl (cell3_new W6 _ (x0, x1, x2) hx6) (e3_one (x0, x1, x2)) (by omega) (by omega) z6 ?_; intro v' w3 hown' hg3 hnil3 hat3
       have hv3 : w3.heap[Bs]? = some (.cells #[v] 78 (0, 0)) := (hg3.block Bs (by omega) (ne_of hv2 (fun cur e => by first | cases e | exact hne (Obj.cells.inj e).2.1))).trans hv6
       obtain ⟨hc3, hf3⟩ := cell_of_box_a hv3
       obtain ⟨g', cap', cur', rfl, hbase', hgb', hr1, hr2, hr3, hr4⟩ : ∃ g' cap' cur', v' = .slice (some ⟨g', 0, none⟩) (ss.length + 1) cap' ∧ B0 ≤ g' ∧ w3.heap[g']? = some (.cells cur' 64 (0, 0)) ∧ ss.length + 1 ≤ cap' ∧ cap' ≤ maxLen ∧ cur'.size = cap' * 3 ∧ cur'.toList.take ((ss.length + 1) * 3) = lc3 ss ++ e3 (x0, x1, x2) := by
         rcases hown'.2 with ⟨_, h0⟩ | h'
         · exact absurd h0 (by omega)
         · exact h'
       go_frame)
    | (rw [Oper.semAt_eq _ _ _ (fun c h => by cases h)]; go_simp; try go_bits))
  have hvb3 : ∀ k, some g' = some k → k = g0 ∨ w0.heap.size ≤ k := fun k e => by
    cases e
    rcases hat3 with e | e
    · exact hvb g' (by rw [← e]; rfl)
    · simp only [Value.ownBlock, Option.some.injEq] at e
      have := hb6.size
      exact .inr (by omega)
  have hL3 : w3.heap[l]? = some (.loop { apRec3 fn a0 sv Bs D .ready none with state := .busy }) := (hg3.block l (by omega) (ne_of hL2 (fun cur e => by first | cases e | exact hne (Obj.cells.inj e).2.1))).trans hL6
  have hK3 : w3.heap[D]? = some (.deferred (some [])) := (hg3.block D (by omega) (ne_of hK2 (fun cur e => by first | cases e | exact hne (Obj.cells.inj e).2.1))).trans hK6
  obtain ⟨w4, hw4⟩ : ∃ w4, w3.setCell ⟨Bs, 0, none⟩ (.slice (some ⟨g', 0, none⟩) (ss.length + 1) cap') = w4 := ⟨_, rfl⟩
  rw [hw4]
  have hg4 : w3.grownBy w4 (some Bs) := by rw [← hw4]; exact grownBy_setCell0_a _ _ _
  have hv4 : w4.heap[Bs]? = some (.cells #[.slice (some ⟨g', 0, none⟩) (ss.length + 1) cap'] 78 (0, 0)) := by rw [← hw4]; exact heap_setCell_box_a _ hv3
  have hL4 : w4.heap[l]? = some (.loop { apRec3 fn a0 sv Bs D .ready none with state := .busy }) := (hg4.block l (Array.getElem?_eq_some_iff.1 hL3).1 (fun e => hBl (by cases e; rfl))).trans hL3
  have hK4 : w4.heap[D]? = some (.deferred (some [])) := (hg4.block D (Array.getElem?_eq_some_iff.1 hK3).1 (fun e => hDB (by cases e; rfl))).trans hK3
  have hrow4 := hown'.kept hg4 (ownsRow_ne_a hown' hv3 (fun cur e => by first | cases e | exact hne (Obj.cells.inj e).2.1))
  have hl4 : l < w4.heap.size := (Array.getElem?_eq_some_iff.1 hL4).1
  have hb3 : Kept g0 w0 w3 := hb6.grownK hg3 hvb
  have hb4 : Kept g0 w0 w4 := hb3.grownK hg4 (fun k e => by cases e; exact .inr h0B)
  have hk4 : KpB w0.heap.size g0 W w4 := (hk6.t (KpB.grownK hg3 hb6.size hvb)).t (KpB.grownK hg4 hb3.size (fun k e => by cases e; exact .inr h0B))
  clear hw4
  refine ⟨_, _, run_endRound none hL4, rfl, ⟨⟨_, (World.putObj_heap_other hBl).trans hv4, ?_, ne_nil _ _ _, hvb3⟩, World.putObj_heap_same hl4, (World.putObj_heap_other hDl).trans hK4, hb4.grownK (grownBy_putObj_a _ _ _) (fun k e => by cases e; exact .inr h0l)⟩, hk4.t (KpB.grownK (grownBy_putObj_a _ _ _) hb4.size (fun k e => by cases e; exact .inr h0l))⟩
  have := hrow4.kept (grownBy_putObj_a w4 l (.loop { { apRec3 fn a0 sv Bs D .ready none with state := .busy } with state := if (none : Option Code).isNone then .ready else .done, pending := none })) (ownsRow_ne_a hrow4 hL4 (fun cur e => by first | cases e | exact hne (Obj.cells.inj e).2.1))
  rw [lc3_snoc]
  simpa using this
end Go.Proofs.YtgjhbkpocbihbaaGreat
