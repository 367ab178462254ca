/-
  Lists of triples that rise and hold what was put in. No function of the program.
-/
import Derived.Test.YtehbpcoiciodhaaGreatK3sP
import Derived.Test.YtehbpcoiciodhaaGreatE12c
import Derived.Test.YtehbpcoiciodhaaGreatE7a
namespace Go.Proofs.YtehbpcoiciodhaaGreat
open Go.RowKit Go.Lib

/-- The numbers of a list of triples, one behind the other. -/
def fl3 (F : Nat → T3) (i : Nat) : Int := t3f (F (i / 3)) (i % 3)
theorem fl3_at (F : Nat → T3) (k : Nat) : fl3 F (k * 3) = (F k).1 ∧ fl3 F (k * 3 + 1) = (F k).2.1 ∧ fl3 F (k * 3 + 2) = (F k).2.2 := by
  unfold fl3
  rw [show k * 3 / 3 = k by omega, show k * 3 % 3 = 0 by omega, show (k * 3 + 1) / 3 = k by omega, show (k * 3 + 1) % 3 = 1 by omega, show (k * 3 + 2) / 3 = k by omega, show (k * 3 + 2) % 3 = 2 by omega]
  exact ⟨rfl, rfl, rfl⟩
theorem fl3_congr {F G : Nat → T3} {n : Nat} (h : ∀ t, t < n → F t = G t) {i : Nat} (hi : i < n * 3) : fl3 F i = fl3 G i := by
  unfold fl3
  rw [h _ (by omega)]
theorem c3_zero {x y : T3} : c3 x y = 0 ↔ x = y := by
  unfold c3
  rw [lexC_zero]
  constructor
  · intro h
    have h0 := h 0 (by omega)
    have h1 := h 1 (by omega)
    have h2 := h 2 (by omega)
    obtain ⟨a, b, c⟩ := x
    obtain ⟨a', b', c'⟩ := y
    simp only [t3f] at h0 h1 h2
    simp at h0 h1 h2
    rw [h0, h1, h2]
  · rintro rfl j _
    rfl
theorem c3_pos {x y : T3} : 0 < c3 x y ↔ c3 y x < 0 := lexC_pos
theorem c3_trans {x y z : T3} (h1 : c3 x y < 0) (h2 : c3 y z < 0) : c3 x z < 0 := lexC_trans h1 h2
theorem c3_tri (x y : T3) : c3 x y < 0 ∨ x = y ∨ c3 y x < 0 := by
  rcases lexC_range 3 (t3f x) (t3f y) with e | e | e
  · exact .inl (by unfold c3; omega)
  · exact .inr (.inl (c3_zero.1 e))
  · exact .inr (.inr (c3_pos.1 (by unfold c3; omega)))
/-- The first i have been put in: the list rises, and has these. -/
structure OrbI (P : Nat → T3) (i m : Nat) (F : Nat → T3) : Prop where
  up : ∀ t, t + 1 < m → c3 (F t) (F (t + 1)) < 0
  of : ∀ t, t < m → ∃ j, j < i ∧ F t = P j
  has : ∀ j, j < i → ∃ t, t < m ∧ F t = P j
  le : m ≤ i
theorem OrbI.start (P F : Nat → T3) : OrbI P 0 0 F := ⟨fun t ht => by omega, fun t ht => by omega, fun j hj => by omega, Nat.le_refl _⟩
theorem OrbI.skip {P F : Nat → T3} {i m t : Nat} (h : OrbI P i m F) (ht : t < m) (e : F t = P i) : OrbI P (i + 1) m F := by
  refine ⟨h.up, fun s hs => ?_, fun j hj => ?_, by have := h.le; omega⟩
  · obtain ⟨j, hj, e⟩ := h.of s hs
    exact ⟨j, by omega, e⟩
  · by_cases ej : j = i
    · subst ej; exact ⟨t, ht, e⟩
    · exact h.has j (by omega)
theorem OrbI.add {P F : Nat → T3} {i m c : Nat} (h : OrbI P i m F) (hc : c ≤ m) (lo : ∀ t, t < c → c3 (F t) (P i) < 0) (hi : c < m → c3 (P i) (F c) < 0) : OrbI P (i + 1) (m + 1) (ins c F (P i)) := by
  refine ⟨fun t ht => ?_, fun s hs => ?_, fun j hj => ?_, by have := h.le; omega⟩
  · rcases Nat.lt_trichotomy (t + 1) c with e | e | e
    · rw [ins_lo (by omega), ins_lo e]; exact h.up t (by omega)
    · rw [ins_lo (show t < c by omega), e, ins_at]; exact lo t (by omega)
    · rw [ins_hi e]
      by_cases e' : t = c
      · rw [e', ins_at, show c + 1 - 1 = c by omega]; exact hi (by omega)
      · rw [ins_hi (show c < t by omega)]
        have := h.up (t - 1) (by omega)
        rwa [show t - 1 + 1 = t + 1 - 1 by omega] at this
  · rcases Nat.lt_trichotomy s c with e | e | e
    · rw [ins_lo e]
      obtain ⟨j, hj, e⟩ := h.of s (by omega)
      exact ⟨j, by omega, e⟩
    · subst e; exact ⟨i, by omega, ins_at _ _ _⟩
    · rw [ins_hi e]
      obtain ⟨j, hj, e⟩ := h.of (s - 1) (by omega)
      exact ⟨j, by omega, e⟩
  · by_cases ej : j = i
    · subst ej; exact ⟨c, by omega, ins_at _ _ _⟩
    · obtain ⟨t, ht, e⟩ := h.has j (by omega)
      by_cases et : t < c
      · exact ⟨t, by omega, by rw [ins_lo et]; exact e⟩
      · exact ⟨t + 1, by omega, by rw [ins_hi (by omega), Nat.add_sub_cancel]; exact e⟩
theorem OrbI.same {P F F' : Nat → T3} {n m m' : Nat} (h : OrbI P n m F) (h' : OrbI P n m' F') : m = m' ∧ ∀ t, t < m → F t = F' t := by
  obtain ⟨e1, e2⟩ := rising_same (K := 3) (G := fun t => t3f (F t)) (H := fun t => t3f (F' t)) (n := m) (m := m') h.up h'.up (fun i hi => by
    obtain ⟨j, hj, e⟩ := h.of i hi
    obtain ⟨t, ht, e'⟩ := h'.has j hj
    exact ⟨t, ht, c3_zero.2 (e.trans e'.symm)⟩) (fun i hi => by
    obtain ⟨j, hj, e⟩ := h'.of i hi
    obtain ⟨t, ht, e'⟩ := h.has j hj
    exact ⟨t, ht, c3_zero.2 (e'.trans e.symm)⟩)
  exact ⟨e1, fun t ht => c3_zero.1 (e2 t ht)⟩
theorem OrbI.congr {P P' F : Nat → T3} {n m : Nat} (h : OrbI P n m F) (e : ∀ j, j < n → P j = P' j) : OrbI P' n m F := by
  refine ⟨h.up, fun t ht => ?_, fun j hj => ?_, h.le⟩
  · obtain ⟨j, hj, e1⟩ := h.of t ht
    exact ⟨j, hj, e1.trans (e j hj)⟩
  · obtain ⟨t, ht, e1⟩ := h.has j hj
    exact ⟨t, ht, e1.trans (e j hj)⟩
/-- Sorted and made compact. -/
theorem orb_compact {P : Nat → T3} {n : Nat} {d d' : Array T3} (hd : d.size = n) (hP : ∀ i, i < n → d[i]! = P i) (hs : d'.size = n) (hp : d'.toList.Perm d.toList) (hso : ∀ i j, i < j → j < n → ¬ c3 d'[j]! d'[i]! < 0) : OrbI P n (compactUpTo d' n).length (fun t => (compactUpTo d' n)[t]!) := by
  have S := stay_of (K := 3) (F := fun i => t3f d'[i]!) (n := n) hso
  have ek : ∀ j, keeps d' j = dupK 3 (fun i => t3f d'[i]!) j := fun j => by
    unfold keeps dupK
    refine decide_eq_decide.2 ?_
    have : lexC 3 (t3f d'[j]!) (t3f d'[j - 1]!) = 0 ↔ d'[j]! = d'[j - 1]! := c3_zero
    rw [this]
  have ef : keeps d' = dupK 3 (fun i => t3f d'[i]!) := funext ek
  have el : compactUpTo d' n = (kL (dupK 3 (fun i => t3f d'[i]!)) n).map (d'[·]!) := by
    unfold compactUpTo kL
    rw [ef]
  have len : (compactUpTo d' n).length = kN (dupK 3 (fun i => t3f d'[i]!)) n := by rw [el]; simp [kN]
  have get : ∀ t, t < kN (dupK 3 (fun i => t3f d'[i]!)) n → (compactUpTo d' n)[t]! = d'[kI (dupK 3 (fun i => t3f d'[i]!)) n t]! := fun t ht => by
    rw [List.getElem!_eq_getElem?_getD, el, List.getElem?_map]
    have hl : t < (kL (dupK 3 (fun i => t3f d'[i]!)) n).length := ht
    unfold kI
    simp [List.getElem?_eq_getElem hl]
  have mem : ∀ i, i < n → ∃ j, j < n ∧ d'[i]! = P j := fun i hi => by
    have h1 : d'[i]! ∈ d'.toList := by rw [getElem!_pos _ i (by omega)]; simp
    have h2 := hp.mem_iff.1 h1
    obtain ⟨j, hj, e⟩ := List.getElem_of_mem h2
    have hj' : j < d.size := by simpa using hj
    refine ⟨j, by omega, ?_⟩
    rw [← hP j (by omega), getElem!_pos _ j hj', ← e]
    simp
  have mem' : ∀ j, j < n → ∃ i, i < n ∧ d'[i]! = P j := fun j hj => by
    have h1 : P j ∈ d.toList := by rw [← hP j hj, getElem!_pos _ j (by omega)]; simp
    have h2 := hp.mem_iff.2 h1
    obtain ⟨i, hi, e⟩ := List.getElem_of_mem h2
    have hi' : i < d'.size := by simpa using hi
    refine ⟨i, by omega, ?_⟩
    rw [getElem!_pos _ i hi', ← e]
    simp
  rw [len]
  refine ⟨fun t ht => ?_, fun t ht => ?_, fun j hj => ?_, kN_le _ _⟩
  · show c3 (compactUpTo d' n)[t]! (compactUpTo d' n)[t + 1]! < 0
    rw [get t (by omega), get (t + 1) ht]
    exact S.up t ht
  · show ∃ j, j < n ∧ (compactUpTo d' n)[t]! = P j
    rw [get t ht]
    exact mem _ (kI_lt ht)
  · obtain ⟨i, hi, e⟩ := mem' j hj
    obtain ⟨t, ht, e'⟩ := S.all i hi
    refine ⟨t, ht, ?_⟩
    show (compactUpTo d' n)[t]! = P j
    rw [get t ht, ← e]
    exact c3_zero.1 e'
end Go.Proofs.YtehbpcoiciodhaaGreat
