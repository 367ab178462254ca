/-
  The forty-eight frames: their numbers, and what three of them make. No function of the program.
-/
import Derived.Test.YtgjhbkpocbihbaaMQ
import Derived.Test.YtgjhbkpocbihbaaMP
import Derived.Test.YtgjhbkpocbihbaaNS
namespace Go.Proofs.Ytgjhbkpocbihbaa
open Go.RowKit

/-- Which of the 512 are frames. -/
def vl (i : Nat) : Bool := decide (i % 8 / 2 ≤ 2 ∧ i / 8 % 8 / 2 ≤ 2 ∧ i / 64 / 2 ≤ 2 ∧ i % 8 / 2 ≠ i / 8 % 8 / 2 ∧ i % 8 / 2 ≠ i / 64 / 2 ∧ i / 8 % 8 / 2 ≠ i / 64 / 2)
/-- Their numbers. -/
def frM (i : Nat) (j : Nat) : Int := if j = 6 + i / 64 / 2 then 1 - 2 * ((i / 64 % 2 : Nat) : Int) else if j = 3 + i / 8 % 8 / 2 then 1 - 2 * ((i / 8 % 8 % 2 : Nat) : Int) else if j = i % 8 / 2 then 1 - 2 * ((i % 8 % 2 : Nat) : Int) else 0
def fr (i : Nat) : OpD := ⟨9, frM i, 3, fun _ => 0⟩
def frK (i : Nat) : Nat → Int := (fr i).key
/-- The three that make all. -/
def gnL (t : Nat) : List Int := if t = 0 then [-1, 0, 0, 0, 1, 0, 0, 0, 1, 0, 0, 0] else if t = 1 then [0, 1, 0, 1, 0, 0, 0, 0, 1, 0, 0, 0] else [0, 0, 1, 1, 0, 0, 0, 1, 0, 0, 0, 0]
def gnK (t : Nat) (j : Nat) : Int := (gnL t).getD j 0
def eqb (x y : Nat → Int) : Bool := (List.range 12).all fun i => x i == y i
theorem eqb_kV {x y : Nat → Int} (h : eqb x y = true) : kV x = kV y := by
  unfold eqb at h
  rw [List.all_eq_true] at h
  exact kV_inj.2 (lexC_zero.2 (fun j hj => by simpa using h j (List.mem_range.2 hj)))
theorem kV_eqb {x y : Nat → Int} (h : kV x = kV y) : eqb x y = true := by
  unfold eqb
  rw [List.all_eq_true]
  exact fun j hj => by simpa using lexC_zero.1 (kV_inj.1 h) j (List.mem_range.1 hj)
def vlF : List Nat := [20, 21, 28, 29, 34, 35, 42, 43, 84, 85, 92, 93, 98, 99, 106, 107, 132, 133, 140, 141, 160, 161, 168, 169, 196, 197, 204, 205, 224, 225, 232, 233, 258, 259, 266, 267, 272, 273, 280, 281, 322, 323, 330, 331, 336, 337, 344, 345]
def tbF : List Nat := [21, 34, 160, 20, 42, 168, 29, 35, 224, 28, 43, 232, 35, 20, 272, 34, 28, 280, 43, 21, 336, 42, 29, 344, 85, 98, 161, 84, 106, 169, 93, 99, 225, 92, 107, 233, 99, 84, 273, 98, 92, 281, 107, 85, 337, 106, 93, 345, 133, 160, 34, 132, 168, 42, 141, 161, 98, 140, 169, 106, 161, 132, 258, 160, 140, 266, 169, 133, 322, 168, 141, 330, 197, 224, 35, 196, 232, 43, 205, 225, 99, 204, 233, 107, 225, 196, 259, 224, 204, 267, 233, 197, 323, 232, 205, 331, 259, 272, 20, 258, 280, 28, 267, 273, 84, 266, 281, 92, 273, 258, 132, 272, 266, 140, 281, 259, 196, 280, 267, 204, 323, 336, 21, 322, 344, 29, 331, 337, 85, 330, 345, 93, 337, 322, 133, 336, 330, 141, 345, 323, 197, 344, 331, 205]
def orF : List Nat := [272, 273, 258, 132, 266, 140, 259, 20, 133, 160, 34, 267, 84, 141, 161, 98, 280, 28, 21, 168, 42, 35, 281, 92, 85, 169, 106, 99, 196, 29, 224, 322, 43, 336, 204, 93, 225, 330, 107, 337, 197, 232, 323, 344, 205, 233, 331, 345]
def paF : List (Nat × Nat) := [(0, 0), (0, 0), (0, 1), (0, 2), (1, 1), (1, 2), (2, 0), (2, 2), (3, 0), (3, 1), (3, 2), (4, 0), (4, 2), (5, 0), (5, 1), (5, 2), (6, 1), (6, 2), (7, 0), (8, 1), (8, 2), (10, 0), (11, 1), (11, 2), (12, 0), (13, 1), (13, 2), (15, 0), (16, 2), (17, 0), (17, 2), (19, 2), (20, 0), (20, 2), (22, 2), (23, 0), (23, 2), (25, 2), (26, 0), (26, 2), (28, 0), (29, 2), (31, 0), (32, 2), (34, 0), (35, 2), (37, 0), (38, 2)]
set_option maxRecDepth 100000 in
theorem vl_all : ∀ i, i < 512 → (vl i = true ↔ i ∈ vlF) := by decide +kernel
theorem vlF_lt : ∀ i ∈ vlF, i < 512 := by decide +kernel
set_option maxRecDepth 100000 in
theorem tb_all : ∀ k, k < 48 → ∀ t, t < 3 → eqb (mulQ (gnK t) (frK (vlF.getD k 0))) (frK (tbF.getD (k * 3 + t) 0)) = true ∧ tbF.getD (k * 3 + t) 0 ∈ vlF := by decide +kernel
set_option maxRecDepth 100000 in
theorem pa_all : ∀ k, k < 47 → (paF.getD (k + 1) (0, 0)).1 ≤ k ∧ (paF.getD (k + 1) (0, 0)).2 < 3 ∧ eqb (mulQ (gnK (paF.getD (k + 1) (0, 0)).2) (frK (orF.getD (paF.getD (k + 1) (0, 0)).1 0))) (frK (orF.getD (k + 1) 0)) = true := by decide +kernel
theorem or_all : ∀ i ∈ vlF, ∃ k, k < 48 ∧ orF.getD k 0 = i := by decide +kernel
theorem one_fr : eqb oneK (frK 272) = true := by decide +kernel
theorem or_first : orF.getD 0 0 = 272 := rfl
theorem one_vl : 272 ∈ vlF := by decide +kernel
set_option maxRecDepth 100000 in
theorem fr_R : ∀ i ∈ vlF, kR (frK i) := by decide +kernel
theorem gn_R : ∀ t, t < 3 → kR (gnK t) := by decide +kernel
set_option maxRecDepth 100000 in
theorem fr_inj : ∀ i ∈ vlF, ∀ j ∈ vlF, eqb (frK i) (frK j) = true → i = j := by decide +kernel
theorem vl_at {i : Nat} (h : i ∈ vlF) : ∃ k, k < 48 ∧ vlF.getD k 0 = i := by
  obtain ⟨k, hk, e⟩ := List.getElem_of_mem h
  exact ⟨k, hk, by rw [List.getD_eq_getElem?_getD, List.getElem?_eq_getElem hk]; exact e⟩
/-- Whatever the three make is a frame. -/
theorem reachL_fr {x : Nat → Int} (h : ReachL 3 gnK x) : ∃ i, i ∈ vlF ∧ kV x = kV (frK i) := by
  induction h with
  | base h => exact ⟨272, one_vl, h.trans (eqb_kV one_fr)⟩
  | step h1 h2 h3 ih =>
    obtain ⟨i, hi, e⟩ := ih
    obtain ⟨k, hk, ek⟩ := vl_at hi
    obtain ⟨a, b⟩ := tb_all k hk _ h2
    refine ⟨_, b, h3.trans (Eq.trans (mulQ_congr2 e) ?_)⟩
    rw [← ek]
    exact eqb_kV a
/-- Each frame is made. -/
theorem fr_reachO : ∀ k, k < 48 → ReachL 3 gnK (frK (orF.getD k 0)) := by
  intro k
  induction k using Nat.strongRecOn with
  | ind k ih =>
    intro hk
    cases k with
    | zero => exact .base (by rw [or_first]; exact (eqb_kV one_fr).symm)
    | succ k =>
      obtain ⟨h1, h2, h3⟩ := pa_all k (by omega)
      exact .step (ih _ (by omega) (by omega)) h2 (eqb_kV h3).symm
theorem fr_reach {i : Nat} (h : i ∈ vlF) : ReachL 3 gnK (frK i) := by
  obtain ⟨k, hk, rfl⟩ := or_all i h
  exact fr_reachO k hk
theorem fr_notBad : ¬ BadL 3 gnK := by
  rintro (⟨x, h1, h2⟩ | ⟨ls, h1, h2, h3⟩)
  · obtain ⟨i, hi, e⟩ := reachL_fr h1
    exact h2 (kR_congr e.symm (fr_R i hi))
  · have := h2.length_le_of_subset (l₂ := vlF.map (fun i => kV (frK i))) (fun v hv => by
      obtain ⟨x, hx, rfl⟩ := List.mem_map.1 hv
      obtain ⟨i, hi, e⟩ := reachL_fr (h3 x hx)
      exact List.mem_map.2 ⟨i, hi, e.symm⟩)
    rw [List.length_map, List.length_map, h1] at this
    exact absurd this (by decide)
theorem fr_okD {i : Nat} (h : i ∈ vlF) : (fr i).ok := by
  obtain ⟨r1, r2, r3⟩ := fr_R i h
  have lo : ∀ j, j < 9 → (fr i).key j = frM i j := fun j hj => key_lo (fr i) hj
  refine ⟨rfl, rfl, fun j hj => ?_, fun j hj => ⟨by show (0 : Int) ≤ 0; omega, by show (0 : Int) < 24; omega⟩, ?_⟩
  · have := r1 j hj
    unfold frK at this
    rw [lo j hj] at this
    exact this
  · have : det3 (fr i).key = det3 (frM i) := det3_congr lo
    rw [← show det3 (frM i) = det3 (fr i).f from rfl, ← this]
    exact r3
/-- What SameKind tells. -/
def SkT (n : Nat) (A : Nat → OpD) (m : Nat) (C : Nat → OpD) : Prop :=
  isG n A ∧ isG m C ∧ n = m ∧ ∃ i, i ∈ vlF ∧ TurOk n A (fr i) ∧ ((List.range n).map (fun t => kV (wholeD (fr i) A t).key)).Perm ((List.range n).map (fun t => kV (C t).key))
/-- Two lists in order that hold the same. -/
theorem sorted_same {n : Nat} {F G : Nat → Nat → Int} (hp : ((List.range n).map (fun t => kV (F t))).Perm ((List.range n).map (fun t => kV (G t)))) (hF : ∀ i j, i < j → j < n → ¬ lexC 12 (F j) (F i) < 0) (hG : ∀ i j, i < j → j < n → ¬ lexC 12 (G j) (G i) < 0) : ∀ i, i < n → kV (F i) = kV (G i) := by
  have heq : (List.range n).map (fun t => kV (F t)) = (List.range n).map (fun t => kV (G t)) := by
    refine List.Perm.eq_of_pairwise (le := leV) ?_ ?_ ?_ hp
    · intro a b ha hb h1 h2
      obtain ⟨x, y, rfl, rfl, h⟩ := h1
      rw [leV_iff] at h2
      refine kV_inj.2 ?_
      rcases lexC_range 12 x y with e | e | e
      · exact absurd (by omega : lexC 12 x y < 0) h2
      · exact e
      · exact absurd (lexC_pos.1 (by omega : 0 < lexC 12 x y)) h
    · rw [List.pairwise_iff_getElem]
      intro i j hi hj hij
      simp only [List.getElem_map, List.getElem_range]
      simp at hj
      exact leV_iff.2 (hF i j hij hj)
    · rw [List.pairwise_iff_getElem]
      intro i j hi hj hij
      simp only [List.getElem_map, List.getElem_range]
      simp at hj
      exact leV_iff.2 (hG i j hij hj)
  intro i hi
  have : ((List.range n).map (fun t => kV (F t)))[i]'(by simp; omega) = ((List.range n).map (fun t => kV (G t)))[i]'(by simp; omega) := by simp only [heq]
  simpa only [List.getElem_map, List.getElem_range] using this
theorem rises_le {n : Nat} {A : Nat → OpD} (h : Rises n A) : ∀ i j, i < j → j < n → ¬ lexC 12 (A j).key (A i).key < 0 := fun i j hij hj e => by
  have h1 := h.lt hij hj
  exact lexC_irrefl 12 _ (lexC_trans e h1)
theorem perm_of_same {n : Nat} {F G : Nat → Nat → Int} (h : ∀ i, i < n → kV (F i) = kV (G i)) : ((List.range n).map (fun t => kV (F t))).Perm ((List.range n).map (fun t => kV (G t))) :=
  List.Perm.of_eq (List.map_congr_left (fun t ht => h t (List.mem_range.1 ht)))
/-- Of one frame: the specification's list is the other group just so. -/
theorem skS {n m m' i : Nat} {A C H : Nat → OpD} {b : Bool} (hA : isG n A) (hC : isG m C) (_hi : i ∈ vlF) (hS : TurS n A (fr i) m' H b) :
    (b = true ∧ m' = m ∧ ∀ t, t < m' → lexC 12 (H t).key (C t).key = 0) ↔ (n = m ∧ TurOk n A (fr i) ∧ ((List.range n).map (fun t => kV (wholeD (fr i) A t).key)).Perm ((List.range n).map (fun t => kV (C t).key))) := by
  rcases hS with ⟨rfl, rfl, -, hok, hI⟩ | ⟨rfl, rfl, hno⟩
  · constructor
    · rintro ⟨-, rfl, h⟩
      exact ⟨rfl, hok, hI.pe.symm.trans (perm_of_same (F := fun t => (H t).key) (G := fun t => (C t).key) (fun t ht => kV_inj.2 (h t ht)))⟩
    · rintro ⟨rfl, -, hp⟩
      exact ⟨rfl, rfl, fun t ht => kV_inj.1 (sorted_same (F := fun t => (H t).key) (G := fun t => (C t).key) (hI.pe.trans hp) hI.le (rises_le hC.2.2.1) t ht)⟩
  · exact ⟨fun h => absurd h.1 (by decide), fun h => absurd h.2.1 hno⟩
/-- Of one frame: the program's list is the other group just so. -/
theorem skT {n m m' i : Nat} {A C : Nat → OpD} {G : Nat → Nat → Int} {b : Bool} (hA : isG n A) (hC : isG m C) (_hi : i ∈ vlF) (hT : TurT n A (fr i) m' G b) :
    (m' = m ∧ ∀ t, t < m' → lexC 12 (G t) (C t).key = 0) ↔ (n = m ∧ TurOk n A (fr i) ∧ ((List.range n).map (fun t => kV (wholeD (fr i) A t).key)).Perm ((List.range n).map (fun t => kV (C t).key))) := by
  rcases hT with ⟨-, rfl, hok, hp, hs⟩ | ⟨-, rfl, hno⟩
  · rw [List.map_map] at hp
    have hp' : ((List.range m').map (fun t => kV (G t))).Perm ((List.range m').map (fun t => kV (wholeD (fr i) A t).key)) := hp
    constructor
    · rintro ⟨rfl, h⟩
      exact ⟨rfl, hok, hp'.symm.trans (perm_of_same (F := G) (G := fun t => (C t).key) (fun t ht => kV_inj.2 (h t ht)))⟩
    · rintro ⟨rfl, -, hq⟩
      exact ⟨rfl, fun t ht => kV_inj.1 (sorted_same (F := G) (G := fun t => (C t).key) (hp'.trans hq) hs (rises_le hC.2.2.1) t ht)⟩
  · refine ⟨fun h => ?_, fun h => absurd h.2.1 hno⟩
    obtain ⟨j, hj, -⟩ := hC.2.2.2.1
    have := h.1
    omega
end Go.Proofs.Ytgjhbkpocbihbaa
