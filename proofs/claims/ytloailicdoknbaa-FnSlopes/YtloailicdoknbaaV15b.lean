/-
  Values of a tape's nodes: what they are. No walk.
-/
import Derived.Test.YtloailicdoknbaaV15a
namespace Go.Proofs.Ytloailicdoknbaa
open Go.RowKit

/-- A node's value, given those ahead of it. -/
def nd (x v : Nat → Int) (op a b : Int) : Int :=
  if op = 1 then x a.toNat else if op = 2 then v a.toNat + v b.toNat else if op = 3 then v a.toNat * v b.toNat else if op = 4 then - v a.toNat else a
def tL (m : Int → Int) (f x : Nat → Int) : Nat → List Int
  | 0 => []
  | k + 1 => tL m f x k ++ [m (nd x (fun j => (tL m f x k).getD j 0) (f (k * 3)) (f (k * 3 + 1)) (f (k * 3 + 2)))]
/-- Node k's value; m is what is done with each. -/
def tv (m : Int → Int) (f x : Nat → Int) (k : Nat) : Int := m (nd x (fun j => (tL m f x k).getD j 0) (f (k * 3)) (f (k * 3 + 1)) (f (k * 3 + 2)))
theorem tL_eq (m : Int → Int) (f x : Nat → Int) : ∀ k, tL m f x k = (List.range k).map (tv m f x)
  | 0 => rfl
  | k + 1 => by rw [tL, List.range_succ, List.map_append, ← tL_eq m f x k]; rfl
theorem nd_congr {x x' v v' : Nat → Int} {inp : Int} {k : Nat} {op a b : Int} (h : stOk inp (k : Int) op a b) (hx : ∀ j : Nat, (j : Int) < inp → x j = x' j) (hv : ∀ j, j < k → v j = v' j) : nd x v op a b = nd x' v' op a b := by
  unfold nd
  unfold stOk at h
  by_cases h1 : op = 1
  · rw [if_pos h1, if_pos h1]
    exact hx _ (by omega)
  rw [if_neg h1, if_neg h1]
  by_cases h2 : op = 2
  · rw [if_pos h2, if_pos h2, hv _ (by omega), hv _ (by omega)]
  rw [if_neg h2, if_neg h2]
  by_cases h3 : op = 3
  · rw [if_pos h3, if_pos h3, hv _ (by omega), hv _ (by omega)]
  rw [if_neg h3, if_neg h3]
  by_cases h4 : op = 4
  · rw [if_pos h4, if_pos h4, hv _ (by omega)]
  rw [if_neg h4, if_neg h4]
theorem tv_eq (m : Int → Int) {n : Nat} {inp : Int} {f : Nat → Int} (x : Nat → Int) (ok : TpOk n inp f) {k : Nat} (hk : k < n) : tv m f x k = m (nd x (tv m f x) (f (k * 3)) (f (k * 3 + 1)) (f (k * 3 + 2))) := by
  rw [tv, nd_congr (ok.2.2 k hk) (fun _ _ => rfl) (fun j hj => ?_)]
  rw [tL_eq]
  simp [List.getD, hj]
/-- The list that the program reckons on: the inputs, then the nodes. -/
def Fx (inp : Nat) (x v : Nat → Int) (j : Nat) : Int := if j < inp then x j else v (j - inp)
theorem Fx_in {inp : Nat} (x v : Nat → Int) {j : Nat} (h : j < inp) : Fx inp x v j = x j := if_pos h
theorem Fx_at (inp : Nat) (x v : Nat → Int) (j : Nat) : Fx inp x v (inp + j) = v j := by
  unfold Fx
  rw [if_neg (by omega), Nat.add_sub_cancel_left]
theorem iCells_Fx0 (inp : Nat) (x v : Nat → Int) : iCells (Fx inp x v) inp = iCells x inp := iCells_congr fun _ hi => Fx_in x v hi
theorem iCells_more (F : Nat → Int) (m : Nat) : iCells F m ++ [.int .i64 (F m)] = iCells F (m + 1) := by
  rw [iCells_snoc]
  refine iCells_congr fun i hi => ?_
  by_cases e : i = m
  · rw [if_pos e, e]
  · rw [if_neg e]
theorem Gv.ints {w0 w : World} {B : Nat} {v : Value} {m : Nat} {F : Nat → Int} (s : Gv w0 w B 2 v m (iCells F m)) : ∃ g c, v = .slice (some ⟨g, 0, none⟩) m c ∧ B ≤ g ∧ m ≤ c ∧ g < w.heap.size ∧ Ints w g 0 m F := by
  obtain ⟨g, c, e, h1, h2, h3, -, h5⟩ := s.open
  exact ⟨g, c, e, h1, h2, h3, fun i hi => by rw [Nat.zero_add]; exact h5 i _ (iCells_at F hi)⟩
/-- A value modulo the prime. -/
def mp (z : Int) : Int := z % 12289
theorem mp_in (z : Int) : 0 ≤ mp z ∧ mp z < 12289 := by unfold mp; omega
theorem tv_in (f x : Nat → Int) (k : Nat) : 0 ≤ tv mp f x k ∧ tv mp f x k < 12289 := mp_in _
/-- Five ways of a right step. -/
theorem stOk.ways {inp i op a b : Int} (h : stOk inp i op a b) :
    (op = 1 ∧ b = 0 ∧ ∃ A : Nat, a = (A : Int) ∧ (A : Int) < inp) ∨ (op = 2 ∧ ∃ A B : Nat, a = (A : Int) ∧ b = (B : Int) ∧ (A : Int) < i ∧ (B : Int) < i) ∨ (op = 3 ∧ ∃ A B : Nat, a = (A : Int) ∧ b = (B : Int) ∧ (A : Int) < i ∧ (B : Int) < i) ∨ (op = 4 ∧ b = 0 ∧ ∃ A : Nat, a = (A : Int) ∧ (A : Int) < i) ∨ (op = 5 ∧ b = 0) := by
  rcases h with ⟨h1, h2, h3⟩ | ⟨h1, h2, h3⟩ | ⟨h1, h2, h3⟩ | ⟨h1, h2⟩
  · exact .inl ⟨h1, h3, a.toNat, by omega, by omega⟩
  · rcases h1 with h1 | h1
    · exact .inr (.inl ⟨h1, a.toNat, b.toNat, by omega, by omega, by omega, by omega⟩)
    · exact .inr (.inr (.inl ⟨h1, a.toNat, b.toNat, by omega, by omega, by omega, by omega⟩))
  · exact .inr (.inr (.inr (.inl ⟨h1, h3, a.toNat, by omega, by omega⟩)))
  · exact .inr (.inr (.inr (.inr ⟨h1, h2⟩)))
end Go.Proofs.Ytloailicdoknbaa
