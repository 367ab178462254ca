/-
  Lists joined by the program and the specification, walked.
-/
import Derived.Test.YtglkddhifpnniaaCmp
import Derived.Test.YtglkddhifpnniaaOpH
import Derived.Lib.AppendZeros
import Derived.Lib.SliceRun
namespace Go.Proofs.Ytglkddhifpnniaa
open Go.RowKit

/-- Two lists, one behind the other. -/
def cat (n : Nat) (f h : Nat → Int) : Nat → Int := fun i => if i < n then f i else h (i - n)
theorem iCells_cat0 (n : Nat) (f h : Nat → Int) : iCells (cat n f h) n = iCells f n := iCells_congr (fun i hi => by simp [cat, hi])
theorem iCells_cat (n : Nat) (f h : Nat → Int) (k : Nat) : iCells (cat n f h) (n + k) = iCells f n ++ iCells h k := by
  induction k with
  | zero => rw [Nat.add_zero, iCells_cat0]; simp [iCells]
  | succ k ih =>
    show iCells (cat n f h) (n + k) ++ [.int .i64 (cat n f h (n + k))] = _
    rw [ih]
    have : ¬ n + k < n := by omega
    simp [iCells, cat, this]
theorem arr_of_owns {w : World} {base n : Nat} {v : Value} {f : Nat → Int} (h : w.ownsRow base 2 1 v n (iCells f n)) : Arr w base w.heap.size v n f := by
  by_cases hv : v = .slice none 0 0
  · rcases h.2 with ⟨h1, h2⟩ | ⟨g, c, cur, h1, -⟩
    · exact .inl ⟨h1, h2⟩
    · rw [hv] at h1; cases h1
  · obtain ⟨g, c, rfl, hb, hc, hm⟩ := made_of h hv
    exact .inr ⟨g, c, rfl, hb, hm.lt, hc, hm⟩
theorem own_below {w w' : World} {B : Nat} {e : TypeId} {k : Nat} {v : Value} {n : Nat} {xs : List Value} (h : w.ownsRow B e k v n xs) (hb : Below w.heap.size w w') : w'.ownsRow B e k v n xs := by
  refine ⟨h.1, h.2.imp id ?_⟩
  rintro ⟨g, cap, cur, rfl, h1, h2, h3⟩
  exact ⟨g, cap, cur, rfl, h1, (hb.block g (Array.getElem?_eq_some_iff.1 h2).1).trans h2, h3⟩
theorem ownBlock_ge {w : World} {base : Nat} {e : TypeId} {size : Nat} {v : Value} {n : Nat} {xs : List Value} (h : w.ownsRow base e size v n xs) {j : Nat} (hj : v.ownBlock = some j) : base ≤ j := by
  rcases h.2 with ⟨rfl, _⟩ | ⟨g, cap, cur, rfl, hb, _⟩
  · cases hj
  · cases hj; exact hb
theorem own_form {w : World} {base n : Nat} {v : Value} {xs : List Value} (h : w.ownsRow base 2 1 v n xs) : ∃ va vc, v = .slice va n vc := by
  rcases h.2 with ⟨h1, h2⟩ | ⟨g, c, cur, h1, -⟩
  · exact ⟨none, 0, by rw [h1, h2]⟩
  · exact ⟨_, _, h1⟩
def tot (n k : Nat) : Nat → Nat
  | 0 => 0
  | 1 => n
  | _ => n + k
end Go.Proofs.Ytglkddhifpnniaa
