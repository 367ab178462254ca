/-
  Slopes back: how they stand. No function of the law.
-/
import Derived.Test.YtloailicdoknbaaS15c
import Derived.Test.YtloailicdoknbaaD15c
namespace Go.Proofs.Ytloailicdoknbaa
open Go.RowKit

/-- The first j slopes of a node are added, each at its place. -/
def bst (pf : Nat → Int) (al : Int) (D : Nat → Int) : Nat → Nat → Int
  | 0 => D
  | j + 1 => upd (bst pf al D j) (pf (j * 2)).toNat (mp (bst pf al D j (pf (j * 2)).toNat + al * pf (j * 2 + 1)))
/-- The last t nodes, one by one: the slopes along inputs and nodes, at the program's places. -/
def bk (n inp : Nat) (f v : Nat → Int) : Nat → Nat → Int
  | 0 => un (inp + n - 1)
  | t + 1 => bst (spF (inp : Int) (f ((n - 1 - t) * 3)) (f ((n - 1 - t) * 3 + 1)) (f ((n - 1 - t) * 3 + 2)) v) (bk n inp f v t (inp + (n - 1 - t))) (bk n inp f v t) (spM (f ((n - 1 - t) * 3)))
theorem bst_in {pf D : Nat → Int} {al : Int} (h : ∀ i, 0 ≤ D i ∧ D i < 12289) : ∀ j i, 0 ≤ bst pf al D j i ∧ bst pf al D j i < 12289
  | 0, i => h i
  | j + 1, i => by
    unfold bst upd
    split
    · exact mp_in _
    · exact bst_in h j i
theorem bk_in (n inp : Nat) (f v : Nat → Int) : ∀ t i, 0 ≤ bk n inp f v t i ∧ bk n inp f v t i < 12289
  | 0, i => by unfold bk un; split <;> omega
  | t + 1, i => by rw [bk]; exact bst_in (bk_in n inp f v t) _ i
theorem bst_two (pf : Nat → Int) (al : Int) (D : Nat → Int) (j : Nat) : bst pf al D (j + 1) = upd (bst pf al D j) (pf (j * 2)).toNat (mp (bst pf al D j (pf (j * 2)).toNat + al * pf (j * 2 + 1))) := rfl
/-- Node i's step, an input. -/
theorem bk_one {n inp : Nat} {f v : Nat → Int} {t i : Nat} (hi : n - 1 - t = i) : bk n inp f v (t + 1) = bst (spF (inp : Int) (f (i * 3)) (f (i * 3 + 1)) (f (i * 3 + 2)) v) (bk n inp f v t (inp + i)) (bk n inp f v t) (spM (f (i * 3))) := by
  subst hi
  rfl
theorem mp_minus (x y : Int) : mp (x + y * -1) = mp (x + 12289 - y) := by
  unfold mp
  omega
end Go.Proofs.Ytloailicdoknbaa
