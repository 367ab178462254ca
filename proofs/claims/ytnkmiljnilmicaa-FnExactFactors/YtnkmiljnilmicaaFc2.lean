/-
  Factors by the program, its stretches counted: walked.
-/
import Derived.Test.YtnkmiljnilmicaaFc1
import Derived.Test.YtnkmiljnilmicaaMpTb
import Derived.Test.YtnkmiljnilmicaaTb
import Derived.RangeFuncLeaves
namespace Go.Proofs.Ytnkmiljnilmicaa
open Go.RowKit Go.Shelf
attribute [local go_sem] Oper.semAt_some

theorem keepsF_below {B : Nat} {W W' : World} (h : Below W.heap.size W W') : KeepsFrom B W W' := ⟨h.size, fun k _ _ hk _ => (h.block k (Array.getElem?_eq_some_iff.1 hk).1).trans hk⟩
theorem wfI {n : Int} (h : -1000000 ≤ n ∧ n ≤ 1000000) : (Lit.int .i64 n).wf = true := by
  have h1 : -9223372036854775808 ≤ n ∧ n ≤ 9223372036854775807 := by omega
  simpa [Lit.wf, IntKind.min, IntKind.max, IntKind.bits, IntKind.signed] using h1
/-- How often a text stands in a list. -/
def ctT (l : List ByteArray) (x : ByteArray) : Int := ((l.countP fun y => decide (y = x) : Nat) : Int)
theorem ctT_snoc (l : List ByteArray) (y : ByteArray) : ctT (l ++ [y]) = setI (ctT l) y (ctT l y + 1) := by
  funext x
  unfold ctT setI
  rw [List.countP_append]
  by_cases e : x = y
  · subst e
    simp
  · rw [if_neg e]
    have : ¬ y = x := fun h => e h.symm
    simp [this]
theorem ctT_nil : ctT [] = fun _ => 0 := rfl
theorem ctT_le (l : List ByteArray) (x : ByteArray) : 0 ≤ ctT l x ∧ ctT l x ≤ l.length := by
  unfold ctT
  have := List.countP_le_length (p := fun y => decide (y = x)) (l := l)
  omega
/-- The texts at some places. -/
def sxL (s : ByteArray) (n : Nat) (l : List Nat) : List ByteArray := l.map (sx s n)
/-- The memory while the stretches are counted. -/
def CtI (w W3 : World) (bm : Nat) (s : ByteArray) (n : Nat) (l : List Nat) (W : World) : Prop :=
  Below w.heap.size w W ∧ KpS W3.heap.size (fun k => k = bm) W3 W ∧ ∃ ks, MapI W bm ks (ctT (sxL s n l)) ∧ ks.length ≤ l.length
theorem CtI.below {w W3 W W' : World} {bm n : Nat} {s : ByteArray} {l : List Nat} (h : CtI w W3 bm s n l W) (h1 : w.heap.size ≤ W3.heap.size) (hb : Below W.heap.size W W') : CtI w W3 bm s n l W' := by
  obtain ⟨a, b, ks, c, d⟩ := h
  exact ⟨a.trans (hb.mono (Nat.le_trans h1 b.1)), b.t (KpS.below hb b.1), ks, c.below hb, d⟩
theorem CtI.own {w W3 : World} {bm n m : Nat} {s : ByteArray} (h1 : w.heap.size ≤ W3.heap.size) (h2 : bm < W3.heap.size) : OwnFrom W3.heap.size (fun (pre : List { x : Nat // x < m }) W => CtI w W3 bm s n (pre.map (·.1)) W) := by
  rintro l X Y row ⟨a, b, ks, c, d⟩ hg hr
  have hne : ∀ j, j < W3.heap.size → Y.heap[j]? = X.heap[j]? := fun j hj => hg.block j (Nat.lt_of_lt_of_le hj b.1) (fun e => by have := (hr j e.symm).1; omega)
  exact ⟨a.trans ((Below.refl _ X).grown hg (Nat.le_trans h1 b.1) (fun r e => Nat.le_trans h1 (hr r e).1)), ⟨Nat.le_trans b.1 hg.size, fun j hj hS => (hne j hj).trans (b.2 j hj hS)⟩, ks, c.of_block (hne _ h2), d⟩
end Go.Proofs.Ytnkmiljnilmicaa
