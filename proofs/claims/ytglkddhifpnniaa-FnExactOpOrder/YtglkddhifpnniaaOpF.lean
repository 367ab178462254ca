/-
  The law on right operators, walked.
-/
import Derived.Test.YtglkddhifpnniaaOpD
import Derived.Test.YtglkddhifpnniaaOpE
namespace Go.Proofs.Ytglkddhifpnniaa
open Go.RowKit

/-- The numbers that are taken in. -/
def tf (n k : Nat) (f : Nat → Int) : Nat → Int := if n = 9 ∧ k = 3 then f else fun _ => 0
theorem operatorOf_any {w : World} {a b : Option Addr} {n k : Nat} {f h : Nat → Int} (cap cap' : Nat) (hs : Src w a n f) (ht : Src w b k h) :
    Calls Try.prog 21 #[.agg #[.slice a n cap, .slice b k cap']] w fun e w' => e = .returned (.tuple #[.agg (opA (tf n k f) (tf n k h)), .bool (decide (isOp n f k h))]) ∧ Below w.heap.size w w' := by
  by_cases hnk : n = 9 ∧ k = 3
  · obtain ⟨rfl, rfl⟩ := hnk
    rcases hs with h0 | ⟨b1, o1, rfl, l1, r1⟩
    · omega
    rcases ht with h0 | ⟨b2, o2, rfl, l2, r2⟩
    · omega
    have e1 : tf 9 3 f = f := if_pos ⟨rfl, rfl⟩
    have e2 : tf 9 3 h = h := if_pos ⟨rfl, rfl⟩
    have e3 : decide (isOp 9 f 3 h) = decide (isR f h) := by
      rw [Bool.eq_iff_iff]
      simp only [decide_eq_true_eq]
      exact ⟨fun x => x.2.2, fun x => ⟨rfl, rfl, x⟩⟩
    rw [e1, e2, e3]
    exact operatorOf_ok r1 r2 l1 l2 cap cap'
  · have e1 : tf n k f = fun _ => 0 := if_neg hnk
    have e2 : tf n k h = fun _ => 0 := if_neg hnk
    rw [e1, e2, decide_eq_false (show ¬ isOp n f k h from fun x => hnk ⟨x.1, x.2.1⟩)]
    exact operatorOf_bad a b n cap k cap' hnk
/-- A new variable that holds an operator. -/
theorem boxed2 (w : World) (v1 v2 : Value) : ∃ W, w.alloc (.cells #[.slice none 0 0, .slice none 0 0] 26) = W ∧ ∃ W', (W.setCell ⟨w.heap.size, 0, none⟩ v1).setCell ⟨w.heap.size, 1, none⟩ v2 = W' ∧ At 26 W' w.heap.size #[v1, v2] ∧ Below w.heap.size w W' ∧ W.cell? ⟨w.heap.size, 0, none⟩ = some (.slice none 0 0) ∧ W.cell? ⟨w.heap.size, 1, none⟩ = some (.slice none 0 0) ∧ W.frozen? ⟨w.heap.size, 0, none⟩ = false ∧ W.frozen? ⟨w.heap.size, 1, none⟩ = false := by
  obtain ⟨W, hW, a, b, -⟩ := boxed w 26 #[.slice none 0 0, .slice none 0 0]
  obtain ⟨c0, c1, c2, c3⟩ := a.open2
  exact ⟨W, hW, _, rfl, by simpa using (a.set 0 v1).set 1 v2, (b.setCell (Nat.le_refl _) _).setCell (Nat.le_refl _) _, c0, c1, c2, c3⟩
/-- What the region reads: two operators. -/
def Two2 (q : Nat) (x0 x1 : Value) (p : Nat) (y0 y1 : Value) (w' : World) : Prop := w'.cell? ⟨q, 0, none⟩ = some x0 ∧ w'.cell? ⟨q, 1, none⟩ = some x1 ∧ w'.cell? ⟨p, 0, none⟩ = some y0 ∧ w'.cell? ⟨p, 1, none⟩ = some y1
theorem two2_mk {t t' : TypeId} {w' : World} {q p : Nat} {x0 x1 y0 y1 : Value} (a : At t w' q #[x0, x1]) (b : At t' w' p #[y0, y1]) : Two2 q x0 x1 p y0 y1 w' := ⟨a.open2.1, a.open2.2.1, b.open2.1, b.open2.2.1⟩
end Go.Proofs.Ytglkddhifpnniaa
