/-
  Small facts on operators that a region tells, as the law on ways back takes them. No function of the program.
-/
import Derived.Test.YtglkddhifpnniaaOpL
namespace Go.Proofs.Ytglkddhifpnniaa
open Go.RowKit

theorem OpAt.srcs {w : World} {lo hi : Nat} {a b : Option Addr} {n c k d n' k' : Nat} {f h : Nat → Int} (ho : OpAt w lo hi (.agg #[.slice a n' c, .slice b k' d]) n f k h) : Src w a n f ∧ Src w b k h := by
  obtain ⟨v1, v2, e, m1, m2, -⟩ := ho
  obtain ⟨a1, c1, rfl, s1⟩ := m1.src
  obtain ⟨a2, c2, rfl, s2⟩ := m2.src
  simp only [Value.agg.injEq, Array.mk.injEq, List.cons.injEq, Value.slice.injEq] at e
  obtain ⟨⟨rfl, -, -⟩, ⟨rfl, -, -⟩, -⟩ := e
  exact ⟨s1, s2⟩
/-- Behind a region that tells an operator and a bool into new variables. -/
def RegAt (V : World) (n : Nat) (f : Nat → Int) (k : Nat) (h : Nat → Int) (p : Bool) (s t : Value) (wc : World) : Prop :=
  ∃ q lo hi d1 e1 d2 e2, s = .pointer (some ⟨q, 0, none⟩) ∧ t = .bool p ∧ (V.heap.size ≤ q ∧ V.heap.size ≤ lo ∧ hi ≤ wc.heap.size ∧ (q < lo ∨ hi ≤ q)) ∧ At 26 wc q #[.slice d1 n e1, .slice d2 k e2] ∧ OpAt wc lo hi (.agg #[.slice d1 n e1, .slice d2 k e2]) n f k h ∧ Below V.heap.size V wc
theorem OpAt.store' {w : World} {lo hi q : Nat} {o : Value} {n k : Nat} {f h : Nat → Int} (ho : OpAt w lo hi o n f k h) (hq : q < lo ∨ hi ≤ q) (v1 v2 : Value) : OpAt ((w.setCell ⟨q, 0, none⟩ v1).setCell ⟨q, 1, none⟩ v2) lo hi o n f k h :=
  ho.turn (turn_set2 w q v1 v2) (by omega)
theorem regAt_mk {V u : World} {n k q lo hi c1 c2 : Nat} {f h : Nat → Int} {p : Bool} {d1 d2 : Option Addr} (hz : V.heap.size ≤ q ∧ V.heap.size ≤ lo ∧ hi ≤ u.heap.size ∧ (q < lo ∨ hi ≤ q)) (A : At 26 u q #[.slice none 0 0, .slice none 0 0]) (O : OpAt u lo hi (.agg #[.slice d1 n c1, .slice d2 k c2]) n f k h) (Z : Below V.heap.size V u) :
    RegAt V n f k h p (.pointer (some ⟨q, 0, none⟩)) (.bool p) ((u.setCell ⟨q, 0, none⟩ (.slice d1 n c1)).setCell ⟨q, 1, none⟩ (.slice d2 k c2)) :=
  ⟨q, lo, hi, d1, c1, d2, c2, rfl, rfl, ⟨hz.1, hz.2.1, by rw [size_set2]; exact hz.2.2.1, hz.2.2.2⟩, nil2_at A _ _, O.store' hz.2.2.2 _ _, (Z.setCell (show V.heap.size ≤ q from hz.1) _).setCell (show V.heap.size ≤ q from hz.1) _⟩
def One2 (q : Nat) (x0 x1 : Value) (w' : World) : Prop := w'.cell? ⟨q, 0, none⟩ = some x0 ∧ w'.cell? ⟨q, 1, none⟩ = some x1
theorem one2_mk {t : TypeId} {w' : World} {q : Nat} {x0 x1 : Value} (a : At t w' q #[x0, x1]) : One2 q x0 x1 w' := ⟨a.open2.1, a.open2.2.1⟩
end Go.Proofs.Ytglkddhifpnniaa
