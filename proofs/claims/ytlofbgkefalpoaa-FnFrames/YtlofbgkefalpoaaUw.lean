/-
  A frame that is gathered pixel by pixel. No walk but of the least of two.
-/
import Derived.Test.YtlofbgkefalpoaaUd
import Derived.Test.YtlofbgkefalpoaaLa
import Derived.Deep.AppendLies
namespace Go.Proofs.Ytlofbgkefalpoaa
open Go.RowKit

def lI (l : List Int) : List Value := l.map (Value.int .i64)
/-- What stands while the pixels are gathered. -/
structure PxW (w0 w : World) (q : Nat) (X0 X1 : Int) (v : Value) (P : List Int) : Prop where
  own : w.ownsRow w0.heap.size 2 1 v P.length (lI P)
  bx : At 28 w q #[.int .i64 X0, .int .i64 X1, v]
  rb : At 28 w w0.heap.size #[.int .i64 0, .int .i64 0, .slice none 0 0]
  b : Below w0.heap.size w0 w
  o : w0.heap.size < q
theorem own_ne {w : World} {B n q : Nat} {v : Value} {xs : List Value} {s : TypeId} {vs : Array Value} (h : w.ownsRow B 2 1 v n xs) (ha : At s w q vs) (hst : s ≠ 2) : v.ownBlock ≠ some q := by
  intro e
  rcases h.2 with ⟨rfl, -⟩ | ⟨g, c, cur, rfl, hb, hh, -⟩
  · cases e
  · simp only [Value.ownBlock, Option.some.injEq] at e
    subst e
    have h1 := ha
    unfold At at h1
    rw [hh] at h1
    simp only [Option.some.injEq, Obj.cells.injEq] at h1
    exact hst h1.2.1.symm
theorem PxW.open {w0 w : World} {q : Nat} {X0 X1 : Int} {v : Value} {P : List Int} (h : PxW w0 w q X0 X1 v P) : ∃ a c, v = .slice a P.length c := by
  rcases h.own.2 with ⟨rfl, e⟩ | ⟨g, c, cur, e, -⟩
  · refine ⟨none, 0, ?_⟩
    simp_all
  · exact ⟨_, c, e⟩
theorem PxW.below {w0 w w' : World} {q : Nat} {X0 X1 : Int} {v : Value} {P : List Int} (h : PxW w0 w q X0 X1 v P) (hb : Below w.heap.size w w') : PxW w0 w' q X0 X1 v P :=
  ⟨own_below h.own hb, h.bx.below hb, h.rb.below hb, h.b.trans (hb.mono h.b.size), h.o⟩
/-- One pixel more, laid into the box. -/
theorem PxW.add {w0 w w' : World} {q : Nat} {X0 X1 : Int} {v v' : Value} {P : List Int} (h : PxW w0 w q X0 X1 v P) (x : Int) (ho : w'.ownsRow w0.heap.size 2 1 v' (P.length + 1) (lI P ++ [.int .i64 x])) (hg : w.grownBy w' v.ownBlock) : PxW w0 (w'.setCell ⟨q, 2, none⟩ v') q X0 X1 v' (P ++ [x]) := by
  have b1 : At 28 w' q #[.int .i64 X0, .int .i64 X1, v] := (hg.block q h.bx.lt (fun e => own_ne h.own h.bx (by decide) e.symm)).trans h.bx
  have b2 : At 28 w' w0.heap.size #[.int .i64 0, .int .i64 0, .slice none 0 0] := (hg.block _ h.rb.lt (fun e => own_ne h.own h.rb (by decide) e.symm)).trans h.rb
  have B : Below w0.heap.size w0 w' := Below.grown h.b hg h.b.size (fun k hk => ownBlock_ge h.own hk)
  have o := h.o
  refine ⟨?_, by simpa using b1.set 2 v', b2.setOther (by omega) _, B.setCell (show w0.heap.size ≤ q by omega) _, o⟩
  have ho' : w'.ownsRow w0.heap.size 2 1 v' (P ++ [x]).length (lI (P ++ [x])) := by simpa [lI] using ho
  refine ⟨ho'.1, ho'.2.imp id ?_⟩
  rintro ⟨g, c, cur, rfl, h1, h2, h3⟩
  have hne : q ≠ g := fun e => own_ne ho' b1 (by decide) (by simp [Value.ownBlock, e])
  exact ⟨g, c, cur, rfl, h1, (Below.heap_setCell _ _ _ _ (by simpa using hne.symm)).trans h2, h3⟩
theorem PxW.arr {w0 w : World} {q : Nat} {X0 X1 : Int} {v : Value} {P : List Int} (h : PxW w0 w q X0 X1 v P) : Arr w w0.heap.size w.heap.size v P.length (fun i => P.getD i 0) := by
  rcases h.own.2 with ⟨rfl, e⟩ | ⟨g, c, cur, e, hb, hh, hc1, hc2, hsz, ht⟩
  · exact .inl ⟨rfl, by simp_all⟩
  · refine .inr ⟨g, c, e, hb, (Array.getElem?_eq_some_iff.1 hh).1, hc1, cur, hh, by omega, fun i hi => ?_⟩
    have a1 : (lI P)[i]? = some (.int .i64 (P.getD i 0)) := by simp [lI, hi]
    rw [← ht, List.getElem?_take_of_lt (by omega)] at a1
    simpa using a1
theorem arr_set {w : World} {lo hi q i : Nat} {v x : Value} {n : Nat} {f : Nat → Int} (h : Arr w lo hi v n f) (hq : v.ownBlock ≠ some q) : Arr (w.setCell ⟨q, i, none⟩ x) lo hi v n f := by
  refine h.imp id ?_
  rintro ⟨g, c, rfl, hl, hh, hc, hm⟩
  exact ⟨g, c, rfl, hl, hh, hc, hm.setOther (fun e => hq (by simp [Value.ownBlock, e])) _⟩
theorem own_slice {w : World} {B n : Nat} {v : Value} {xs : List Value} (h : w.ownsRow B 2 1 v (n + 1) xs) : ∃ a c, v = .slice a (n + 1) c := by
  rcases h.2 with ⟨-, e⟩ | ⟨g, c, cur, e, -⟩
  · omega
  · exact ⟨_, c, e⟩
theorem min_any (a b : Int) (w : World) : Calls Try.prog 35 #[.int .i64 a, .int .i64 b] w fun e w' => e = .returned (.int .i64 (if a < b then a else b)) ∧ w = w' := by
  by_cases h : a < b
  · go_enter Try.func35, Try.ntmps35
    go_wp2
    go_ret
    exact ⟨rfl, rfl⟩
  · go_enter Try.func35, Try.ntmps35
    go_wp2
    go_ret
    exact ⟨rfl, rfl⟩
theorem min_mn (x : Int) : (if x < 65535 then x else 65535) = mn x := by
  unfold mn; split <;> split <;> omega
/-- The first p pixels of the sum. -/
def pxl (f : Nat → Nat → Int) (N p : Nat) : List Int := (List.range p).map fun i => mn (sm f N i)
theorem pxl_len (f : Nat → Nat → Int) (N p : Nat) : (pxl f N p).length = p := by simp [pxl]
theorem pxl_succ (f : Nat → Nat → Int) (N p : Nat) : pxl f N (p + 1) = pxl f N p ++ [mn (sm f N p)] := by simp [pxl, List.range_succ]
theorem pxl_at (f : Nat → Nat → Int) (N p : Nat) {i : Nat} (h : i < p) : (pxl f N p).getD i 0 = mn (sm f N i) := by simp [pxl, h]
end Go.Proofs.Ytlofbgkefalpoaa
