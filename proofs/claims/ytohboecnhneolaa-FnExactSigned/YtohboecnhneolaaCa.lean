/-
  Which cyclotomic numbers are right, by the program and by the specification: walked.
-/
import Derived.Test.YtohboecnhneolaaRows
import Derived.Test.YtohboecnhneolaaKit
namespace Go.Proofs.Ytohboecnhneolaa
open Go.RowKit

theorem in_any (x lo hi : Int) (w : World) : Calls Try.prog 15 #[.int .i64 x, .int .i64 lo, .int .i64 hi] w fun e w' => e = .returned (.bool (decide (lo ≤ x ∧ x ≤ hi))) ∧ w = w' := by
  by_cases h1 : lo ≤ x <;> by_cases h2 : x ≤ hi
  all_goals
    go_enter Try.func15, Try.ntmps15
    go_wp2
    go_ret
    exact ⟨by simp [h1, h2], rfl⟩
theorem within_any (x hi : Int) (w : World) (h0 : 0 ≤ hi) (h : hi ≤ 1000000000000) : Calls Try.prog 18 #[.int .i64 x, .int .i64 hi] w fun e w' => e = .returned (.bool (decide (-hi ≤ x ∧ x ≤ hi))) ∧ w = w' := by
  by_cases h1 : -hi ≤ x <;> by_cases h2 : x ≤ hi
  all_goals
    go_enter Try.func18, Try.ntmps18
    go_wp2
    go_ret
    exact ⟨by simp [h1, h2], rfl⟩
/-- In range. -/
abbrev inC (x : Int) : Prop := -1000000000000 ≤ x ∧ x ≤ 1000000000000
def cOk (a b c d : Int) : Bool := decide (inC a) && (decide (inC b) && (decide (inC c) && decide (inC d)))
abbrev cV (a b c d : Int) : Value := .agg #[.int .i64 a, .int .i64 b, .int .i64 c, .int .i64 d]
theorem At.open4 {t : TypeId} {w : World} {q : Nat} {v0 v1 v2 v3 : Value} (h : At t w q #[v0, v1, v2, v3]) : w.cell? ⟨q, 0, none⟩ = some v0 ∧ w.cell? ⟨q, 1, none⟩ = some v1 ∧ w.cell? ⟨q, 2, none⟩ = some v2 ∧ w.cell? ⟨q, 3, none⟩ = some v3 ∧ w.frozen? ⟨q, 0, none⟩ = false ∧ w.frozen? ⟨q, 1, none⟩ = false ∧ w.frozen? ⟨q, 2, none⟩ = false ∧ w.frozen? ⟨q, 3, none⟩ = false :=
  ⟨h.cell 0 rfl, h.cell 1 rfl, h.cell 2 rfl, h.cell 3 rfl, h.frozen 0, h.frozen 1, h.frozen 2, h.frozen 3⟩
theorem put4_at {t : TypeId} {w : World} {q : Nat} {u0 u1 u2 u3 : Value} (h : At t w q #[u0, u1, u2, u3]) (v0 v1 v2 v3 : Value) : At t ((((w.setCell ⟨q, 0, none⟩ v0).setCell ⟨q, 1, none⟩ v1).setCell ⟨q, 2, none⟩ v2).setCell ⟨q, 3, none⟩ v3) q #[v0, v1, v2, v3] := by
  have := (((h.set 0 v0).set 1 v1).set 2 v2).set 3 v3
  simpa using this
theorem below_put4 {N q : Nat} {w w2 : World} (h : Below N w w2) (hq : N ≤ q) (v0 v1 v2 v3 : Value) : Below N w ((((w2.setCell ⟨q, 0, none⟩ v0).setCell ⟨q, 1, none⟩ v1).setCell ⟨q, 2, none⟩ v2).setCell ⟨q, 3, none⟩ v3) :=
  (((h.setCell hq v0).setCell hq v1).setCell hq v2).setCell hq v3
/-- Several new blocks: the world behind them gets a letter. -/
theorem boxed2 (w : World) (t u : TypeId) (vs us : Array Value) : ∃ W, (w.alloc (.cells vs t)).alloc (.cells us u) = W ∧ At t W w.heap.size vs ∧ At u W (w.heap.size + 1) us ∧ Below w.heap.size w W ∧ w.heap.size + 1 < W.heap.size := by
  refine ⟨_, rfl, (at_new t w vs).below (below_alloc _ _), ?_, (below_alloc _ _).trans ((below_alloc _ _).mono (by simp)), by simp⟩
  have := at_new u (w.alloc (.cells vs t)) us
  simpa using this
theorem boxed3 (w : World) (t u r : TypeId) (vs us rs : Array Value) : ∃ W, ((w.alloc (.cells vs t)).alloc (.cells us u)).alloc (.cells rs r) = W ∧ At t W w.heap.size vs ∧ At u W (w.heap.size + 1) us ∧ At r W (w.heap.size + 2) rs ∧ Below w.heap.size w W ∧ w.heap.size + 2 < W.heap.size := by
  obtain ⟨W0, h0, a0, a1, b0, -⟩ := boxed2 w t u vs us
  have e : W0.heap.size = w.heap.size + 2 := by rw [← h0]; simp
  rw [h0]
  refine ⟨_, rfl, a0.below (below_alloc _ _), a1.below (below_alloc _ _), ?_, b0.trans ((below_alloc _ _).mono b0.size), by simp; omega⟩
  have := at_new r W0 rs
  rwa [e] at this
end Go.Proofs.Ytohboecnhneolaa
