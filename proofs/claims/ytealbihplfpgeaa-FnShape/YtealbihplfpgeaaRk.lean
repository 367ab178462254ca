/-
  Lists of structs of K numbers: read, handed on. No function of the program.
-/
import Derived.Test.YtealbihplfpgeaaRows
import Derived.Test.YtealbihplfpgeaaKit
namespace Go.Proofs.Ytealbihplfpgeaa
open Go.RowKit

theorem bx2 (w : World) (t u : TypeId) (vs us : Array Value) : ∃ W, (w.alloc (.cells vs t)).alloc (.cells us u) = W ∧ At t W w.heap.size vs ∧ At u W (w.heap.size + 1) us ∧ Below w.heap.size w W ∧ w.heap.size + 1 < W.heap.size := by
  refine ⟨_, rfl, (at_new t w vs).below (below_alloc _ _), ?_, (below_alloc _ _).trans ((below_alloc _ _).mono (by simp)), by simp⟩
  have := at_new u (w.alloc (.cells vs t)) us
  simpa using this
/-- n structs of K numbers lie in block g. -/
def Recs (K : Nat) (w : World) (g n : Nat) (f : Nat → Int) : Prop := g < w.heap.size ∧ ∀ i, i < n * K → w.cell? ⟨g, i, none⟩ = some (.int .i64 (f i))
theorem Recs.below {K : Nat} {w w' : World} {g n : Nat} {f : Nat → Int} (h : Recs K w g n f) (hb : Below w.heap.size w w') : Recs K w' g n f :=
  ⟨Nat.lt_of_lt_of_le h.1 hb.size, fun i hi => (hb.cell (p := ⟨g, i, none⟩) h.1).trans (h.2 i hi)⟩
theorem Recs.kept {K : Nat} {w w' : World} {g p n : Nat} {f : Nat → Int} (h : Recs K w g n f) (hb : Kept p w w') (hp : g ≠ p) : Recs K w' g n f :=
  ⟨Nat.lt_of_lt_of_le h.1 hb.size, fun i hi => (hb.cell hp h.1).trans (h.2 i hi)⟩
/-- A block of n structs of K, of which the first k are laid. -/
def LaidK (K : Nat) (t : TypeId) (w : World) (g n k : Nat) (f : Nat → Int) : Prop :=
  ∃ cur : Array Value, At t w g cur ∧ cur.size = n * K ∧ ∀ i, i < k * K → cur[i]? = some (.int .i64 (f i))
theorem LaidK.below {K : Nat} {t : TypeId} {w w' : World} {g n k : Nat} {f : Nat → Int} (h : LaidK K t w g n k f) (hb : Below w.heap.size w w') : LaidK K t w' g n k f := by
  obtain ⟨cur, h1, h2, h3⟩ := h
  exact ⟨cur, h1.below hb, h2, h3⟩
theorem LaidK.cells {K : Nat} {t : TypeId} {w : World} {g n k j : Nat} {f : Nat → Int} (h : LaidK K t w g n k f) (hj : j < n * K) : w.cell? ⟨g, j, none⟩ = some (cv w g j) ∧ w.frozen? ⟨g, j, none⟩ = false := by
  obtain ⟨cur, h1, h2, h3⟩ := h
  have hl : j < cur.size := by omega
  have := h1.cell j (Array.getElem?_eq_getElem hl)
  exact ⟨by rw [cv, this]; rfl, h1.frozen j⟩
theorem LaidK.recs {K : Nat} {t : TypeId} {w : World} {g n : Nat} {f : Nat → Int} (h : LaidK K t w g n n f) : Recs K w g n f := by
  obtain ⟨cur, h1, h2, h3⟩ := h
  exact ⟨h1.lt, fun i hi => h1.cell _ (h3 i hi)⟩
/-- Room for n structs of K. -/
def RoomK (K : Nat) (t : TypeId) (w : World) (g n : Nat) : Prop := ∃ cur : Array Value, At t w g cur ∧ cur.size = n * K
theorem RoomK.cell {K : Nat} {t : TypeId} {w : World} {g n : Nat} (h : RoomK K t w g n) {i : Nat} (hi : i < n * K) : w.cell? ⟨g, i, none⟩ = some (cv w g i) ∧ w.frozen? ⟨g, i, none⟩ = false := by
  obtain ⟨cur, h1, h2⟩ := h
  have e := h1.cell i (v := cur[i]) (Array.getElem?_eq_getElem (by omega))
  exact ⟨by rw [cv, e]; rfl, h1.frozen i⟩
theorem RoomK.set {K : Nat} {t : TypeId} {w : World} {g n : Nat} (h : RoomK K t w g n) (i : Nat) (v : Value) : RoomK K t (w.setCell ⟨g, i, none⟩ v) g n := by
  obtain ⟨cur, h1, h2⟩ := h
  exact ⟨_, h1.set i v, by simpa using h2⟩
theorem LaidK.room {K : Nat} {t : TypeId} {w : World} {g n k : Nat} {f : Nat → Int} (h : LaidK K t w g n k f) : RoomK K t w g n := by
  obtain ⟨cur, h1, h2, -⟩ := h
  exact ⟨cur, h1, h2⟩
end Go.Proofs.Ytealbihplfpgeaa
