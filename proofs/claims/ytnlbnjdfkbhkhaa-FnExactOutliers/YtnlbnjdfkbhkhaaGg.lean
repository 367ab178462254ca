/-
  Lists of numbers that are gathered by append, sorted, and cut. No function of the program.
-/
import Derived.Test.YtnlbnjdfkbhkhaaIb
import Derived.Maps.AppendAt
import Derived.Lib.SliceRun
import Derived.Sort.OwnSortedInts
namespace Go.Proofs.Ytnlbnjdfkbhkhaa
open Go.RowKit

/-- A list of numbers as cells. -/
def lCells (l : List Int) : List Value := l.map (Value.int .i64)
theorem lCells_one (l : List Int) : ∀ u ∈ lCells l, u.oneCell' = true := by
  intro u hu
  obtain ⟨x, -, rfl⟩ := List.mem_map.1 hu
  rfl
theorem nn_some (a : Addr) (n c : Nat) : Value.slice (some a) n c ≠ .slice none 0 0 := by intro h; cases h
/-- A list of its own, not nil, in a block from B on. -/
structure Lst (w : World) (B : Nat) (v : Value) (l : List Int) : Prop where
  own : w.ownsRow B 2 1 v l.length (lCells l)
  nn : v ≠ .slice none 0 0
theorem Lst.open {w : World} {B : Nat} {v : Value} {l : List Int} (s : Lst w B v l) : ∃ g c cur, v = .slice (some ⟨g, 0, none⟩) l.length c ∧ B ≤ g ∧ At 2 w g cur ∧ l.length ≤ c ∧ c ≤ maxLen ∧ cur.size = c ∧ cur.toList.take l.length = lCells l := by
  rcases s.own.2 with ⟨e, _⟩ | ⟨g, c, cur, e, hb, hh, hc1, hc2, hsz, ht⟩
  · exact absurd e s.nn
  · exact ⟨g, c, cur, e, hb, hh, hc1, hc2, by omega, by simpa using ht⟩
theorem Lst.mk' {w : World} {B g c : Nat} {cur : Array Value} {l : List Int} (hb : B ≤ g) (hh : At 2 w g cur) (hc1 : l.length ≤ c) (hc2 : c ≤ maxLen) (hsz : cur.size = c) (ht : cur.toList.take l.length = lCells l) : Lst w B (.slice (some ⟨g, 0, none⟩) l.length c) l :=
  ⟨⟨by simp [lCells], .inr ⟨g, c, cur, rfl, hb, hh, hc1, hc2, by omega, by simpa using ht⟩⟩, nn_some _ _ _⟩
theorem Lst.cells {w : World} {B : Nat} {v : Value} {l : List Int} (s : Lst w B v l) : ∃ g c, v = .slice (some ⟨g, 0, none⟩) l.length c ∧ B ≤ g ∧ g < w.heap.size ∧ l.length ≤ c ∧ c ≤ maxLen ∧ ∀ i, i < l.length → w.cell? ⟨g, i, none⟩ = some (.int .i64 (l.getD i 0)) := by
  obtain ⟨g, c, cur, e, hb, hh, hc1, hc2, hsz, ht⟩ := s.open
  refine ⟨g, c, e, hb, hh.lt, hc1, hc2, fun i hi => ?_⟩
  have a1 : (lCells l)[i]? = some (.int .i64 (l.getD i 0)) := by simp [lCells, hi]
  rw [← ht, List.getElem?_take_of_lt hi] at a1
  exact hh.cell i (by simpa using a1)
theorem Lst.below {w w' : World} {B : Nat} {v : Value} {l : List Int} (s : Lst w B v l) (hb : Below w.heap.size w w') : Lst w' B v l := by
  obtain ⟨g, c, cur, rfl, h1, hh, r⟩ := s.open
  exact Lst.mk' h1 (hh.below hb) r.1 r.2.1 r.2.2.1 r.2.2.2
/-- Where another block alone has turned, the list stays. -/
theorem Lst.keep {w w' : World} {B : Nat} {v : Value} {l : List Int} {r : Option Nat} (s : Lst w B v l) (hb : w.grownBy w' r) (hr : v.ownBlock ≠ r) : Lst w' B v l := by
  obtain ⟨g, c, cur, rfl, h1, hh, q⟩ := s.open
  refine Lst.mk' h1 ?_ q.1 q.2.1 q.2.2.1 q.2.2.2
  exact (hb.block g hh.lt (fun e => hr e)).trans hh
theorem Lst.ge {w : World} {B : Nat} {v : Value} {l : List Int} (s : Lst w B v l) {j : Nat} (hj : v.ownBlock = some j) : B ≤ j ∧ j < w.heap.size := by
  obtain ⟨g, c, cur, rfl, h1, hh, -⟩ := s.open
  cases hj
  exact ⟨h1, hh.lt⟩
theorem Lst.grown {w w' : World} {B : Nat} {v v' : Value} {l : List Int} {x : Int} (_s : Lst w B v l) (h1 : w'.ownsRow B 2 1 v' (l.length + 1) (lCells l ++ lCells [x])) (h2 : v' = .slice none 0 0 ↔ v = .slice none 0 0 ∧ 1 = 0) : Lst w' B v' (l ++ [x]) :=
  ⟨by rw [lCells, List.map_append, List.length_append]; exact h1, fun e => absurd (h2.1 e).2 (by decide)⟩
theorem Lst.start {w0 W : World} (h : At 2 W w0.heap.size #[]) : Lst W w0.heap.size (.slice (some ⟨w0.heap.size, 0, none⟩) 0 0) [] :=
  Lst.mk' (l := []) (Nat.le_refl _) h (Nat.le_refl _) (Nat.zero_le _) rfl rfl
theorem Lst.arr {w : World} {B : Nat} {v : Value} {l : List Int} (s : Lst w B v l) : Arr w B w.heap.size v l.length (fun i => l.getD i 0) := by
  obtain ⟨g, c, cur, rfl, h1, hh, hc1, hc2, hsz, ht⟩ := s.open
  refine .inr ⟨g, c, rfl, h1, hh.lt, hc1, cur, hh, hsz, fun i hi => ?_⟩
  have a1 : (lCells l)[i]? = some (.int .i64 (l.getD i 0)) := by simp [lCells, hi]
  rw [← ht, List.getElem?_take_of_lt hi] at a1
  simpa using a1
theorem news1 {w : World} {t : TypeId} {g : Nat} {x : Int} (h : At t w g #[.int .i64 x]) : ∀ j u, (lCells [x])[j]? = some u → w.cell? ((⟨g, 0, none⟩ : Addr).add j) = some u := by
  intro j u hu
  rcases j with _ | j
  · simp [lCells] at hu; subst hu; exact h.cell 0 rfl
  · simp [lCells] at hu
theorem infoInt : (Try.prog.info? 2).map (fun i => (i.zero, i.size, i.bytes)) = some (some (.int .i64 0), 1, 8) := by kernel_rfl
def toI (l : List Nat) : List Int := l.map (fun (i : Nat) => (i : Int))
theorem toI_len (l : List Nat) : (toI l).length = l.length := by simp [toI]
theorem toI_getD (l : List Nat) {i : Nat} (hi : i < l.length) : (toI l).getD i 0 = ((l.getD i 0 : Nat) : Int) := by
  simp [toI, hi]
theorem Lst.holds {w : World} {B g c : Nat} {l : List Int} (s : Lst w B (.slice (some ⟨g, 0, none⟩) l.length c) l) : Go.Sort.Holds (Value.int .i64) w g 0 l.toArray := by
  obtain ⟨g', c', cur, e, h1, hh, hc1, hc2, hsz, ht⟩ := s.open
  cases e
  exact holds_of_blockI hh ht
theorem Lst.sorted {w : World} {B g c n : Nat} {l ts : List Int} {os : Array Obj} (s : Lst w B (.slice (some ⟨g, 0, none⟩) l.length c) l) (hl : ts.length = l.length) : Lst (Go.Sort.grow (Go.Sort.putRow (Value.int .i64) (Go.Sort.ahead w n) g 0 ts.toArray) os) B (.slice (some ⟨g, 0, none⟩) ts.length c) ts := by
  obtain ⟨g', c', cur, e, h1, hh, hc1, hc2, hsz, ht⟩ := s.open
  cases e
  have := ownsRow_sortedI (n := n) (os := os) (base := B) (cap := c) (ss := l) (ts := ts) hl h1 hh hc1 hc2 (by omega)
  rw [← hl] at this
  exact ⟨this, nn_some _ _ _⟩
/-- Behind a cut: the row has been written over, from its head on, with the list and a nought. -/
theorem Lst.cut {w : World} {B g c n : Nat} {l ts zs : List Int} (s : Lst w B (.slice (some ⟨g, 0, none⟩) l.length c) l) (hl : (ts ++ zs).length = l.length) : Lst (Go.Sort.putRow (Value.int .i64) (Go.Sort.ahead w n) g 0 (ts ++ zs).toArray) B (.slice (some ⟨g, 0, none⟩) ts.length c) ts := by
  obtain ⟨g', c', cur, e, h1, hh, hc1, hc2, hsz, ht⟩ := s.open
  cases e
  have hlt : ts.length ≤ l.length := by rw [← hl]; simp
  have h0 := heap_sortedI (n := n) (os := #[]) (ts ++ zs).toArray hh
  rw [Go.Sort.grow_empty] at h0
  refine Lst.mk' h1 h0 (by omega) hc2 (by simp [Go.Sort.putCells, hsz]) ?_
  have h2 := take_putCellsI cur (ts ++ zs) (by omega)
  have h3 : (List.take ts.length ((Go.Sort.putCells (Value.int .i64) 0 (ts ++ zs).toArray cur).toList.take (ts ++ zs).length)) = lCells ts := by
    rw [h2, List.map_append]
    simp [lCells]
  rw [List.take_take, Nat.min_eq_left (by simp)] at h3
  exact h3
theorem cut_grown {w : World} {g n : Nat} (d : Array Int) : w.grownBy (Go.Sort.putRow (Value.int .i64) (Go.Sort.ahead w n) g 0 d) (some g) := by
  have := grownBy_sortedI (w := w) (g := g) (n := n) (os := #[]) d
  rwa [Go.Sort.grow_empty] at this
theorem grown_below {w0 w w' : World} {r : Option Nat} {N : Nat} (hb : Below N w0 w) (h : w.grownBy w' r) (hN : N ≤ w.heap.size) (hr : ∀ k, r = some k → N ≤ k) : Below N w0 w' := Below.grown hb h hN hr
end Go.Proofs.Ytnlbnjdfkbhkhaa
