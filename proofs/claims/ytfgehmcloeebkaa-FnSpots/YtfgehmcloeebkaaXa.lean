/-
  Lists gathered by append; spots. No function of the program.
-/
import Derived.Test.YtfgehmcloeebkaaWa
import Derived.Test.YtfgehmcloeebkaaLa
namespace Go.Proofs.Ytfgehmcloeebkaa
open Go.RowKit

def lCells (l : List Int) : List Value := l.map (Value.int .i64)
theorem lCells_one (l : List Int) : ∀ u ∈ lCells l, u.oneCell' = true := by
  intro u hu
  obtain ⟨x, -, rfl⟩ := List.mem_map.1 hu
  rfl
/-- A list gathered by append: m elements of e numbers each. -/
structure Gat (w0 w : World) (B : Nat) (t : TypeId) (e : Nat) (v : Value) (m : Nat) (l : List Int) : Prop where
  own : w.ownsRow B t e v m (lCells l)
  nn : v ≠ .slice none 0 0
  b : Below w0.heap.size w0 w
  o2 : w0.heap.size ≤ B
  o3 : B ≤ w.heap.size
theorem Gat.below {w0 w w' : World} {B : Nat} {t : TypeId} {e : Nat} {v : Value} {m : Nat} {l : List Int} (s : Gat w0 w B t e v m l) (hb : Below w.heap.size w w') : Gat w0 w' B t e v m l :=
  ⟨own_below s.own hb, s.nn, s.b.trans (hb.mono s.b.size), s.o2, Nat.le_trans s.o3 hb.size⟩
theorem Gat.grow {w0 w w' : World} {B : Nat} {t : TypeId} {e : Nat} {v v' : Value} {m m' : Nat} {l l' : List Int} (s : Gat w0 w B t e v m l) (h1 : w'.ownsRow B t e v' m' (lCells l ++ lCells l')) (hg : w.grownBy w' v.ownBlock) (hv : v' ≠ .slice none 0 0) : Gat w0 w' B t e v' m' (l ++ l') := by
  have Bg : Below B w w' := Below.grown (Below.refl _ _) hg s.o3 (fun x hx => ownBlock_ge s.own hx)
  exact ⟨by rw [lCells, List.map_append]; exact h1, hv, s.b.trans (Bg.mono s.o2), s.o2, Nat.le_trans s.o3 hg.size⟩
/-- What lies below the list's base, or is another block that is there, stays. -/
theorem Gat.keep {w0 w w' : World} {B : Nat} {t s : TypeId} {e q : Nat} {v : Value} {m : Nat} {l : List Int} {vs : Array Value} (h : Gat w0 w B t e v m l) (hg : w.grownBy w' v.ownBlock) (ha : At s w q vs) (hq : q < B) : At s w' q vs :=
  (hg.block q ha.lt (fun e => by have := ownBlock_ge h.own e.symm; omega)).trans ha
theorem Gat.open {w0 w : World} {B : Nat} {t : TypeId} {e : Nat} {v : Value} {m : Nat} {l : List Int} (s : Gat w0 w B t e v m l) : ∃ g c, v = .slice (some ⟨g, 0, none⟩) m c ∧ B ≤ g ∧ m ≤ c ∧ g < w.heap.size ∧ ∀ i, i < l.length → w.cell? ⟨g, i, none⟩ = some (.int .i64 (l.getD i 0)) := by
  rcases s.own.2 with ⟨e, _⟩ | ⟨g, c, cur, e, hb, hh, hc1, hc2, hsz, ht⟩
  · exact absurd e s.nn
  · refine ⟨g, c, e, hb, hc1, (Array.getElem?_eq_some_iff.1 hh).1, fun i hi => ?_⟩
    have hl := s.own.1
    simp only [lCells, List.length_map] at hl
    have a1 : (lCells l)[i]? = some (.int .i64 (l.getD i 0)) := by simp [lCells, hi]
    rw [← ht] at a1
    rw [List.getElem?_take_of_lt (by omega)] at a1
    simpa [World.cell?, hh] using a1
theorem Gat.len {w0 w : World} {B : Nat} {t : TypeId} {e : Nat} {v : Value} {m : Nat} {l : List Int} (s : Gat w0 w B t e v m l) : l.length = m * e := by
  have hl := s.own.1
  simpa [lCells] using hl
theorem news3 {w : World} {t : TypeId} {g : Nat} {x y b : Int} (h : At t w g #[.int .i64 x, .int .i64 y, .int .i64 b]) : ∀ j u, (lCells [x, y, b])[j]? = some u → w.cell? ((⟨g, 0, none⟩ : Addr).add j) = some u := by
  intro j u hu
  rcases j with _ | _ | _ | j
  · simp [lCells] at hu; subst hu; exact h.cell 0 rfl
  · simp [lCells] at hu; subst hu; exact h.cell 1 rfl
  · simp [lCells] at hu; subst hu; exact h.cell 2 rfl
  · simp [lCells] at hu
theorem infoSpot : (Try.prog.info? 37).map (fun i => (i.zero, i.size, i.bytes)) = some (some (.agg #[.int .i64 0, .int .i64 0, .int .i64 0]), 3, 24) := by kernel_rfl
/-- The pixel j keeps k from being a spot. -/
def bad (f : Nat → Int) (k j : Nat) : Prop := f k < f j ∨ (f j = f k ∧ j < k)
/-- None beside k does. -/
def top (N len : Nat) (f : Nat → Int) (k : Nat) : Prop := ∀ j, j < len → pr N ((k % N : Nat) : Int) ((k / N : Nat) : Int) 1 j = true → ¬ bad f k j
noncomputable def topB (N len : Nat) (f : Nat → Int) (k : Nat) : Bool := @decide (top N len f k) (Classical.propDecidable _)
theorem topB_iff {N len : Nat} {f : Nat → Int} {k : Nat} : topB N len f k = true ↔ top N len f k := by simp [topB]
noncomputable def sp (N len : Nat) (f : Nat → Int) (lv : Int) (k : Nat) : Bool := @decide (lv ≤ f k ∧ top N len f k) (Classical.propDecidable _)
theorem sp_iff {N len : Nat} {f : Nat → Int} {lv : Int} {k : Nat} : sp N len f lv k = true ↔ (lv ≤ f k ∧ top N len f k) := by simp [sp]
theorem sp_no {N len : Nat} {f : Nat → Int} {lv : Int} {k : Nat} (h : ¬ (lv ≤ f k ∧ top N len f k)) : sp N len f lv k = false := by
  rw [Bool.eq_false_iff]; exact fun e => h (sp_iff.1 e)
/-- The numbers of these spots. -/
def spL (N : Nat) (f : Nat → Int) : List Nat → List Int
  | [] => []
  | k :: L => ((k % N : Nat) : Int) :: ((k / N : Nat) : Int) :: f k :: spL N f L
theorem spL_snoc (N : Nat) (f : Nat → Int) (L : List Nat) (k : Nat) : spL N f (L ++ [k]) = spL N f L ++ [((k % N : Nat) : Int), ((k / N : Nat) : Int), f k] := by
  induction L with
  | nil => rfl
  | cons a L ih => simp only [List.cons_append, spL, ih]
theorem spL_len (N : Nat) (f : Nat → Int) (L : List Nat) : (spL N f L).length = L.length * 3 := by
  induction L with
  | nil => rfl
  | cons a L ih => simp only [spL, List.length_cons, ih]; omega
end Go.Proofs.Ytfgehmcloeebkaa
