/-
  An operator told in new memory. Walked.
-/
import Derived.Test.YtiocneailhplkaaGreatMO
import Derived.Test.YtiocneailhplkaaGreatMC
import Derived.Test.YtiocneailhplkaaGreatGr
namespace Go.Proofs.YtiocneailhplkaaGreat
open Go.RowKit

theorem opA_ints {w : World} {q : Nat} {f h : Nat → Int} {t : TypeId} (a : At t w q (opA f h)) : Ints w q 0 9 f ∧ Ints w q 9 3 h := by
  refine ⟨fun i hi => ?_, fun i hi => ?_⟩
  · have := a.cell i (opA_get f h i (by omega))
    rw [if_pos hi] at this
    simpa using this
  · have := a.cell (9 + i) (opA_get f h (9 + i) (by omega))
    rw [if_neg (by omega), show 9 + i - 9 = i by omega] at this
    exact this
end Go.Proofs.YtiocneailhplkaaGreat
/-
  A list of operators told in new memory. Walked.
-/
namespace Go.Proofs.YtiocneailhplkaaGreat
open Go.RowKit

/-- The cells of the first n. -/
def pc (X Y : Nat → Value) : Nat → List Value
  | 0 => []
  | n + 1 => pc X Y n ++ [X n, Y n]
theorem pc_len (X Y : Nat → Value) (n : Nat) : (pc X Y n).length = n * 2 := by
  induction n with
  | zero => rfl
  | succ n ih => simp [pc, ih]; omega
theorem pc_get (X Y : Nat → Value) {n i : Nat} (hi : i < n) : (pc X Y n)[i * 2]? = some (X i) ∧ (pc X Y n)[i * 2 + 1]? = some (Y i) := by
  induction n with
  | zero => omega
  | succ n ih =>
    have hl := pc_len X Y n
    unfold pc
    by_cases e : i = n
    · subst e
      rw [List.getElem?_append_right (by omega), List.getElem?_append_right (by omega), hl, show i * 2 - i * 2 = 0 by omega, show i * 2 + 1 - i * 2 = 1 by omega]
      exact ⟨rfl, rfl⟩
    · rw [List.getElem?_append_left (by omega), List.getElem?_append_left (by omega)]
      exact ih (by omega)
theorem pc_congr {X X' Y Y' : Nat → Value} {n : Nat} (h : ∀ i, i < n → X i = X' i ∧ Y i = Y' i) : pc X Y n = pc X' Y' n := by
  induction n with
  | zero => rfl
  | succ n ih => unfold pc; rw [ih (fun i hi => h i (by omega)), (h n (by omega)).1, (h n (by omega)).2]
/-- A list of operators that grows, in memory of its own. -/
structure OpsG (w : World) (lo : Nat) (v : Value) (n : Nat) (X Y : Nat → Value) (A : Nat → OpD) : Prop where
  row : w.ownsRow lo 57 2 v n (pc X Y n)
  nn : v ≠ .slice none 0 0
  xs : ∀ i, i < n → Arr w lo w.heap.size (X i) (A i).n (A i).f
  ys : ∀ i, i < n → Arr w lo w.heap.size (Y i) (A i).k (A i).h
  dj : AllApart n X Y
theorem OpsG.opsA {w : World} {lo n : Nat} {v : Value} {X Y : Nat → Value} {A : Nat → OpD} (h : OpsG w lo v n X Y A) : ∃ g c, v = .slice (some ⟨g, 0, none⟩) n c ∧ OpsA w lo w.heap.size g n X Y A := by
  rcases h.row.2 with ⟨h1, _⟩ | ⟨g, c, cur, e, hb, hh, h3, h4, h5, h6⟩
  · exact absurd h1 h.nn
  · refine ⟨g, c, e, ⟨hb, (Array.getElem?_eq_some_iff.1 hh).1, cur, hh, fun i hi => ?_⟩, h.xs, h.ys, h.dj⟩
    obtain ⟨p1, p2⟩ := pc_get X Y hi
    rw [← h6, List.getElem?_take] at p1 p2
    constructor
    · split at p1
      · simpa using p1
      · cases p1
    · split at p2
      · simpa using p2
      · cases p2
theorem OpsG.below {w w' : World} {lo n : Nat} {v : Value} {X Y : Nat → Value} {A : Nat → OpD} (h : OpsG w lo v n X Y A) (hb : Below w.heap.size w w') : OpsG w' lo v n X Y A :=
  ⟨own_below h.row hb, h.nn, fun i hi => ((h.xs i hi).below hb).wide (Nat.le_refl _) hb.size, fun i hi => ((h.ys i hi).below hb).wide (Nat.le_refl _) hb.size, h.dj⟩
theorem OpsG.ne {w : World} {lo n m : Nat} {v u : Value} {X Y : Nat → Value} {A : Nat → OpD} {f : Nat → Int} {lo' hi' : Nat} (h : OpsG w lo v n X Y A) (r : Arr w lo' hi' u m f) : ∀ k, u.ownBlock = some k → v.ownBlock ≠ some k := by
  intro k e1 e2
  obtain ⟨g, c, rfl, H⟩ := h.opsA
  obtain ⟨-, -, cur, h3, -⟩ := H.blk
  simp only [Value.ownBlock, Option.some.injEq] at e2
  subst e2
  exact arr_ne_block r h3 e1
theorem arr_grown {w w' : World} {lo hi : Nat} {v : Value} {n : Nat} {f : Nat → Int} {row : Option Nat} (h : Arr w lo hi v n f) (hg : w.grownBy w' row) (hne : ∀ k, v.ownBlock = some k → row ≠ some k) : Arr w' lo hi v n f := by
  rcases h with h | ⟨g', c, rfl, h1, h2, h3, cur', h4, h5⟩
  · exact .inl h
  · exact .inr ⟨g', c, rfl, h1, h2, h3, cur', (hg.block g' h4.lt (fun e => hne g' rfl e.symm)).trans h4, h5⟩
/-- One more. -/
theorem OpsG.next {wr w3 w4 : World} {lo n : Nat} {v v4 v1 v2 : Value} {X Y : Nat → Value} {A : Nat → OpD} (h : OpsG wr lo v n X Y A) (hlo : lo ≤ wr.heap.size) (b3 : Below wr.heap.size wr w3) (r1 : Arr w3 wr.heap.size w3.heap.size v1 (A n).n (A n).f) (r2 : Arr w3 wr.heap.size w3.heap.size v2 (A n).k (A n).h) (ap : Apart v1 v2)
    (hg : w3.grownBy w4 v.ownBlock) (hrow : w4.ownsRow lo 57 2 v4 (n + 1) (pc X Y n ++ [v1, v2])) (hne : v4 ≠ .slice none 0 0) : ∃ X' Y', OpsG w4 lo v4 (n + 1) X' Y' A := by
  have H3 := h.below b3
  have ax : ∀ i, i < n → ∀ {u : Value} {m : Nat} {f : Nat → Int}, Arr w3 wr.heap.size w3.heap.size u m f → Apart (X i) u ∧ Apart (Y i) u := fun i hi _ _ _ r => ⟨(h.xs i hi).apart r (.inl (Nat.le_refl _)), (h.ys i hi).apart r (.inl (Nat.le_refl _))⟩
  have up : ∀ {u : Value} {m : Nat} {f : Nat → Int} {l : Nat}, lo ≤ l → Arr w3 l w3.heap.size u m f → Arr w4 lo w4.heap.size u m f := fun hl r => (arr_grown r hg (H3.ne r)).wide hl hg.size
  refine ⟨fun i => if i = n then v1 else X i, fun i => if i = n then v2 else Y i, ?_, hne, fun i hi => ?_, fun i hi => ?_, ⟨fun i j hi hj hij => ?_, fun i j hi hj => ?_⟩⟩
  · have : pc (fun i => if i = n then v1 else X i) (fun i => if i = n then v2 else Y i) (n + 1) = pc X Y n ++ [v1, v2] := by
      show pc _ _ n ++ [_, _] = _
      rw [pc_congr (X' := X) (Y' := Y) (fun i hi => by simp [show i ≠ n by omega])]
      simp
    rw [this]; exact hrow
  · by_cases e : i = n
    · subst e; simp only [if_true]; exact up hlo r1
    · simp only [if_neg e]; exact up (Nat.le_refl _) (H3.xs i (by omega))
  · by_cases e : i = n
    · subst e; simp only [if_true]; exact up hlo r2
    · simp only [if_neg e]; exact up (Nat.le_refl _) (H3.ys i (by omega))
  · by_cases e : i = n
    · by_cases e' : j = n
      · omega
      · simp only [if_pos e, if_neg e']; exact ⟨(ax j (by omega) r1).1.symm, (ax j (by omega) r2).2.symm⟩
    · by_cases e' : j = n
      · simp only [if_pos e', if_neg e]; exact ⟨(ax i (by omega) r1).1, (ax i (by omega) r2).2⟩
      · simp only [if_neg e', if_neg e]; exact h.dj.1 i j (by omega) (by omega) hij
  · by_cases e : i = n
    · by_cases e' : j = n
      · simp only [if_pos e, if_pos e']; exact ap
      · simp only [if_pos e, if_neg e']; exact (ax j (by omega) r1).2.symm
    · by_cases e' : j = n
      · simp only [if_pos e', if_neg e]; exact (ax i (by omega) r2).1
      · simp only [if_neg e', if_neg e]; exact h.dj.2 i j (by omega) (by omega)
/-- An operator of the program's, as it is told. -/
def opD (k : Nat → Int) : OpD := ⟨9, k, 3, kh k⟩
end Go.Proofs.YtiocneailhplkaaGreat
