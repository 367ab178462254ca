/-
  The table of a group; Table by the specification: walked.
-/
import Derived.Test.YtpolnkjmojofoaaE8a
import Derived.Test.YtpolnkjmojofoaaMQ
import Derived.Test.YtpolnkjmojofoaaE7a
import Derived.Test.YtpolnkjmojofoaaME
namespace Go.Proofs.Ytpolnkjmojofoaa
open Go.RowKit

theorem news1 {w : World} {q : Nat} {x : Value} {t : TypeId} (a : At t w q #[x]) : ∀ j u, ([x] : List Value)[j]? = some u → w.cell? ((⟨q, 0, none⟩ : Addr).add j) = some u := by
  intro j u hu
  have h2 := a.cell j (v := u) (by simpa using hu)
  by_cases e : j = 0
  · subst e; simpa [Addr.add] using h2
  · simpa [Addr.add, e] using h2
/-- The place of an operator in a list. -/
noncomputable def plc (n : Nat) (A : Nat → OpD) (v : Value) : Nat := @dite _ (∃ j, j < n ∧ kV (A j).key = v) (Classical.propDecidable _) (fun h => Classical.choose h) (fun _ => 0)
theorem plc_eq {n j : Nat} {A : Nat → OpD} {v : Value} (hR : Rises n A) (hj : j < n) (e : kV (A j).key = v) : plc n A v = j := by
  have h : ∃ j, j < n ∧ kV (A j).key = v := ⟨j, hj, e⟩
  have h1 : plc n A v = Classical.choose h := by unfold plc; rw [dif_pos h]
  obtain ⟨h2, h3⟩ := Classical.choose_spec h
  rw [← h1] at h2 h3
  have h4 := kV_inj.1 (h3.trans e.symm)
  rcases Nat.lt_trichotomy (plc n A v) j with h5 | h5 | h5
  · have := hR.lt h5 hj; omega
  · exact h5
  · have := hR.lt h5 h2
    have h6 := kV_inj.1 (e.trans h3.symm)
    omega
/-- Row by row the places of the products. -/
noncomputable def tab (n : Nat) (A : Nat → OpD) (t : Nat) : Int := (plc n A (kV (mulQ (A (t / n)).key (A (t % n)).key)) : Nat)
theorem tab_at {n i k : Nat} (A : Nat → OpD) (hk : k < n) : tab n A (i * n + k) = (plc n A (kV (mulQ (A i).key (A k).key)) : Nat) := by
  have h1 : (i * n + k) / n = i := by rw [Nat.mul_comm, Nat.mul_add_div (by omega), Nat.div_eq_of_lt hk]; omega
  have h2 : (i * n + k) % n = k := by rw [Nat.mul_comm, Nat.mul_add_mod, Nat.mod_eq_of_lt hk]
  unfold tab
  rw [h1, h2]
def ic (f : Nat → Int) (n : Nat) : List Value := (List.range n).map (fun i => Value.int .i64 (f i))
theorem ic_len (f : Nat → Int) (n : Nat) : (ic f n).length = n := by simp [ic]
theorem ic_next (f : Nat → Int) (n : Nat) : ic f (n + 1) = ic f n ++ [.int .i64 (f n)] := by simp [ic, List.range_succ]
/-- A list of numbers that grows, in memory of its own. -/
structure IntG (w : World) (lo : Nat) (v : Value) (n : Nat) (f : Nat → Int) : Prop where
  row : w.ownsRow lo 2 1 v n (ic f n)
  nn : v ≠ .slice none 0 0
theorem IntG.below {w w' : World} {lo n : Nat} {v : Value} {f : Nat → Int} (h : IntG w lo v n f) (hb : Below w.heap.size w w') : IntG w' lo v n f := ⟨own_below h.row hb, h.nn⟩
theorem intG_new {w W : World} {f : Nat → Int} (a1 : At 2 W w.heap.size #[]) : IntG W w.heap.size (.slice (some ⟨w.heap.size, 0, none⟩) 0 0) 0 f := ⟨⟨rfl, .inr ⟨w.heap.size, 0, #[], rfl, Nat.le_refl _, a1, Nat.le_refl _, Nat.zero_le _, rfl, rfl⟩⟩, ne_nil _ _ _⟩
theorem IntG.arr {w : World} {lo n : Nat} {v : Value} {f : Nat → Int} (h : IntG w lo v n f) : ∃ g c, v = .slice (some ⟨g, 0, none⟩) n c ∧ Arr w lo w.heap.size v n f ∧ Ints w g 0 n f ∧ g < w.heap.size := by
  rcases h.row.2 with ⟨h1, _⟩ | ⟨g, c, cur, rfl, hb, hh, h3, h4, h5, h6⟩
  · exact absurd h1 h.nn
  · have hc : ∀ i, i < n → cur[i]? = some (.int .i64 (f i)) := fun i hi => by
      have := congrArg (fun l => l[i]?) h6
      simp only [List.getElem?_take, Nat.mul_one] at this
      rw [if_pos hi] at this
      simpa [ic, hi] using this
    refine ⟨g, c, rfl, .inr ⟨g, c, rfl, hb, (Array.getElem?_eq_some_iff.1 hh).1, by omega, cur, hh, by omega, hc⟩, fun i hi => ?_, (Array.getElem?_eq_some_iff.1 hh).1⟩
    have a : At 2 w g cur := hh
    rw [Nat.zero_add]
    exact a.cell i (hc i hi)
theorem IntG.next {w' : World} {lo n : Nat} {v' : Value} {f : Nat → Int} (hrow : w'.ownsRow lo 2 1 v' (n + 1) (ic f n ++ [.int .i64 (f n)])) (hne : v' ≠ .slice none 0 0) : IntG w' lo v' (n + 1) f := ⟨by rw [ic_next]; exact hrow, hne⟩
/-- What Table tells. -/
def TabP (w : World) (lo : Nat) (v : Value) (n : Nat) (A : Nat → OpD) : Prop := (isG n A ∧ IntG w lo v (n * n) (tab n A)) ∨ (¬ isG n A ∧ IntG w lo v 0 (tab n A))
theorem TabP.lower {w : World} {lo lo' n : Nat} {v : Value} {A : Nat → OpD} (h : TabP w lo v n A) (hl : lo' ≤ lo) : TabP w lo' v n A := by
  have low : ∀ {m : Nat}, IntG w lo v m (tab n A) → IntG w lo' v m (tab n A) := fun h => ⟨by
    obtain ⟨e0, h1 | ⟨g, c, cur, e, hb, r⟩⟩ := h.row
    · exact ⟨e0, .inl h1⟩
    · exact ⟨e0, .inr ⟨g, c, cur, e, Nat.le_trans hl hb, r⟩⟩, h.nn⟩
  exact h.imp (fun h => ⟨h.1, low h.2⟩) (fun h => ⟨h.1, low h.2⟩)
end Go.Proofs.Ytpolnkjmojofoaa
