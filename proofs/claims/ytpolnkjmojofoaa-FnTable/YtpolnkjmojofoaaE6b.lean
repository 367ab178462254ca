/-
  Stabiliser by the program: walked.
-/
import Derived.Test.YtpolnkjmojofoaaE6a
import Derived.Test.YtpolnkjmojofoaaE5f
namespace Go.Proofs.Ytpolnkjmojofoaa
open Go.RowKit

theorem Oprs.grown {w w' : World} {base g n c : Nat} {F : Nat → Nat → Int} {v : Value} (h : Oprs w base (.slice (some ⟨g, 0, none⟩) n c) n F) (hg : w.grownBy w' v.ownBlock) (hne : v.ownBlock ≠ some g) : Oprs w' base (.slice (some ⟨g, 0, none⟩) n c) n F := by
  refine ⟨?_, h.2⟩
  obtain ⟨e0, h1 | ⟨g', c', cur, e, hb, hh, r⟩⟩ := h.1
  · exact ⟨e0, .inl h1⟩
  · cases e
    exact ⟨e0, .inr ⟨g, c, cur, rfl, hb, (hg.block g (Array.getElem?_eq_some_iff.1 hh).1 (fun e => hne e.symm)).trans hh, r⟩⟩
theorem Oprs.lt {w : World} {base g n c : Nat} {F : Nat → Nat → Int} (h : Oprs w base (.slice (some ⟨g, 0, none⟩) n c) n F) : base ≤ g ∧ g < w.heap.size := by
  obtain ⟨e0, h1 | ⟨g', c', cur, e, hb, hh, r⟩⟩ := h.1
  · exact absurd h1.1 h.2
  · cases e
    exact ⟨hb, (Array.getElem?_eq_some_iff.1 hh).1⟩
theorem Oprs.more {w' : World} {base i : Nat} {v' : Value} {K : Nat → Nat → Int} {P : Nat → Bool} (hP : P i = true) (hown : w'.ownsRow base 70 12 v' (kN P i + 1) (kCells (fun j => K (kI P i j)) (kN P i) ++ kc (K i))) (hne : v' ≠ .slice none 0 0) : Oprs w' base v' (kN P (i + 1)) (fun j => K (kI P (i + 1) j)) := by
  refine ⟨?_, hne⟩
  rw [kN_yes hP]
  show w'.ownsRow base _ 12 v' _ (kCells (fun j => K (kI P (i + 1) j)) (kN P i) ++ kc (K (kI P (i + 1) (kN P i))))
  rw [kI_new hP, kCells_congr (G := fun j => K (kI P i j)) (fun j hj l _ => by rw [kI_old hP hj])]
  exact hown
theorem Oprs.same {w : World} {base i : Nat} {v : Value} {K : Nat → Nat → Int} {P : Nat → Bool} (hP : P i = false) (h : Oprs w base v (kN P i) (fun j => K (kI P i j))) : Oprs w base v (kN P (i + 1)) (fun j => K (kI P (i + 1) j)) := by
  refine ⟨?_, h.2⟩
  rw [kN_no hP, kCells_congr (G := fun j => K (kI P i j)) (fun j hj l _ => by rw [kI_no hP])]
  exact h.1
theorem key_R {o : OpD} (h : o.ok) : isR o.key (kh o.key) := by
  obtain ⟨-, -, h1, h2, h3⟩ := h
  refine ⟨fun i hi => by rw [key_lo o hi]; exact h1 i hi, fun i hi => by show 0 ≤ o.key (9 + i) ∧ o.key (9 + i) < 24; rw [key_hi]; exact h2 i hi, ?_⟩
  have : det3 o.key = det3 o.f := by
    unfold det3
    simp only [key_lo o (show 0 < 9 by decide), key_lo o (show 1 < 9 by decide), key_lo o (show 2 < 9 by decide), key_lo o (show 3 < 9 by decide), key_lo o (show 4 < 9 by decide), key_lo o (show 5 < 9 by decide), key_lo o (show 6 < 9 by decide), key_lo o (show 7 < 9 by decide), key_lo o (show 8 < 9 by decide)]
  rw [this]; exact h3
theorem key_act (o : OpD) (p : Nat → Int) (i : Nat) (hi : i < 3) : actV o.key (kh o.key) p i = actV o.f o.h p i := by
  unfold actV
  have e : movV o.key p i = movV o.f p i := by
    unfold movV
    simp only [vsum]
    rw [key_lo o (by omega), key_lo o (by omega), key_lo o (by omega)]
  rw [e, show kh o.key i = o.h i from key_hi o i]
theorem oprs_new {w W : World} {F : Nat → Nat → Int} (a1 : At 70 W w.heap.size #[]) : Oprs W w.heap.size (.slice (some ⟨w.heap.size, 0, none⟩) 0 0) 0 F := ⟨⟨rfl, .inr ⟨w.heap.size, 0, #[], rfl, Nat.le_refl _, a1, Nat.le_refl _, Nat.zero_le _, rfl, rfl⟩⟩, ne_nil _ _ _⟩
theorem grp_one {w : World} {base n : Nat} {A : Nat → OpD} {v : Value} (h : GrpOf w base n A v) : ∃ g m c, v = .slice (some ⟨g, 0, none⟩) m c ∧ Oprs w base v m (fun i => (A i).key) ∧ m ≤ 192 ∧ m ≤ n ∧ (isG n A ∧ m = n ∨ ¬ isG n A ∧ m = 0) := by
  rcases h with ⟨h1, h2⟩ | ⟨h1, F, h2⟩
  · obtain ⟨g, c, e⟩ := oprs_open h2
    exact ⟨g, n, c, e, h2, h1.1, Nat.le_refl _, .inl ⟨h1, rfl⟩⟩
  · obtain ⟨g, c, e⟩ := oprs_open h2
    exact ⟨g, 0, c, e, h2, Nat.zero_le _, Nat.zero_le _, .inr ⟨h1, rfl⟩⟩
/-- What the program's Stabiliser tells. -/
def StaQ (w : World) (lo : Nat) (v : Value) (n : Nat) (A : Nat → OpD) (x y z : Int) : Prop :=
  ∃ g c X Y m, v = .slice (some ⟨g, 0, none⟩) m c ∧ OpsA w lo w.heap.size g m X Y (fun j => opD (A (kI (fun i => stay x y z (A i)) n j)).key) ∧ ((isG n A ∧ inP x y z) ∧ m = kN (fun i => stay x y z (A i)) n ∨ ¬ (isG n A ∧ inP x y z) ∧ m = 0)
end Go.Proofs.Ytpolnkjmojofoaa
