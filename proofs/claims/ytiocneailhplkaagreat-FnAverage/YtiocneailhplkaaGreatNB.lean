/-
  Which operators of a list let a point stay; Stabiliser by the specification: walked.
-/
import Derived.Test.YtiocneailhplkaaGreatNA
import Derived.Test.YtiocneailhplkaaGreatMP
import Derived.Test.YtiocneailhplkaaGreatQd
import Derived.Test.YtiocneailhplkaaGreatMG
namespace Go.Proofs.YtiocneailhplkaaGreat
open Go.RowKit

/-- The numbers below n that P holds of, in their order. -/
def kL (P : Nat → Bool) (n : Nat) : List Nat := (List.range n).filter P
def kN (P : Nat → Bool) (n : Nat) : Nat := (kL P n).length
def kI (P : Nat → Bool) (n j : Nat) : Nat := ((kL P n)[j]?).getD 0
theorem kL_yes {P : Nat → Bool} {n : Nat} (h : P n = true) : kL P (n + 1) = kL P n ++ [n] := by simp [kL, List.range_succ, h]
theorem kL_no {P : Nat → Bool} {n : Nat} (h : P n = false) : kL P (n + 1) = kL P n := by simp [kL, List.range_succ, h]
theorem kN_yes {P : Nat → Bool} {n : Nat} (h : P n = true) : kN P (n + 1) = kN P n + 1 := by simp [kN, kL_yes h]
theorem kN_no {P : Nat → Bool} {n : Nat} (h : P n = false) : kN P (n + 1) = kN P n := by simp [kN, kL_no h]
theorem kI_no {P : Nat → Bool} {n : Nat} (h : P n = false) (j : Nat) : kI P (n + 1) j = kI P n j := by simp [kI, kL_no h]
theorem kI_old {P : Nat → Bool} {n : Nat} (h : P n = true) {j : Nat} (hj : j < kN P n) : kI P (n + 1) j = kI P n j := by
  unfold kI
  rw [kL_yes h, List.getElem?_append_left hj]
theorem kI_new {P : Nat → Bool} {n : Nat} (h : P n = true) : kI P (n + 1) (kN P n) = n := by
  unfold kI kN
  rw [kL_yes h, List.getElem?_append_right (Nat.le_refl _)]
  simp
theorem kN_le (P : Nat → Bool) (n : Nat) : kN P n ≤ n := by
  have := List.length_filter_le P (List.range n)
  simpa [kN, kL] using this
theorem kI_lt {P : Nat → Bool} {n j : Nat} (hj : j < kN P n) : kI P n j < n := by
  unfold kI
  have h : (kL P n)[j]? = some ((kL P n)[j]'hj) := List.getElem?_eq_getElem hj
  rw [h]
  have h2 : (kL P n)[j]'hj ∈ kL P n := List.getElem_mem hj
  have h3 := (List.mem_filter.1 h2).1
  simpa using h3
theorem OpsG.congr {w : World} {lo n : Nat} {v : Value} {X Y : Nat → Value} {A A' : Nat → OpD} (h : OpsG w lo v n X Y A) (e : ∀ i, i < n → A i = A' i) : OpsG w lo v n X Y A' :=
  ⟨h.row, h.nn, fun i hi => (e i hi) ▸ h.xs i hi, fun i hi => (e i hi) ▸ h.ys i hi, h.dj⟩
theorem OpsA.lower {w : World} {lo lo' hi g n : Nat} {X Y : Nat → Value} {A : Nat → OpD} (h : OpsA w lo hi g n X Y A) (hl : lo' ≤ lo) : OpsA w lo' hi g n X Y A :=
  ⟨⟨Nat.le_trans hl h.blk.1, h.blk.2⟩, fun i hi => (h.xs i hi).wide hl (Nat.le_refl _), fun i hi => (h.ys i hi).wide hl (Nat.le_refl _), h.dj⟩
theorem OpsG.more {wr w3 w4 : World} {lo i : Nat} {v v4 v1 v2 : Value} {X Y : Nat → Value} {A : Nat → OpD} {P : Nat → Bool} (h : OpsG wr lo v (kN P i) X Y (fun j => A (kI P i j))) (hP : P i = true) (hk : (A i).n = 9 ∧ (A i).k = 3) (hlo : lo ≤ wr.heap.size) (b3 : Below wr.heap.size wr w3) (r1 : Arr w3 wr.heap.size w3.heap.size v1 9 (A i).f) (r2 : Arr w3 wr.heap.size w3.heap.size v2 3 (A i).h) (ap : Apart v1 v2)
    (hg : w3.grownBy w4 v.ownBlock) (hrow : w4.ownsRow lo 57 2 v4 (kN P i + 1) (pc X Y (kN P i) ++ [v1, v2])) (hne : v4 ≠ .slice none 0 0) : ∃ X' Y', OpsG w4 lo v4 (kN P (i + 1)) X' Y' (fun j => A (kI P (i + 1) j)) := by
  rw [kN_yes hP]
  have h' := h.congr (A' := fun j => A (kI P (i + 1) j)) (fun j hj => by rw [kI_old hP hj])
  refine h'.next hlo b3 ?_ ?_ ap hg hrow hne
  · show Arr _ _ _ _ (A (kI P (i + 1) (kN P i))).n (A (kI P (i + 1) (kN P i))).f
    rw [kI_new hP, hk.1]; exact r1
  · show Arr _ _ _ _ (A (kI P (i + 1) (kN P i))).k (A (kI P (i + 1) (kN P i))).h
    rw [kI_new hP, hk.2]; exact r2
theorem hidden {p : Prop} (h : p) : Hid p := h
/-- The operator lets the point stay. -/
def stay (x y z : Int) (o : OpD) : Bool := decide (actV o.f o.h (p3 x y z) 0 = x ∧ actV o.f o.h (p3 x y z) 1 = y ∧ actV o.f o.h (p3 x y z) 2 = z)
/-- An own list of the operators of A that let the point stay; none, if r does not hold. -/
def StaP (w : World) (lo : Nat) (v : Value) (n : Nat) (A : Nat → OpD) (x y z : Int) : Prop :=
  ∃ g c X Y m, v = .slice (some ⟨g, 0, none⟩) m c ∧ OpsA w lo w.heap.size g m X Y (fun j => A (kI (fun i => stay x y z (A i)) n j)) ∧ ((isG n A ∧ inP x y z) ∧ m = kN (fun i => stay x y z (A i)) n ∨ ¬ (isG n A ∧ inP x y z) ∧ m = 0)
theorem opsG_new {w W : World} {A : Nat → OpD} (a1 : At 57 W w.heap.size #[]) : OpsG W w.heap.size (.slice (some ⟨w.heap.size, 0, none⟩) 0 0) 0 (fun _ => undef) (fun _ => undef) A := ⟨⟨rfl, .inr ⟨w.heap.size, 0, #[], rfl, Nat.le_refl _, a1, Nat.le_refl _, Nat.zero_le _, rfl, rfl⟩⟩, ne_nil _ _ _, fun i hi => by omega, fun i hi => by omega, fun i j hi => by omega, fun i j hi => by omega⟩
end Go.Proofs.YtiocneailhplkaaGreat
/-
  Extinct by the program, and the law FnExactExtinct: walked.
-/
namespace Go.Proofs.YtiocneailhplkaaGreat
open Go.RowKit

theorem oprs_open {w : World} {base n : Nat} {v : Value} {F : Nat → Nat → Int} (h : Oprs w base v n F) : ∃ g c, v = .slice (some ⟨g, 0, none⟩) n c := by
  rcases h.1.2 with ⟨e, _⟩ | ⟨g, c, cur, e, -⟩
  · exact absurd e h.2
  · exact ⟨g, c, e⟩
end Go.Proofs.YtiocneailhplkaaGreat
/-
  Stabiliser by the program: walked.
-/
namespace Go.Proofs.YtiocneailhplkaaGreat
open Go.RowKit

theorem Oprs.grown {w w' : World} {base g n c : Nat} {F : Nat → Nat → Int} {v : Value} (h : Oprs w base (.slice (some ⟨g, 0, none⟩) n c) n F) (hg : w.grownBy w' v.ownBlock) (hne : v.ownBlock ≠ some g) : Oprs w' base (.slice (some ⟨g, 0, none⟩) n c) n F := by
  refine ⟨?_, h.2⟩
  obtain ⟨e0, h1 | ⟨g', c', cur, e, hb, hh, r⟩⟩ := h.1
  · exact ⟨e0, .inl h1⟩
  · cases e
    exact ⟨e0, .inr ⟨g, c, cur, rfl, hb, (hg.block g (Array.getElem?_eq_some_iff.1 hh).1 (fun e => hne e.symm)).trans hh, r⟩⟩
theorem Oprs.lt {w : World} {base g n c : Nat} {F : Nat → Nat → Int} (h : Oprs w base (.slice (some ⟨g, 0, none⟩) n c) n F) : base ≤ g ∧ g < w.heap.size := by
  obtain ⟨e0, h1 | ⟨g', c', cur, e, hb, hh, r⟩⟩ := h.1
  · exact absurd h1.1 h.2
  · cases e
    exact ⟨hb, (Array.getElem?_eq_some_iff.1 hh).1⟩
theorem Oprs.more {w' : World} {base i : Nat} {v' : Value} {K : Nat → Nat → Int} {P : Nat → Bool} (hP : P i = true) (hown : w'.ownsRow base 90 12 v' (kN P i + 1) (kCells (fun j => K (kI P i j)) (kN P i) ++ kc (K i))) (hne : v' ≠ .slice none 0 0) : Oprs w' base v' (kN P (i + 1)) (fun j => K (kI P (i + 1) j)) := by
  refine ⟨?_, hne⟩
  rw [kN_yes hP]
  show w'.ownsRow base _ 12 v' _ (kCells (fun j => K (kI P (i + 1) j)) (kN P i) ++ kc (K (kI P (i + 1) (kN P i))))
  rw [kI_new hP, kCells_congr (G := fun j => K (kI P i j)) (fun j hj l _ => by rw [kI_old hP hj])]
  exact hown
theorem Oprs.same {w : World} {base i : Nat} {v : Value} {K : Nat → Nat → Int} {P : Nat → Bool} (hP : P i = false) (h : Oprs w base v (kN P i) (fun j => K (kI P i j))) : Oprs w base v (kN P (i + 1)) (fun j => K (kI P (i + 1) j)) := by
  refine ⟨?_, h.2⟩
  rw [kN_no hP, kCells_congr (G := fun j => K (kI P i j)) (fun j hj l _ => by rw [kI_no hP])]
  exact h.1
theorem key_R {o : OpD} (h : o.ok) : isR o.key (kh o.key) := by
  obtain ⟨-, -, h1, h2, h3⟩ := h
  refine ⟨fun i hi => by rw [key_lo o hi]; exact h1 i hi, fun i hi => by show 0 ≤ o.key (9 + i) ∧ o.key (9 + i) < 24; rw [key_hi]; exact h2 i hi, ?_⟩
  have : det3 o.key = det3 o.f := by
    unfold det3
    simp only [key_lo o (show 0 < 9 by decide), key_lo o (show 1 < 9 by decide), key_lo o (show 2 < 9 by decide), key_lo o (show 3 < 9 by decide), key_lo o (show 4 < 9 by decide), key_lo o (show 5 < 9 by decide), key_lo o (show 6 < 9 by decide), key_lo o (show 7 < 9 by decide), key_lo o (show 8 < 9 by decide)]
  rw [this]; exact h3
theorem key_act (o : OpD) (p : Nat → Int) (i : Nat) (hi : i < 3) : actV o.key (kh o.key) p i = actV o.f o.h p i := by
  unfold actV
  have e : movV o.key p i = movV o.f p i := by
    unfold movV
    simp only [vsum]
    rw [key_lo o (by omega), key_lo o (by omega), key_lo o (by omega)]
  rw [e, show kh o.key i = o.h i from key_hi o i]
theorem oprs_new {w W : World} {F : Nat → Nat → Int} (a1 : At 90 W w.heap.size #[]) : Oprs W w.heap.size (.slice (some ⟨w.heap.size, 0, none⟩) 0 0) 0 F := ⟨⟨rfl, .inr ⟨w.heap.size, 0, #[], rfl, Nat.le_refl _, a1, Nat.le_refl _, Nat.zero_le _, rfl, rfl⟩⟩, ne_nil _ _ _⟩
theorem grp_one {w : World} {base n : Nat} {A : Nat → OpD} {v : Value} (h : GrpOf w base n A v) : ∃ g m c, v = .slice (some ⟨g, 0, none⟩) m c ∧ Oprs w base v m (fun i => (A i).key) ∧ m ≤ 192 ∧ m ≤ n ∧ (isG n A ∧ m = n ∨ ¬ isG n A ∧ m = 0) := by
  rcases h with ⟨h1, h2⟩ | ⟨h1, F, h2⟩
  · obtain ⟨g, c, e⟩ := oprs_open h2
    exact ⟨g, n, c, e, h2, h1.1, Nat.le_refl _, .inl ⟨h1, rfl⟩⟩
  · obtain ⟨g, c, e⟩ := oprs_open h2
    exact ⟨g, 0, c, e, h2, Nat.zero_le _, Nat.zero_le _, .inr ⟨h1, rfl⟩⟩
/-- What the program's Stabiliser tells. -/
def StaQ (w : World) (lo : Nat) (v : Value) (n : Nat) (A : Nat → OpD) (x y z : Int) : Prop :=
  ∃ g c X Y m, v = .slice (some ⟨g, 0, none⟩) m c ∧ OpsA w lo w.heap.size g m X Y (fun j => opD (A (kI (fun i => stay x y z (A i)) n j)).key) ∧ ((isG n A ∧ inP x y z) ∧ m = kN (fun i => stay x y z (A i)) n ∨ ¬ (isG n A ∧ inP x y z) ∧ m = 0)
end Go.Proofs.YtiocneailhplkaaGreat
