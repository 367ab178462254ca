/-
  Which operators of a list let a point stay; Stabiliser by the specification: walked.
-/
import Derived.Test.YtpolnkjmojofoaaE5e
import Derived.Test.YtpolnkjmojofoaaMP
import Derived.Test.YtpolnkjmojofoaaQd
import Derived.Test.YtpolnkjmojofoaaMG
namespace Go.Proofs.Ytpolnkjmojofoaa
open Go.RowKit

/-- The numbers below n that P holds of, in their order. -/
def kL (P : Nat → Bool) (n : Nat) : List Nat := (List.range n).filter P
def kN (P : Nat → Bool) (n : Nat) : Nat := (kL P n).length
def kI (P : Nat → Bool) (n j : Nat) : Nat := ((kL P n)[j]?).getD 0
theorem kL_yes {P : Nat → Bool} {n : Nat} (h : P n = true) : kL P (n + 1) = kL P n ++ [n] := by simp [kL, List.range_succ, h]
theorem kL_no {P : Nat → Bool} {n : Nat} (h : P n = false) : kL P (n + 1) = kL P n := by simp [kL, List.range_succ, h]
theorem kN_yes {P : Nat → Bool} {n : Nat} (h : P n = true) : kN P (n + 1) = kN P n + 1 := by simp [kN, kL_yes h]
theorem kN_no {P : Nat → Bool} {n : Nat} (h : P n = false) : kN P (n + 1) = kN P n := by simp [kN, kL_no h]
theorem kI_no {P : Nat → Bool} {n : Nat} (h : P n = false) (j : Nat) : kI P (n + 1) j = kI P n j := by simp [kI, kL_no h]
theorem kI_old {P : Nat → Bool} {n : Nat} (h : P n = true) {j : Nat} (hj : j < kN P n) : kI P (n + 1) j = kI P n j := by
  unfold kI
  rw [kL_yes h, List.getElem?_append_left hj]
theorem kI_new {P : Nat → Bool} {n : Nat} (h : P n = true) : kI P (n + 1) (kN P n) = n := by
  unfold kI kN
  rw [kL_yes h, List.getElem?_append_right (Nat.le_refl _)]
  simp
theorem kN_le (P : Nat → Bool) (n : Nat) : kN P n ≤ n := by
  have := List.length_filter_le P (List.range n)
  simpa [kN, kL] using this
theorem kI_lt {P : Nat → Bool} {n j : Nat} (hj : j < kN P n) : kI P n j < n := by
  unfold kI
  have h : (kL P n)[j]? = some ((kL P n)[j]'hj) := List.getElem?_eq_getElem hj
  rw [h]
  have h2 : (kL P n)[j]'hj ∈ kL P n := List.getElem_mem hj
  have h3 := (List.mem_filter.1 h2).1
  simpa using h3
theorem OpsG.congr {w : World} {lo n : Nat} {v : Value} {X Y : Nat → Value} {A A' : Nat → OpD} (h : OpsG w lo v n X Y A) (e : ∀ i, i < n → A i = A' i) : OpsG w lo v n X Y A' :=
  ⟨h.row, h.nn, fun i hi => (e i hi) ▸ h.xs i hi, fun i hi => (e i hi) ▸ h.ys i hi, h.dj⟩
theorem OpsA.lower {w : World} {lo lo' hi g n : Nat} {X Y : Nat → Value} {A : Nat → OpD} (h : OpsA w lo hi g n X Y A) (hl : lo' ≤ lo) : OpsA w lo' hi g n X Y A :=
  ⟨⟨Nat.le_trans hl h.blk.1, h.blk.2⟩, fun i hi => (h.xs i hi).wide hl (Nat.le_refl _), fun i hi => (h.ys i hi).wide hl (Nat.le_refl _), h.dj⟩
theorem OpsG.more {wr w3 w4 : World} {lo i : Nat} {v v4 v1 v2 : Value} {X Y : Nat → Value} {A : Nat → OpD} {P : Nat → Bool} (h : OpsG wr lo v (kN P i) X Y (fun j => A (kI P i j))) (hP : P i = true) (hk : (A i).n = 9 ∧ (A i).k = 3) (hlo : lo ≤ wr.heap.size) (b3 : Below wr.heap.size wr w3) (r1 : Arr w3 wr.heap.size w3.heap.size v1 9 (A i).f) (r2 : Arr w3 wr.heap.size w3.heap.size v2 3 (A i).h) (ap : Apart v1 v2)
    (hg : w3.grownBy w4 v.ownBlock) (hrow : w4.ownsRow lo 33 2 v4 (kN P i + 1) (pc X Y (kN P i) ++ [v1, v2])) (hne : v4 ≠ .slice none 0 0) : ∃ X' Y', OpsG w4 lo v4 (kN P (i + 1)) X' Y' (fun j => A (kI P (i + 1) j)) := by
  rw [kN_yes hP]
  have h' := h.congr (A' := fun j => A (kI P (i + 1) j)) (fun j hj => by rw [kI_old hP hj])
  refine h'.next hlo b3 ?_ ?_ ap hg hrow hne
  · show Arr _ _ _ _ (A (kI P (i + 1) (kN P i))).n (A (kI P (i + 1) (kN P i))).f
    rw [kI_new hP, hk.1]; exact r1
  · show Arr _ _ _ _ (A (kI P (i + 1) (kN P i))).k (A (kI P (i + 1) (kN P i))).h
    rw [kI_new hP, hk.2]; exact r2
theorem hidden {p : Prop} (h : p) : Hid p := h
/-- The operator lets the point stay. -/
def stay (x y z : Int) (o : OpD) : Bool := decide (actV o.f o.h (p3 x y z) 0 = x ∧ actV o.f o.h (p3 x y z) 1 = y ∧ actV o.f o.h (p3 x y z) 2 = z)
/-- An own list of the operators of A that let the point stay; none, if r does not hold. -/
def StaP (w : World) (lo : Nat) (v : Value) (n : Nat) (A : Nat → OpD) (x y z : Int) : Prop :=
  ∃ g c X Y m, v = .slice (some ⟨g, 0, none⟩) m c ∧ OpsA w lo w.heap.size g m X Y (fun j => A (kI (fun i => stay x y z (A i)) n j)) ∧ ((isG n A ∧ inP x y z) ∧ m = kN (fun i => stay x y z (A i)) n ∨ ¬ (isG n A ∧ inP x y z) ∧ m = 0)
theorem opsG_new {w W : World} {A : Nat → OpD} (a1 : At 33 W w.heap.size #[]) : OpsG W w.heap.size (.slice (some ⟨w.heap.size, 0, none⟩) 0 0) 0 (fun _ => undef) (fun _ => undef) A := ⟨⟨rfl, .inr ⟨w.heap.size, 0, #[], rfl, Nat.le_refl _, a1, Nat.le_refl _, Nat.zero_le _, rfl, rfl⟩⟩, ne_nil _ _ _, fun i hi => by omega, fun i hi => by omega, fun i j hi => by omega, fun i j hi => by omega⟩
end Go.Proofs.Ytpolnkjmojofoaa
