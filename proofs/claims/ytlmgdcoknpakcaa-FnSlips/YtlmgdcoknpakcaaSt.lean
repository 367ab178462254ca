/-
  Loops around rectangles are the sums within: the mathematics.
-/
import Derived.Test.YtlmgdcoknpakcaaNg
namespace Go.Proofs.Ytlmgdcoknpakcaa
open Go.RowKit

theorem sm_sub (f g : Nat → Int) : ∀ k, sm (fun j => f j - g j) k = sm f k - sm g k
  | 0 => by simp [sm]
  | k + 1 => by simp only [sm, sm_sub f g k]; omega
/-- The sum of what is around the squares of a row, and of all rows. -/
def rowS (W : Int) (r u : Nat → Int) (x0 y : Int) (k : Nat) : Int := sm (fun j => buT W r u (x0 + j) y) k
def totS (W : Int) (r u : Nat → Int) (x0 y0 : Int) (nx k : Nat) : Int := sm (fun j => rowS W r u x0 (y0 + j) nx) k
theorem rowS_tel (W : Int) (r u : Nat → Int) (x0 y : Int) : ∀ k : Nat, rowS W r u x0 y k = sm (fun j => rt W r (x0 + j) y) k - sm (fun j => rt W r (x0 + j) (y + 1)) k + (ut W u (x0 + k) y - ut W u x0 y)
  | 0 => by simp [rowS, sm]
  | k + 1 => by
    have h := rowS_tel W r u x0 y k
    simp only [rowS] at h
    simp only [rowS, sm]
    rw [h]
    unfold buT
    rw [show x0 + (k : Int) + 1 = x0 + ((k + 1 : Nat) : Int) by omega]
    omega
theorem totS_tel (W : Int) (r u : Nat → Int) (x0 y0 x1 : Int) (nx : Nat) (hx : x0 + (nx : Int) = x1) : ∀ k : Nat, totS W r u x0 y0 nx k = sm (fun j => rt W r (x0 + j) y0) nx - sm (fun j => rt W r (x0 + j) (y0 + k)) nx + sm (sides W u x0 y0 x1) k
  | 0 => by simp [totS, sm]
  | k + 1 => by
    have h := totS_tel W r u x0 y0 x1 nx hx k
    have h2 := rowS_tel W r u x0 (y0 + k) nx
    simp only [totS] at h
    simp only [totS, sm, h, h2, sides, hx]
    rw [show y0 + (k : Int) + 1 = y0 + ((k + 1 : Nat) : Int) by omega]
    omega
theorem stokes {W : Int} {r u : Nat → Int} {x0 y0 x1 y1 : Int} (hx : x0 ≤ x1) (hy : y0 ≤ y1) : totS W r u x0 y0 (x1 - x0).toNat (y1 - y0).toNat = arT W r u x0 y0 x1 y1 := by
  rw [totS_tel W r u x0 y0 x1 _ (by omega)]
  rw [show y0 + (((y1 - y0).toNat : Nat) : Int) = y1 by omega]
  unfold arT
  rw [← sm_sub]
  rfl
theorem buT_in {W H x y : Int} {lr lu : Nat} {r u : Nat → Int} (hok : netOk W H lr r lu u = true) (hs : sq W H x y = true) : -4000000 ≤ buT W r u x y ∧ buT W r u x y ≤ 4000000 := by
  simp only [sq, Bool.and_eq_true, decide_eq_true_eq] at hs
  obtain ⟨j0, -, -, e0, b0⟩ := right_at hok (x := x) (y := y) (by omega) (by omega)
  obtain ⟨j1, -, -, e1, b1⟩ := up_at hok (x := x + 1) (y := y) (by omega) (by omega)
  obtain ⟨j2, -, -, e2, b2⟩ := right_at hok (x := x) (y := y + 1) (by omega) (by omega)
  obtain ⟨j3, -, -, e3, b3⟩ := up_at hok (x := x) (y := y) (by omega) (by omega)
  unfold buT
  rw [e0, e1, e2, e3]
  omega
theorem rowS_in {W H x0 y : Int} {lr lu : Nat} {r u : Nat → Int} (hok : netOk W H lr r lu u = true) (hx : 0 ≤ x0) (hy : 0 ≤ y ∧ y ≤ H - 2) {k : Nat} (hk : x0 + k ≤ W - 1) : -(4000000 * (k : Int)) ≤ rowS W r u x0 y k ∧ rowS W r u x0 y k ≤ 4000000 * (k : Int) := by
  have := sm_in (f := fun j => buT W r u (x0 + j) y) (B := 4000000) k (fun i hi => buT_in hok (by simp only [sq, Bool.and_eq_true, decide_eq_true_eq]; omega))
  unfold rowS
  omega
theorem totS_in {W H x0 y0 : Int} {lr lu : Nat} {r u : Nat → Int} (hok : netOk W H lr r lu u = true) (hx : 0 ≤ x0) (hy : 0 ≤ y0) {nx k : Nat} (hn : x0 + nx ≤ W - 1) (hk : y0 + k ≤ H - 1) : -(120000000 * (k : Int)) ≤ totS W r u x0 y0 nx k ∧ totS W r u x0 y0 nx k ≤ 120000000 * (k : Int) := by
  have hW := (netOk_of_true hok).1
  have := sm_in (f := fun j => rowS W r u x0 (y0 + j) nx) (B := 120000000) k (fun i hi => by have := rowS_in (x0 := x0) (y := y0 + i) hok hx (by omega) hn; omega)
  unfold totS
  omega
end Go.Proofs.Ytlmgdcoknpakcaa
