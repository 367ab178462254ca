/-
  Slips and fields: what becomes of what is around the squares: the mathematics.
-/
import Derived.Test.YtlmgdcoknpakcaaNo
import Derived.Test.YtlmgdcoknpakcaaCb3
namespace Go.Proofs.Ytlmgdcoknpakcaa
open Go.RowKit

theorem mul_inj {M x x' y y' : Int} (hx : 0 ≤ x ∧ x < M) (hx' : 0 ≤ x' ∧ x' < M) (h : y * M + x = y' * M + x') : x = x' ∧ y = y' := by
  have hM : 0 ≤ M := by omega
  rcases Int.lt_trichotomy y y' with hy | hy | hy
  · have := Int.mul_le_mul_of_nonneg_right (show y + 1 ≤ y' by omega) hM
    rw [Int.add_mul, Int.one_mul] at this
    omega
  · subst hy
    exact ⟨by omega, rfl⟩
  · have := Int.mul_le_mul_of_nonneg_right (show y' + 1 ≤ y by omega) hM
    rw [Int.add_mul, Int.one_mul] at this
    omega
theorem rn_nn {W x y : Int} (hx : 0 ≤ x ∧ x < W - 1) (hy : 0 ≤ y) : ((rn W x y).toNat : Int) = rn W x y := by
  have := Int.mul_nonneg hy (show 0 ≤ W - 1 by omega)
  exact Int.toNat_of_nonneg (by unfold rn; omega)
theorem un_nn {W x y : Int} (hx : 0 ≤ x ∧ x < W) (hy : 0 ≤ y) : ((un W x y).toNat : Int) = un W x y := by
  have := Int.mul_nonneg hy (show 0 ≤ W by omega)
  exact Int.toNat_of_nonneg (by unfold un; omega)
theorem rn_eq {W x x' y y' : Int} (hx : 0 ≤ x ∧ x < W - 1) (hx' : 0 ≤ x' ∧ x' < W - 1) : rn W x y = rn W x' y' ↔ x = x' ∧ y = y' := ⟨fun h => mul_inj hx hx' h, fun h => by rw [h.1, h.2]⟩
theorem un_eq {W x x' y y' : Int} (hx : 0 ≤ x ∧ x < W) (hx' : 0 ≤ x' ∧ x' < W) : un W x y = un W x' y' ↔ x = x' ∧ y = y' := ⟨fun h => mul_inj hx hx' h, fun h => by rw [h.1, h.2]⟩
/-- The steps behind a slip. -/
theorem slF_rt {W x y b x' y' : Int} {r : Nat → Int} (hx : 0 ≤ x ∧ x < W - 1) (hx' : 0 ≤ x' ∧ x' < W - 1) (hy' : 0 ≤ y') : ∀ k : Nat, rt W (slF W x y b r k) x' y' = rt W r x' y' + (if x' = x ∧ y + 1 ≤ y' ∧ y' < y + 1 + k then b else 0)
  | 0 => by
    rw [if_neg (by omega)]
    simp [slF]
  | k + 1 => by
    have ih := slF_rt (y := y) (b := b) (r := r) hx hx' hy' k
    unfold rt at ih ⊢
    simp only [slF]
    rw [rn_nn hx' hy']
    by_cases h : x' = x ∧ y' = y + 1 + k
    · rw [if_pos ((rn_eq hx' hx).2 h), ih, if_neg (by omega), if_pos (by omega)]
      omega
    · rw [if_neg (fun e => h ((rn_eq hx' hx).1 e)), ih]
      by_cases h2 : x' = x ∧ y + 1 ≤ y' ∧ y' < y + 1 + k
      · rw [if_pos h2, if_pos (by omega)]
      · rw [if_neg h2, if_neg (by omega)]
theorem slip_bu {W H x y b x' y' : Int} {r u : Nat → Int} (hs : sq W H x y = true) (hs' : sq W H x' y' = true) : buT W (slF W x y b r (H - 1 - y).toNat) u x' y' = buT W r u x' y' - (if x' = x ∧ y' = y then b else 0) := by
  simp only [sq, Bool.and_eq_true, decide_eq_true_eq] at hs hs'
  unfold buT
  rw [slF_rt (by omega) (by omega) (by omega), slF_rt (by omega) (by omega) (by omega)]
  by_cases h : x' = x
  · by_cases h2 : y' = y
    · rw [if_neg (by omega), if_pos (by omega), if_pos ⟨h, h2⟩]; omega
    · by_cases h3 : y + 1 ≤ y'
      · rw [if_pos (by omega), if_pos (by omega), if_neg (by omega)]; omega
      · rw [if_neg (by omega), if_neg (by omega), if_neg (by omega)]; omega
  · rw [if_neg (by omega), if_neg (by omega), if_neg (by omega)]; omega
/-- The steps behind a field. -/
theorem stR_rt {W x y X Y : Int} {F R : Nat → Int} (hx : 0 ≤ x ∧ x < W - 1) (hy : 0 ≤ y) (hX : 0 ≤ X ∧ X < W) : rt W (stR W F Y X R) x y = rt W R x y + (if x = X ∧ y = Y then ut W F (x + 1) y - ut W F x y else 0) := by
  unfold stR
  by_cases h : X + 1 < W
  · rw [if_pos h]
    show ite _ _ _ = _
    have hX' : 0 ≤ X ∧ X < W - 1 := by omega
    rw [rn_nn hx hy]
    by_cases h2 : x = X ∧ y = Y
    · rw [if_pos ((rn_eq hx hX').2 h2), if_pos h2, h2.1, h2.2]; rfl
    · rw [if_neg (fun e => h2 ((rn_eq hx hX').1 e)), if_neg h2]; simp [rt]
  · rw [if_neg h, if_neg (by omega)]; simp
theorem rowR_rt {W x y Y : Int} {F R : Nat → Int} (hx : 0 ≤ x ∧ x < W - 1) (hy : 0 ≤ y) : ∀ k : Nat, (k : Int) ≤ W → rt W (rowR W F Y R k) x y = rt W R x y + (if x < k ∧ y = Y then ut W F (x + 1) y - ut W F x y else 0)
  | 0, _ => by rw [if_neg (by omega)]; simp [rowR]
  | k + 1, hk => by
    have ih := rowR_rt (Y := Y) (F := F) (R := R) hx hy k (by omega)
    simp only [rowR]
    rw [stR_rt hx hy (by omega), ih]
    by_cases h : y = Y
    · by_cases h2 : x < k
      · rw [if_pos ⟨h2, h⟩, if_neg (by omega), if_pos (by omega)]; omega
      · by_cases h3 : x = k
        · rw [if_neg (by omega), if_pos ⟨h3, h⟩, if_pos (by omega)]; omega
        · rw [if_neg (by omega), if_neg (by omega), if_neg (by omega)]; omega
    · rw [if_neg (by omega), if_neg (by omega), if_neg (by omega)]; omega
theorem allR_rt {W x y : Int} {F R : Nat → Int} (hx : 0 ≤ x ∧ x < W - 1) (hy : 0 ≤ y) : ∀ k : Nat, rt W (allR W F R k) x y = rt W R x y + (if y < k then ut W F (x + 1) y - ut W F x y else 0)
  | 0 => by rw [if_neg (by omega)]; simp [allR]
  | k + 1 => by
    have ih := allR_rt (F := F) (R := R) hx hy k
    simp only [allR]
    rw [rowR_rt hx hy _ (by omega), ih]
    by_cases h : y < k
    · rw [if_pos h, if_neg (by omega), if_pos (by omega)]; omega
    · by_cases h2 : y = k
      · rw [if_neg h, if_pos (by omega), if_pos (by omega)]; omega
      · rw [if_neg h, if_neg (by omega), if_neg (by omega)]; omega
theorem stU_ut {W H x y X Y : Int} {F U : Nat → Int} (hx : 0 ≤ x ∧ x < W) (hy : 0 ≤ y ∧ y < H - 1) (hX : 0 ≤ X ∧ X < W) : ut W (stU W H F Y X U) x y = ut W U x y + (if x = X ∧ y = Y then ut W F x (y + 1) - ut W F x y else 0) := by
  unfold stU
  by_cases h : Y + 1 < H
  · rw [if_pos h]
    show ite _ _ _ = _
    rw [un_nn hx hy.1]
    by_cases h2 : x = X ∧ y = Y
    · rw [if_pos ((un_eq hx hX).2 h2), if_pos h2, h2.1, h2.2]; rfl
    · rw [if_neg (fun e => h2 ((un_eq hx hX).1 e)), if_neg h2]; simp [ut]
  · rw [if_neg h, if_neg (by omega)]; simp
theorem rowU_ut {W H x y Y : Int} {F U : Nat → Int} (hx : 0 ≤ x ∧ x < W) (hy : 0 ≤ y ∧ y < H - 1) : ∀ k : Nat, (k : Int) ≤ W → ut W (rowU W H F Y U k) x y = ut W U x y + (if x < k ∧ y = Y then ut W F x (y + 1) - ut W F x y else 0)
  | 0, _ => by rw [if_neg (by omega)]; simp [rowU]
  | k + 1, hk => by
    have ih := rowU_ut (Y := Y) (F := F) (U := U) hx hy k (by omega)
    simp only [rowU]
    rw [stU_ut hx hy (by omega), ih]
    by_cases h : y = Y
    · by_cases h2 : x < k
      · rw [if_pos ⟨h2, h⟩, if_neg (by omega), if_pos (by omega)]; omega
      · by_cases h3 : x = k
        · rw [if_neg (by omega), if_pos ⟨h3, h⟩, if_pos (by omega)]; omega
        · rw [if_neg (by omega), if_neg (by omega), if_neg (by omega)]; omega
    · rw [if_neg (by omega), if_neg (by omega), if_neg (by omega)]; omega
theorem allU_ut {W H x y : Int} {F U : Nat → Int} (hx : 0 ≤ x ∧ x < W) (hy : 0 ≤ y ∧ y < H - 1) : ∀ k : Nat, ut W (allU W H F U k) x y = ut W U x y + (if y < k then ut W F x (y + 1) - ut W F x y else 0)
  | 0 => by rw [if_neg (by omega)]; simp [allU]
  | k + 1 => by
    have ih := allU_ut (F := F) (U := U) hx hy k
    simp only [allU]
    rw [rowU_ut hx hy _ (by omega), ih]
    by_cases h : y < k
    · rw [if_pos h, if_neg (by omega), if_pos (by omega)]; omega
    · by_cases h2 : y = k
      · rw [if_neg h, if_pos (by omega), if_pos (by omega)]; omega
      · rw [if_neg h, if_neg (by omega), if_neg (by omega)]; omega
theorem shift_bu {W H x y : Int} {F r u : Nat → Int} (hs : sq W H x y = true) : buT W (allR W F r H.toNat) (allU W H F u H.toNat) x y = buT W r u x y := by
  simp only [sq, Bool.and_eq_true, decide_eq_true_eq] at hs
  unfold buT
  rw [allR_rt (by omega) (by omega), allR_rt (by omega) (by omega), allU_ut (by omega) (by omega), allU_ut (by omega) (by omega), if_pos (by omega), if_pos (by omega), if_pos (by omega), if_pos (by omega)]
  omega
theorem shift_coR {W H : Int} {F r u : Nat → Int} {y : Int} (hy : 0 ≤ y ∧ y ≤ H - 2) : ∀ k : Nat, (k : Int) ≤ W - 1 → coR W (allR W F r H.toNat) (allU W H F u H.toNat) y k = coR W r u y k
  | 0, _ => rfl
  | k + 1, hk => by
    have ih := shift_coR (W := W) (H := H) (F := F) (r := r) (u := u) (y := y) hy k (by omega)
    simp only [coR]
    rw [ih, shift_bu (H := H) (by simp only [sq, Bool.and_eq_true, decide_eq_true_eq]; omega)]
theorem shift_coA {W H : Int} {F r u : Nat → Int} (hW : 1 ≤ W) : ∀ k : Nat, (k : Int) ≤ H - 1 → coA W (allR W F r H.toNat) (allU W H F u H.toNat) k = coA W r u k
  | 0, _ => rfl
  | k + 1, hk => by
    have ih := shift_coA (W := W) (H := H) (F := F) (r := r) (u := u) hW k (by omega)
    simp only [coA]
    rw [ih, shift_coR (H := H) (by omega) _ (by omega)]
end Go.Proofs.Ytlmgdcoknpakcaa
