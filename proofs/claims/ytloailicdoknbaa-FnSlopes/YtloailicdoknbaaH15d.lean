/-
  Slopes back are slopes forward: the mathematics. No function of the law.
-/
import Derived.Test.YtloailicdoknbaaH15a
namespace Go.Proofs.Ytloailicdoknbaa
open Go.RowKit

/-- The first k places of D, each times that of E, together. -/
def tot (E D : Nat → Int) : Nat → Int
  | 0 => 0
  | k + 1 => tot E D k + D k * E k
theorem tot_far (E D : Nat → Int) (P : Nat) (z : Int) : ∀ k, k ≤ P → tot E (upd D P z) k = tot E D k
  | 0, _ => rfl
  | k + 1, h => by rw [tot, tot, tot_far E D P z k (by omega), upd, if_neg (by omega)]
theorem tot_upd (E D : Nat → Int) (P : Nat) (z : Int) : ∀ k, P < k → tot E (upd D P z) k = tot E D k + (z - D P) * E P
  | 0, h => by omega
  | k + 1, h => by
    rw [tot, tot]
    by_cases e : P = k
    · subst e
      rw [tot_far E D P z P (Nat.le_refl _), upd_same, Int.sub_mul]
      omega
    · rw [tot_upd E D P z k (by omega), upd, if_neg (fun h => e h.symm)]
      omega
theorem tot_zero (E : Nat → Int) : ∀ k, tot E (fun _ => 0) k = 0
  | 0 => rfl
  | k + 1 => by rw [tot, tot_zero E k]; simp
theorem tot_un (E : Nat → Int) {P k : Nat} (h : P < k) : tot E (un P) k = E P := by
  have e : un P = upd (fun _ => 0) P 1 := by
    funext j
    unfold un upd
    rfl
  rw [e, tot_upd E _ P 1 k h, tot_zero]
  simp
theorem tot_pick {E : Nat → Int} (D : Nat → Int) {al : Nat} : ∀ k, (∀ j, j < k → E j = un al j) → tot E D k = if al < k then D al else 0
  | 0, _ => rfl
  | k + 1, h => by
    rw [tot, tot_pick D k (fun j hj => h j (by omega)), h k (by omega), un]
    by_cases e : k = al
    · subst e
      simp
    · rw [if_neg e]
      by_cases l : al < k
      · rw [if_pos l, if_pos (by omega)]; simp
      · rw [if_neg l, if_neg (by omega)]; simp
theorem mp_cg (x : Int) : ∃ c, mp x = x + 12289 * c := ⟨-(x / 12289), by unfold mp; omega⟩
theorem bst_tot {pf D E : Nat → Int} {al : Int} {k m : Nat} (hp : ∀ j, j < m → (pf (j * 2)).toNat < k) : ∀ j, j ≤ m → ∃ c, tot E (bst pf al D j) k = tot E D k + al * ss pf E j + 12289 * c
  | 0, _ => ⟨0, by simp [bst, ss]⟩
  | j + 1, h => by
    obtain ⟨c, hc⟩ := bst_tot (E := E) (al := al) (D := D) hp j (by omega)
    rw [bst_two, tot_upd E _ _ _ k (hp j (by omega)), hc, ss]
    obtain ⟨c2, h2⟩ := mp_cg (bst pf al D j (pf (j * 2)).toNat + al * pf (j * 2 + 1))
    rw [h2]
    refine ⟨c + c2 * E (pf (j * 2)).toNat, ?_⟩
    have e1 : bst pf al D j (pf (j * 2)).toNat + al * pf (j * 2 + 1) + 12289 * c2 - bst pf al D j (pf (j * 2)).toNat = al * pf (j * 2 + 1) + 12289 * c2 := by omega
    rw [e1, Int.add_mul, Int.mul_assoc, Int.mul_assoc, Int.mul_add, Int.mul_add]
    omega
theorem bk_tot {n inp al : Nat} {f v : Nat → Int} (ok : TpOk n (inp : Int) f) (hn : 0 < n) (hv : ∀ j, 0 ≤ v j ∧ v j < 12289) : ∀ t, t ≤ n → ∃ c, tot (Fx inp (un al) (dv (al : Int) v f)) (bk n inp f v t) (inp + (n - t)) = dv (al : Int) v f (n - 1) + 12289 * c
  | 0, _ => ⟨0, by
    rw [bk, tot_un _ (by omega), show inp + n - 1 = inp + (n - 1) by omega, Fx_at]
    omega⟩
  | t + 1, h => by
    obtain ⟨c, hc⟩ := bk_tot (al := al) ok hn hv t (by omega)
    obtain ⟨i, hi⟩ : ∃ i, n - 1 - t = i := ⟨_, rfl⟩
    have hin : i < n := by omega
    rw [show inp + (n - t) = (inp + i) + 1 by omega, tot, Fx_at] at hc
    rw [show inp + (n - (t + 1)) = inp + i by omega, bk_one hi]
    have st := ok.2.2 i hin
    obtain ⟨c2, h2⟩ := bst_tot (E := Fx inp (un al) (dv (al : Int) v f)) (al := bk n inp f v t (inp + i)) (D := bk n inp f v t) (k := inp + i) (m := spM (f (i * 3))) (pf := spF (inp : Int) (f (i * 3)) (f (i * 3 + 1)) (f (i * 3 + 2)) v) (fun j hj => by
      obtain ⟨⟨P, e, hP⟩, -⟩ := sp_in st hv hj
      rw [e]
      simpa using hP) _ (Nat.le_refl _)
    rw [h2, ss_dnd st]
    obtain ⟨c3, h3⟩ := mp_cg (dnd (al : Int) (dv (al : Int) v f) v (f (i * 3)) (f (i * 3 + 1)) (f (i * 3 + 2)))
    rw [← dv_eq (al : Int) v ok hin] at h3
    refine ⟨c + c2 - bk n inp f v t (inp + i) * c3, ?_⟩
    have e : bk n inp f v t (inp + i) * dv (al : Int) v f i = bk n inp f v t (inp + i) * dnd (al : Int) (dv (al : Int) v f) v (f (i * 3)) (f (i * 3 + 1)) (f (i * 3 + 2)) + 12289 * (bk n inp f v t (inp + i) * c3) := by
      rw [h3, Int.mul_add, Int.mul_left_comm]
    rw [e] at hc
    rw [Int.mul_sub]
    omega
/-- Along each input the slope back is the slope forward. -/
theorem back_fwd {n inp al : Nat} {f v : Nat → Int} (ok : TpOk n (inp : Int) f) (hn : 0 < n) (hv : ∀ j, 0 ≤ v j ∧ v j < 12289) (hal : al < inp) : bk n inp f v n al = dv (al : Int) v f (n - 1) := by
  obtain ⟨c, hc⟩ := bk_tot (al := al) ok hn hv n (Nat.le_refl _)
  rw [show inp + (n - n) = inp by omega, tot_pick (al := al) _ inp (fun j hj => Fx_in _ _ hj), if_pos hal] at hc
  have h1 := bk_in n inp f v n al
  have h2 := dv_in (al : Int) v f (n - 1)
  omega
end Go.Proofs.Ytloailicdoknbaa
