/-
  A tape with a node more, the last one times itself: its slopes. No walk.
-/
import Derived.Test.YtloailicdoknbaaH15d
namespace Go.Proofs.Ytloailicdoknbaa
open Go.RowKit

/-- A step more: the last node times itself. -/
def mre (n : Nat) (f : Nat → Int) (i : Nat) : Int := if i < n * 3 then f i else if i = n * 3 then 3 else ((n - 1 : Nat) : Int)
theorem mre_lo {n i : Nat} {f : Nat → Int} (h : i < n * 3) : mre n f i = f i := if_pos h
theorem mre_0 (n : Nat) (f : Nat → Int) : mre n f (n * 3) = 3 := by unfold mre; rw [if_neg (by omega), if_pos rfl]
theorem mre_1 (n : Nat) (f : Nat → Int) : mre n f (n * 3 + 1) = ((n - 1 : Nat) : Int) := by unfold mre; rw [if_neg (by omega), if_neg (by omega)]
theorem mre_2 (n : Nat) (f : Nat → Int) : mre n f (n * 3 + 2) = ((n - 1 : Nat) : Int) := by unfold mre; rw [if_neg (by omega), if_neg (by omega)]
theorem tL_ext {m : Int → Int} {f f' x : Nat → Int} : ∀ k, (∀ i, i < k * 3 → f i = f' i) → tL m f x k = tL m f' x k
  | 0, _ => rfl
  | k + 1, h => by rw [tL, tL, tL_ext k (fun i hi => h i (by omega)), h (k * 3) (by omega), h (k * 3 + 1) (by omega), h (k * 3 + 2) (by omega)]
theorem tv_ext {m : Int → Int} {f f' x : Nat → Int} {k : Nat} (h : ∀ i, i < (k + 1) * 3 → f i = f' i) : tv m f x k = tv m f' x k := by
  rw [tv, tv, tL_ext k (fun i hi => h i (by omega)), h (k * 3) (by omega), h (k * 3 + 1) (by omega), h (k * 3 + 2) (by omega)]
theorem dnd_congr2 {d d' v v' : Nat → Int} {inp al : Int} {k : Nat} {op a b : Int} (h : stOk inp (k : Int) op a b) (hd : ∀ j, j < k → d j = d' j) (hv : ∀ j, j < k → v j = v' j) : dnd al d v op a b = dnd al d' v' op a b := by
  unfold dnd
  unfold stOk at h
  by_cases h1 : op = 1
  · rw [if_pos h1, if_pos h1]
  rw [if_neg h1, if_neg h1]
  by_cases h2 : op = 2
  · rw [if_pos h2, if_pos h2, hd _ (by omega), hd _ (by omega)]
  rw [if_neg h2, if_neg h2]
  by_cases h3 : op = 3
  · rw [if_pos h3, if_pos h3, hd _ (by omega), hd _ (by omega), hv _ (by omega), hv _ (by omega)]
  rw [if_neg h3, if_neg h3]
  by_cases h4 : op = 4
  · rw [if_pos h4, if_pos h4, hd _ (by omega)]
  rw [if_neg h4, if_neg h4]
theorem dv_ext {n n' : Nat} {inp al : Int} {f f' v v' : Nat → Int} (ok : TpOk n inp f) (ok' : TpOk n' inp f') (hf : ∀ i, i < n * 3 → f i = f' i) (hv : ∀ j, j < n → v j = v' j) (hnn : n ≤ n') : ∀ k, k < n → dv al v f k = dv al v' f' k := by
  intro k
  induction k using Nat.strongRecOn with
  | ind k ih =>
    intro hk
    rw [dv_eq al v ok hk, dv_eq al v' ok' (by omega), ← hf (k * 3) (by omega), ← hf (k * 3 + 1) (by omega), ← hf (k * 3 + 2) (by omega)]
    rw [dnd_congr2 (ok.2.2 k hk) (fun j hj => ih j hj (by omega)) (fun j hj => hv j (by omega))]
/-- Its slopes are twice the last value times those of the tape. -/
theorem two_is {n inp al : Nat} {f x : Nat → Int} (ok : TpN n inp f) (ok' : TpOk (n + 1) (inp : Int) (mre n f)) (hal : al < inp) : bk (n + 1) inp (mre n f) (tv mp (mre n f) x) (n + 1) al = ((2 * tv mp f x (n - 1)) % 12289 * dv (al : Int) (tv mp f x) f (n - 1)) % 12289 := by
  have hn := ok.2
  have hf : ∀ i, i < n * 3 → f i = mre n f i := fun i hi => (mre_lo hi).symm
  have hv : ∀ j, j < n → tv mp f x j = tv mp (mre n f) x j := fun j hj => tv_ext (fun i hi => hf i (by omega))
  rw [back_fwd ok' (by omega) (tv_in _ x) hal, Nat.add_sub_cancel, dv_eq _ _ ok' (Nat.lt_succ_self n), mre_0, mre_1, mre_2]
  have e1 : dnd (al : Int) (dv (al : Int) (tv mp (mre n f) x) (mre n f)) (tv mp (mre n f) x) 3 ((n - 1 : Nat) : Int) ((n - 1 : Nat) : Int) = dv (al : Int) (tv mp (mre n f) x) (mre n f) (n - 1) * tv mp (mre n f) x (n - 1) + tv mp (mre n f) x (n - 1) * dv (al : Int) (tv mp (mre n f) x) (mre n f) (n - 1) := by
    unfold dnd
    rw [if_neg (by omega), if_neg (by omega), if_pos rfl, Int.toNat_natCast]
  rw [e1, ← hv (n - 1) (by omega), ← dv_ext ok.1 ok' hf hv (by omega) (n - 1) (by omega)]
  generalize tv mp f x (n - 1) = V
  generalize dv (al : Int) (tv mp f x) f (n - 1) = d
  unfold mp
  rw [Int.mul_emod (2 * V % 12289), Int.emod_emod_of_dvd _ (Int.dvd_refl _), ← Int.mul_emod]
  congr 1
  grind
theorem more_ok {n inp : Nat} {f : Nat → Int} (ok : TpN n inp f) (h : n + 1 ≤ 200) : TpOk (n + 1) (inp : Int) (mre n f) := by
  refine ⟨h, ok.1.2.1, fun i hi => ?_⟩
  by_cases e : i < n
  · rw [mre_lo (by omega), mre_lo (by omega), mre_lo (by omega)]
    exact ok.1.2.2 i e
  · obtain rfl : i = n := by omega
    have := ok.2
    rw [mre_0, mre_1, mre_2]
    unfold stOk
    omega
end Go.Proofs.Ytloailicdoknbaa
