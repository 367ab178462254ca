/-
  Structs of K numbers copied within and between rows; a row grown by noughts. No function of the program.
-/
import Derived.Test.YtnjnffemidaopaaAl
import Derived.Laws.CopyRow
import Derived.Lib.AppendZerosOnto
import Derived.Lib.Overlaps
namespace Go.Proofs.Ytnjnffemidaopaa
open Go.RowKit

theorem kept_setRow (w : World) (g : Nat) (cs : Array Value) : Kept g w (w.setRow g cs) := ⟨rfl, rfl, rfl, by simp [World.setRow], fun k _ hk => setRow_other w g k cs hk⟩
section
variable {K : Nat} {sl el : TypeId}
theorem run_copyK (hU : Try.prog.underlying sl = some (.slice el)) (hI : (Try.prog.info? el).map (·.size) = some K) {w : World} {g o b o2 cnt dLen dCap sLen sCap : Nat} {cur : Array Value} {t : TypeId} {h : Nat → Int}
    (hg : At t w g cur) (hmin : Nat.min sLen dLen = cnt) (hsrc : ∀ j, j < cnt * K → w.cell? ⟨b, o2 + j, none⟩ = some (.int .i64 (h j))) (hfit : o + cnt * K ≤ cur.size) (ty : TypeId) :
    ∃ cur' : Array Value, (Builtin.copy_ #[sl, sl] ty #[.slice (some ⟨g, o, none⟩) dLen dCap, .slice (some ⟨b, o2, none⟩) sLen sCap]).run Try.prog w = .ok (goInt cnt) (w.setRow g cur') ∧ At t (w.setRow g cur') g cur' ∧ cur'.size = cur.size ∧ ∀ i, i < cur.size → cur'[i]? = if o ≤ i ∧ i < o + cnt * K then some (.int .i64 (h (i - o))) else cur[i]? := by
  have hlen := iCells_len h (cnt * K)
  have hl := run_loadCells_list (P := Try.prog) w ⟨b, o2, none⟩ (iCells h (cnt * K)) (fun j v hv => by
    have hj : j < cnt * K := by
      have := (List.getElem?_eq_some_iff.1 hv).1
      rwa [hlen] at this
    rw [iCells_at h hj] at hv
    rw [Addr.add_lit, hsrc j hj]
    exact hv)
  have hst := run_storeCells_at Try.prog g o t (iCells h (cnt * K)) 0 cur w hg (by rw [hlen]; simpa using hfit) (iCells_one _ _)
  refine ⟨(cur.toList.take (o + 0) ++ iCells h (cnt * K) ++ cur.toList.drop (o + 0 + (iCells h (cnt * K)).length)).toArray, ?_, setRow_heap w g _ _ _ _ hg, ?_, fun i hi => ?_⟩
  · rw [hlen] at hl
    cases hq : Try.prog.info? el with
    | none => simp [hq] at hI
    | some i =>
      have hi : i.size = K := by simpa [hq] using hI
      simp [Builtin.copy_, run_underlying hU, Builtin.lenOf, Builtin.firstCells, sizeOf, typeInfo, hq, hi, hmin, hl, hst]
  · simp [hlen]
    omega
  · simp only [Nat.add_zero, List.getElem?_toArray]
    have ht : (cur.toList.take o).length = o := by simp; omega
    by_cases e1 : i < o
    · rw [List.append_assoc, List.getElem?_append_left (by omega), List.getElem?_take_of_lt e1, if_neg (by omega)]
      simp
    · by_cases e2 : i < o + cnt * K
      · rw [List.append_assoc, List.getElem?_append_right (by omega), ht, List.getElem?_append_left (by rw [hlen]; omega), iCells_at h (by omega), if_pos ⟨by omega, e2⟩]
      · rw [List.getElem?_append_right (by simp [hlen]; omega), if_neg (by omega)]
        simp only [List.length_append, ht, hlen, List.getElem?_drop]
        rw [show o + cnt * K + (i - (o + cnt * K)) = i by omega]
        simp
end
/-- Three numbers put in at struct p. -/
def ins (f : Nat → Int) (p : Nat) (x y z : Int) : Nat → Int := fun i => if i < p * 3 then f i else if i = p * 3 then x else if i = p * 3 + 1 then y else if i = p * 3 + 2 then z else f (i - 3)
def three (x y z : Int) : Nat → Int := fun i => if i = 0 then x else if i = 1 then y else z
/-- Behind the two copies of an insertion, whichever comes first. -/
theorem LaidK.ins {t : TypeId} {w' : World} {g c n p : Nat} {f : Nat → Int} {x y z : Int} {cur : Array Value} (k1 : At t w' g cur) (k2 : cur.size = c * 3)
    (k3 : ∀ i, i < (n + 1) * 3 → cur[i]? = if p * 3 ≤ i ∧ i < p * 3 + 3 then some (.int .i64 (three x y z (i - p * 3))) else if i < p * 3 then some (.int .i64 (f i)) else some (.int .i64 (f (i - 3)))) :
    LaidK 3 t w' g c (n + 1) (Go.Proofs.Ytnjnffemidaopaa.ins f p x y z) := by
  refine ⟨cur, k1, k2, fun i hi => ?_⟩
  rw [k3 i hi]
  unfold Go.Proofs.Ytnjnffemidaopaa.ins three
  by_cases a : p * 3 ≤ i ∧ i < p * 3 + 3
  · rw [if_pos a]
    rcases (by omega : i = p * 3 ∨ i = p * 3 + 1 ∨ i = p * 3 + 2) with rfl | rfl | rfl <;> rw [if_neg (by omega : ¬ _ < p * 3)] <;> simp
  · rw [if_neg a]
    by_cases b : i < p * 3
    · rw [if_pos b, if_pos b]
    · rw [if_neg b, if_neg b, if_neg (by omega), if_neg (by omega), if_neg (by omega)]
end Go.Proofs.Ytnjnffemidaopaa
