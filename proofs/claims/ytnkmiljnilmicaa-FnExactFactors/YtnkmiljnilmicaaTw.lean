/-
  Inflate, by the program: walked.
-/
import Derived.Test.YtnkmiljnilmicaaTu
import Derived.Test.YtnkmiljnilmicaaTv
namespace Go.Proofs.Ytnkmiljnilmicaa
open Go.RowKit Go.Shelf
attribute [local go_sem] Oper.semAt_some

/-- A row inflated k times. -/
def it (L : List UInt8) : Nat → List UInt8
  | 0 => L
  | k + 1 => infl (it L k)
theorem it_shift (L : List UInt8) (k : Nat) : it (infl L) k = it L (k + 1) := by
  induction k with
  | zero => rfl
  | succ k ih => show infl (it (infl L) k) = infl (it L (k + 1)); rw [ih]
theorem gr_some {L : List UInt8} {t : Nat} (h : ∀ i, i ≤ t → (it L i).length ≤ 20000) : gr t L = some (it L t) := by
  induction t generalizing L with
  | zero => rfl
  | succ t ih =>
    have h1 : (infl L).length ≤ 20000 := h 1 (by omega)
    rw [gr, if_pos h1, ih (L := infl L) (fun i hi => by rw [it_shift]; exact h (i + 1) (by omega)), it_shift]
theorem gr_none {L : List UInt8} {t k : Nat} (hk : k ≤ t) (h0 : 0 < k) (h : 20000 < (it L k).length) : gr t L = none := by
  induction t generalizing L k with
  | zero => omega
  | succ t ih =>
    rw [gr]
    by_cases hb : (infl L).length ≤ 20000
    · rw [if_pos hb]
      obtain ⟨j, rfl⟩ : ∃ j, k = j + 1 := ⟨k - 1, by omega⟩
      have h1 : 0 < j := by
        refine Nat.pos_of_ne_zero fun e => ?_
        subst e
        exact absurd h (Nat.not_lt.2 hb)
      exact ih (L := infl L) (k := j) (by omega) h1 (by rw [it_shift]; exact h)
    · rw [if_neg hb]
/-- The first k. -/
def sq (L : List UInt8) : Nat → List (List UInt8)
  | 0 => []
  | k + 1 => sq L k ++ [it L k]
theorem sq_len (L : List UInt8) (k : Nat) : (sq L k).length = k := by
  induction k with
  | zero => rfl
  | succ k ih => simp [sq, ih]
/-- A loop of at most m rounds, by an invariant that counts them. -/
theorem rounds_ind {F : Fence} {n : Nat} {P : Program} {c : Code} {Q : Exit → Act → World → Prop} (Inv : Nat → Act → World → Prop) (hz : ∀ a w, ¬ Inv 0 a w)
    (hs : ∀ m a w, Inv (m + 1) a w → c.wpIn F n P (Exit.then (Inv m) Q) a w) : ∀ m a w, Inv m a w → Code.roundsIn F n P c Q m a w := by
  intro m
  induction m with
  | zero => exact fun a w h => absurd h (hz a w)
  | succ m ih =>
    intro a w h
    rw [roundsIn_succ]
    refine wpIn_mono (hs m a w h) ?_
    intro e a' w' h'
    cases e with
    | normal => exact ih a' w' h'
    | ret => exact h'
    | exit id => exact h'
    | goto t => exact h'
    | panic ch => exact h'
    | outgrown => exact h'
theorem cell_put {W : World} {a b : Nat} {u : Value} (v : Value) (h : W.cell? ⟨b, 0, none⟩ = some u) (hne : b ≠ a) : (W.setCell ⟨a, 0, none⟩ v).cell? ⟨b, 0, none⟩ = some u :=
  (World.cell?_of_block (w := W) (a := ⟨b, 0, none⟩) (Below.heap_setCell _ _ _ _ hne)).trans h
theorem cell_here {W : World} {a : Nat} {u : Value} (v : Value) (h : W.cell? ⟨a, 0, none⟩ = some u) : (W.setCell ⟨a, 0, none⟩ v).cell? ⟨a, 0, none⟩ = some v := World.cell?_setCell_same' _ _ _ (by rw [h]; rfl)
/-- A row, and how often. -/
def infOk (s : ByteArray) (t : Int) : Prop := rowOk s 20000 = true ∧ 0 ≤ t ∧ t ≤ 30
end Go.Proofs.Ytnkmiljnilmicaa
