/-
  The iterator over a point's deeds: walked.
-/
import Derived.Test.YtiocneailhplkaaGreatO3a
import Derived.Test.YtiocneailhplkaaGreatND
import Derived.Maps.OwnIn
import Derived.RangeFuncKeeps
import Derived.RangeFuncFrom
import Derived.RangeFuncBound
import Derived.TacticsInMore
import Derived.LoopNIn
import Derived.LoopIn
namespace Go.Proofs.YtiocneailhplkaaGreat
open Go.RowKit Go.Shelf

/-- The first t numbers below n. -/
def upl (n : Nat) : Nat → List { x : Nat // x < n }
  | 0 => []
  | t + 1 => if h : t < n then upl n t ++ [⟨t, h⟩] else upl n t
theorem upl_next {n t : Nat} (h : t < n) : upl n (t + 1) = upl n t ++ [⟨t, h⟩] := by
  conv => lhs; unfold upl
  rw [dif_pos h]
theorem upl_len (n : Nat) : ∀ t, t ≤ n → (upl n t).length = t
  | 0, _ => rfl
  | t + 1, h => by
    rw [upl_next (show t < n by omega), List.length_append, upl_len n t (by omega)]
    rfl
theorem upl_map {α : Type} (n : Nat) (P : Nat → α) : ∀ t, t ≤ n → (upl n t).map (fun y => P y.1) = (List.range t).map P
  | 0, _ => rfl
  | t + 1, h => by
    rw [upl_next (show t < n by omega), List.map_append, upl_map n P t (by omega), List.range_succ, List.map_append]
    rfl
theorem pointsFrom_any (x : T3) (gd n cd : Nat) (w : World) : Calls Tryz.prog 67 #[tV x, .slice (some ⟨gd, 0, none⟩) n cd] w fun e w' => e = .returned (.func (.func 86) #[] #[.pointer (some ⟨w.heap.size + 1, 0, none⟩), .pointer (some ⟨w.heap.size, 0, none⟩)]) ∧ w' = (w.alloc (.cells #[.int .i64 x.1, .int .i64 x.2.1, .int .i64 x.2.2] 54)).alloc (.cells #[.slice (some ⟨gd, 0, none⟩) n cd] 58) := by
  go_enter Tryz.func67, Tryz.ntmps67
  go_wp2
  go_ret
  exact ⟨rfl, rfl⟩
/-- A point's numbers. -/
def tO (v : Nat → Int) : T3 := (v 0, v 1, v 2)
end Go.Proofs.YtiocneailhplkaaGreat
