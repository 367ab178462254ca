/-
  The exact law of characters: walked.
-/
import Derived.Test.YtbninbeccgdemaaDoorRi
namespace Go.Proofs.YtbninbeccgdemaaDoor
open Go.RowKit

theorem emptyGrid {w : World} {B : Nat} {F : Nat → Nat → Int} (h : B ≤ w.heap.size) : Grid (w.alloc (.cells #[] 34)) B (w.alloc (.cells #[] 34)).heap.size (.slice (some ⟨w.heap.size, 0, none⟩) 0 0) 0 F :=
  ⟨w.heap.size, 0, fun _ => 0, fun _ => 0, #[], rfl, ⟨h, by simp⟩, at_new _ _ _, fun k hk => absurd hk (by omega), fun k hk => absurd hk (by omega), fun i k hi => absurd hi (by omega)⟩
theorem specChar_no {w : World} (n : Int) (hside : ¬ side n) :
    Calls Tryd.prog 11 #[.int .i64 n] w fun e w' => ∃ v, e = .returned v ∧ Grid w' w.heap.size w'.heap.size v 0 (cf n) ∧ Below w.heap.size w w' := by
  have hd : decide (side n) = false := decide_eq_false hside
  have hbr := build0r
  go_enter Tryd.func11, Tryd.ntmps11
  go_wp2_with (go_at_call 31; refine (order_any _ _).mono ?_; rintro e w2 ⟨rfl, rfl⟩; try rw [hd])
  exact bodyPost_ret (v := .slice (some ⟨w.heap.size, 0, none⟩) 0 0) (by simp [results, Tryd.results11, go_sem]) rfl ⟨_, rfl, emptyGrid (Nat.le_refl _), below_alloc _ _⟩
theorem implChar_no {w : World} (n : Int) (hn64 : -9223372036854775808 ≤ n ∧ n ≤ 9223372036854775807) (hside : ¬ side n) :
    Calls Tryd.prog 10 #[.int .i64 n] w fun e w' => ∃ v, e = .returned v ∧ Grid w' w.heap.size w'.heap.size v 0 (cf n) ∧ Below w.heap.size w w' := by
  have hd : decide (side n) = false := decide_eq_false hside
  have hbr := build0r
  go_enter Tryd.func10, Tryd.ntmps10
  go_wp2_with (go_at_call 37; refine (cyclic_any _ _ hn64).mono ?_; rintro e w2 ⟨rfl, rfl⟩; try rw [hd])
  exact bodyPost_ret (v := .slice (some ⟨w.heap.size, 0, none⟩) 0 0) (by simp [results, Tryd.results10, go_sem]) rfl ⟨_, rfl, emptyGrid (Nat.le_refl _), below_alloc _ _⟩
/-- What both tell. -/
theorem char_some (n : Int) (hn64 : -9223372036854775808 ≤ n ∧ n ≤ 9223372036854775807) : ∃ N : Nat, N ≤ 12 ∧
    (∀ w : World, Calls Tryd.prog 11 #[.int .i64 n] w fun e w' => ∃ v, e = .returned v ∧ Grid w' w.heap.size w'.heap.size v N (cf n) ∧ Below w.heap.size w w') ∧
    (∀ w : World, Tab w → Calls Tryd.prog 10 #[.int .i64 n] w fun e w' => ∃ v, e = .returned v ∧ Grid w' w.heap.size w'.heap.size v N (cf n) ∧ Below w.heap.size w w') := by
  by_cases h : side n
  · have q0 := (side_by h).1
    exact ⟨n.toNat, by omega, fun w => specChar_yes n n.toNat (by omega) h, fun w t => implChar_yes n n.toNat (by omega) h t⟩
  · exact ⟨0, by omega, fun w => specChar_no n h, fun w _ => implChar_no n hn64 h⟩
theorem tabG_turn {w w' : World} {lo hi : Nat} (h : Tab w) (t : Turn lo hi w w') (hl : 0 < lo) : Tab w' :=
  ⟨Nat.lt_of_lt_of_le h.1 t.size, fun i hi => (World.cell?_of_block (w := w) (t.block 0 h.1 (.inl hl))).trans (h.2 i hi)⟩
end Go.Proofs.YtbninbeccgdemaaDoor
