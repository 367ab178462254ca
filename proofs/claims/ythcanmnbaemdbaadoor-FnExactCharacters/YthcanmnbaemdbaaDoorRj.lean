/-
  The exact law of characters: walked.
-/
import Derived.Test.YthcanmnbaemdbaaDoorRi
namespace Go.Proofs.YthcanmnbaemdbaaDoor
open Go.RowKit

theorem emptyGrid {w : World} {B : Nat} {F : Nat → Nat → Int} (h : B ≤ w.heap.size) : Grid (w.alloc (.cells #[] 68)) B (w.alloc (.cells #[] 68)).heap.size (.slice (some ⟨w.heap.size, 0, none⟩) 0 0) 0 F :=
  ⟨w.heap.size, 0, fun _ => 0, fun _ => 0, #[], rfl, ⟨h, by simp⟩, at_new _ _ _, fun k hk => absurd hk (by omega), fun k hk => absurd hk (by omega), fun i k hi => absurd hi (by omega)⟩
theorem specChar_no {w : World} (n : Int) (hside : ¬ side n) :
    Calls Tryd.prog 15 #[.int .i64 n] w fun e w' => ∃ v, e = .returned v ∧ Grid w' w.heap.size w'.heap.size v 0 (cf n) ∧ Below w.heap.size w w' := by
  have hd : decide (side n) = false := decide_eq_false hside
  have hbr := build0r
  go_enter Tryd.func15, Tryd.ntmps15
  go_wp2_with (go_at_call 41; refine (order_any _ _).mono ?_; rintro e w2 ⟨rfl, rfl⟩; try rw [hd])
  exact bodyPost_ret (v := .slice (some ⟨w.heap.size, 0, none⟩) 0 0) (by simp [results, Tryd.results15, go_sem]) rfl ⟨_, rfl, emptyGrid (Nat.le_refl _), below_alloc _ _⟩
theorem implChar_no {w : World} (n : Int) (hn64 : -9223372036854775808 ≤ n ∧ n ≤ 9223372036854775807) (hside : ¬ side n) :
    Calls Tryd.prog 16 #[.int .i64 n] w fun e w' => ∃ v, e = .returned v ∧ Grid w' w.heap.size w'.heap.size v 0 (cf n) ∧ Below w.heap.size w w' := by
  have hd : decide (side n) = false := decide_eq_false hside
  have hbr := build0r
  go_enter Tryd.func16, Tryd.ntmps16
  go_wp2_with (go_at_call 43; refine (cyclic_any _ _ hn64).mono ?_; rintro e w2 ⟨rfl, rfl⟩; try rw [hd])
  exact bodyPost_ret (v := .slice (some ⟨w.heap.size, 0, none⟩) 0 0) (by simp [results, Tryd.results16, go_sem]) rfl ⟨_, rfl, emptyGrid (Nat.le_refl _), below_alloc _ _⟩
/-- What both tell. -/
theorem char_some (n : Int) (hn64 : -9223372036854775808 ≤ n ∧ n ≤ 9223372036854775807) : ∃ N : Nat, N ≤ 12 ∧
    (∀ w : World, Calls Tryd.prog 15 #[.int .i64 n] w fun e w' => ∃ v, e = .returned v ∧ Grid w' w.heap.size w'.heap.size v N (cf n) ∧ Below w.heap.size w w') ∧
    (∀ w : World, Tab w → Calls Tryd.prog 16 #[.int .i64 n] w fun e w' => ∃ v, e = .returned v ∧ Grid w' w.heap.size w'.heap.size v N (cf n) ∧ Below w.heap.size w w') := by
  by_cases h : side n
  · have q0 := (side_by h).1
    exact ⟨n.toNat, by omega, fun w => specChar_yes n n.toNat (by omega) h, fun w t => implChar_yes n n.toNat (by omega) h t⟩
  · exact ⟨0, by omega, fun w => specChar_no n h, fun w _ => implChar_no n hn64 h⟩
theorem tabG_turn {w w' : World} {lo hi : Nat} (h : Tab w) (t : Turn lo hi w w') (hl : 0 < lo) : Tab w' :=
  ⟨Nat.lt_of_lt_of_le h.1 t.size, fun i hi => (World.cell?_of_block (w := w) (t.block 0 h.1 (.inl hl))).trans (h.2 i hi)⟩
set_option maxRecDepth 100000 in
set_option maxHeartbeats 3200000 in
theorem exactCharacters_walk (n : Int) (hn64 : -9223372036854775808 ≤ n ∧ n ≤ 9223372036854775807) (w : World) (ht : Tab w) :
    Calls Tryd.prog 4 #[.int .i64 n] w fun e w' => e = .returned (.bool true) ∧ Below w.heap.size w w' := by
  obtain ⟨N, hN, SP, IM⟩ := char_some n hn64
  have h0w := ht.1
  have hNN : 4 * N * N ≤ 4 * 12 * 12 := Nat.mul_le_mul (Nat.mul_le_mul_left 4 hN) hN
  obtain ⟨Kq, hKq⟩ : ∃ K : Int, ((1 + 4 * N * N : Nat) : Int) = K := ⟨_, rfl⟩
  have hK0 : ¬ Kq < 0 := by omega
  have hK1 : (Kq != Kq) = false := by simp
  go_enter Tryd.func4, Tryd.ntmps4
  go_wp2_with fail
  refine (SP _).mono ?_
  rintro e w1 ⟨v0, rfl, A0, bW⟩
  replace ht := ht.below bW
  obtain ⟨a0, c0, rfl⟩ := A0.shape
  go_wp2_with fail
  refine (IM _ ht).mono ?_
  rintro e w2 ⟨v1, rfl, A1, b2⟩
  obtain ⟨a1, c1, rfl⟩ := A1.shape
  have l1 := bW.size
  replace A0 := A0.below b2
  replace ht := ht.below b2
  replace bW := bW.trans (b2.mono bW.size)
  clear b2
  go_wp2_with fail
  refine (eqCycSS_true A1 A0 hN).mono ?_
  rintro e w3 ⟨rfl, b3⟩
  replace A0 := A0.below b3
  replace A1 := A1.below b3
  replace ht := ht.below b3
  replace bW := bW.trans (b3.mono bW.size)
  clear b3
  go_wp2_with fail
  refine (markCycSS_any A1 hN).mono ?_
  rintro e w4 ⟨rfl, A1', t4⟩
  rw [hKq]
  replace A0 := A0.turn t4 (.inl (Nat.le_refl _))
  replace ht := tabG_turn ht t4 (by omega)
  replace bW := t4.below bW l1 bW.size
  clear A1 t4
  go_wp2_with fail
  refine (heldCycSS_any A1' hN).mono ?_
  rintro e w5 ⟨rfl, b5⟩
  rw [hKq]
  replace A0 := A0.below b5
  replace A1' := A1'.below b5
  replace ht := ht.below b5
  replace bW := bW.trans (b5.mono bW.size)
  clear b5
  go_wp2_with fail
  refine (IM _ ht).mono ?_
  rintro e w6 ⟨v2, rfl, A2, b6⟩
  obtain ⟨a2, c2, rfl⟩ := A2.shape
  replace A0 := A0.below b6
  replace A1' := A1'.below b6
  replace bW := bW.trans (b6.mono bW.size)
  clear b6
  go_wp2_with fail
  refine (eqCycSS_true A2 A0 hN).mono ?_
  rintro e w7 ⟨rfl, b7⟩
  replace A1' := A1'.below b7
  replace bW := bW.trans (b7.mono bW.size)
  clear b7
  go_wp2_with fail
  refine (heldCycSS_any A1' hN).mono ?_
  rintro e w8 ⟨rfl, b8⟩
  rw [hKq]
  replace bW := bW.trans (b8.mono bW.size)
  go_wp2
  go_ret
  exact ⟨rfl, bW⟩
end Go.Proofs.YthcanmnbaemdbaaDoor
