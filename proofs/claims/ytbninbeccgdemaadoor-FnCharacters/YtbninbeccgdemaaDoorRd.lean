/-
  Traces reduced: what both tell.
-/
import Derived.Test.YtbninbeccgdemaaDoorRc
namespace Go.Proofs.YtbninbeccgdemaaDoor
open Go.RowKit

/-- Nothing is told. -/
def NoneAt (w : World) (e : Ending) (w' : World) : Prop := ∃ v, e = .returned (.tuple #[v, .bool false]) ∧ Arr w' w.heap.size w'.heap.size v 0 (fun _ => 0) ∧ Below w.heap.size w w'
theorem implRed_no {w : World} {a : Option Addr} {len cap : Nat} {f : Nat → Int} (n : Int) (hn64 : -9223372036854775808 ≤ n ∧ n ≤ 9223372036854775807) (hs : Src w a len f) (hlen : len ≤ 1048576) (hno : ¬ trOk n len f) :
    Calls Tryd.prog 8 #[.int .i64 n, .slice a len cap] w fun e w' => NoneAt w e w' := by
  have hdt : decide (trOk n len f) = false := decide_eq_false hno
  have hbs := build0
  go_enter Tryd.func8, Tryd.ntmps8
  go_wp2_with fail
  refine (traces_any n hn64 hs hlen).mono ?_
  rintro e w1 ⟨rfl, bW⟩
  rw [hdt]
  go_wp2
  exact bodyPost_ret (v := .tuple #[.slice (some ⟨w1.heap.size, 0, none⟩) 0 0, .bool false]) (by simp [results, Tryd.results8, go_sem]) rfl ⟨_, rfl, emptyArr bW.size, bW.alloc bW.size _⟩
theorem specRed_no {w : World} {a : Option Addr} {len cap : Nat} {f : Nat → Int} (n : Int) (hs : Src w a len f) (hlen : len ≤ 1048576) (hno : ¬ trOk n len f) :
    Calls Tryd.prog 7 #[.int .i64 n, .slice a len cap] w fun e w' => NoneAt w e w' := by
  have hbs := build0
  by_cases hside : side n
  · have hd : decide (side n) = true := decide_eq_true hside
    by_cases hl : (len : Int) = n
    · have hbad : ¬ ∀ i, i < len → -1000 ≤ f i ∧ f i ≤ 1000 := fun h => hno ⟨hside, hl, h⟩
      have hne : ((len : Int) != n) = false := by simp [hl]
      have hll : (len : Int) ≤ 1048576 := by omega
      clear hl hno hside
      go_enter Tryd.func7, Tryd.ntmps7
      go_wp2_with (go_at_call 31; refine (order_any _ _).mono ?_; rintro e w2 ⟨rfl, rfl⟩; try rw [hd])
      clear hne
      go_loopw [6] (fun s wr => ∃ k : Nat, k ≤ len ∧ s = .int .i64 k ∧ (∀ i, i < k → -1000 ≤ f i ∧ f i ≤ 1000) ∧ Below w.heap.size w wr) (fun s _ => len - (intOf s).toNat)
      case atStart => exact ⟨0, Nat.zero_le _, rfl, fun i hi => absurd hi (by omega), Below.refl _ _⟩
      case round =>
        obtain ⟨k, hk, rfl, hall, bW⟩ := hrel
        by_cases hlt : k < len
        · have hlt' : (k : Int) < (len : Int) := by omega
          rcases hs with h0 | ⟨b, off, rfl, hb, hr⟩
          · omega
          have g0 := (bW.cell (p := ⟨b, off + k, none⟩) hb).trans (hr k hlt)
          by_cases p1 : -1000 ≤ f k ∧ f k ≤ 1000
          · have hi : decide (-1000 ≤ f k ∧ f k ≤ 1000) = true := decide_eq_true p1
            go_wp2_with (go_at_call 32; refine (in_any _ _ _ _).mono ?_; rintro e w2 ⟨rfl, rfl⟩; rw [hi])
            refine ⟨⟨k + 1, by omega, by go_num, fun i hi => ?_, bW⟩, by simp [intOf]; omega⟩
            by_cases e : i = k
            · rw [e]; exact p1
            · exact hall i (by omega)
          · have hi : decide (-1000 ≤ f k ∧ f k ≤ 1000) = false := decide_eq_false p1
            go_wp2_with (go_at_call 32; refine (in_any _ _ _ _).mono ?_; rintro e w2 ⟨rfl, rfl⟩; rw [hi])
            exact bodyPost_ret (v := .tuple #[.slice (some ⟨wr.heap.size, 0, none⟩) 0 0, .bool false]) (by simp [results, Tryd.results7, go_sem]) rfl ⟨_, rfl, emptyArr bW.size, bW.alloc bW.size _⟩
        · exact absurd (fun i hi => hall i (by omega)) hbad
    · have hne : ((len : Int) != n) = true := by simp [hl]
      have hll : (len : Int) ≤ 1048576 := by omega
      go_enter Tryd.func7, Tryd.ntmps7
      go_wp2_with (go_at_call 31; refine (order_any _ _).mono ?_; rintro e w2 ⟨rfl, rfl⟩; try rw [hd])
      exact bodyPost_ret (v := .tuple #[.slice (some ⟨w.heap.size, 0, none⟩) 0 0, .bool false]) (by simp [results, Tryd.results7, go_sem]) rfl ⟨_, rfl, emptyArr (Nat.le_refl _), below_alloc _ _⟩
  · have hd : decide (side n) = false := decide_eq_false hside
    go_enter Tryd.func7, Tryd.ntmps7
    go_wp2_with (go_at_call 31; refine (order_any _ _).mono ?_; rintro e w2 ⟨rfl, rfl⟩; try rw [hd])
    exact bodyPost_ret (v := .tuple #[.slice (some ⟨w.heap.size, 0, none⟩) 0 0, .bool false]) (by simp [results, Tryd.results7, go_sem]) rfl ⟨_, rfl, emptyArr (Nat.le_refl _), below_alloc _ _⟩
/-- What both tell. -/
theorem red_some {len : Nat} {f : Nat → Int} (n : Int) (hlen : len ≤ 1048576) (hn64 : -9223372036854775808 ≤ n ∧ n ≤ 9223372036854775807) : ∃ (L : Nat) (F : Nat → Int) (b : Bool), L ≤ 12 ∧
    (∀ (w : World) (a : Option Addr) (c : Nat), Src w a len f → Calls Tryd.prog 7 #[.int .i64 n, .slice a len c] w fun e w' => ∃ v, e = .returned (.tuple #[v, .bool b]) ∧ Arr w' w.heap.size w'.heap.size v L F ∧ Below w.heap.size w w') ∧
    (∀ (w : World) (a : Option Addr) (c : Nat), Src w a len f → Tab w → Calls Tryd.prog 8 #[.int .i64 n, .slice a len c] w fun e w' => ∃ v, e = .returned (.tuple #[v, .bool b]) ∧ Arr w' w.heap.size w'.heap.size v L F ∧ Below w.heap.size w w') := by
  by_cases h : trOk n len f
  · have hl12 : len ≤ 12 := by have := h.2.1; have := (side_by h.1).1; omega
    by_cases hf : ∀ k, k < len → rOk n f len k
    · refine ⟨len, rd n f len, true, hl12, fun w a c S => (specRed_yes n S h).mono ?_, fun w a c S t => (implRed_yes n S h t).mono ?_⟩
      all_goals
        rintro e w' ⟨v, b, e1, (⟨rfl, -, hA⟩ | ⟨-, h2, -⟩), bb⟩
        · exact ⟨v, e1, hA, bb⟩
        · exact absurd hf h2
    · refine ⟨0, fun _ => 0, false, by omega, fun w a c S => (specRed_yes n S h).mono ?_, fun w a c S t => (implRed_yes n S h t).mono ?_⟩
      all_goals
        rintro e w' ⟨v, b, e1, (⟨-, h2, -⟩ | ⟨rfl, -, hA⟩), bb⟩
        · exact absurd h2 hf
        · exact ⟨v, e1, hA, bb⟩
  · exact ⟨0, fun _ => 0, false, by omega, fun w a c S => specRed_no n S hlen h, fun w a c S _ => implRed_no n hn64 S hlen h⟩
end Go.Proofs.YtbninbeccgdemaaDoor
