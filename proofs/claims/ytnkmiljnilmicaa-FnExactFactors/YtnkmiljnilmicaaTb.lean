/-
  Rows of two letters: which texts are rows, by the program and by the specification: walked.
-/
import Derived.Test.YtnkmiljnilmicaaRows
import Derived.Test.YtnkmiljnilmicaaKit
import Derived.Laws.DeepStrings4
namespace Go.Proofs.Ytnkmiljnilmicaa
open Go.RowKit

/-- Letter number k of a text. -/
def sb (s : ByteArray) (k : Nat) : Int := ((s.data.toList.getD k 0).toNat : Int)
theorem sb_eq (s : ByteArray) (k : Nat) (h : k < s.size) : ((s[k]'h).toNat : Int) = sb s k := by
  obtain ⟨⟨l⟩⟩ := s
  have hl : k < l.length := h
  unfold sb
  simp only [List.getD, List.getElem?_eq_getElem hl, Option.getD_some]
  rfl
theorem sb_ix (s : ByteArray) (i : Int) (k : Nat) (hi : i = k) (h : k < s.size) : ∀ w, (Instr.index 9 (.string s) (.int .i64 i)).run Try.prog w = .ok (.int .u8 (sb s k)) w := fun w => by
  subst hi
  rw [run_index_string w 9 s .i64 k Try.underlying9, dif_pos ⟨by omega, by omega⟩]
  rw [← sb_eq s k h]
  simp
theorem sb_bound (s : ByteArray) (k : Nat) : 0 ≤ sb s k ∧ sb s k < 256 := by
  unfold sb
  have := (s.data.toList.getD k 0).toNat_lt
  omega
/-- Letters alone. -/
def isR (s : ByteArray) : Prop := ∀ k, k < s.size → sb s k = 76 ∨ sb s k = 83
/-- A row of at most m letters. -/
def rowOk (s : ByteArray) (m : Int) : Bool := decide ((s.size : Int) ≤ m) && (List.range s.size).all fun k => sb s k == 76 || sb s k == 83
theorem rowOk_iff {s : ByteArray} {m : Int} : rowOk s m = true ↔ (s.size : Int) ≤ m ∧ isR s := by simp [rowOk, isR]
theorem rowOk_no {s : ByteArray} {m : Int} {k : Nat} (h : k < s.size) (h1 : sb s k ≠ 76) (h2 : sb s k ≠ 83) : rowOk s m = false := by
  rw [Bool.eq_false_iff]
  intro hr
  rcases (rowOk_iff.1 hr).2 k h with e | e
  · exact h1 e
  · exact h2 e

set_option maxHeartbeats 1000000 in
theorem l9Row_any (s : ByteArray) (m : Int) (w : World) (hm : m ≤ 1000000) : Calls Try.prog 24 #[.string s, .int .i64 m] w fun e w' => e = .returned (.bool (rowOk s m)) ∧ w = w' := by
  by_cases hs : (s.size : Int) ≤ m
  · go_enter Try.func24, Try.ntmps24
    go_wp2
    go_loopw [5] (fun t wr => ∃ k : Nat, k ≤ s.size ∧ t = .int .i64 k ∧ w = wr ∧ ∀ i, i < k → sb s i = 76 ∨ sb s i = 83) (fun t _ => s.size - (intOf t).toNat)
    case atStart => exact ⟨0, Nat.zero_le _, rfl, rfl, fun i hi => by omega⟩
    case round =>
      obtain ⟨k, hk, rfl, rfl, hall⟩ := hrel
      have HA : Hid (∀ i, i < k → sb s i = 76 ∨ sb s i = 83) := hall
      clear hall
      by_cases hlt : k < s.size
      · have hlt' : (k : Int) < s.size := by omega
        have hix := sb_ix s k k rfl hlt
        by_cases h1 : sb s k = 76
        · go_wp2
          refine ⟨⟨k + 1, by omega, by go_num, by trivial, fun i hi => ?_⟩, by simp [intOf]; omega⟩
          by_cases e : i = k
          · rw [e]; exact .inl h1
          · exact HA.out i (by omega)
        · by_cases h2 : sb s k = 83
          · go_wp2
            refine ⟨⟨k + 1, by omega, by go_num, by trivial, fun i hi => ?_⟩, by simp [intOf]; omega⟩
            by_cases e : i = k
            · rw [e]; exact .inr h2
            · exact HA.out i (by omega)
          · have h1' : (sb s k != 76) = true := by simp [h1]
            have h2' : (sb s k != 83) = true := by simp [h2]
            go_wp2
            go_ret
            exact ⟨by rw [rowOk_no hlt h1 h2]; rfl, rfl⟩
      · have hlt' : ¬ (k : Int) < s.size := by omega
        go_wp2
        go_ret
        refine ⟨?_, rfl⟩
        rw [(rowOk_iff (s := s) (m := m)).2 ⟨hs, fun i hi => HA.out i (by omega)⟩]
        rfl
  · go_enter Try.func24, Try.ntmps24
    go_wp2
    go_ret
    refine ⟨?_, rfl⟩
    rw [show rowOk s m = false from by unfold rowOk; rw [decide_eq_false (show ¬ (s.size : Int) ≤ m by omega)]; rfl]
    rfl
set_option maxHeartbeats 1000000 in
theorem isRow_any (s : ByteArray) (m : Int) (w : World) (hm : m ≤ 1000000) : Calls Try.prog 18 #[.string s, .int .i64 m] w fun e w' => e = .returned (.bool (rowOk s m)) ∧ w = w' := by
  by_cases hs : (s.size : Int) ≤ m
  · go_enter Try.func18, Try.ntmps18
    go_wp2
    go_loopw [12] (fun t wr => ∃ k : Nat, k ≤ s.size ∧ t = .int .i64 k ∧ w = wr ∧ ∀ i, i < k → sb s i = 76 ∨ sb s i = 83) (fun t _ => s.size - (intOf t).toNat)
    case atStart => exact ⟨0, Nat.zero_le _, rfl, rfl, fun i hi => by omega⟩
    case round =>
      obtain ⟨k, hk, rfl, rfl, hall⟩ := hrel
      have HA : Hid (∀ i, i < k → sb s i = 76 ∨ sb s i = 83) := hall
      clear hall
      by_cases hlt : k < s.size
      · have hlt' : (k : Int) < s.size := by omega
        have hix := sb_ix s k k rfl hlt
        by_cases h1 : sb s k = 76
        · go_wp2
          refine ⟨⟨k + 1, by omega, by go_num, by trivial, fun i hi => ?_⟩, by simp [intOf]; omega⟩
          by_cases e : i = k
          · rw [e]; exact .inl h1
          · exact HA.out i (by omega)
        · by_cases h2 : sb s k = 83
          · go_wp2
            refine ⟨⟨k + 1, by omega, by go_num, by trivial, fun i hi => ?_⟩, by simp [intOf]; omega⟩
            by_cases e : i = k
            · rw [e]; exact .inr h2
            · exact HA.out i (by omega)
          · have h1' : (sb s k != 76) = true := by simp [h1]
            have h2' : (sb s k != 83) = true := by simp [h2]
            go_wp2
            go_ret
            exact ⟨by rw [rowOk_no hlt h1 h2]; rfl, rfl⟩
      · have hlt' : ¬ (k : Int) < s.size := by omega
        go_wp2
        go_ret
        refine ⟨?_, rfl⟩
        rw [(rowOk_iff (s := s) (m := m)).2 ⟨hs, fun i hi => HA.out i (by omega)⟩]
        rfl
  · go_enter Try.func18, Try.ntmps18
    go_wp2
    go_ret
    refine ⟨?_, rfl⟩
    rw [show rowOk s m = false from by unfold rowOk; rw [decide_eq_false (show ¬ (s.size : Int) ≤ m by omega)]; rfl]
    rfl
end Go.Proofs.Ytnkmiljnilmicaa
