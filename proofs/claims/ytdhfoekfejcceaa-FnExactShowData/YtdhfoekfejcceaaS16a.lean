/-
  Words: by the program and by the specification: walked.
-/
import Derived.Test.YtdhfoekfejcceaaD16j
import Derived.Laws.Externs
import Derived.Lib.Bytealg
namespace Go.Proofs.Ytdhfoekfejcceaa
open Go.RowKit

/-- The text begins so. -/
def bg (s p : ByteArray) : Prop := p.size ≤ s.size ∧ s.extract 0 p.size = p
theorem sBegins_any (s p : ByteArray) (w : World) (hp : p.size ≤ 1000) (b : Bool) (hb : Hid (b = true ↔ bg s p)) : Calls Try.prog 48 #[.string s, .string p] w fun e w' => e = .returned (.bool b) ∧ w = w' := by
  have hp' : (p.size : Int) ≤ 1000 := by omega
  by_cases h1 : p.size ≤ s.size
  · have h1' : (p.size : Int) ≤ (s.size : Int) := by omega
    by_cases h2 : s.extract 0 p.size = p
    · obtain rfl : b = true := hb.out.2 ⟨h1, h2⟩
      have hbe := beq_self_eq_true p.toList
      go_enter Try.func48, Try.ntmps48
      go_wp2
      go_ret
      exact ⟨rfl, rfl⟩
    · obtain rfl := no_of hb (fun k => h2 k.2)
      obtain ⟨x, hx⟩ : ∃ x, s.extract 0 p.size = x := ⟨_, rfl⟩
      rw [hx] at h2
      have hbe := (Go.Lib.bytes_beq_false_iff x p).2 h2
      clear h2
      go_enter Try.func48, Try.ntmps48
      go_wp2
      go_ret
      exact ⟨rfl, rfl⟩
  · have h1' : ¬ (p.size : Int) ≤ (s.size : Int) := by omega
    obtain rfl := no_of hb (fun k => h1 k.1)
    go_enter Try.func48, Try.ntmps48
    go_wp2
    go_ret
    exact ⟨rfl, rfl⟩
theorem hasIn_any (s p : ByteArray) (w : World) (hp : p.size ≤ 1000) (b : Bool) (hb : Hid (b = true ↔ bg s p)) : Calls Try.prog 66 #[.string s, .string p] w fun e w' => e = .returned (.bool b) ∧ w = w' := by
  have hp' : (p.size : Int) ≤ 1000 := by omega
  by_cases h1 : p.size ≤ s.size
  · have h1' : (p.size : Int) ≤ (s.size : Int) := by omega
    by_cases h2 : s.extract 0 p.size = p
    · obtain rfl : b = true := hb.out.2 ⟨h1, h2⟩
      have hbe := beq_self_eq_true p.toList
      go_enter Try.func66, Try.ntmps66
      go_wp2
      go_ret
      exact ⟨rfl, rfl⟩
    · obtain rfl := no_of hb (fun k => h2 k.2)
      obtain ⟨x, hx⟩ : ∃ x, s.extract 0 p.size = x := ⟨_, rfl⟩
      rw [hx] at h2
      have hbe := (Go.Lib.bytes_beq_false_iff x p).2 h2
      clear h2
      go_enter Try.func66, Try.ntmps66
      go_wp2
      go_ret
      exact ⟨rfl, rfl⟩
  · have h1' : ¬ (p.size : Int) ≤ (s.size : Int) := by omega
    obtain rfl := no_of hb (fun k => h1 k.1)
    go_enter Try.func66, Try.ntmps66
    go_wp2
    go_ret
    exact ⟨rfl, rfl⟩
theorem hasPrefix_any (s p : ByteArray) (w : World) (hp : p.size ≤ 1000) (b : Bool) (hb : Hid (b = true ↔ bg s p)) : Calls Try.prog 60 #[.string s, .string p] w fun e w' => e = .returned (.bool b) ∧ w = w' := by
  go_enter Try.func60, Try.ntmps60
  go_wp2_with (go_at_call 66; refine (hasIn_any s p _ hp b hb).mono ?_; rintro e w2 ⟨rfl, rfl⟩)
  go_ret
  exact ⟨rfl, rfl⟩
theorem ixb_iff (l : List UInt8) (c : UInt8) : 0 ≤ Go.Lib.indexByte l c ↔ c ∈ l := by
  induction l with
  | nil => simp [Go.Lib.indexByte]
  | cons b l ih =>
    have hg := Go.Lib.indexByte_ge l c
    unfold Go.Lib.indexByte
    by_cases e : b = c
    · simp [e]
    · have e' : (b == c) = false := by simpa using e
      rw [e']
      simp only [Bool.false_eq_true, if_false, List.mem_cons]
      by_cases k : Go.Lib.indexByte l c = -1
      · have k2 : ¬ c ∈ l := fun h => by have := ih.2 h; omega
        simp only [k, beq_self_eq_true, if_true]
        constructor
        · intro h; omega
        · rintro (h | h)
          · exact absurd h.symm e
          · exact absurd h k2
      · have k' : (Go.Lib.indexByte l c == -1) = false := by simpa using k
        rw [k']
        simp only [Bool.false_eq_true, if_false]
        constructor
        · intro _; exact .inr (ih.1 (by omega))
        · intro _; omega
theorem ixString_any (s : ByteArray) (c : UInt8) (w : World) : (callFunc 74 #[.string s, .int .u8 (c.toNat : Int)]).run Try.prog w = .ok (.value (.int .i64 (Go.Lib.indexByte s.data.toList c))) w := by
  rw [run_callFunc_extern Try.func74 (by kernel_rfl) (by kernel_rfl) (by kernel_rfl) (e := Extern.BytealgIndexByte.indexByte) (by kernel_rfl), Go.Lib.run_indexByteString]
  simp
theorem indexByte_any (s : ByteArray) (c : UInt8) (w : World) : Calls Try.prog 70 #[.string s, .int .u8 (c.toNat : Int)] w fun e w' => e = .returned (.int .i64 (Go.Lib.indexByte s.data.toList c)) ∧ w = w' := by
  have hx := fun w => ixString_any s c w
  go_enter Try.func70, Try.ntmps70
  go_wp2
  go_ret
  exact ⟨rfl, rfl⟩
end Go.Proofs.Ytdhfoekfejcceaa
