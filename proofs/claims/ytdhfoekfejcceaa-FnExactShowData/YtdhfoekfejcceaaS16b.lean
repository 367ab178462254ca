/-
  Words: walked.
-/
import Derived.Test.YtdhfoekfejcceaaS16a
namespace Go.Proofs.Ytdhfoekfejcceaa
open Go.RowKit

theorem l8_sb {s : ByteArray} {k : Nat} (h : k < s.size) (c : UInt8) : s.data.toList[k]? = some c ↔ sb s k = (c.toNat : Int) := by
  obtain ⟨⟨l⟩⟩ := s
  have hl : k < l.length := h
  unfold sb
  simp only [List.getD, List.getElem?_eq_getElem hl, Option.getD_some, Option.some.injEq]
  constructor
  · intro h; rw [h]
  · intro h
    exact UInt8.toNat_inj.1 (by omega)
theorem mem_sb (s : ByteArray) (c : UInt8) : c ∈ s.data.toList ↔ ∃ k, k < s.size ∧ sb s k = (c.toNat : Int) := by
  rw [List.mem_iff_getElem?]
  constructor
  · rintro ⟨k, hk⟩
    have hl : k < s.size := by
      have := (List.getElem?_eq_some_iff.1 hk).1
      rw [Array.length_toList] at this
      exact this
    exact ⟨k, hl, (l8_sb hl c).1 hk⟩
  · rintro ⟨k, h1, h2⟩
    exact ⟨k, (l8_sb h1 c).2 h2⟩
theorem index1_any (s : ByteArray) (c : UInt8) (w : World) (hs : s.size ≤ 1000000) : Calls Try.prog 65 #[.string s, .string ⟨#[c]⟩] w fun e w' => ∃ r : Int, e = .returned (.int .i64 r) ∧ (0 ≤ r ↔ c ∈ s.data.toList) ∧ w = w' := by
  have hix := sb_ix ⟨#[c]⟩ 0 0 rfl (show 0 < 1 by decide)
  rw [show sb ⟨#[c]⟩ 0 = (c.toNat : Int) from rfl] at hix
  have IB := fun w => indexByte_any s c w
  have hsz : (⟨#[c]⟩ : ByteArray).size = 1 := rfl
  obtain ⟨p, hp⟩ : ∃ p : ByteArray, ⟨#[c]⟩ = p := ⟨_, rfl⟩
  rw [hp] at hix hsz ⊢
  by_cases e : p = s
  · have hm : c ∈ s.data.toList := by rw [← e, ← hp]; simp
    subst e
    have hbe := beq_self_eq_true p.toList
    have hsz' : (p.size : Int) = 1 := by omega
    clear hp
    go_enter Try.func65, Try.ntmps65
    go_wp2
    go_ret
    exact ⟨_, rfl, ⟨fun _ => hm, fun _ => by omega⟩, rfl⟩
  · have hbe := (Go.Lib.bytes_beq_false_iff p s).2 e
    have hsz' : (p.size : Int) = 1 := by omega
    have hr := ixb_iff s.data.toList c
    clear e hp
    go_enter Try.func65, Try.ntmps65
    go_wp2_with (go_at_call 70; refine (IB _).mono ?_; rintro e w2 ⟨rfl, rfl⟩)
    go_ret
    exact ⟨_, rfl, hr, rfl⟩
theorem contains1_any (s : ByteArray) (c : UInt8) (w : World) (hs : s.size ≤ 1000000) (b : Bool) (hb : Hid (b = true ↔ c ∈ s.data.toList)) : Calls Try.prog 49 #[.string s, .string ⟨#[c]⟩] w fun e w' => e = .returned (.bool b) ∧ w = w' := by
  obtain ⟨p, hp⟩ : ∃ p : ByteArray, ⟨#[c]⟩ = p := ⟨_, rfl⟩
  have I1 := fun w => index1_any s c w hs
  rw [hp] at I1 ⊢
  clear hp
  have S1 : ∀ w, Calls Try.prog 59 #[.string s, .string p] w fun e w' => ∃ r : Int, e = .returned (.int .i64 r) ∧ (0 ≤ r ↔ c ∈ s.data.toList) ∧ w = w' := fun w => by
    go_enter Try.func59, Try.ntmps59
    go_wp2_with fail
    refine (I1 _).mono ?_
    rintro e w2 ⟨r, rfl, hr, rfl⟩
    have HR : Hid (0 ≤ r ↔ c ∈ s.data.toList) := hr
    clear hr
    go_wp2
    go_ret
    exact ⟨_, rfl, HR.out, rfl⟩
  go_enter Try.func49, Try.ntmps49
  go_wp2_with fail
  refine (S1 _).mono ?_
  rintro e w2 ⟨r, rfl, hr, rfl⟩
  clear I1 S1
  cases b
  · have h1 := decide_eq_false (fun k => iff_no hb.out (hr.1 k))
    clear hr hb
    go_wp2
    go_ret
    exact ⟨rfl, rfl⟩
  · have h1 := decide_eq_true (hr.2 (hb.out.1 rfl))
    clear hr hb
    go_wp2
    go_ret
    exact ⟨rfl, rfl⟩
def DATA : ByteArray := ⟨#[100, 97, 116, 97, 95]⟩
def LOOP : ByteArray := ⟨#[108, 111, 111, 112, 95]⟩
/-- A value that is written as it is. -/
def bare (s : ByteArray) : Prop := s.size ≠ 0 ∧ sb s 0 ≠ 95 ∧ sb s 0 ≠ 35 ∧ s ≠ LOOP ∧ ¬ bg s DATA ∧ ∀ k, k < s.size → sb s k ≠ 32
/-- A text that is read as a value where it is not between two marks. -/
def kv (s : ByteArray) : Prop := s.size ≠ 0 ∧ sb s 0 ≠ 35 ∧ ¬ bg s DATA ∧ sb s 0 ≠ 95 ∧ s ≠ LOOP
theorem bg_und (s : ByteArray) : bg s ⟨#[95]⟩ ↔ 1 ≤ s.size ∧ sb s 0 = 95 := by
  unfold bg
  constructor
  · rintro ⟨h1, h2⟩
    have h1' : 1 ≤ s.size := h1
    refine ⟨h1', ?_⟩
    have := (l8_sb (s := s) (k := 0) h1' 95).1
    refine this ?_
    have e := congrArg (fun x : ByteArray => x.data.toList[0]?) h2
    simp only [ByteArray.data_extract, show (⟨#[95]⟩ : ByteArray).size = 1 from rfl, Array.toList_extract] at e
    rw [List.getElem?_eq_getElem (show 0 < s.data.toList.length by rw [Array.length_toList]; exact h1')]
    obtain ⟨⟨l⟩⟩ := s
    cases l with
    | nil => simp [ByteArray.size] at h1'
    | cons x l => simpa using e
  · rintro ⟨h1, h2⟩
    refine ⟨h1, ?_⟩
    have e := (l8_sb (s := s) (k := 0) h1 95).2 h2
    obtain ⟨⟨l⟩⟩ := s
    cases l with
    | nil => simp [ByteArray.size] at h1
    | cons x l =>
      simp at e
      subst e
      refine ByteArray.ext ?_
      simp [ByteArray.data_extract]
      rfl
theorem empty_iff (s : ByteArray) : s = ⟨#[]⟩ ↔ s.size = 0 := by
  constructor
  · rintro rfl; rfl
  · intro h; exact ByteArray.ext (Array.eq_empty_of_size_eq_zero h)
end Go.Proofs.Ytdhfoekfejcceaa
