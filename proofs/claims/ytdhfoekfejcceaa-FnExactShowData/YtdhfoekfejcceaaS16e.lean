/-
  Words by the program: walked.
-/
import Derived.Test.YtdhfoekfejcceaaS16c
import Derived.Test.YtdhfoekfejcceaaS16d
namespace Go.Proofs.Ytdhfoekfejcceaa
open Go.RowKit

theorem prefixS_any (s p : ByteArray) (w : World) (hp : p.size ≤ 1000) (b : Bool) (hb : Hid (b = true ↔ bg s p)) : Calls Try.prog 60 #[.string s, .string p] w fun e w' => e = .returned (.bool b) ∧ w = w' := hasPrefix_any s p w hp b hb
theorem kv_beq (s : ByteArray) : Hid ((s.toList.isEmpty) = decide (s.size = 0)) := by
  have hne0 : (s.toList == ByteArray.toList { data := #[] }) = decide (s.size = 0) := by
    by_cases e : s.size = 0
    · rw [(empty_iff s).2 e, (Go.Lib.bytes_beq_iff _ _).2 rfl]; rfl
    · rw [(Go.Lib.bytes_beq_false_iff s ⟨#[]⟩).2 (fun k => e ((empty_iff s).1 k)), decide_eq_false e]
  have hE : ByteArray.toList { data := #[] } = [] := by first | rfl | simp | decide
  rw [hE, show (s.toList == []) = s.toList.isEmpty by cases s.toList <;> rfl] at hne0
  exact hne0
theorem kv_loop (s : ByteArray) : Hid ((s.toList == [108, 111, 111, 112, 95]) = decide (s = LOOP)) := by
  have hneL : (s.toList == ByteArray.toList { data := #[108, 111, 111, 112, 95] }) = decide (s = LOOP) := by
    by_cases e : s = LOOP
    · rw [decide_eq_true e, e]; exact (Go.Lib.bytes_beq_iff _ _).2 rfl
    · rw [decide_eq_false e]; exact (Go.Lib.bytes_beq_false_iff s LOOP).2 e
  have hE : ByteArray.toList { data := #[108, 111, 111, 112, 95] } = [108, 111, 111, 112, 95] := by first | rfl | simp | decide
  rw [hE] at hneL
  exact hneL
set_option maxRecDepth 100000 in
set_option maxHeartbeats 1600000 in
theorem kindOf_any (s : ByteArray) (w : World) (hs : s.size ≤ 200) (h39 : ∀ k, k < s.size → sb s k ≠ 39) : Calls Try.prog 50 #[.string s] w fun e w' => ∃ r : Int, e = .returned (.int .i64 r) ∧ (r = 4 ↔ kv s) ∧ w = w' := by
  have hs' : (s.size : Int) ≤ 200 := by omega
  have hne0 := (kv_beq s).out
  have hneL := (kv_loop s).out
  by_cases k0 : s.size = 0
  · have HN : Hid (¬ kv s) := fun h => h.1 k0
    rw [decide_eq_true k0] at hne0
    clear k0 hneL h39
    go_enter Try.func50, Try.ntmps50
    go_wp2
    go_ret
    exact ⟨0, rfl, ⟨fun h => by omega, fun h => absurd h HN.out⟩, rfl⟩
  rw [decide_eq_false k0] at hne0
  have hix := sb_ix s 0 0 rfl (by omega)
  by_cases k2 : sb s 0 = 35
  · have HN : Hid (¬ kv s) := fun h => h.2.1 k2
    rw [k2] at hix
    clear k0 k2 hneL h39
    go_enter Try.func50, Try.ntmps50
    go_wp2
    go_ret
    exact ⟨0, rfl, ⟨fun h => by omega, fun h => absurd h HN.out⟩, rfl⟩
  obtain ⟨y, hy⟩ : ∃ y, sb s 0 = y := ⟨_, rfl⟩
  have k2' : (y == 35) = false := by rw [← hy]; simpa using k2
  rw [hy] at hix
  obtain ⟨b1, hb1⟩ := bool_of (bg s DATA)
  have P1 := fun w => prefixS_any s DATA w (by decide) b1 hb1
  rw [show (DATA : ByteArray) = { data := #[100, 97, 116, 97, 95] } from rfl] at P1
  obtain ⟨b2, hb2⟩ := bool_of (bg s ⟨#[95]⟩)
  have P2 := fun w => prefixS_any s ⟨#[95]⟩ w (show 1 ≤ 1000 by decide) b2 hb2
  obtain ⟨b3, hb3⟩ := bool_of (39 ∈ s.data.toList)
  have P3 := fun w => contains1_any s 39 w (by omega) b3 hb3
  obtain rfl : b3 = false := no_of hb3 (fun h => by
    obtain ⟨k, h1, h2⟩ := (mem_sb s 39).1 h
    exact h39 k h1 h2)
  have HD : b1 = true → Hid (¬ kv s) := fun h => show ¬ kv s from fun k => k.2.2.1 (hb1.1 h)
  have HU : b2 = true → Hid (¬ kv s) := fun h => show ¬ kv s from fun k => k.2.2.2.1 ((bg_und s).1 (hb2.1 h)).2
  have HL : s = LOOP → Hid (¬ kv s) := fun h => show ¬ kv s from fun k => k.2.2.2.2 h
  have HK : b1 = false → b2 = false → s ≠ LOOP → Hid (kv s) := fun h1 h2 h3 => by
    subst h1; subst h2
    exact ⟨k0, k2, iff_no hb1, fun h => iff_no hb2 ((bg_und s).2 ⟨by omega, h⟩), h3⟩
  clear hb1 hb2 hb3 h39 k2 k0 hy
  cases b1
  · cases b2
    · by_cases k3 : s = LOOP
      · have HN := HL k3
        rw [decide_eq_true k3] at hneL
        clear HD HU HL HK k3
        go_enter Try.func50, Try.ntmps50
        go_wp2_with (go_at_call 60; first | (refine (P1 _).mono ?_; rintro e w2 ⟨rfl, rfl⟩) | (refine (P2 _).mono ?_; rintro e w2 ⟨rfl, rfl⟩))
        go_ret
        exact ⟨2, rfl, ⟨fun h => by omega, fun h => absurd h HN.out⟩, rfl⟩
      · have HY := HK rfl rfl k3
        rw [decide_eq_false k3] at hneL
        clear HD HU HL HK k3
        go_enter Try.func50, Try.ntmps50
        go_wp2_with (first | (go_at_call 60; first | (refine (P1 _).mono ?_; rintro e w2 ⟨rfl, rfl⟩) | (refine (P2 _).mono ?_; rintro e w2 ⟨rfl, rfl⟩)) | (go_at_call 49; refine (P3 _).mono ?_; rintro e w2 ⟨rfl, rfl⟩))
        go_ret
        exact ⟨4, rfl, ⟨fun _ => HY.out, fun _ => rfl⟩, rfl⟩
    · have HN := HU rfl
      clear HD HU HL HK hneL
      go_enter Try.func50, Try.ntmps50
      go_wp2_with (go_at_call 60; first | (refine (P1 _).mono ?_; rintro e w2 ⟨rfl, rfl⟩) | (refine (P2 _).mono ?_; rintro e w2 ⟨rfl, rfl⟩))
      go_ret
      exact ⟨3, rfl, ⟨fun h => by omega, fun h => absurd h HN.out⟩, rfl⟩
  · have HN := HD rfl
    clear HD HU HL HK hneL
    go_enter Try.func50, Try.ntmps50
    go_wp2_with (go_at_call 60; first | (refine (P1 _).mono ?_; rintro e w2 ⟨rfl, rfl⟩) | (refine (P2 _).mono ?_; rintro e w2 ⟨rfl, rfl⟩))
    go_ret
    exact ⟨1, rfl, ⟨fun h => by omega, fun h => absurd h HN.out⟩, rfl⟩
set_option maxRecDepth 100000 in
set_option maxHeartbeats 1600000 in
theorem written_any (s : ByteArray) (w : World) (hs : s.size ≤ 200) (h39 : ∀ k, k < s.size → sb s k ≠ 39) : Calls Try.prog 31 #[.string s] w fun e w' => e = .returned (.string (wd s)) ∧ w = w' := by
  have hs' : (s.size : Int) ≤ 200 := by omega
  have ho1 : ¬ 9223372036854775807 < 1 + s.size := by omega
  have ho2 : ¬ 9223372036854775807 < 1 + s.size + 1 := by omega
  obtain ⟨b3, hb3⟩ := bool_of (32 ∈ s.data.toList)
  have P3 := fun w => contains1_any s 32 w (by omega) b3 hb3
  have KO := fun w => kindOf_any s w hs h39
  have HB : Hid (bare s ↔ kv s ∧ b3 = false) := by
    constructor
    · rintro ⟨a, b, c, d, e, f⟩
      refine ⟨⟨a, c, e, b, d⟩, no_of hb3 (fun h => ?_)⟩
      obtain ⟨k, h1, h2⟩ := (mem_sb s 32).1 h
      exact f k h1 h2
    · rintro ⟨⟨a, c, e, b, d⟩, rfl⟩
      exact ⟨a, b, c, d, e, fun k h1 h2 => iff_no hb3 ((mem_sb s 32).2 ⟨k, h1, h2⟩)⟩
  clear hb3 h39
  cases b3
  · go_enter Try.func31, Try.ntmps31
    go_wp2_with (go_at_call 49; refine (P3 _).mono ?_; rintro e w2 ⟨rfl, rfl⟩)
    refine (KO _).mono ?_
    rintro e w2 ⟨r, rfl, hr, rfl⟩
    clear KO P3
    by_cases k4 : r = 4
    · have HW : Hid (wd s = s) := wd_yes (HB.out.2 ⟨hr.1 k4, trivial⟩)
      clear HB hr
      subst k4
      go_wp2
      go_ret
      exact ⟨by rw [HW.out]; rfl, rfl⟩
    · have HW : Hid (wd s = _) := wd_no (fun h => k4 (hr.2 (HB.out.1 h).1))
      have k4' : (r == 4) = false := by simpa using k4
      have k4n : (r != 4) = true := by simpa using k4
      clear HB hr k4
      go_wp2
      go_ret
      exact ⟨by rw [HW.out]; rfl, rfl⟩
  · have HW : Hid (wd s = _) := wd_no (fun h => by have := (HB.out.1 h).2; cases this)
    clear HB KO
    go_enter Try.func31, Try.ntmps31
    go_wp2_with (go_at_call 49; refine (P3 _).mono ?_; rintro e w2 ⟨rfl, rfl⟩)
    go_ret
    exact ⟨by rw [HW.out]; rfl, rfl⟩
theorem wd_size (s : ByteArray) : (wd s).size ≤ s.size + 2 := by
  by_cases h : bare s
  · rw [wd_yes h]; omega
  · rw [wd_no h]
    simp only [ByteArray.size_append]
    have : (⟨#[39]⟩ : ByteArray).size = 1 := rfl
    omega
end Go.Proofs.Ytdhfoekfejcceaa
