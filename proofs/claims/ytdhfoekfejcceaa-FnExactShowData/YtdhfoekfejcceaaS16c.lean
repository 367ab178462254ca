/-
  Words: walked.
-/
import Derived.Test.YtdhfoekfejcceaaS16b
namespace Go.Proofs.Ytdhfoekfejcceaa
open Go.RowKit

/-- A value as it is written. -/
noncomputable def wd (s : ByteArray) : ByteArray := by
  classical exact if bare s then s else ⟨#[39]⟩ ++ s ++ ⟨#[39]⟩
theorem wd_yes {s : ByteArray} (h : bare s) : wd s = s := by unfold wd; exact if_pos h
theorem wd_no {s : ByteArray} (h : ¬ bare s) : wd s = ⟨#[39]⟩ ++ s ++ ⟨#[39]⟩ := by unfold wd; exact if_neg h
set_option maxRecDepth 100000 in
set_option maxHeartbeats 1600000 in
theorem sWord_any (s : ByteArray) (w : World) (hs : s.size ≤ 200) : Calls Try.prog 30 #[.string s] w fun e w' => e = .returned (.string (wd s)) ∧ w = w' := by
  have hs' : (s.size : Int) ≤ 200 := by omega
  have ho1 : ¬ 9223372036854775807 < 1 + s.size := by omega
  have ho2 : ¬ 9223372036854775807 < 1 + s.size + 1 := by omega
  obtain ⟨P0, hP0⟩ : ∃ P, (s.size ≠ 0 ∧ sb s 0 ≠ 95 ∧ sb s 0 ≠ 35 ∧ s ≠ LOOP ∧ ¬ bg s DATA) = P := ⟨_, rfl⟩
  have HB : Hid (bare s ↔ P0 ∧ ∀ k, k < s.size → sb s k ≠ 32) := by
    rw [← hP0]
    exact ⟨fun ⟨a, b, c, d, e, f⟩ => ⟨⟨a, b, c, d, e⟩, f⟩, fun ⟨⟨a, b, c, d, e⟩, f⟩ => ⟨a, b, c, d, e, f⟩⟩
  obtain ⟨b1, hb1⟩ := bool_of (bg s DATA)
  have BG := fun w => sBegins_any s DATA w (by decide) b1 hb1
  have hD : (DATA : ByteArray) = { data := #[100, 97, 116, 97, 95] } := rfl
  rw [hD] at BG
  clear hD
  have hne0 : (s.toList == ByteArray.toList { data := #[] }) = decide (s.size = 0) := by
    by_cases e : s.size = 0
    · rw [(empty_iff s).2 e, (Go.Lib.bytes_beq_iff _ _).2 rfl]; rfl
    · rw [(Go.Lib.bytes_beq_false_iff s ⟨#[]⟩).2 (fun k => e ((empty_iff s).1 k)), decide_eq_false e]
  have hE : ByteArray.toList { data := #[] } = [] := by first | rfl | simp | decide
  rw [hE, show (s.toList == []) = s.toList.isEmpty by cases s.toList <;> rfl] at hne0
  clear hE
  have hneL : (s.toList == ByteArray.toList { data := #[108, 111, 111, 112, 95] }) = decide (s = LOOP) := by
    by_cases e : s = LOOP
    · rw [decide_eq_true e, e]; exact (Go.Lib.bytes_beq_iff _ _).2 rfl
    · rw [decide_eq_false e]; exact (Go.Lib.bytes_beq_false_iff s LOOP).2 e
  have hE : ByteArray.toList { data := #[108, 111, 111, 112, 95] } = [108, 111, 111, 112, 95] := by first | rfl | simp | decide
  rw [hE] at hneL
  clear hE
  by_cases k0 : s.size = 0
  · have H0 : Hid (false = true ↔ P0) := ⟨fun h => by simp at h, fun h => by rw [← hP0] at h; exact absurd k0 h.1⟩
    rw [decide_eq_true k0] at hne0
    clear hP0 BG hneL hb1 k0
    go_enter Try.func30, Try.ntmps30
    go_wp2
    go_loopw [3, 4] (fun u3 u4 wr => ∃ (k : Nat) (c : Bool), k ≤ s.size ∧ u3 = .bool c ∧ u4 = .int .i64 (k : Int) ∧ w = wr ∧ Hid (c = true ↔ P0 ∧ ∀ i, i < k → sb s i ≠ 32)) (fun _ u4 _ => s.size - (intOf u4).toNat)
    case atStart => exact ⟨0, _, Nat.zero_le _, rfl, rfl, rfl, ⟨fun h => ⟨H0.out.1 h, fun i hi => by omega⟩, fun h => H0.out.2 h.1⟩⟩
    case round =>
      clear H0
      obtain ⟨k, c, hk, rfl, rfl, rfl, HC⟩ := hrel
      by_cases hlt : k < s.size
      · have hlt' : (k : Int) < (s.size : Int) := by omega
        cases c
        · have N := iff_no HC.out
          have HN : Hid (¬ (P0 ∧ ∀ i, i < k → sb s i ≠ 32)) := N
          clear N HC
          go_wp2
          exact ⟨⟨k + 1, false, by omega, by trivial, by go_num, by trivial, ⟨fun h => by simp at h, fun h => absurd ⟨h.1, fun i hi => h.2 i (by omega)⟩ HN.out⟩⟩, by simp [intOf]; omega⟩
        · have Y := HC.out.1 rfl
          have HY : Hid (P0 ∧ ∀ i, i < k → sb s i ≠ 32) := Y
          clear Y HC
          have hix := sb_ix s k k rfl hlt
          obtain ⟨y, hy⟩ : ∃ y, sb s k = y := ⟨_, rfl⟩
          have HS : Hid (sb s k = y) := hy
          rw [hy] at hix
          clear hy
          by_cases k4 : y = 32
          · subst k4
            go_wp2
            exact ⟨⟨k + 1, false, by omega, by trivial, by go_num, by trivial, ⟨fun h => by simp at h, fun h => absurd HS.out (h.2 k (by omega))⟩⟩, by simp [intOf]; omega⟩
          · have k4' : (y != 32) = true := by simpa using k4
            have K4 : Hid (y ≠ 32) := k4
            clear k4
            go_wp2
            refine ⟨⟨k + 1, true, by omega, by trivial, by go_num, by trivial, ⟨fun _ => ⟨HY.out.1, fun i hi => ?_⟩, fun _ => rfl⟩⟩, by simp [intOf]; omega⟩
            by_cases e : i = k
            · rw [e, HS.out]; exact K4.out
            · exact HY.out.2 i (by omega)
      · obtain rfl : k = s.size := by omega
        have hlt' : ¬ (s.size : Int) < (s.size : Int) := by omega
        cases c
        · have N : ¬ bare s := fun h => iff_no HC.out (HB.out.1 h)
          have HW : Hid (_ = _) := wd_no N
          clear N HC HB
          go_wp2
          go_ret
          exact ⟨by rw [HW.out]; rfl, rfl⟩
        · have Y : bare s := HB.out.2 (HC.out.1 rfl)
          have HW : Hid (_ = _) := wd_yes Y
          clear Y HC HB
          go_wp2
          go_ret
          exact ⟨by rw [HW.out]; rfl, rfl⟩
  have hix := sb_ix s 0 0 rfl (by omega)
  rw [decide_eq_false k0] at hne0
  by_cases k1 : sb s 0 = 95
  · have H0 : Hid (false = true ↔ P0) := ⟨fun h => by simp at h, fun h => by rw [← hP0] at h; exact absurd k1 h.2.1⟩
    rw [k1] at hix
    clear hP0 BG hneL hb1 k0 k1
    go_enter Try.func30, Try.ntmps30
    go_wp2
    go_loopw [3, 4] (fun u3 u4 wr => ∃ (k : Nat) (c : Bool), k ≤ s.size ∧ u3 = .bool c ∧ u4 = .int .i64 (k : Int) ∧ w = wr ∧ Hid (c = true ↔ P0 ∧ ∀ i, i < k → sb s i ≠ 32)) (fun _ u4 _ => s.size - (intOf u4).toNat)
    case atStart => exact ⟨0, _, Nat.zero_le _, rfl, rfl, rfl, ⟨fun h => ⟨H0.out.1 h, fun i hi => by omega⟩, fun h => H0.out.2 h.1⟩⟩
    case round =>
      clear H0
      obtain ⟨k, c, hk, rfl, rfl, rfl, HC⟩ := hrel
      by_cases hlt : k < s.size
      · have hlt' : (k : Int) < (s.size : Int) := by omega
        cases c
        · have N := iff_no HC.out
          have HN : Hid (¬ (P0 ∧ ∀ i, i < k → sb s i ≠ 32)) := N
          clear N HC
          go_wp2
          exact ⟨⟨k + 1, false, by omega, by trivial, by go_num, by trivial, ⟨fun h => by simp at h, fun h => absurd ⟨h.1, fun i hi => h.2 i (by omega)⟩ HN.out⟩⟩, by simp [intOf]; omega⟩
        · have Y := HC.out.1 rfl
          have HY : Hid (P0 ∧ ∀ i, i < k → sb s i ≠ 32) := Y
          clear Y HC
          have hix := sb_ix s k k rfl hlt
          obtain ⟨y, hy⟩ : ∃ y, sb s k = y := ⟨_, rfl⟩
          have HS : Hid (sb s k = y) := hy
          rw [hy] at hix
          clear hy
          by_cases k4 : y = 32
          · subst k4
            go_wp2
            exact ⟨⟨k + 1, false, by omega, by trivial, by go_num, by trivial, ⟨fun h => by simp at h, fun h => absurd HS.out (h.2 k (by omega))⟩⟩, by simp [intOf]; omega⟩
          · have k4' : (y != 32) = true := by simpa using k4
            have K4 : Hid (y ≠ 32) := k4
            clear k4
            go_wp2
            refine ⟨⟨k + 1, true, by omega, by trivial, by go_num, by trivial, ⟨fun _ => ⟨HY.out.1, fun i hi => ?_⟩, fun _ => rfl⟩⟩, by simp [intOf]; omega⟩
            by_cases e : i = k
            · rw [e, HS.out]; exact K4.out
            · exact HY.out.2 i (by omega)
      · obtain rfl : k = s.size := by omega
        have hlt' : ¬ (s.size : Int) < (s.size : Int) := by omega
        cases c
        · have N : ¬ bare s := fun h => iff_no HC.out (HB.out.1 h)
          have HW : Hid (_ = _) := wd_no N
          clear N HC HB
          go_wp2
          go_ret
          exact ⟨by rw [HW.out]; rfl, rfl⟩
        · have Y : bare s := HB.out.2 (HC.out.1 rfl)
          have HW : Hid (_ = _) := wd_yes Y
          clear Y HC HB
          go_wp2
          go_ret
          exact ⟨by rw [HW.out]; rfl, rfl⟩
  by_cases k2 : sb s 0 = 35
  · have H0 : Hid (false = true ↔ P0) := ⟨fun h => by simp at h, fun h => by rw [← hP0] at h; exact absurd k2 h.2.2.1⟩
    rw [k2] at hix
    clear hP0 BG hneL hb1 k0 k1 k2
    go_enter Try.func30, Try.ntmps30
    go_wp2
    go_loopw [3, 4] (fun u3 u4 wr => ∃ (k : Nat) (c : Bool), k ≤ s.size ∧ u3 = .bool c ∧ u4 = .int .i64 (k : Int) ∧ w = wr ∧ Hid (c = true ↔ P0 ∧ ∀ i, i < k → sb s i ≠ 32)) (fun _ u4 _ => s.size - (intOf u4).toNat)
    case atStart => exact ⟨0, _, Nat.zero_le _, rfl, rfl, rfl, ⟨fun h => ⟨H0.out.1 h, fun i hi => by omega⟩, fun h => H0.out.2 h.1⟩⟩
    case round =>
      clear H0
      obtain ⟨k, c, hk, rfl, rfl, rfl, HC⟩ := hrel
      by_cases hlt : k < s.size
      · have hlt' : (k : Int) < (s.size : Int) := by omega
        cases c
        · have N := iff_no HC.out
          have HN : Hid (¬ (P0 ∧ ∀ i, i < k → sb s i ≠ 32)) := N
          clear N HC
          go_wp2
          exact ⟨⟨k + 1, false, by omega, by trivial, by go_num, by trivial, ⟨fun h => by simp at h, fun h => absurd ⟨h.1, fun i hi => h.2 i (by omega)⟩ HN.out⟩⟩, by simp [intOf]; omega⟩
        · have Y := HC.out.1 rfl
          have HY : Hid (P0 ∧ ∀ i, i < k → sb s i ≠ 32) := Y
          clear Y HC
          have hix := sb_ix s k k rfl hlt
          obtain ⟨y, hy⟩ : ∃ y, sb s k = y := ⟨_, rfl⟩
          have HS : Hid (sb s k = y) := hy
          rw [hy] at hix
          clear hy
          by_cases k4 : y = 32
          · subst k4
            go_wp2
            exact ⟨⟨k + 1, false, by omega, by trivial, by go_num, by trivial, ⟨fun h => by simp at h, fun h => absurd HS.out (h.2 k (by omega))⟩⟩, by simp [intOf]; omega⟩
          · have k4' : (y != 32) = true := by simpa using k4
            have K4 : Hid (y ≠ 32) := k4
            clear k4
            go_wp2
            refine ⟨⟨k + 1, true, by omega, by trivial, by go_num, by trivial, ⟨fun _ => ⟨HY.out.1, fun i hi => ?_⟩, fun _ => rfl⟩⟩, by simp [intOf]; omega⟩
            by_cases e : i = k
            · rw [e, HS.out]; exact K4.out
            · exact HY.out.2 i (by omega)
      · obtain rfl : k = s.size := by omega
        have hlt' : ¬ (s.size : Int) < (s.size : Int) := by omega
        cases c
        · have N : ¬ bare s := fun h => iff_no HC.out (HB.out.1 h)
          have HW : Hid (_ = _) := wd_no N
          clear N HC HB
          go_wp2
          go_ret
          exact ⟨by rw [HW.out]; rfl, rfl⟩
        · have Y : bare s := HB.out.2 (HC.out.1 rfl)
          have HW : Hid (_ = _) := wd_yes Y
          clear Y HC HB
          go_wp2
          go_ret
          exact ⟨by rw [HW.out]; rfl, rfl⟩
  by_cases k3 : s = LOOP
  · have H0 : Hid (false = true ↔ P0) := ⟨fun h => by simp at h, fun h => by rw [← hP0] at h; exact absurd k3 h.2.2.2.1⟩
    rw [decide_eq_true k3] at hneL
    obtain ⟨y, hy⟩ : ∃ y, sb s 0 = y := ⟨_, rfl⟩
    rw [hy] at k1 k2 hix
    have k1' : (y != 95) = true := by simpa using k1
    have k2' : (y != 35) = true := by simpa using k2
    clear hP0 BG hb1 k0 k1 k2 k3 hy
    go_enter Try.func30, Try.ntmps30
    go_wp2
    go_loopw [3, 4] (fun u3 u4 wr => ∃ (k : Nat) (c : Bool), k ≤ s.size ∧ u3 = .bool c ∧ u4 = .int .i64 (k : Int) ∧ w = wr ∧ Hid (c = true ↔ P0 ∧ ∀ i, i < k → sb s i ≠ 32)) (fun _ u4 _ => s.size - (intOf u4).toNat)
    case atStart => exact ⟨0, _, Nat.zero_le _, rfl, rfl, rfl, ⟨fun h => ⟨H0.out.1 h, fun i hi => by omega⟩, fun h => H0.out.2 h.1⟩⟩
    case round =>
      clear H0
      obtain ⟨k, c, hk, rfl, rfl, rfl, HC⟩ := hrel
      by_cases hlt : k < s.size
      · have hlt' : (k : Int) < (s.size : Int) := by omega
        cases c
        · have N := iff_no HC.out
          have HN : Hid (¬ (P0 ∧ ∀ i, i < k → sb s i ≠ 32)) := N
          clear N HC
          go_wp2
          exact ⟨⟨k + 1, false, by omega, by trivial, by go_num, by trivial, ⟨fun h => by simp at h, fun h => absurd ⟨h.1, fun i hi => h.2 i (by omega)⟩ HN.out⟩⟩, by simp [intOf]; omega⟩
        · have Y := HC.out.1 rfl
          have HY : Hid (P0 ∧ ∀ i, i < k → sb s i ≠ 32) := Y
          clear Y HC
          have hix := sb_ix s k k rfl hlt
          obtain ⟨y, hy⟩ : ∃ y, sb s k = y := ⟨_, rfl⟩
          have HS : Hid (sb s k = y) := hy
          rw [hy] at hix
          clear hy
          by_cases k4 : y = 32
          · subst k4
            go_wp2
            exact ⟨⟨k + 1, false, by omega, by trivial, by go_num, by trivial, ⟨fun h => by simp at h, fun h => absurd HS.out (h.2 k (by omega))⟩⟩, by simp [intOf]; omega⟩
          · have k4' : (y != 32) = true := by simpa using k4
            have K4 : Hid (y ≠ 32) := k4
            clear k4
            go_wp2
            refine ⟨⟨k + 1, true, by omega, by trivial, by go_num, by trivial, ⟨fun _ => ⟨HY.out.1, fun i hi => ?_⟩, fun _ => rfl⟩⟩, by simp [intOf]; omega⟩
            by_cases e : i = k
            · rw [e, HS.out]; exact K4.out
            · exact HY.out.2 i (by omega)
      · obtain rfl : k = s.size := by omega
        have hlt' : ¬ (s.size : Int) < (s.size : Int) := by omega
        cases c
        · have N : ¬ bare s := fun h => iff_no HC.out (HB.out.1 h)
          have HW : Hid (_ = _) := wd_no N
          clear N HC HB
          go_wp2
          go_ret
          exact ⟨by rw [HW.out]; rfl, rfl⟩
        · have Y : bare s := HB.out.2 (HC.out.1 rfl)
          have HW : Hid (_ = _) := wd_yes Y
          clear Y HC HB
          go_wp2
          go_ret
          exact ⟨by rw [HW.out]; rfl, rfl⟩
  rw [decide_eq_false k3] at hneL
  have H0 : Hid ((!b1) = true ↔ P0) := by
    rw [← hP0]
    cases b1
    · exact ⟨fun _ => ⟨k0, k1, k2, k3, iff_no hb1⟩, fun _ => rfl⟩
    · exact ⟨fun h => by simp at h, fun h => absurd (hb1.1 rfl) h.2.2.2.2⟩
  obtain ⟨y, hy⟩ : ∃ y, sb s 0 = y := ⟨_, rfl⟩
  rw [hy] at k1 k2 hix
  have k1' : (y != 95) = true := by simpa using k1
  have k2' : (y != 35) = true := by simpa using k2
  clear hP0 hb1 k0 k1 k2 k3 hy
  go_enter Try.func30, Try.ntmps30
  go_wp2_with (go_at_call 48; refine (BG _).mono ?_; rintro e w2 ⟨rfl, rfl⟩)
  clear BG
  go_loopw [3, 4] (fun u3 u4 wr => ∃ (k : Nat) (c : Bool), k ≤ s.size ∧ u3 = .bool c ∧ u4 = .int .i64 (k : Int) ∧ w = wr ∧ Hid (c = true ↔ P0 ∧ ∀ i, i < k → sb s i ≠ 32)) (fun _ u4 _ => s.size - (intOf u4).toNat)
  case atStart => exact ⟨0, _, Nat.zero_le _, rfl, rfl, rfl, ⟨fun h => ⟨H0.out.1 h, fun i hi => by omega⟩, fun h => H0.out.2 h.1⟩⟩
  case round =>
    clear H0
    obtain ⟨k, c, hk, rfl, rfl, rfl, HC⟩ := hrel
    by_cases hlt : k < s.size
    · have hlt' : (k : Int) < (s.size : Int) := by omega
      cases c
      · have N := iff_no HC.out
        have HN : Hid (¬ (P0 ∧ ∀ i, i < k → sb s i ≠ 32)) := N
        clear N HC
        go_wp2
        exact ⟨⟨k + 1, false, by omega, by trivial, by go_num, by trivial, ⟨fun h => by simp at h, fun h => absurd ⟨h.1, fun i hi => h.2 i (by omega)⟩ HN.out⟩⟩, by simp [intOf]; omega⟩
      · have Y := HC.out.1 rfl
        have HY : Hid (P0 ∧ ∀ i, i < k → sb s i ≠ 32) := Y
        clear Y HC
        have hix := sb_ix s k k rfl hlt
        obtain ⟨y, hy⟩ : ∃ y, sb s k = y := ⟨_, rfl⟩
        have HS : Hid (sb s k = y) := hy
        rw [hy] at hix
        clear hy
        by_cases k4 : y = 32
        · subst k4
          go_wp2
          exact ⟨⟨k + 1, false, by omega, by trivial, by go_num, by trivial, ⟨fun h => by simp at h, fun h => absurd HS.out (h.2 k (by omega))⟩⟩, by simp [intOf]; omega⟩
        · have k4' : (y != 32) = true := by simpa using k4
          have K4 : Hid (y ≠ 32) := k4
          clear k4
          go_wp2
          refine ⟨⟨k + 1, true, by omega, by trivial, by go_num, by trivial, ⟨fun _ => ⟨HY.out.1, fun i hi => ?_⟩, fun _ => rfl⟩⟩, by simp [intOf]; omega⟩
          by_cases e : i = k
          · rw [e, HS.out]; exact K4.out
          · exact HY.out.2 i (by omega)
    · obtain rfl : k = s.size := by omega
      have hlt' : ¬ (s.size : Int) < (s.size : Int) := by omega
      cases c
      · have N : ¬ bare s := fun h => iff_no HC.out (HB.out.1 h)
        have HW : Hid (_ = _) := wd_no N
        clear N HC HB
        go_wp2
        go_ret
        exact ⟨by rw [HW.out]; rfl, rfl⟩
      · have Y : bare s := HB.out.2 (HC.out.1 rfl)
        have HW : Hid (_ = _) := wd_yes Y
        clear Y HC HB
        go_wp2
        go_ret
        exact ⟨by rw [HW.out]; rfl, rfl⟩
end Go.Proofs.Ytdhfoekfejcceaa
