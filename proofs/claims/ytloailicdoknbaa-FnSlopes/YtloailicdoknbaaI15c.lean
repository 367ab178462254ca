/-
  Tapes drawn: walked.
-/
import Derived.Test.YtloailicdoknbaaLh
namespace Go.Proofs.Ytloailicdoknbaa
open Go.RowKit

def sLen (v : Value) : Nat := match v with | .slice _ n _ => n | _ => 0
/-- What is drawn: a tape of any steps. -/
def DtP (w1 : World) (p : Nat) (a : Option Addr) (len cap k : Nat) (e : Ending) (w' : World) : Prop := ∃ v m l, e = .returned v ∧ m ≤ k ∧ LG 46 3 w1 w' p a len cap v m l
set_option maxRecDepth 100000 in
set_option maxHeartbeats 12800000 in
theorem drawTape_any {w : World} {p : Nat} {a : Option Addr} {len cap : Nat} (hc : Cur w p a len cap) (inp : Int) (hi0 : 0 ≤ inp) (hi1 : inp ≤ 1000) :
    Calls Try.prog 62 #[.pointer (some ⟨p, 0, none⟩), .int .i64 inp] w (DtP w p a len cap 13) := by
  obtain ⟨i0, hj0, hz0, hz1, hz2⟩ := info_parts infoSt
  obtain ⟨V, hV, A0, bb, -⟩ := boxed w 46 #[]
  have R : LG 46 3 w V p a len cap (.slice (some ⟨w.heap.size, 0, none⟩) 0 0) 0 [] := ⟨⟨rfl, .inr ⟨w.heap.size, 0, #[], rfl, Nat.le_refl _, A0, Nat.le_refl _, Nat.zero_le _, rfl, rfl⟩⟩, (fun h => by cases h), hc.kept bb, Kept.of_below bb, hc.lt, (fun _ h => by cases h)⟩
  have hbs : ∀ w, (Instr.buildSlice 27 0 #[]).run Try.prog w = .ok (.slice (some ⟨w.heap.size, 0, none⟩) 0 0) (w.alloc (.cells #[] 46)) := fun _ => by kernel_rfl
  clear hc bb A0
  go_enter Try.func62, Try.ntmps62
  go_wp2_with fail
  refine (below_dr R.st 14 (by omega) (by omega)).mono ?_
  rintro e w1 ⟨nn, rfl, nn0, nn1, hd⟩
  replace R := R.draw hd
  clear hd
  clear hV
  go_wp2
  go_loopw [5, 6] (fun s t wr => ∃ (m : Nat) (k : Int) (l : List Int), 0 ≤ k ∧ k ≤ 13 ∧ (m : Int) + k ≤ 13 ∧ t = .int .i64 k ∧ LG 46 3 w wr p a len cap s m l) (fun _ t _ => (intOf t).toNat)
  case atStart => exact ⟨0, nn, [], by omega, by omega, by omega, rfl, R⟩
  case round =>
    clear R
    obtain ⟨m, k, l, hk0, hk9, hmk, rfl, R⟩ := hrel
    obtain ⟨g7, c7, rfl⟩ := R.open
    by_cases hkp : 0 < k
    · have hkp2 := hkp
      go_wp2_with fail
      refine (from_dr R.st (1) 5 (by omega) (by omega) (by omega) (by omega)).mono ?_
      rintro e w2 ⟨kd, rfl, kd0, kd1, hd⟩
      replace R := R.draw hd
      clear hd
      have hq1 : w.heap.size ≤ w2.heap.size := R.kp.size
      have hp1 : p < w2.heap.size := R.cur.lt
      have hg7 : g7 < w2.heap.size := (own_lt R.own).2.1
      rcases (by omega : m = 0 ∨ 0 < m) with hm | hm
      · subst hm
        rcases (by omega : kd = 1 ∨ kd = 2 ∨ kd = 3 ∨ kd = 4 ∨ kd = 5) with rfl | rfl | rfl | rfl | rfl
        · skip
          by_cases hin : inp = 0
          · subst hin
            obtain ⟨V0, hV0, m1, bb1, -⟩ := boxed w2 46 #[.int .i64 0, .int .i64 0, .int .i64 0]
            obtain ⟨r1, hr1⟩ : ∃ r, w2.heap.size = r := ⟨_, rfl⟩
            rw [hr1] at m1 hq1 hp1 hg7
            replace R := R.below bb1
            have hne : g7 ≠ r1 := by omega
            have hv7 : (Value.slice (some ⟨g7, 0, none⟩) 0 c7).ownBlock ≠ some r1 := by simp [Value.ownBlock]; omega
            clear bb1
            replace R := ((R.setO (q := r1) hq1 hv7 0 (.int .i64 1)).setO (q := r1) hq1 hv7 1 (.int .i64 0)).setO (q := r1) hq1 hv7 2 (.int .i64 0)
            obtain ⟨e0, e1, e2, h0, h1, h2⟩ := m1.open3
            replace m1 := put3_atD m1 (.int .i64 1) (.int .i64 0) (.int .i64 0)
            obtain ⟨V1, hV1⟩ : ∃ W, ((V0.setCell ⟨r1, 0, none⟩ (.int .i64 1)).setCell ⟨r1, 1, none⟩ (.int .i64 0)).setCell ⟨r1, 2, none⟩ (.int .i64 0) = W := ⟨_, rfl⟩
            rw [hV1] at m1 R
            obtain ⟨c0, c1, c2, f0, f1, f2⟩ := m1.open3
            have R5 := R.setO (q := r1) hq1 hv7 0 (.int .i64 5)
            have a5 := m1.set 0 (.int .i64 5)
            obtain ⟨U1, hU1⟩ : ∃ W, V1.setCell ⟨r1, 0, none⟩ (.int .i64 5) = W := ⟨_, rfl⟩
            rw [hU1] at R5 a5
            simp only [List.setIfInBounds_toArray, List.set_cons_zero] at a5
            replace R := R5
            replace m1 := a5
            clear R5 a5
            obtain ⟨c0, c1, c2, f0, f1, f2⟩ := m1.open3
            go_wp2_with fail
            refine (from_dr R.st (-9) (9) (by omega) (by omega) (by omega) (by omega)).mono ?_
            rintro e w5 ⟨A, rfl, A0, A1, hd⟩
            replace m1 := m1.keptP hd.1 (by omega)
            replace R := R.draw hd
            clear hd c0 c1 c2 f0 f1 f2
            obtain ⟨c0, c1, c2, f0, f1, f2⟩ := m1.open3
            have R5 := R.setO (q := r1) hq1 hv7 1 (.int .i64 A)
            have a5 := m1.set 1 (.int .i64 A)
            obtain ⟨Uw5, hUw5⟩ : ∃ W, w5.setCell ⟨r1, 1, none⟩ (.int .i64 A) = W := ⟨_, rfl⟩
            rw [hUw5] at R5 a5
            simp only [List.setIfInBounds_toArray, List.set_cons_zero, List.set_cons_succ] at a5
            replace R := R5
            replace m1 := a5
            clear R5 a5
            obtain ⟨c0, c1, c2, f0, f1, f2⟩ := m1.open3
            obtain ⟨V9, hV9, A9, b10, -⟩ := boxed Uw5 46 #[.int .i64 5, .int .i64 A, .int .i64 0]
            have R9 := R.below b10
            have hkk : w.heap.size ≤ V9.heap.size := R9.kp.size
            obtain ⟨g9, hg9⟩ : ∃ g, Uw5.heap.size = g := ⟨_, rfl⟩
            rw [hg9] at A9
            have hb2 : ∀ w, (Instr.buildSlice 27 1 #[(0, .agg #[.int .i64 5, .int .i64 A, .int .i64 0])]).run Try.prog w = .ok (.slice (some ⟨w.heap.size, 0, none⟩) 1 1) (w.alloc (.cells #[.int .i64 5, .int .i64 A, .int .i64 0] 46)) := fun _ => by kernel_rfl
            clear b10 R
            go_wp2_with (at_builtin; refine wpList_append_own _ rfl _ _ _ rfl w.heap.size 46 i0 _ 3 24 Try.underlying27 hj0 hz0 hz1 hz2 rfl (by omega) (.slice (some ⟨g7, 0, none⟩) _ c7) _ (lCells l) rfl R9.own ⟨g9, 0, none⟩ 1 1 (lCells [5, A, 0]) rfl rfl (news3d A9) (lCells_one _) (by unfold maxLen; omega) (by omega) hkk ?_; intro v2 w16 hown2 hgrow2 hne2)
            have R3 := R9.grow hown2 hgrow2 (fun h => R9.nn (hne2.1 h).1) (by intro z hz; simp only [List.mem_cons, List.not_mem_nil, or_false] at hz; unfold is64; omega)
            exact ⟨⟨_, k - 1, _, by omega, by omega, by omega, rfl, R3⟩, by simp [intOf]; omega⟩
          · have hin' : (inp == 0) = false := by simpa using hin
            obtain ⟨V0, hV0, m1, bb1, -⟩ := boxed w2 46 #[.int .i64 0, .int .i64 0, .int .i64 0]
            obtain ⟨r1, hr1⟩ : ∃ r, w2.heap.size = r := ⟨_, rfl⟩
            rw [hr1] at m1 hq1 hp1 hg7
            replace R := R.below bb1
            have hne : g7 ≠ r1 := by omega
            have hv7 : (Value.slice (some ⟨g7, 0, none⟩) 0 c7).ownBlock ≠ some r1 := by simp [Value.ownBlock]; omega
            clear bb1
            replace R := ((R.setO (q := r1) hq1 hv7 0 (.int .i64 1)).setO (q := r1) hq1 hv7 1 (.int .i64 0)).setO (q := r1) hq1 hv7 2 (.int .i64 0)
            obtain ⟨e0, e1, e2, h0, h1, h2⟩ := m1.open3
            replace m1 := put3_atD m1 (.int .i64 1) (.int .i64 0) (.int .i64 0)
            obtain ⟨V1, hV1⟩ : ∃ W, ((V0.setCell ⟨r1, 0, none⟩ (.int .i64 1)).setCell ⟨r1, 1, none⟩ (.int .i64 0)).setCell ⟨r1, 2, none⟩ (.int .i64 0) = W := ⟨_, rfl⟩
            rw [hV1] at m1 R
            obtain ⟨c0, c1, c2, f0, f1, f2⟩ := m1.open3
            go_wp2_with fail
            refine (below_dr R.st inp (by omega) (by omega)).mono ?_
            rintro e w5 ⟨A, rfl, A0, A1, hd⟩
            replace m1 := m1.keptP hd.1 (by omega)
            replace R := R.draw hd
            clear hd c0 c1 c2 f0 f1 f2
            obtain ⟨c0, c1, c2, f0, f1, f2⟩ := m1.open3
            have R5 := R.setO (q := r1) hq1 hv7 1 (.int .i64 A)
            have a5 := m1.set 1 (.int .i64 A)
            obtain ⟨Uw5, hUw5⟩ : ∃ W, w5.setCell ⟨r1, 1, none⟩ (.int .i64 A) = W := ⟨_, rfl⟩
            rw [hUw5] at R5 a5
            simp only [List.setIfInBounds_toArray, List.set_cons_zero, List.set_cons_succ] at a5
            replace R := R5
            replace m1 := a5
            clear R5 a5
            obtain ⟨c0, c1, c2, f0, f1, f2⟩ := m1.open3
            obtain ⟨V9, hV9, A9, b10, -⟩ := boxed Uw5 46 #[.int .i64 1, .int .i64 A, .int .i64 0]
            have R9 := R.below b10
            have hkk : w.heap.size ≤ V9.heap.size := R9.kp.size
            obtain ⟨g9, hg9⟩ : ∃ g, Uw5.heap.size = g := ⟨_, rfl⟩
            rw [hg9] at A9
            have hb2 : ∀ w, (Instr.buildSlice 27 1 #[(0, .agg #[.int .i64 1, .int .i64 A, .int .i64 0])]).run Try.prog w = .ok (.slice (some ⟨w.heap.size, 0, none⟩) 1 1) (w.alloc (.cells #[.int .i64 1, .int .i64 A, .int .i64 0] 46)) := fun _ => by kernel_rfl
            clear b10 R
            go_wp2_with (at_builtin; refine wpList_append_own _ rfl _ _ _ rfl w.heap.size 46 i0 _ 3 24 Try.underlying27 hj0 hz0 hz1 hz2 rfl (by omega) (.slice (some ⟨g7, 0, none⟩) _ c7) _ (lCells l) rfl R9.own ⟨g9, 0, none⟩ 1 1 (lCells [1, A, 0]) rfl rfl (news3d A9) (lCells_one _) (by unfold maxLen; omega) (by omega) hkk ?_; intro v2 w16 hown2 hgrow2 hne2)
            have R3 := R9.grow hown2 hgrow2 (fun h => R9.nn (hne2.1 h).1) (by intro z hz; simp only [List.mem_cons, List.not_mem_nil, or_false] at hz; unfold is64; omega)
            exact ⟨⟨_, k - 1, _, by omega, by omega, by omega, rfl, R3⟩, by simp [intOf]; omega⟩
        · skip
          obtain ⟨V0, hV0, m1, bb1, -⟩ := boxed w2 46 #[.int .i64 0, .int .i64 0, .int .i64 0]
          obtain ⟨r1, hr1⟩ : ∃ r, w2.heap.size = r := ⟨_, rfl⟩
          rw [hr1] at m1 hq1 hp1 hg7
          replace R := R.below bb1
          have hne : g7 ≠ r1 := by omega
          have hv7 : (Value.slice (some ⟨g7, 0, none⟩) 0 c7).ownBlock ≠ some r1 := by simp [Value.ownBlock]; omega
          clear bb1
          replace R := ((R.setO (q := r1) hq1 hv7 0 (.int .i64 2)).setO (q := r1) hq1 hv7 1 (.int .i64 0)).setO (q := r1) hq1 hv7 2 (.int .i64 0)
          obtain ⟨e0, e1, e2, h0, h1, h2⟩ := m1.open3
          replace m1 := put3_atD m1 (.int .i64 2) (.int .i64 0) (.int .i64 0)
          obtain ⟨V1, hV1⟩ : ∃ W, ((V0.setCell ⟨r1, 0, none⟩ (.int .i64 2)).setCell ⟨r1, 1, none⟩ (.int .i64 0)).setCell ⟨r1, 2, none⟩ (.int .i64 0) = W := ⟨_, rfl⟩
          rw [hV1] at m1 R
          obtain ⟨c0, c1, c2, f0, f1, f2⟩ := m1.open3
          have R5 := R.setO (q := r1) hq1 hv7 0 (.int .i64 5)
          have a5 := m1.set 0 (.int .i64 5)
          obtain ⟨U1, hU1⟩ : ∃ W, V1.setCell ⟨r1, 0, none⟩ (.int .i64 5) = W := ⟨_, rfl⟩
          rw [hU1] at R5 a5
          simp only [List.setIfInBounds_toArray, List.set_cons_zero] at a5
          replace R := R5
          replace m1 := a5
          clear R5 a5
          obtain ⟨c0, c1, c2, f0, f1, f2⟩ := m1.open3
          go_wp2_with fail
          refine (from_dr R.st (-9) (9) (by omega) (by omega) (by omega) (by omega)).mono ?_
          rintro e w5 ⟨A, rfl, A0, A1, hd⟩
          replace m1 := m1.keptP hd.1 (by omega)
          replace R := R.draw hd
          clear hd c0 c1 c2 f0 f1 f2
          obtain ⟨c0, c1, c2, f0, f1, f2⟩ := m1.open3
          have R5 := R.setO (q := r1) hq1 hv7 1 (.int .i64 A)
          have a5 := m1.set 1 (.int .i64 A)
          obtain ⟨Uw5, hUw5⟩ : ∃ W, w5.setCell ⟨r1, 1, none⟩ (.int .i64 A) = W := ⟨_, rfl⟩
          rw [hUw5] at R5 a5
          simp only [List.setIfInBounds_toArray, List.set_cons_zero, List.set_cons_succ] at a5
          replace R := R5
          replace m1 := a5
          clear R5 a5
          obtain ⟨c0, c1, c2, f0, f1, f2⟩ := m1.open3
          obtain ⟨V9, hV9, A9, b10, -⟩ := boxed Uw5 46 #[.int .i64 5, .int .i64 A, .int .i64 0]
          have R9 := R.below b10
          have hkk : w.heap.size ≤ V9.heap.size := R9.kp.size
          obtain ⟨g9, hg9⟩ : ∃ g, Uw5.heap.size = g := ⟨_, rfl⟩
          rw [hg9] at A9
          have hb2 : ∀ w, (Instr.buildSlice 27 1 #[(0, .agg #[.int .i64 5, .int .i64 A, .int .i64 0])]).run Try.prog w = .ok (.slice (some ⟨w.heap.size, 0, none⟩) 1 1) (w.alloc (.cells #[.int .i64 5, .int .i64 A, .int .i64 0] 46)) := fun _ => by kernel_rfl
          clear b10 R
          go_wp2_with (at_builtin; refine wpList_append_own _ rfl _ _ _ rfl w.heap.size 46 i0 _ 3 24 Try.underlying27 hj0 hz0 hz1 hz2 rfl (by omega) (.slice (some ⟨g7, 0, none⟩) _ c7) _ (lCells l) rfl R9.own ⟨g9, 0, none⟩ 1 1 (lCells [5, A, 0]) rfl rfl (news3d A9) (lCells_one _) (by unfold maxLen; omega) (by omega) hkk ?_; intro v2 w16 hown2 hgrow2 hne2)
          have R3 := R9.grow hown2 hgrow2 (fun h => R9.nn (hne2.1 h).1) (by intro z hz; simp only [List.mem_cons, List.not_mem_nil, or_false] at hz; unfold is64; omega)
          exact ⟨⟨_, k - 1, _, by omega, by omega, by omega, rfl, R3⟩, by simp [intOf]; omega⟩
        · skip
          obtain ⟨V0, hV0, m1, bb1, -⟩ := boxed w2 46 #[.int .i64 0, .int .i64 0, .int .i64 0]
          obtain ⟨r1, hr1⟩ : ∃ r, w2.heap.size = r := ⟨_, rfl⟩
          rw [hr1] at m1 hq1 hp1 hg7
          replace R := R.below bb1
          have hne : g7 ≠ r1 := by omega
          have hv7 : (Value.slice (some ⟨g7, 0, none⟩) 0 c7).ownBlock ≠ some r1 := by simp [Value.ownBlock]; omega
          clear bb1
          replace R := ((R.setO (q := r1) hq1 hv7 0 (.int .i64 3)).setO (q := r1) hq1 hv7 1 (.int .i64 0)).setO (q := r1) hq1 hv7 2 (.int .i64 0)
          obtain ⟨e0, e1, e2, h0, h1, h2⟩ := m1.open3
          replace m1 := put3_atD m1 (.int .i64 3) (.int .i64 0) (.int .i64 0)
          obtain ⟨V1, hV1⟩ : ∃ W, ((V0.setCell ⟨r1, 0, none⟩ (.int .i64 3)).setCell ⟨r1, 1, none⟩ (.int .i64 0)).setCell ⟨r1, 2, none⟩ (.int .i64 0) = W := ⟨_, rfl⟩
          rw [hV1] at m1 R
          obtain ⟨c0, c1, c2, f0, f1, f2⟩ := m1.open3
          have R5 := R.setO (q := r1) hq1 hv7 0 (.int .i64 5)
          have a5 := m1.set 0 (.int .i64 5)
          obtain ⟨U1, hU1⟩ : ∃ W, V1.setCell ⟨r1, 0, none⟩ (.int .i64 5) = W := ⟨_, rfl⟩
          rw [hU1] at R5 a5
          simp only [List.setIfInBounds_toArray, List.set_cons_zero] at a5
          replace R := R5
          replace m1 := a5
          clear R5 a5
          obtain ⟨c0, c1, c2, f0, f1, f2⟩ := m1.open3
          go_wp2_with fail
          refine (from_dr R.st (-9) (9) (by omega) (by omega) (by omega) (by omega)).mono ?_
          rintro e w5 ⟨A, rfl, A0, A1, hd⟩
          replace m1 := m1.keptP hd.1 (by omega)
          replace R := R.draw hd
          clear hd c0 c1 c2 f0 f1 f2
          obtain ⟨c0, c1, c2, f0, f1, f2⟩ := m1.open3
          have R5 := R.setO (q := r1) hq1 hv7 1 (.int .i64 A)
          have a5 := m1.set 1 (.int .i64 A)
          obtain ⟨Uw5, hUw5⟩ : ∃ W, w5.setCell ⟨r1, 1, none⟩ (.int .i64 A) = W := ⟨_, rfl⟩
          rw [hUw5] at R5 a5
          simp only [List.setIfInBounds_toArray, List.set_cons_zero, List.set_cons_succ] at a5
          replace R := R5
          replace m1 := a5
          clear R5 a5
          obtain ⟨c0, c1, c2, f0, f1, f2⟩ := m1.open3
          obtain ⟨V9, hV9, A9, b10, -⟩ := boxed Uw5 46 #[.int .i64 5, .int .i64 A, .int .i64 0]
          have R9 := R.below b10
          have hkk : w.heap.size ≤ V9.heap.size := R9.kp.size
          obtain ⟨g9, hg9⟩ : ∃ g, Uw5.heap.size = g := ⟨_, rfl⟩
          rw [hg9] at A9
          have hb2 : ∀ w, (Instr.buildSlice 27 1 #[(0, .agg #[.int .i64 5, .int .i64 A, .int .i64 0])]).run Try.prog w = .ok (.slice (some ⟨w.heap.size, 0, none⟩) 1 1) (w.alloc (.cells #[.int .i64 5, .int .i64 A, .int .i64 0] 46)) := fun _ => by kernel_rfl
          clear b10 R
          go_wp2_with (at_builtin; refine wpList_append_own _ rfl _ _ _ rfl w.heap.size 46 i0 _ 3 24 Try.underlying27 hj0 hz0 hz1 hz2 rfl (by omega) (.slice (some ⟨g7, 0, none⟩) _ c7) _ (lCells l) rfl R9.own ⟨g9, 0, none⟩ 1 1 (lCells [5, A, 0]) rfl rfl (news3d A9) (lCells_one _) (by unfold maxLen; omega) (by omega) hkk ?_; intro v2 w16 hown2 hgrow2 hne2)
          have R3 := R9.grow hown2 hgrow2 (fun h => R9.nn (hne2.1 h).1) (by intro z hz; simp only [List.mem_cons, List.not_mem_nil, or_false] at hz; unfold is64; omega)
          exact ⟨⟨_, k - 1, _, by omega, by omega, by omega, rfl, R3⟩, by simp [intOf]; omega⟩
        · skip
          obtain ⟨V0, hV0, m1, bb1, -⟩ := boxed w2 46 #[.int .i64 0, .int .i64 0, .int .i64 0]
          obtain ⟨r1, hr1⟩ : ∃ r, w2.heap.size = r := ⟨_, rfl⟩
          rw [hr1] at m1 hq1 hp1 hg7
          replace R := R.below bb1
          have hne : g7 ≠ r1 := by omega
          have hv7 : (Value.slice (some ⟨g7, 0, none⟩) 0 c7).ownBlock ≠ some r1 := by simp [Value.ownBlock]; omega
          clear bb1
          replace R := ((R.setO (q := r1) hq1 hv7 0 (.int .i64 4)).setO (q := r1) hq1 hv7 1 (.int .i64 0)).setO (q := r1) hq1 hv7 2 (.int .i64 0)
          obtain ⟨e0, e1, e2, h0, h1, h2⟩ := m1.open3
          replace m1 := put3_atD m1 (.int .i64 4) (.int .i64 0) (.int .i64 0)
          obtain ⟨V1, hV1⟩ : ∃ W, ((V0.setCell ⟨r1, 0, none⟩ (.int .i64 4)).setCell ⟨r1, 1, none⟩ (.int .i64 0)).setCell ⟨r1, 2, none⟩ (.int .i64 0) = W := ⟨_, rfl⟩
          rw [hV1] at m1 R
          obtain ⟨c0, c1, c2, f0, f1, f2⟩ := m1.open3
          have R5 := R.setO (q := r1) hq1 hv7 0 (.int .i64 5)
          have a5 := m1.set 0 (.int .i64 5)
          obtain ⟨U1, hU1⟩ : ∃ W, V1.setCell ⟨r1, 0, none⟩ (.int .i64 5) = W := ⟨_, rfl⟩
          rw [hU1] at R5 a5
          simp only [List.setIfInBounds_toArray, List.set_cons_zero] at a5
          replace R := R5
          replace m1 := a5
          clear R5 a5
          obtain ⟨c0, c1, c2, f0, f1, f2⟩ := m1.open3
          go_wp2_with fail
          refine (from_dr R.st (-9) (9) (by omega) (by omega) (by omega) (by omega)).mono ?_
          rintro e w5 ⟨A, rfl, A0, A1, hd⟩
          replace m1 := m1.keptP hd.1 (by omega)
          replace R := R.draw hd
          clear hd c0 c1 c2 f0 f1 f2
          obtain ⟨c0, c1, c2, f0, f1, f2⟩ := m1.open3
          have R5 := R.setO (q := r1) hq1 hv7 1 (.int .i64 A)
          have a5 := m1.set 1 (.int .i64 A)
          obtain ⟨Uw5, hUw5⟩ : ∃ W, w5.setCell ⟨r1, 1, none⟩ (.int .i64 A) = W := ⟨_, rfl⟩
          rw [hUw5] at R5 a5
          simp only [List.setIfInBounds_toArray, List.set_cons_zero, List.set_cons_succ] at a5
          replace R := R5
          replace m1 := a5
          clear R5 a5
          obtain ⟨c0, c1, c2, f0, f1, f2⟩ := m1.open3
          obtain ⟨V9, hV9, A9, b10, -⟩ := boxed Uw5 46 #[.int .i64 5, .int .i64 A, .int .i64 0]
          have R9 := R.below b10
          have hkk : w.heap.size ≤ V9.heap.size := R9.kp.size
          obtain ⟨g9, hg9⟩ : ∃ g, Uw5.heap.size = g := ⟨_, rfl⟩
          rw [hg9] at A9
          have hb2 : ∀ w, (Instr.buildSlice 27 1 #[(0, .agg #[.int .i64 5, .int .i64 A, .int .i64 0])]).run Try.prog w = .ok (.slice (some ⟨w.heap.size, 0, none⟩) 1 1) (w.alloc (.cells #[.int .i64 5, .int .i64 A, .int .i64 0] 46)) := fun _ => by kernel_rfl
          clear b10 R
          go_wp2_with (at_builtin; refine wpList_append_own _ rfl _ _ _ rfl w.heap.size 46 i0 _ 3 24 Try.underlying27 hj0 hz0 hz1 hz2 rfl (by omega) (.slice (some ⟨g7, 0, none⟩) _ c7) _ (lCells l) rfl R9.own ⟨g9, 0, none⟩ 1 1 (lCells [5, A, 0]) rfl rfl (news3d A9) (lCells_one _) (by unfold maxLen; omega) (by omega) hkk ?_; intro v2 w16 hown2 hgrow2 hne2)
          have R3 := R9.grow hown2 hgrow2 (fun h => R9.nn (hne2.1 h).1) (by intro z hz; simp only [List.mem_cons, List.not_mem_nil, or_false] at hz; unfold is64; omega)
          exact ⟨⟨_, k - 1, _, by omega, by omega, by omega, rfl, R3⟩, by simp [intOf]; omega⟩
        · skip
          obtain ⟨V0, hV0, m1, bb1, -⟩ := boxed w2 46 #[.int .i64 0, .int .i64 0, .int .i64 0]
          obtain ⟨r1, hr1⟩ : ∃ r, w2.heap.size = r := ⟨_, rfl⟩
          rw [hr1] at m1 hq1 hp1 hg7
          replace R := R.below bb1
          have hne : g7 ≠ r1 := by omega
          have hv7 : (Value.slice (some ⟨g7, 0, none⟩) 0 c7).ownBlock ≠ some r1 := by simp [Value.ownBlock]; omega
          clear bb1
          replace R := ((R.setO (q := r1) hq1 hv7 0 (.int .i64 5)).setO (q := r1) hq1 hv7 1 (.int .i64 0)).setO (q := r1) hq1 hv7 2 (.int .i64 0)
          obtain ⟨e0, e1, e2, h0, h1, h2⟩ := m1.open3
          replace m1 := put3_atD m1 (.int .i64 5) (.int .i64 0) (.int .i64 0)
          obtain ⟨V1, hV1⟩ : ∃ W, ((V0.setCell ⟨r1, 0, none⟩ (.int .i64 5)).setCell ⟨r1, 1, none⟩ (.int .i64 0)).setCell ⟨r1, 2, none⟩ (.int .i64 0) = W := ⟨_, rfl⟩
          rw [hV1] at m1 R
          obtain ⟨c0, c1, c2, f0, f1, f2⟩ := m1.open3
          go_wp2_with fail
          refine (from_dr R.st (-9) (9) (by omega) (by omega) (by omega) (by omega)).mono ?_
          rintro e w5 ⟨A, rfl, A0, A1, hd⟩
          replace m1 := m1.keptP hd.1 (by omega)
          replace R := R.draw hd
          clear hd c0 c1 c2 f0 f1 f2
          obtain ⟨c0, c1, c2, f0, f1, f2⟩ := m1.open3
          have R5 := R.setO (q := r1) hq1 hv7 1 (.int .i64 A)
          have a5 := m1.set 1 (.int .i64 A)
          obtain ⟨Uw5, hUw5⟩ : ∃ W, w5.setCell ⟨r1, 1, none⟩ (.int .i64 A) = W := ⟨_, rfl⟩
          rw [hUw5] at R5 a5
          simp only [List.setIfInBounds_toArray, List.set_cons_zero, List.set_cons_succ] at a5
          replace R := R5
          replace m1 := a5
          clear R5 a5
          obtain ⟨c0, c1, c2, f0, f1, f2⟩ := m1.open3
          obtain ⟨V9, hV9, A9, b10, -⟩ := boxed Uw5 46 #[.int .i64 5, .int .i64 A, .int .i64 0]
          have R9 := R.below b10
          have hkk : w.heap.size ≤ V9.heap.size := R9.kp.size
          obtain ⟨g9, hg9⟩ : ∃ g, Uw5.heap.size = g := ⟨_, rfl⟩
          rw [hg9] at A9
          have hb2 : ∀ w, (Instr.buildSlice 27 1 #[(0, .agg #[.int .i64 5, .int .i64 A, .int .i64 0])]).run Try.prog w = .ok (.slice (some ⟨w.heap.size, 0, none⟩) 1 1) (w.alloc (.cells #[.int .i64 5, .int .i64 A, .int .i64 0] 46)) := fun _ => by kernel_rfl
          clear b10 R
          go_wp2_with (at_builtin; refine wpList_append_own _ rfl _ _ _ rfl w.heap.size 46 i0 _ 3 24 Try.underlying27 hj0 hz0 hz1 hz2 rfl (by omega) (.slice (some ⟨g7, 0, none⟩) _ c7) _ (lCells l) rfl R9.own ⟨g9, 0, none⟩ 1 1 (lCells [5, A, 0]) rfl rfl (news3d A9) (lCells_one _) (by unfold maxLen; omega) (by omega) hkk ?_; intro v2 w16 hown2 hgrow2 hne2)
          have R3 := R9.grow hown2 hgrow2 (fun h => R9.nn (hne2.1 h).1) (by intro z hz; simp only [List.mem_cons, List.not_mem_nil, or_false] at hz; unfold is64; omega)
          exact ⟨⟨_, k - 1, _, by omega, by omega, by omega, rfl, R3⟩, by simp [intOf]; omega⟩
      · have hm0' : ((m : Int) == 0) = false := by simp; omega
        rcases (by omega : kd = 1 ∨ kd = 2 ∨ kd = 3 ∨ kd = 4 ∨ kd = 5) with rfl | rfl | rfl | rfl | rfl
        · skip
          by_cases hin : inp = 0
          · subst hin
            obtain ⟨V0, hV0, m1, bb1, -⟩ := boxed w2 46 #[.int .i64 0, .int .i64 0, .int .i64 0]
            obtain ⟨r1, hr1⟩ : ∃ r, w2.heap.size = r := ⟨_, rfl⟩
            rw [hr1] at m1 hq1 hp1 hg7
            replace R := R.below bb1
            have hne : g7 ≠ r1 := by omega
            have hv7 : (Value.slice (some ⟨g7, 0, none⟩) m c7).ownBlock ≠ some r1 := by simp [Value.ownBlock]; omega
            clear bb1
            replace R := ((R.setO (q := r1) hq1 hv7 0 (.int .i64 1)).setO (q := r1) hq1 hv7 1 (.int .i64 0)).setO (q := r1) hq1 hv7 2 (.int .i64 0)
            obtain ⟨e0, e1, e2, h0, h1, h2⟩ := m1.open3
            replace m1 := put3_atD m1 (.int .i64 1) (.int .i64 0) (.int .i64 0)
            obtain ⟨V1, hV1⟩ : ∃ W, ((V0.setCell ⟨r1, 0, none⟩ (.int .i64 1)).setCell ⟨r1, 1, none⟩ (.int .i64 0)).setCell ⟨r1, 2, none⟩ (.int .i64 0) = W := ⟨_, rfl⟩
            rw [hV1] at m1 R
            obtain ⟨c0, c1, c2, f0, f1, f2⟩ := m1.open3
            have R5 := R.setO (q := r1) hq1 hv7 0 (.int .i64 5)
            have a5 := m1.set 0 (.int .i64 5)
            obtain ⟨U1, hU1⟩ : ∃ W, V1.setCell ⟨r1, 0, none⟩ (.int .i64 5) = W := ⟨_, rfl⟩
            rw [hU1] at R5 a5
            simp only [List.setIfInBounds_toArray, List.set_cons_zero] at a5
            replace R := R5
            replace m1 := a5
            clear R5 a5
            obtain ⟨c0, c1, c2, f0, f1, f2⟩ := m1.open3
            go_wp2_with fail
            refine (from_dr R.st (-9) (9) (by omega) (by omega) (by omega) (by omega)).mono ?_
            rintro e w5 ⟨A, rfl, A0, A1, hd⟩
            replace m1 := m1.keptP hd.1 (by omega)
            replace R := R.draw hd
            clear hd c0 c1 c2 f0 f1 f2
            obtain ⟨c0, c1, c2, f0, f1, f2⟩ := m1.open3
            have R5 := R.setO (q := r1) hq1 hv7 1 (.int .i64 A)
            have a5 := m1.set 1 (.int .i64 A)
            obtain ⟨Uw5, hUw5⟩ : ∃ W, w5.setCell ⟨r1, 1, none⟩ (.int .i64 A) = W := ⟨_, rfl⟩
            rw [hUw5] at R5 a5
            simp only [List.setIfInBounds_toArray, List.set_cons_zero, List.set_cons_succ] at a5
            replace R := R5
            replace m1 := a5
            clear R5 a5
            obtain ⟨c0, c1, c2, f0, f1, f2⟩ := m1.open3
            obtain ⟨V9, hV9, A9, b10, -⟩ := boxed Uw5 46 #[.int .i64 5, .int .i64 A, .int .i64 0]
            have R9 := R.below b10
            have hkk : w.heap.size ≤ V9.heap.size := R9.kp.size
            obtain ⟨g9, hg9⟩ : ∃ g, Uw5.heap.size = g := ⟨_, rfl⟩
            rw [hg9] at A9
            have hb2 : ∀ w, (Instr.buildSlice 27 1 #[(0, .agg #[.int .i64 5, .int .i64 A, .int .i64 0])]).run Try.prog w = .ok (.slice (some ⟨w.heap.size, 0, none⟩) 1 1) (w.alloc (.cells #[.int .i64 5, .int .i64 A, .int .i64 0] 46)) := fun _ => by kernel_rfl
            clear b10 R
            go_wp2_with (at_builtin; refine wpList_append_own _ rfl _ _ _ rfl w.heap.size 46 i0 _ 3 24 Try.underlying27 hj0 hz0 hz1 hz2 rfl (by omega) (.slice (some ⟨g7, 0, none⟩) _ c7) _ (lCells l) rfl R9.own ⟨g9, 0, none⟩ 1 1 (lCells [5, A, 0]) rfl rfl (news3d A9) (lCells_one _) (by unfold maxLen; omega) (by omega) hkk ?_; intro v2 w16 hown2 hgrow2 hne2)
            have R3 := R9.grow hown2 hgrow2 (fun h => R9.nn (hne2.1 h).1) (by intro z hz; simp only [List.mem_cons, List.not_mem_nil, or_false] at hz; unfold is64; omega)
            exact ⟨⟨_, k - 1, _, by omega, by omega, by omega, rfl, R3⟩, by simp [intOf]; omega⟩
          · have hin' : (inp == 0) = false := by simpa using hin
            obtain ⟨V0, hV0, m1, bb1, -⟩ := boxed w2 46 #[.int .i64 0, .int .i64 0, .int .i64 0]
            obtain ⟨r1, hr1⟩ : ∃ r, w2.heap.size = r := ⟨_, rfl⟩
            rw [hr1] at m1 hq1 hp1 hg7
            replace R := R.below bb1
            have hne : g7 ≠ r1 := by omega
            have hv7 : (Value.slice (some ⟨g7, 0, none⟩) m c7).ownBlock ≠ some r1 := by simp [Value.ownBlock]; omega
            clear bb1
            replace R := ((R.setO (q := r1) hq1 hv7 0 (.int .i64 1)).setO (q := r1) hq1 hv7 1 (.int .i64 0)).setO (q := r1) hq1 hv7 2 (.int .i64 0)
            obtain ⟨e0, e1, e2, h0, h1, h2⟩ := m1.open3
            replace m1 := put3_atD m1 (.int .i64 1) (.int .i64 0) (.int .i64 0)
            obtain ⟨V1, hV1⟩ : ∃ W, ((V0.setCell ⟨r1, 0, none⟩ (.int .i64 1)).setCell ⟨r1, 1, none⟩ (.int .i64 0)).setCell ⟨r1, 2, none⟩ (.int .i64 0) = W := ⟨_, rfl⟩
            rw [hV1] at m1 R
            obtain ⟨c0, c1, c2, f0, f1, f2⟩ := m1.open3
            go_wp2_with fail
            refine (below_dr R.st inp (by omega) (by omega)).mono ?_
            rintro e w5 ⟨A, rfl, A0, A1, hd⟩
            replace m1 := m1.keptP hd.1 (by omega)
            replace R := R.draw hd
            clear hd c0 c1 c2 f0 f1 f2
            obtain ⟨c0, c1, c2, f0, f1, f2⟩ := m1.open3
            have R5 := R.setO (q := r1) hq1 hv7 1 (.int .i64 A)
            have a5 := m1.set 1 (.int .i64 A)
            obtain ⟨Uw5, hUw5⟩ : ∃ W, w5.setCell ⟨r1, 1, none⟩ (.int .i64 A) = W := ⟨_, rfl⟩
            rw [hUw5] at R5 a5
            simp only [List.setIfInBounds_toArray, List.set_cons_zero, List.set_cons_succ] at a5
            replace R := R5
            replace m1 := a5
            clear R5 a5
            obtain ⟨c0, c1, c2, f0, f1, f2⟩ := m1.open3
            obtain ⟨V9, hV9, A9, b10, -⟩ := boxed Uw5 46 #[.int .i64 1, .int .i64 A, .int .i64 0]
            have R9 := R.below b10
            have hkk : w.heap.size ≤ V9.heap.size := R9.kp.size
            obtain ⟨g9, hg9⟩ : ∃ g, Uw5.heap.size = g := ⟨_, rfl⟩
            rw [hg9] at A9
            have hb2 : ∀ w, (Instr.buildSlice 27 1 #[(0, .agg #[.int .i64 1, .int .i64 A, .int .i64 0])]).run Try.prog w = .ok (.slice (some ⟨w.heap.size, 0, none⟩) 1 1) (w.alloc (.cells #[.int .i64 1, .int .i64 A, .int .i64 0] 46)) := fun _ => by kernel_rfl
            clear b10 R
            go_wp2_with (at_builtin; refine wpList_append_own _ rfl _ _ _ rfl w.heap.size 46 i0 _ 3 24 Try.underlying27 hj0 hz0 hz1 hz2 rfl (by omega) (.slice (some ⟨g7, 0, none⟩) _ c7) _ (lCells l) rfl R9.own ⟨g9, 0, none⟩ 1 1 (lCells [1, A, 0]) rfl rfl (news3d A9) (lCells_one _) (by unfold maxLen; omega) (by omega) hkk ?_; intro v2 w16 hown2 hgrow2 hne2)
            have R3 := R9.grow hown2 hgrow2 (fun h => R9.nn (hne2.1 h).1) (by intro z hz; simp only [List.mem_cons, List.not_mem_nil, or_false] at hz; unfold is64; omega)
            exact ⟨⟨_, k - 1, _, by omega, by omega, by omega, rfl, R3⟩, by simp [intOf]; omega⟩
        · skip
          obtain ⟨V0, hV0, m1, bb1, -⟩ := boxed w2 46 #[.int .i64 0, .int .i64 0, .int .i64 0]
          obtain ⟨r1, hr1⟩ : ∃ r, w2.heap.size = r := ⟨_, rfl⟩
          rw [hr1] at m1 hq1 hp1 hg7
          replace R := R.below bb1
          have hne : g7 ≠ r1 := by omega
          have hv7 : (Value.slice (some ⟨g7, 0, none⟩) m c7).ownBlock ≠ some r1 := by simp [Value.ownBlock]; omega
          clear bb1
          replace R := ((R.setO (q := r1) hq1 hv7 0 (.int .i64 2)).setO (q := r1) hq1 hv7 1 (.int .i64 0)).setO (q := r1) hq1 hv7 2 (.int .i64 0)
          obtain ⟨e0, e1, e2, h0, h1, h2⟩ := m1.open3
          replace m1 := put3_atD m1 (.int .i64 2) (.int .i64 0) (.int .i64 0)
          obtain ⟨V1, hV1⟩ : ∃ W, ((V0.setCell ⟨r1, 0, none⟩ (.int .i64 2)).setCell ⟨r1, 1, none⟩ (.int .i64 0)).setCell ⟨r1, 2, none⟩ (.int .i64 0) = W := ⟨_, rfl⟩
          rw [hV1] at m1 R
          obtain ⟨c0, c1, c2, f0, f1, f2⟩ := m1.open3
          go_wp2_with fail
          refine (below_dr R.st (m : Int) (by omega) (by omega)).mono ?_
          rintro e w5 ⟨A, rfl, A0, A1, hd⟩
          replace m1 := m1.keptP hd.1 (by omega)
          replace R := R.draw hd
          clear hd c0 c1 c2 f0 f1 f2
          obtain ⟨c0, c1, c2, f0, f1, f2⟩ := m1.open3
          have R5 := R.setO (q := r1) hq1 hv7 1 (.int .i64 A)
          have a5 := m1.set 1 (.int .i64 A)
          obtain ⟨Uw5, hUw5⟩ : ∃ W, w5.setCell ⟨r1, 1, none⟩ (.int .i64 A) = W := ⟨_, rfl⟩
          rw [hUw5] at R5 a5
          simp only [List.setIfInBounds_toArray, List.set_cons_zero, List.set_cons_succ] at a5
          replace R := R5
          replace m1 := a5
          clear R5 a5
          obtain ⟨c0, c1, c2, f0, f1, f2⟩ := m1.open3
          go_wp2_with fail
          refine (below_dr R.st (m : Int) (by omega) (by omega)).mono ?_
          rintro e w6 ⟨B, rfl, B0, B1, hd⟩
          replace m1 := m1.keptP hd.1 (by omega)
          replace R := R.draw hd
          clear hd c0 c1 c2 f0 f1 f2
          obtain ⟨c0, c1, c2, f0, f1, f2⟩ := m1.open3
          have R5 := R.setO (q := r1) hq1 hv7 2 (.int .i64 B)
          have a5 := m1.set 2 (.int .i64 B)
          obtain ⟨Uw6, hUw6⟩ : ∃ W, w6.setCell ⟨r1, 2, none⟩ (.int .i64 B) = W := ⟨_, rfl⟩
          rw [hUw6] at R5 a5
          simp only [List.setIfInBounds_toArray, List.set_cons_zero, List.set_cons_succ] at a5
          replace R := R5
          replace m1 := a5
          clear R5 a5
          obtain ⟨c0, c1, c2, f0, f1, f2⟩ := m1.open3
          obtain ⟨V9, hV9, A9, b10, -⟩ := boxed Uw6 46 #[.int .i64 2, .int .i64 A, .int .i64 B]
          have R9 := R.below b10
          have hkk : w.heap.size ≤ V9.heap.size := R9.kp.size
          obtain ⟨g9, hg9⟩ : ∃ g, Uw6.heap.size = g := ⟨_, rfl⟩
          rw [hg9] at A9
          have hb2 : ∀ w, (Instr.buildSlice 27 1 #[(0, .agg #[.int .i64 2, .int .i64 A, .int .i64 B])]).run Try.prog w = .ok (.slice (some ⟨w.heap.size, 0, none⟩) 1 1) (w.alloc (.cells #[.int .i64 2, .int .i64 A, .int .i64 B] 46)) := fun _ => by kernel_rfl
          clear b10 R
          go_wp2_with (at_builtin; refine wpList_append_own _ rfl _ _ _ rfl w.heap.size 46 i0 _ 3 24 Try.underlying27 hj0 hz0 hz1 hz2 rfl (by omega) (.slice (some ⟨g7, 0, none⟩) _ c7) _ (lCells l) rfl R9.own ⟨g9, 0, none⟩ 1 1 (lCells [2, A, B]) rfl rfl (news3d A9) (lCells_one _) (by unfold maxLen; omega) (by omega) hkk ?_; intro v2 w16 hown2 hgrow2 hne2)
          have R3 := R9.grow hown2 hgrow2 (fun h => R9.nn (hne2.1 h).1) (by intro z hz; simp only [List.mem_cons, List.not_mem_nil, or_false] at hz; unfold is64; omega)
          exact ⟨⟨_, k - 1, _, by omega, by omega, by omega, rfl, R3⟩, by simp [intOf]; omega⟩
        · skip
          obtain ⟨V0, hV0, m1, bb1, -⟩ := boxed w2 46 #[.int .i64 0, .int .i64 0, .int .i64 0]
          obtain ⟨r1, hr1⟩ : ∃ r, w2.heap.size = r := ⟨_, rfl⟩
          rw [hr1] at m1 hq1 hp1 hg7
          replace R := R.below bb1
          have hne : g7 ≠ r1 := by omega
          have hv7 : (Value.slice (some ⟨g7, 0, none⟩) m c7).ownBlock ≠ some r1 := by simp [Value.ownBlock]; omega
          clear bb1
          replace R := ((R.setO (q := r1) hq1 hv7 0 (.int .i64 3)).setO (q := r1) hq1 hv7 1 (.int .i64 0)).setO (q := r1) hq1 hv7 2 (.int .i64 0)
          obtain ⟨e0, e1, e2, h0, h1, h2⟩ := m1.open3
          replace m1 := put3_atD m1 (.int .i64 3) (.int .i64 0) (.int .i64 0)
          obtain ⟨V1, hV1⟩ : ∃ W, ((V0.setCell ⟨r1, 0, none⟩ (.int .i64 3)).setCell ⟨r1, 1, none⟩ (.int .i64 0)).setCell ⟨r1, 2, none⟩ (.int .i64 0) = W := ⟨_, rfl⟩
          rw [hV1] at m1 R
          obtain ⟨c0, c1, c2, f0, f1, f2⟩ := m1.open3
          go_wp2_with fail
          refine (below_dr R.st (m : Int) (by omega) (by omega)).mono ?_
          rintro e w5 ⟨A, rfl, A0, A1, hd⟩
          replace m1 := m1.keptP hd.1 (by omega)
          replace R := R.draw hd
          clear hd c0 c1 c2 f0 f1 f2
          obtain ⟨c0, c1, c2, f0, f1, f2⟩ := m1.open3
          have R5 := R.setO (q := r1) hq1 hv7 1 (.int .i64 A)
          have a5 := m1.set 1 (.int .i64 A)
          obtain ⟨Uw5, hUw5⟩ : ∃ W, w5.setCell ⟨r1, 1, none⟩ (.int .i64 A) = W := ⟨_, rfl⟩
          rw [hUw5] at R5 a5
          simp only [List.setIfInBounds_toArray, List.set_cons_zero, List.set_cons_succ] at a5
          replace R := R5
          replace m1 := a5
          clear R5 a5
          obtain ⟨c0, c1, c2, f0, f1, f2⟩ := m1.open3
          go_wp2_with fail
          refine (below_dr R.st (m : Int) (by omega) (by omega)).mono ?_
          rintro e w6 ⟨B, rfl, B0, B1, hd⟩
          replace m1 := m1.keptP hd.1 (by omega)
          replace R := R.draw hd
          clear hd c0 c1 c2 f0 f1 f2
          obtain ⟨c0, c1, c2, f0, f1, f2⟩ := m1.open3
          have R5 := R.setO (q := r1) hq1 hv7 2 (.int .i64 B)
          have a5 := m1.set 2 (.int .i64 B)
          obtain ⟨Uw6, hUw6⟩ : ∃ W, w6.setCell ⟨r1, 2, none⟩ (.int .i64 B) = W := ⟨_, rfl⟩
          rw [hUw6] at R5 a5
          simp only [List.setIfInBounds_toArray, List.set_cons_zero, List.set_cons_succ] at a5
          replace R := R5
          replace m1 := a5
          clear R5 a5
          obtain ⟨c0, c1, c2, f0, f1, f2⟩ := m1.open3
          obtain ⟨V9, hV9, A9, b10, -⟩ := boxed Uw6 46 #[.int .i64 3, .int .i64 A, .int .i64 B]
          have R9 := R.below b10
          have hkk : w.heap.size ≤ V9.heap.size := R9.kp.size
          obtain ⟨g9, hg9⟩ : ∃ g, Uw6.heap.size = g := ⟨_, rfl⟩
          rw [hg9] at A9
          have hb2 : ∀ w, (Instr.buildSlice 27 1 #[(0, .agg #[.int .i64 3, .int .i64 A, .int .i64 B])]).run Try.prog w = .ok (.slice (some ⟨w.heap.size, 0, none⟩) 1 1) (w.alloc (.cells #[.int .i64 3, .int .i64 A, .int .i64 B] 46)) := fun _ => by kernel_rfl
          clear b10 R
          go_wp2_with (at_builtin; refine wpList_append_own _ rfl _ _ _ rfl w.heap.size 46 i0 _ 3 24 Try.underlying27 hj0 hz0 hz1 hz2 rfl (by omega) (.slice (some ⟨g7, 0, none⟩) _ c7) _ (lCells l) rfl R9.own ⟨g9, 0, none⟩ 1 1 (lCells [3, A, B]) rfl rfl (news3d A9) (lCells_one _) (by unfold maxLen; omega) (by omega) hkk ?_; intro v2 w16 hown2 hgrow2 hne2)
          have R3 := R9.grow hown2 hgrow2 (fun h => R9.nn (hne2.1 h).1) (by intro z hz; simp only [List.mem_cons, List.not_mem_nil, or_false] at hz; unfold is64; omega)
          exact ⟨⟨_, k - 1, _, by omega, by omega, by omega, rfl, R3⟩, by simp [intOf]; omega⟩
        · skip
          obtain ⟨V0, hV0, m1, bb1, -⟩ := boxed w2 46 #[.int .i64 0, .int .i64 0, .int .i64 0]
          obtain ⟨r1, hr1⟩ : ∃ r, w2.heap.size = r := ⟨_, rfl⟩
          rw [hr1] at m1 hq1 hp1 hg7
          replace R := R.below bb1
          have hne : g7 ≠ r1 := by omega
          have hv7 : (Value.slice (some ⟨g7, 0, none⟩) m c7).ownBlock ≠ some r1 := by simp [Value.ownBlock]; omega
          clear bb1
          replace R := ((R.setO (q := r1) hq1 hv7 0 (.int .i64 4)).setO (q := r1) hq1 hv7 1 (.int .i64 0)).setO (q := r1) hq1 hv7 2 (.int .i64 0)
          obtain ⟨e0, e1, e2, h0, h1, h2⟩ := m1.open3
          replace m1 := put3_atD m1 (.int .i64 4) (.int .i64 0) (.int .i64 0)
          obtain ⟨V1, hV1⟩ : ∃ W, ((V0.setCell ⟨r1, 0, none⟩ (.int .i64 4)).setCell ⟨r1, 1, none⟩ (.int .i64 0)).setCell ⟨r1, 2, none⟩ (.int .i64 0) = W := ⟨_, rfl⟩
          rw [hV1] at m1 R
          obtain ⟨c0, c1, c2, f0, f1, f2⟩ := m1.open3
          go_wp2_with fail
          refine (below_dr R.st (m : Int) (by omega) (by omega)).mono ?_
          rintro e w5 ⟨A, rfl, A0, A1, hd⟩
          replace m1 := m1.keptP hd.1 (by omega)
          replace R := R.draw hd
          clear hd c0 c1 c2 f0 f1 f2
          obtain ⟨c0, c1, c2, f0, f1, f2⟩ := m1.open3
          have R5 := R.setO (q := r1) hq1 hv7 1 (.int .i64 A)
          have a5 := m1.set 1 (.int .i64 A)
          obtain ⟨Uw5, hUw5⟩ : ∃ W, w5.setCell ⟨r1, 1, none⟩ (.int .i64 A) = W := ⟨_, rfl⟩
          rw [hUw5] at R5 a5
          simp only [List.setIfInBounds_toArray, List.set_cons_zero, List.set_cons_succ] at a5
          replace R := R5
          replace m1 := a5
          clear R5 a5
          obtain ⟨c0, c1, c2, f0, f1, f2⟩ := m1.open3
          obtain ⟨V9, hV9, A9, b10, -⟩ := boxed Uw5 46 #[.int .i64 4, .int .i64 A, .int .i64 0]
          have R9 := R.below b10
          have hkk : w.heap.size ≤ V9.heap.size := R9.kp.size
          obtain ⟨g9, hg9⟩ : ∃ g, Uw5.heap.size = g := ⟨_, rfl⟩
          rw [hg9] at A9
          have hb2 : ∀ w, (Instr.buildSlice 27 1 #[(0, .agg #[.int .i64 4, .int .i64 A, .int .i64 0])]).run Try.prog w = .ok (.slice (some ⟨w.heap.size, 0, none⟩) 1 1) (w.alloc (.cells #[.int .i64 4, .int .i64 A, .int .i64 0] 46)) := fun _ => by kernel_rfl
          clear b10 R
          go_wp2_with (at_builtin; refine wpList_append_own _ rfl _ _ _ rfl w.heap.size 46 i0 _ 3 24 Try.underlying27 hj0 hz0 hz1 hz2 rfl (by omega) (.slice (some ⟨g7, 0, none⟩) _ c7) _ (lCells l) rfl R9.own ⟨g9, 0, none⟩ 1 1 (lCells [4, A, 0]) rfl rfl (news3d A9) (lCells_one _) (by unfold maxLen; omega) (by omega) hkk ?_; intro v2 w16 hown2 hgrow2 hne2)
          have R3 := R9.grow hown2 hgrow2 (fun h => R9.nn (hne2.1 h).1) (by intro z hz; simp only [List.mem_cons, List.not_mem_nil, or_false] at hz; unfold is64; omega)
          exact ⟨⟨_, k - 1, _, by omega, by omega, by omega, rfl, R3⟩, by simp [intOf]; omega⟩
        · skip
          obtain ⟨V0, hV0, m1, bb1, -⟩ := boxed w2 46 #[.int .i64 0, .int .i64 0, .int .i64 0]
          obtain ⟨r1, hr1⟩ : ∃ r, w2.heap.size = r := ⟨_, rfl⟩
          rw [hr1] at m1 hq1 hp1 hg7
          replace R := R.below bb1
          have hne : g7 ≠ r1 := by omega
          have hv7 : (Value.slice (some ⟨g7, 0, none⟩) m c7).ownBlock ≠ some r1 := by simp [Value.ownBlock]; omega
          clear bb1
          replace R := ((R.setO (q := r1) hq1 hv7 0 (.int .i64 5)).setO (q := r1) hq1 hv7 1 (.int .i64 0)).setO (q := r1) hq1 hv7 2 (.int .i64 0)
          obtain ⟨e0, e1, e2, h0, h1, h2⟩ := m1.open3
          replace m1 := put3_atD m1 (.int .i64 5) (.int .i64 0) (.int .i64 0)
          obtain ⟨V1, hV1⟩ : ∃ W, ((V0.setCell ⟨r1, 0, none⟩ (.int .i64 5)).setCell ⟨r1, 1, none⟩ (.int .i64 0)).setCell ⟨r1, 2, none⟩ (.int .i64 0) = W := ⟨_, rfl⟩
          rw [hV1] at m1 R
          obtain ⟨c0, c1, c2, f0, f1, f2⟩ := m1.open3
          go_wp2_with fail
          refine (from_dr R.st (-9) (9) (by omega) (by omega) (by omega) (by omega)).mono ?_
          rintro e w5 ⟨A, rfl, A0, A1, hd⟩
          replace m1 := m1.keptP hd.1 (by omega)
          replace R := R.draw hd
          clear hd c0 c1 c2 f0 f1 f2
          obtain ⟨c0, c1, c2, f0, f1, f2⟩ := m1.open3
          have R5 := R.setO (q := r1) hq1 hv7 1 (.int .i64 A)
          have a5 := m1.set 1 (.int .i64 A)
          obtain ⟨Uw5, hUw5⟩ : ∃ W, w5.setCell ⟨r1, 1, none⟩ (.int .i64 A) = W := ⟨_, rfl⟩
          rw [hUw5] at R5 a5
          simp only [List.setIfInBounds_toArray, List.set_cons_zero, List.set_cons_succ] at a5
          replace R := R5
          replace m1 := a5
          clear R5 a5
          obtain ⟨c0, c1, c2, f0, f1, f2⟩ := m1.open3
          obtain ⟨V9, hV9, A9, b10, -⟩ := boxed Uw5 46 #[.int .i64 5, .int .i64 A, .int .i64 0]
          have R9 := R.below b10
          have hkk : w.heap.size ≤ V9.heap.size := R9.kp.size
          obtain ⟨g9, hg9⟩ : ∃ g, Uw5.heap.size = g := ⟨_, rfl⟩
          rw [hg9] at A9
          have hb2 : ∀ w, (Instr.buildSlice 27 1 #[(0, .agg #[.int .i64 5, .int .i64 A, .int .i64 0])]).run Try.prog w = .ok (.slice (some ⟨w.heap.size, 0, none⟩) 1 1) (w.alloc (.cells #[.int .i64 5, .int .i64 A, .int .i64 0] 46)) := fun _ => by kernel_rfl
          clear b10 R
          go_wp2_with (at_builtin; refine wpList_append_own _ rfl _ _ _ rfl w.heap.size 46 i0 _ 3 24 Try.underlying27 hj0 hz0 hz1 hz2 rfl (by omega) (.slice (some ⟨g7, 0, none⟩) _ c7) _ (lCells l) rfl R9.own ⟨g9, 0, none⟩ 1 1 (lCells [5, A, 0]) rfl rfl (news3d A9) (lCells_one _) (by unfold maxLen; omega) (by omega) hkk ?_; intro v2 w16 hown2 hgrow2 hne2)
          have R3 := R9.grow hown2 hgrow2 (fun h => R9.nn (hne2.1 h).1) (by intro z hz; simp only [List.mem_cons, List.not_mem_nil, or_false] at hz; unfold is64; omega)
          exact ⟨⟨_, k - 1, _, by omega, by omega, by omega, rfl, R3⟩, by simp [intOf]; omega⟩
    · go_wp2
      exact bodyPost_ret (v := .slice (some ⟨g7, 0, none⟩) _ c7) (by simp [results, Try.results62, go_sem]) rfl ⟨_, _, _, rfl, by omega, R⟩
end Go.Proofs.Ytloailicdoknbaa
