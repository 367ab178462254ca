/-
  Which observations are right, by the program and by the specification: walked.
-/
import Derived.Test.YtnlbnjdfkbhkhaaMa
import Derived.Test.YtnlbnjdfkbhkhaaRObs
namespace Go.Proofs.Ytnlbnjdfkbhkhaa
open Go.RowKit

abbrev hklV (a b c : Int) : Value := .agg #[.int .i64 a, .int .i64 b, .int .i64 c]
/-- A reflection, an observation that is right. -/
def hOk (h k l : Int) : Prop := (-100 ≤ h ∧ h ≤ 100) ∧ (-100 ≤ k ∧ k ≤ 100) ∧ (-100 ≤ l ∧ l ≤ 100)
def oOk (h k l i : Int) : Prop := hOk h k l ∧ (-1000000 ≤ i ∧ i ≤ 1000000)

set_option maxRecDepth 100000 in
theorem hklRight_b (h k l : Int) (b : Bool) (hb : b = true ↔ hOk h k l) (w : World) : Calls Try.prog 43 #[hklV h k l] w fun e w' => e = .returned (.bool b) ∧ Below w.heap.size w w' := by
  unfold hOk at hb
  by_cases t0 : -100 ≤ h ∧ h ≤ 100
  rotate_left
  · skip
    obtain rfl : b = false := by cases b; rfl; exact absurd (hb.1 rfl).1 t0
    clear hb
    go_enter Try.func43, Try.ntmps43
    go_wp2_with fail
    refine (within_b _ _ false (by simpa using t0) _ (by decide) (by decide)).mono ?_
    rintro e w2 ⟨rfl, rfl⟩
    go_wp2
    go_ret
    exact ⟨rfl, below_alloc _ _⟩
  by_cases t1 : -100 ≤ k ∧ k ≤ 100
  rotate_left
  · skip
    obtain rfl : b = false := by cases b; rfl; exact absurd (hb.1 rfl).2.1 t1
    clear hb
    go_enter Try.func43, Try.ntmps43
    go_wp2_with fail
    refine (within_b _ _ true (by simpa using t0) _ (by decide) (by decide)).mono ?_
    rintro e w2 ⟨rfl, rfl⟩
    go_wp2_with fail
    refine (within_b _ _ false (by simpa using t1) _ (by decide) (by decide)).mono ?_
    rintro e w2 ⟨rfl, rfl⟩
    go_wp2
    go_ret
    exact ⟨rfl, below_alloc _ _⟩
  by_cases t2 : -100 ≤ l ∧ l ≤ 100
  rotate_left
  · skip
    obtain rfl : b = false := by cases b; rfl; exact absurd (hb.1 rfl).2.2 t2
    clear hb
    go_enter Try.func43, Try.ntmps43
    go_wp2_with fail
    refine (within_b _ _ true (by simpa using t0) _ (by decide) (by decide)).mono ?_
    rintro e w2 ⟨rfl, rfl⟩
    go_wp2_with fail
    refine (within_b _ _ true (by simpa using t1) _ (by decide) (by decide)).mono ?_
    rintro e w2 ⟨rfl, rfl⟩
    go_wp2_with fail
    refine (within_b _ _ false (by simpa using t2) _ (by decide) (by decide)).mono ?_
    rintro e w2 ⟨rfl, rfl⟩
    go_wp2
    go_ret
    exact ⟨rfl, below_alloc _ _⟩
  obtain rfl : b = true := hb.2 ⟨t0, t1, t2⟩
  clear hb
  go_enter Try.func43, Try.ntmps43
  go_wp2_with fail
  refine (within_b _ _ true (by simpa using t0) _ (by decide) (by decide)).mono ?_
  rintro e w2 ⟨rfl, rfl⟩
  go_wp2_with fail
  refine (within_b _ _ true (by simpa using t1) _ (by decide) (by decide)).mono ?_
  rintro e w2 ⟨rfl, rfl⟩
  go_wp2_with fail
  refine (within_b _ _ true (by simpa using t2) _ (by decide) (by decide)).mono ?_
  rintro e w2 ⟨rfl, rfl⟩
  go_wp2
  go_ret
  exact ⟨rfl, below_alloc _ _⟩
set_option maxRecDepth 100000 in
theorem l5Hkl_b (h k l : Int) (b : Bool) (hb : b = true ↔ hOk h k l) (w : World) : Calls Try.prog 36 #[hklV h k l] w fun e w' => e = .returned (.bool b) ∧ Below w.heap.size w w' := by
  unfold hOk at hb
  by_cases t0 : -100 ≤ h ∧ h ≤ 100
  rotate_left
  · skip
    obtain rfl : b = false := by cases b; rfl; exact absurd (hb.1 rfl).1 t0
    clear hb
    go_enter Try.func36, Try.ntmps36
    go_wp2_with fail
    refine (in_b _ _ _ false (by simpa using t0) _).mono ?_
    rintro e w2 ⟨rfl, rfl⟩
    go_wp2
    go_ret
    exact ⟨rfl, below_alloc _ _⟩
  by_cases t1 : -100 ≤ k ∧ k ≤ 100
  rotate_left
  · skip
    obtain rfl : b = false := by cases b; rfl; exact absurd (hb.1 rfl).2.1 t1
    clear hb
    go_enter Try.func36, Try.ntmps36
    go_wp2_with fail
    refine (in_b _ _ _ true (by simpa using t0) _).mono ?_
    rintro e w2 ⟨rfl, rfl⟩
    go_wp2_with fail
    refine (in_b _ _ _ false (by simpa using t1) _).mono ?_
    rintro e w2 ⟨rfl, rfl⟩
    go_wp2
    go_ret
    exact ⟨rfl, below_alloc _ _⟩
  by_cases t2 : -100 ≤ l ∧ l ≤ 100
  rotate_left
  · skip
    obtain rfl : b = false := by cases b; rfl; exact absurd (hb.1 rfl).2.2 t2
    clear hb
    go_enter Try.func36, Try.ntmps36
    go_wp2_with fail
    refine (in_b _ _ _ true (by simpa using t0) _).mono ?_
    rintro e w2 ⟨rfl, rfl⟩
    go_wp2_with fail
    refine (in_b _ _ _ true (by simpa using t1) _).mono ?_
    rintro e w2 ⟨rfl, rfl⟩
    go_wp2_with fail
    refine (in_b _ _ _ false (by simpa using t2) _).mono ?_
    rintro e w2 ⟨rfl, rfl⟩
    go_wp2
    go_ret
    exact ⟨rfl, below_alloc _ _⟩
  obtain rfl : b = true := hb.2 ⟨t0, t1, t2⟩
  clear hb
  go_enter Try.func36, Try.ntmps36
  go_wp2_with fail
  refine (in_b _ _ _ true (by simpa using t0) _).mono ?_
  rintro e w2 ⟨rfl, rfl⟩
  go_wp2_with fail
  refine (in_b _ _ _ true (by simpa using t1) _).mono ?_
  rintro e w2 ⟨rfl, rfl⟩
  go_wp2_with fail
  refine (in_b _ _ _ true (by simpa using t2) _).mono ?_
  rintro e w2 ⟨rfl, rfl⟩
  go_wp2
  go_ret
  exact ⟨rfl, below_alloc _ _⟩
theorem hkl_any (h k l i : Int) (w : World) : Calls Try.prog 42 #[obsV h k l i] w fun e w' => e = .returned (hklV h k l) ∧ Below w.heap.size w w' := by
  go_enter Try.func42, Try.ntmps42
  go_wp2
  exact bodyPost_ret (v := hklV h k l) (by simp [results, Try.results42, go_sem]) rfl ⟨rfl, (below_alloc _ _).trans ((below_alloc _ _).mono (by simp))⟩
theorem tells_any (P : Prop) : ∃ b : Bool, b = true ↔ P := by
  by_cases h : P
  · exact ⟨true, fun _ => h, fun _ => rfl⟩
  · exact ⟨false, fun e => Bool.noConfusion e, fun e => absurd e h⟩

set_option maxRecDepth 100000 in
theorem obsRight_b (h k l i : Int) (b : Bool) (hb : b = true ↔ oOk h k l i) (w : World) : Calls Try.prog 37 #[obsV h k l i] w fun e w' => e = .returned (.bool b) ∧ Below w.heap.size w w' := by
  obtain ⟨V, hV, a1, b1, -⟩ := boxed w 52 #[.int .i64 h, .int .i64 k, .int .i64 l, .int .i64 i]
  obtain ⟨d0, d1, d2, d3, lt1⟩ := Obs.box a1
  by_cases t0 : hOk h k l
  · by_cases t1 : -1000000 ≤ i ∧ i ≤ 1000000
    · obtain rfl : b = true := hb.2 ⟨t0, t1⟩
      clear hb
      go_enter Try.func37, Try.ntmps37
      go_wp2_with fail
      refine (hkl_any _ _ _ _ _).mono ?_
      rintro e w2 ⟨rfl, b2⟩
      replace a1 := a1.below b2
      replace b1 := b1.trans (b2.mono b1.size)
      clear d0 d1 d2 d3 lt1 b2 hV
      go_wp2_with fail
      refine (hklRight_b _ _ _ true (by simpa using t0) _).mono ?_
      rintro e w3 ⟨rfl, b2⟩
      replace a1 := a1.below b2
      replace b1 := b1.trans (b2.mono b1.size)
      obtain ⟨d0, d1, d2, d3, lt1⟩ := Obs.box a1
      clear b2
      go_wp2_with fail
      refine (within_b _ _ true (by simpa using t1) _ (by decide) (by decide)).mono ?_
      rintro e w4 ⟨rfl, rfl⟩
      go_wp2
      go_ret
      exact ⟨rfl, b1⟩
    · obtain rfl : b = false := by cases b; rfl; exact absurd (hb.1 rfl).2 t1
      clear hb
      go_enter Try.func37, Try.ntmps37
      go_wp2_with fail
      refine (hkl_any _ _ _ _ _).mono ?_
      rintro e w2 ⟨rfl, b2⟩
      replace a1 := a1.below b2
      replace b1 := b1.trans (b2.mono b1.size)
      clear d0 d1 d2 d3 lt1 b2 hV
      go_wp2_with fail
      refine (hklRight_b _ _ _ true (by simpa using t0) _).mono ?_
      rintro e w3 ⟨rfl, b2⟩
      replace a1 := a1.below b2
      replace b1 := b1.trans (b2.mono b1.size)
      obtain ⟨d0, d1, d2, d3, lt1⟩ := Obs.box a1
      clear b2
      go_wp2_with fail
      refine (within_b _ _ false (by simpa using t1) _ (by decide) (by decide)).mono ?_
      rintro e w4 ⟨rfl, rfl⟩
      go_wp2
      go_ret
      exact ⟨rfl, b1⟩
  · obtain rfl : b = false := by cases b; rfl; exact absurd (hb.1 rfl).1 t0
    clear hb
    go_enter Try.func37, Try.ntmps37
    go_wp2_with fail
    refine (hkl_any _ _ _ _ _).mono ?_
    rintro e w2 ⟨rfl, b2⟩
    replace a1 := a1.below b2
    replace b1 := b1.trans (b2.mono b1.size)
    clear d0 d1 d2 d3 lt1 b2 hV
    go_wp2_with fail
    refine (hklRight_b _ _ _ false (by simpa using t0) _).mono ?_
    rintro e w3 ⟨rfl, b2⟩
    replace a1 := a1.below b2
    replace b1 := b1.trans (b2.mono b1.size)
    obtain ⟨d0, d1, d2, d3, lt1⟩ := Obs.box a1
    clear b2
    go_wp2
    go_ret
    exact ⟨rfl, b1⟩
set_option maxRecDepth 100000 in
theorem l14Obs_b (h k l i : Int) (b : Bool) (hb : b = true ↔ oOk h k l i) (w : World) : Calls Try.prog 27 #[obsV h k l i] w fun e w' => e = .returned (.bool b) ∧ Below w.heap.size w w' := by
  obtain ⟨V, hV, a1, b1, -⟩ := boxed w 52 #[.int .i64 h, .int .i64 k, .int .i64 l, .int .i64 i]
  obtain ⟨d0, d1, d2, d3, lt1⟩ := Obs.box a1
  by_cases t0 : hOk h k l
  · by_cases t1 : -1000000 ≤ i ∧ i ≤ 1000000
    · obtain rfl : b = true := hb.2 ⟨t0, t1⟩
      clear hb
      go_enter Try.func27, Try.ntmps27
      go_wp2_with fail
      refine (l5Hkl_b _ _ _ true (by simpa using t0) _).mono ?_
      rintro e w3 ⟨rfl, b2⟩
      replace a1 := a1.below b2
      replace b1 := b1.trans (b2.mono b1.size)
      clear d0 d1 d2 d3 lt1 hV b2
      obtain ⟨d0, d1, d2, d3, lt1⟩ := Obs.box a1
      go_wp2_with fail
      refine (in_b _ _ _ true (by simpa using t1) _).mono ?_
      rintro e w4 ⟨rfl, rfl⟩
      go_wp2
      go_ret
      exact ⟨rfl, b1⟩
    · obtain rfl : b = false := by cases b; rfl; exact absurd (hb.1 rfl).2 t1
      clear hb
      go_enter Try.func27, Try.ntmps27
      go_wp2_with fail
      refine (l5Hkl_b _ _ _ true (by simpa using t0) _).mono ?_
      rintro e w3 ⟨rfl, b2⟩
      replace a1 := a1.below b2
      replace b1 := b1.trans (b2.mono b1.size)
      clear d0 d1 d2 d3 lt1 hV b2
      obtain ⟨d0, d1, d2, d3, lt1⟩ := Obs.box a1
      go_wp2_with fail
      refine (in_b _ _ _ false (by simpa using t1) _).mono ?_
      rintro e w4 ⟨rfl, rfl⟩
      go_wp2
      go_ret
      exact ⟨rfl, b1⟩
  · obtain rfl : b = false := by cases b; rfl; exact absurd (hb.1 rfl).1 t0
    clear hb
    go_enter Try.func27, Try.ntmps27
    go_wp2_with fail
    refine (l5Hkl_b _ _ _ false (by simpa using t0) _).mono ?_
    rintro e w3 ⟨rfl, b2⟩
    replace a1 := a1.below b2
    replace b1 := b1.trans (b2.mono b1.size)
    clear d0 d1 d2 d3 lt1 hV b2
    obtain ⟨d0, d1, d2, d3, lt1⟩ := Obs.box a1
    go_wp2
    go_ret
    exact ⟨rfl, b1⟩
/-- The first k observations are right. -/
def allO (f : Nat → Int) (k : Nat) : Prop := ∀ i, i < k → oOk (f (i * 4)) (f (i * 4 + 1)) (f (i * 4 + 2)) (f (i * 4 + 3))
theorem allO.step {f : Nat → Int} {k : Nat} (h : allO f k) (hk : oOk (f (k * 4)) (f (k * 4 + 1)) (f (k * 4 + 2)) (f (k * 4 + 3))) : allO f (k + 1) := fun i hi => by
  by_cases e : i = k
  · subst e; exact hk
  · exact h i (by omega)
set_option maxRecDepth 100000 in
set_option maxHeartbeats 800000 in
theorem areObs_b {w : World} {g n c : Nat} {f : Nat → Int} (h : Recs 4 w g n f) (hn : n ≤ 1048576) (b : Bool) (hb : b = true ↔ allO f n) :
    Calls Try.prog 29 #[.slice (some ⟨g, 0, none⟩) n c] w fun e w' => e = .returned (.bool b) ∧ Below w.heap.size w w' := by
  have hn' : (n : Int) ≤ 1048576 := by omega
  have HB : Hid (b = true ↔ allO f n) := hb
  clear hb
  go_enter Try.func29, Try.ntmps29
  go_wp2
  go_loopw [7] (fun s wr => ∃ k : Nat, k ≤ n ∧ s = .int .i64 (k : Int) ∧ allO f k ∧ Below w.heap.size w wr) (fun s _ => n - (intOf s).toNat)
  case atStart => exact ⟨0, Nat.zero_le _, rfl, fun i hi => by omega, Below.refl _ _⟩
  case round =>
    obtain ⟨k, hk, rfl, hM, B⟩ := hrel
    have HM : Hid (allO f k) := hM
    clear hM
    by_cases hlt : k < n
    · have hlt' : (k : Int) < (n : Int) := by omega
      obtain ⟨c0, c1, c2, c3⟩ := Obs.open (h.below B) k hlt
      obtain ⟨V, hV, a1, b1, -⟩ := boxed wr 52 #[.int .i64 (f (k * 4)), .int .i64 (f (k * 4 + 1)), .int .i64 (f (k * 4 + 2)), .int .i64 (f (k * 4 + 3))]
      obtain ⟨d0, d1, d2, d3, lt1⟩ := Obs.box a1
      obtain ⟨q, hq⟩ := tells_any (oOk (f (k * 4)) (f (k * 4 + 1)) (f (k * 4 + 2)) (f (k * 4 + 3)))
      go_wp2_with fail
      refine (obsRight_b _ _ _ _ q hq _).mono ?_
      rintro e w2 ⟨rfl, b2⟩
      have B2 := (B.trans (b1.mono B.size)).trans (b2.mono (Nat.le_trans B.size b1.size))
      clear c0 c1 c2 c3 d0 d1 d2 d3 lt1 hV a1 b1 b2
      have HQ : Hid (q = true ↔ oOk (f (k * 4)) (f (k * 4 + 1)) (f (k * 4 + 2)) (f (k * 4 + 3))) := hq
      clear hq
      cases q
      · obtain rfl : b = false := by
          cases b
          · rfl
          · exact absurd (HQ.out.2 (HB.out.1 rfl k hlt)) (fun e => Bool.noConfusion e)
        go_wp2
        go_ret
        exact ⟨rfl, B2⟩
      · have HO : Hid (allO f (k + 1)) := HM.out.step (HQ.out.1 rfl)
        clear HQ
        go_wp2
        exact ⟨⟨k + 1, by omega, by go_num, HO.out, B2⟩, by simp [intOf]; omega⟩
    · have hlt' : ¬ (k : Int) < (n : Int) := by omega
      obtain rfl : k = n := by omega
      obtain rfl : b = true := HB.out.2 HM.out
      go_wp2
      go_ret
      exact ⟨rfl, B⟩
end Go.Proofs.Ytnlbnjdfkbhkhaa
