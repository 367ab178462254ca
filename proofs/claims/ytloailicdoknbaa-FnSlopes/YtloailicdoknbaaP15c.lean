/-
  Whether it is a tape, by the specification: walked, and the law over both.
-/
import Derived.Test.YtloailicdoknbaaP15b
namespace Go.Proofs.Ytloailicdoknbaa
open Go.RowKit

set_option maxRecDepth 100000 in
set_option maxHeartbeats 6400000 in
theorem specTapeOk_any {w : World} {g n cap : Nat} {f : Nat → Int} (inp : Int) (h : Recs 3 w g n f) (hn : n ≤ 1048576) (r : Bool) (hb : Hid (r = true ↔ TpOk n inp f)) :
    Calls Try.prog 29 #[.slice (some ⟨g, 0, none⟩) n cap, .int .i64 inp] w fun e w' => e = .returned (.bool r) ∧ Below w.heap.size w w' := by
  by_cases hn60 : n ≤ 200
  case neg =>
    have hn' : (200 : Int) < (n : Int) := by omega
    obtain rfl : r = false := by cases r; rfl; exact absurd (hb.out.1 rfl).1 hn60
    go_enter Try.func29, Try.ntmps29
    go_wp2
    go_ret
    exact ⟨rfl, Below.refl _ _⟩
  have hn' : (n : Int) ≤ 200 := by omega
  have hn2 : ¬ (200 : Int) < (n : Int) := by omega
  have I0 := fun w => in_any inp 0 20 w
  by_cases h0 : 0 ≤ inp ∧ inp ≤ 20
  case neg =>
    obtain rfl : r = false := by cases r; rfl; exact absurd (hb.out.1 rfl).2.1 h0
    rw [decide_eq_false h0] at I0
    go_enter Try.func29, Try.ntmps29
    go_wp2_with (go_at_call 44; refine (I0 _).mono ?_; rintro e w2 ⟨rfl, rfl⟩)
    go_ret
    exact ⟨rfl, Below.refl _ _⟩
  rw [decide_eq_true h0] at I0
  go_enter Try.func29, Try.ntmps29
  go_wp2_with (go_at_call 44; refine (I0 _).mono ?_; rintro e w2 ⟨rfl, rfl⟩)
  clear I0
  go_loopw [5] (fun u wr => ∃ k : Nat, k ≤ n ∧ u = .int .i64 (k : Int) ∧ (∀ i : Nat, i < k → stOk inp (i : Int) (f (i * 3)) (f (i * 3 + 1)) (f (i * 3 + 2))) ∧ Recs 3 wr g n f ∧ Below w.heap.size w wr) (fun u _ => n - (intOf u).toNat)
  case atStart => exact ⟨0, Nat.zero_le _, rfl, fun i hi => by omega, h, Below.refl _ _⟩
  case round =>
    obtain ⟨k, hk, rfl, hall, R1, B1⟩ := hrel
    have HA : Hid (∀ i : Nat, i < k → stOk inp (i : Int) (f (i * 3)) (f (i * 3 + 1)) (f (i * 3 + 2))) := hall
    clear hall
    by_cases hkn : k < n
    · have hkn' : (k : Int) < (n : Int) := by omega
      obtain ⟨d0, d1, d2⟩ := Step.open R1 k hkn
      have NO : ¬ stOk inp (k : Int) (f (k * 3)) (f (k * 3 + 1)) (f (k * 3 + 2)) → r = false := fun no => by cases r; rfl; exact absurd ((hb.out.1 rfl).2.2 k hkn) no
      have YES : stOk inp (k : Int) (f (k * 3)) (f (k * 3 + 1)) (f (k * 3 + 2)) → Hid (∀ i : Nat, i < k + 1 → stOk inp (i : Int) (f (i * 3)) (f (i * 3 + 1)) (f (i * 3 + 2))) := fun ys i hi => by
        by_cases e : i = k
        · subst e; exact ys
        · exact HA.out i (by omega)
      obtain ⟨op, hop⟩ : ∃ x, f (k * 3) = x := ⟨_, rfl⟩
      obtain ⟨a, ha⟩ : ∃ x, f (k * 3 + 1) = x := ⟨_, rfl⟩
      obtain ⟨b, hbb⟩ : ∃ x, f (k * 3 + 2) = x := ⟨_, rfl⟩
      rw [hop, ha, hbb] at NO YES
      rw [hop] at d0
      rw [ha] at d1
      rw [hbb] at d2
      clear hop ha hbb
      obtain ⟨V1, hV1, m1, bb1, -⟩ := boxed wr 46 #[.int .i64 op, .int .i64 a, .int .i64 b]
      obtain ⟨r1, hr1⟩ : ∃ r, wr.heap.size = r := ⟨_, rfl⟩
      rw [hr1] at m1
      replace R1 := R1.below bb1
      replace B1 := B1.trans (bb1.mono B1.size)
      obtain ⟨c0, c1, c2, -⟩ := m1.open3
      clear m1 bb1
      by_cases o1 : op = 1
      · subst o1
        have I1 := fun w => in_any a 0 (inp - 1) w
        by_cases hA : 0 ≤ a ∧ a ≤ inp - 1
        case neg =>
          rw [decide_eq_false hA] at I1
          obtain rfl := NO (by unfold stOk; omega)
          clear NO YES
          go_wp2_with (go_at_call_of 44 (Value.int IntKind.i64 a); refine (I1 _).mono ?_; rintro e w2 ⟨rfl, rfl⟩)
          go_ret
          exact ⟨rfl, B1⟩
        rw [decide_eq_true hA] at I1
        by_cases hB : b = 0
        · have hB' : (b == 0) = true := by simpa using hB
          have HY := YES (by unfold stOk; omega)
          clear NO YES
          try clear hB
          go_wp2_with (go_at_call_of 44 (Value.int IntKind.i64 a); refine (I1 _).mono ?_; rintro e w2 ⟨rfl, rfl⟩)
          exact ⟨⟨k + 1, by omega, by go_num, HY.out, R1, B1⟩, by simp [intOf]; omega⟩
        · have hB' : (b == 0) = false := by simpa using hB
          obtain rfl := NO (by unfold stOk; omega)
          clear NO YES
          go_wp2_with (go_at_call_of 44 (Value.int IntKind.i64 a); refine (I1 _).mono ?_; rintro e w2 ⟨rfl, rfl⟩)
          go_ret
          exact ⟨rfl, B1⟩
      by_cases o2 : op = 2
      · subst o2
        have I1 := fun w => in_any a 0 ((k : Int) - 1) w
        have I2 := fun w => in_any b 0 ((k : Int) - 1) w
        by_cases hA : 0 ≤ a ∧ a ≤ (k : Int) - 1
        case neg =>
          rw [decide_eq_false hA] at I1
          obtain rfl := NO (by unfold stOk; omega)
          clear NO YES
          go_wp2_with (go_at_call 44; first | (refine (I1 _).mono ?_; rintro e w2 ⟨rfl, rfl⟩; clear I1) | (refine (I2 _).mono ?_; rintro e w2 ⟨rfl, rfl⟩))
          go_ret
          exact ⟨rfl, B1⟩
        rw [decide_eq_true hA] at I1
        by_cases hB : 0 ≤ b ∧ b ≤ (k : Int) - 1
        case neg =>
          rw [decide_eq_false hB] at I2
          obtain rfl := NO (by unfold stOk; omega)
          clear NO YES
          go_wp2_with (go_at_call 44; first | (refine (I1 _).mono ?_; rintro e w2 ⟨rfl, rfl⟩; clear I1) | (refine (I2 _).mono ?_; rintro e w2 ⟨rfl, rfl⟩))
          go_ret
          exact ⟨rfl, B1⟩
        rw [decide_eq_true hB] at I2
        have HY := YES (by unfold stOk; omega)
        clear NO YES
        try clear hB
        go_wp2_with (go_at_call 44; first | (refine (I1 _).mono ?_; rintro e w2 ⟨rfl, rfl⟩; clear I1) | (refine (I2 _).mono ?_; rintro e w2 ⟨rfl, rfl⟩))
        exact ⟨⟨k + 1, by omega, by go_num, HY.out, R1, B1⟩, by simp [intOf]; omega⟩
      by_cases o3 : op = 3
      · subst o3
        have I1 := fun w => in_any a 0 ((k : Int) - 1) w
        have I2 := fun w => in_any b 0 ((k : Int) - 1) w
        by_cases hA : 0 ≤ a ∧ a ≤ (k : Int) - 1
        case neg =>
          rw [decide_eq_false hA] at I1
          obtain rfl := NO (by unfold stOk; omega)
          clear NO YES
          go_wp2_with (go_at_call 44; first | (refine (I1 _).mono ?_; rintro e w2 ⟨rfl, rfl⟩; clear I1) | (refine (I2 _).mono ?_; rintro e w2 ⟨rfl, rfl⟩))
          go_ret
          exact ⟨rfl, B1⟩
        rw [decide_eq_true hA] at I1
        by_cases hB : 0 ≤ b ∧ b ≤ (k : Int) - 1
        case neg =>
          rw [decide_eq_false hB] at I2
          obtain rfl := NO (by unfold stOk; omega)
          clear NO YES
          go_wp2_with (go_at_call 44; first | (refine (I1 _).mono ?_; rintro e w2 ⟨rfl, rfl⟩; clear I1) | (refine (I2 _).mono ?_; rintro e w2 ⟨rfl, rfl⟩))
          go_ret
          exact ⟨rfl, B1⟩
        rw [decide_eq_true hB] at I2
        have HY := YES (by unfold stOk; omega)
        clear NO YES
        try clear hB
        go_wp2_with (go_at_call 44; first | (refine (I1 _).mono ?_; rintro e w2 ⟨rfl, rfl⟩; clear I1) | (refine (I2 _).mono ?_; rintro e w2 ⟨rfl, rfl⟩))
        exact ⟨⟨k + 1, by omega, by go_num, HY.out, R1, B1⟩, by simp [intOf]; omega⟩
      by_cases o4 : op = 4
      · subst o4
        have I1 := fun w => in_any a 0 ((k : Int) - 1) w
        by_cases hA : 0 ≤ a ∧ a ≤ (k : Int) - 1
        case neg =>
          rw [decide_eq_false hA] at I1
          obtain rfl := NO (by unfold stOk; omega)
          clear NO YES
          go_wp2_with (go_at_call_of 44 (Value.int IntKind.i64 a); refine (I1 _).mono ?_; rintro e w2 ⟨rfl, rfl⟩)
          go_ret
          exact ⟨rfl, B1⟩
        rw [decide_eq_true hA] at I1
        by_cases hB : b = 0
        · have hB' : (b == 0) = true := by simpa using hB
          have HY := YES (by unfold stOk; omega)
          clear NO YES
          try clear hB
          go_wp2_with (go_at_call_of 44 (Value.int IntKind.i64 a); refine (I1 _).mono ?_; rintro e w2 ⟨rfl, rfl⟩)
          exact ⟨⟨k + 1, by omega, by go_num, HY.out, R1, B1⟩, by simp [intOf]; omega⟩
        · have hB' : (b == 0) = false := by simpa using hB
          obtain rfl := NO (by unfold stOk; omega)
          clear NO YES
          go_wp2_with (go_at_call_of 44 (Value.int IntKind.i64 a); refine (I1 _).mono ?_; rintro e w2 ⟨rfl, rfl⟩)
          go_ret
          exact ⟨rfl, B1⟩
      by_cases o5 : op = 5
      · subst o5
        by_cases hB : b = 0
        · have hB' : (b == 0) = true := by simpa using hB
          have HY := YES (by unfold stOk; omega)
          clear NO YES
          try clear hB
          go_wp2
          exact ⟨⟨k + 1, by omega, by go_num, HY.out, R1, B1⟩, by simp [intOf]; omega⟩
        · have hB' : (b == 0) = false := by simpa using hB
          obtain rfl := NO (by unfold stOk; omega)
          clear NO YES
          go_wp2
          go_ret
          exact ⟨rfl, B1⟩
      have p1 : (op == 1) = false := by simpa using o1
      have p2 : (op == 2) = false := by simpa using o2
      have p3 : (op == 3) = false := by simpa using o3
      have p4 : (op == 4) = false := by simpa using o4
      have p5 : (op == 5) = false := by simpa using o5
      obtain rfl := NO (by unfold stOk; omega)
      clear NO YES o1 o2 o3 o4 o5
      go_wp2
      go_ret
      exact ⟨rfl, B1⟩
    · have hkn' : ¬ (k : Int) < (n : Int) := by omega
      obtain rfl : k = n := by omega
      obtain rfl : r = true := hb.out.2 ⟨hn60, h0, HA.out⟩
      go_wp2
      go_ret
      exact ⟨rfl, B1⟩
end Go.Proofs.Ytloailicdoknbaa
