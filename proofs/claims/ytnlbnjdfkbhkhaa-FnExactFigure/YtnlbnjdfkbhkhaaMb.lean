/-
  Figure by the program: walked.
-/
import Derived.Test.YtnlbnjdfkbhkhaaMa
import Derived.BigRegion
namespace Go.Proofs.Ytnlbnjdfkbhkhaa
open Go.RowKit

set_option maxRecDepth 100000 in
set_option maxHeartbeats 3200000 in
theorem implFig_any {w : World} {g n c : Nat} {f : Nat → Int} (h : Recs 8 w g n f) (hn : n ≤ 1048576) :
    Calls Try.prog 8 #[.slice (some ⟨g, 0, none⟩) n c] w fun e w' => ∃ v, e = .returned v ∧ FigT f n v ∧ Below w.heap.size w w' := by
  by_cases h60 : n ≤ 60
  · have h60' : ¬ (n : Int) > 60 := by omega
    have hnn : (n : Int) ≤ 60 := by omega
    go_enter Try.func8, Try.ntmps8
    go_wp2
    go_loopw [5, 6, 15] (fun s t u wr => ∃ k : Nat, k ≤ n ∧ s = .int .i64 (tD f k) ∧ t = .int .i64 (tS f k * 27720) ∧ u = .int .i64 (k : Int) ∧ allM f k ∧ Below w.heap.size w wr) (fun _ _ u _ => n - (intOf u).toNat)
    case atStart => exact ⟨0, Nat.zero_le _, rfl, rfl, rfl, fun i hi => by omega, Below.refl _ _⟩
    case round =>
      obtain ⟨k, hk, rfl, rfl, rfl, hM, B⟩ := hrel
      have bD := tD_in hM
      have bS := tS_in hM
      by_cases hlt : k < n
      · have hlt' : (k : Int) < (n : Int) := by omega
        obtain ⟨c0, c1, c2, c3, c4, c5, c6, c7⟩ := Merged.open (h.below B) k hlt
        obtain ⟨V, hV, a1, b1, -⟩ := boxed wr 42 #[.int .i64 (f (k * 8)), .int .i64 (f (k * 8 + 1)), .int .i64 (f (k * 8 + 2)), .int .i64 (f (k * 8 + 3)), .int .i64 (f (k * 8 + 4)), .int .i64 (f (k * 8 + 5)), .int .i64 (f (k * 8 + 6)), .int .i64 (f (k * 8 + 7))]
        obtain ⟨d0, d1, d2, d3, d4, d5, d6, d7, lt1⟩ := Merged.box a1
        by_cases hok : mOk (f (k * 8 + 3)) (f (k * 8 + 4)) (f (k * 8 + 5))
        · go_wp2_with fail
          refine (figured_any _ _ _ _ _ _ _ _ true (by simpa using hok) _).mono ?_
          rintro e w2 ⟨rfl, b2⟩
          have a2 := a1.below b2
          have B2 := (B.trans (b1.mono B.size)).trans (b2.mono (Nat.le_trans B.size b1.size))
          clear c0 c1 c2 c3 c4 c5 c6 c7 d0 d1 d2 d3 d4 d5 d6 d7 lt1 hV a1 b1 b2
          obtain ⟨d0, d1, d2, d3, d4, d5, d6, d7, lt2⟩ := Merged.box a2
          obtain ⟨o1, o2, o3⟩ := hok
          have pq := part_in o1
          have pp := prod_in o3 pq
          have pm := mag_in o2
          have hD1 : Hid (tD f (k + 1) = tD f k + f (k * 8 + 5) * Int.tdiv 27720 (f (k * 8 + 3))) := rfl
          have hS1 : Hid (tS f (k + 1) * 27720 = tS f k * 27720 + mag (f (k * 8 + 4)) * 27720) := by
            show (tS f k + mag (f (k * 8 + 4))) * 27720 = _
            rw [Int.add_mul]
          have hM1 : Hid (allM f (k + 1)) := hM.step ⟨o1, o2, o3⟩
          obtain ⟨X, hX⟩ : ∃ X, tD f k = X := ⟨_, rfl⟩
          obtain ⟨Y, hY⟩ : ∃ Y, tS f k * 27720 = Y := ⟨_, rfl⟩
          have bY : 0 ≤ Y ∧ Y ≤ 1663200000000 * (k : Int) := by omega
          rw [hX] at bD hD1 ⊢
          rw [hY] at hS1 ⊢
          obtain ⟨C, hC⟩ : ∃ C, f (k * 8 + 3) = C := ⟨_, rfl⟩
          obtain ⟨D, hD⟩ : ∃ D, f (k * 8 + 5) = D := ⟨_, rfl⟩
          rw [hC] at d3 o1 pq pp hD1
          rw [hD] at d5 o3 pp hD1
          have hC0 : C ≠ 0 := by omega
          clear hM hX hY bS hC hD
          obtain ⟨q, hq⟩ : ∃ q, Int.tdiv 27720 C = q := ⟨_, rfl⟩
          rw [hq] at pq pp hD1
          obtain ⟨Z, hZ⟩ : ∃ Z, D * q = Z := ⟨_, rfl⟩
          rw [hZ] at pp hD1
          have w0 : IntKind.i64.wrap (Int.tdiv 27720 C) = q := by rw [hq, IntKind.wrap_i64]; omega
          have w1 : IntKind.i64.wrap (D * q) = Z := by rw [hZ, IntKind.wrap_i64]; omega
          have w2 : IntKind.i64.wrap (X + Z) = X + Z := by rw [IntKind.wrap_i64]; omega
          clear hZ
          go_wp2
          go_region
          all_goals
            go_wp2_with (go_at_call 24; refine (mag_any _ _ (by omega)).mono ?_; rintro e w3 ⟨rfl, rfl⟩)
            refine ⟨⟨k + 1, by omega, by rw [hD1.out], by rw [hS1.out], by go_num, hM1.out, B2.drew⟩, by simp [intOf]; omega⟩
        · go_wp2_with fail
          refine (figured_any _ _ _ _ _ _ _ _ false (by simpa using hok) _).mono ?_
          rintro e w2 ⟨rfl, b2⟩
          have B2 := (B.trans (b1.mono B.size)).trans (b2.mono (Nat.le_trans B.size b1.size))
          clear c0 c1 c2 c3 c4 c5 c6 c7 d0 d1 d2 d3 d4 d5 d6 d7 lt1 hV a1 b1 b2
          go_wp2
          refine bodyPost_ret (v := .tuple #[.int .i64 0, .int .i64 0, .bool false]) (by simp [results, Try.results8, go_sem]) rfl ?_
          exact ⟨_, rfl, FigT.no (fun hh => hok (hh.2.1 k hlt)), B2⟩
      · have hlt' : ¬ (k : Int) < (n : Int) := by omega
        obtain rfl : k = n := by omega
        by_cases hz : tS f k = 0
        · rw [hz]
          have HZ : Hid (tS f k = 0) := hz
          clear hz bS
          go_wp2
          refine bodyPost_ret (v := .tuple #[.int .i64 0, .int .i64 0, .bool false]) (by simp [results, Try.results8, go_sem]) rfl ?_
          exact ⟨_, rfl, FigT.no (fun hh => hh.2.2 HZ.out), B⟩
        · have HT : Hid (FigT f k (.tuple #[.int .i64 (Int.tdiv (tD f k) (Int.gcd (tD f k) (tS f k * 27720))), .int .i64 (Int.tdiv (tS f k * 27720) (Int.gcd (tD f k) (tS f k * 27720))), .bool true])) := .inl ⟨h60, hM, hz, rfl⟩
          obtain ⟨X, hX⟩ : ∃ X, tD f k = X := ⟨_, rfl⟩
          obtain ⟨Y, hY⟩ : ∃ Y, tS f k * 27720 = Y := ⟨_, rfl⟩
          have bY : 0 < Y ∧ Y ≤ 1663200000000 * (k : Int) := by omega
          have hY0 : Y ≠ 0 := by omega
          rw [hX] at bD HT ⊢
          rw [hY] at HT ⊢
          have hG0 : Int.gcd X Y ≠ 0 := by
            intro e
            rw [Int.gcd_eq_zero_iff] at e
            omega
          have hGY : (Int.gcd X Y : Int) ≤ Y := Int.le_of_dvd (by omega) (Int.gcd_dvd_right ..)
          obtain ⟨G, hG⟩ : ∃ G : Nat, Int.gcd X Y = G := ⟨_, rfl⟩
          rw [hG] at hG0 hGY HT
          have hG1 : (G : Int) ≠ 0 := by omega
          have hXd : 0 ≤ X.tdiv (G : Int) ∧ X.tdiv (G : Int) ≤ X := ⟨Int.tdiv_nonneg (by omega) (by omega), by rw [Int.tdiv_eq_ediv_of_nonneg (by omega)]; exact Int.ediv_le_self _ (by omega)⟩
          have hYd : 0 ≤ Y.tdiv (G : Int) ∧ Y.tdiv (G : Int) ≤ Y := ⟨Int.tdiv_nonneg (by omega) (by omega), by rw [Int.tdiv_eq_ediv_of_nonneg (by omega)]; exact Int.ediv_le_self _ (by omega)⟩
          clear bS hM hX hY hz
          go_wp2_with fail
          refine (implGcd_any _ _ _ (by omega) (by omega)).mono ?_
          rintro e w2 ⟨rfl, b2⟩
          rw [hG]
          have B2 := B.trans (b2.mono B.size)
          clear b2 hG
          obtain ⟨A1, hA1⟩ : ∃ A1, X.tdiv (G : Int) = A1 := ⟨_, rfl⟩
          obtain ⟨A2, hA2⟩ : ∃ A2, Y.tdiv (G : Int) = A2 := ⟨_, rfl⟩
          rw [hA1] at hXd HT
          rw [hA2] at hYd HT
          have w1 : IntKind.i64.wrap (X.tdiv (G : Int)) = A1 := by rw [hA1, IntKind.wrap_i64]; omega
          have w2 : IntKind.i64.wrap (Y.tdiv (G : Int)) = A2 := by rw [hA2, IntKind.wrap_i64]; omega
          go_wp2
          go_region
          all_goals
            go_wp2
            refine bodyPost_ret (v := .tuple #[.int .i64 A1, .int .i64 A2, .bool true]) (by simp [results, Try.results8, go_sem]) rfl ?_
            exact ⟨_, rfl, HT.out, B2.drew⟩
  · have h60' : (n : Int) > 60 := by omega
    go_enter Try.func8, Try.ntmps8
    go_wp2
    refine bodyPost_ret (v := .tuple #[.int .i64 0, .int .i64 0, .bool false]) (by simp [results, Try.results8, go_sem]) rfl ?_
    exact ⟨_, rfl, FigT.no (fun hh => h60 hh.1), Below.refl _ _⟩
end Go.Proofs.Ytnlbnjdfkbhkhaa
