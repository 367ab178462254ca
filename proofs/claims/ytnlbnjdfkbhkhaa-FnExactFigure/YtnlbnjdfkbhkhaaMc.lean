/-
  Figure by the specification: walked.
-/
import Derived.Test.YtnlbnjdfkbhkhaaMa
import Derived.BigRegion
namespace Go.Proofs.Ytnlbnjdfkbhkhaa
open Go.RowKit

set_option maxRecDepth 100000 in
set_option maxHeartbeats 3200000 in
theorem specFig_any {w : World} {g n c : Nat} {f : Nat → Int} (h : Recs 8 w g n f) (hn : n ≤ 1048576) :
    Calls Try.prog 6 #[.slice (some ⟨g, 0, none⟩) n c] w fun e w' => ∃ v, e = .returned v ∧ FigT f n v ∧ Below w.heap.size w w' := by
  by_cases h60 : n ≤ 60
  · have h60' : ¬ (n : Int) > 60 := by omega
    have hnn : (n : Int) ≤ 60 := by omega
    go_enter Try.func6, Try.ntmps6
    go_wp2
    go_loopw [5, 6] (fun s u wr => ∃ k : Nat, k ≤ n ∧ s = .int .i64 (tS f k) ∧ u = .int .i64 (k : Int) ∧ allM f k ∧ Below w.heap.size w wr) (fun _ u _ => n - (intOf u).toNat)
    case atStart => exact ⟨0, Nat.zero_le _, rfl, rfl, fun i hi => by omega, Below.refl _ _⟩
    case round =>
      obtain ⟨k, hk, rfl, rfl, hM, B⟩ := hrel
      have bS := tS_in hM
      by_cases hlt : k < n
      · have hlt' : (k : Int) < (n : Int) := by omega
        obtain ⟨c0, c1, c2, c3, c4, c5, c6, c7⟩ := Merged.open (h.below B) k hlt
        obtain ⟨V, hV, a1, b1, -⟩ := boxed wr 42 #[.int .i64 (f (k * 8)), .int .i64 (f (k * 8 + 1)), .int .i64 (f (k * 8 + 2)), .int .i64 (f (k * 8 + 3)), .int .i64 (f (k * 8 + 4)), .int .i64 (f (k * 8 + 5)), .int .i64 (f (k * 8 + 6)), .int .i64 (f (k * 8 + 7))]
        obtain ⟨d0, d1, d2, d3, d4, d5, d6, d7, lt1⟩ := Merged.box a1
        have B1 := B.trans (b1.mono B.size)
        by_cases o1 : 1 ≤ f (k * 8 + 3) ∧ f (k * 8 + 3) ≤ 12
        · by_cases o2 : -60000000 ≤ f (k * 8 + 4) ∧ f (k * 8 + 4) ≤ 60000000
          · by_cases o3 : 0 ≤ f (k * 8 + 5) ∧ f (k * 8 + 5) ≤ 60000000
            · have pm := mag_in o2
              have hS1 : Hid (tS f (k + 1) = tS f k + mag (f (k * 8 + 4))) := rfl
              have hM1 : Hid (allM f (k + 1)) := hM.step ⟨o1, o2, o3⟩
              clear hM
              go_wp2_with fail
              refine (in_b _ _ _ true (by simpa using o1) _).mono ?_
              rintro e w2 ⟨rfl, rfl⟩
              go_wp2_with fail
              refine (in_b _ _ _ true (by simpa using o2) _).mono ?_
              rintro e w2 ⟨rfl, rfl⟩
              go_wp2_with fail
              refine (in_b _ _ _ true (by simpa using o3) _).mono ?_
              rintro e w2 ⟨rfl, rfl⟩
              go_wp2_with (go_at_call 20; refine (abs_any _ _ (by omega)).mono ?_; rintro e w3 ⟨rfl, rfl⟩)
              refine ⟨⟨k + 1, by omega, by rw [hS1.out], by go_num, hM1.out, B1⟩, by simp [intOf]; omega⟩
            · go_wp2_with fail
              refine (in_b _ _ _ true (by simpa using o1) _).mono ?_
              rintro e w2 ⟨rfl, rfl⟩
              go_wp2_with fail
              refine (in_b _ _ _ true (by simpa using o2) _).mono ?_
              rintro e w2 ⟨rfl, rfl⟩
              go_wp2_with fail
              refine (in_b _ _ _ false (by simpa using o3) _).mono ?_
              rintro e w2 ⟨rfl, rfl⟩
              go_wp2
              refine bodyPost_ret (v := .tuple #[.int .i64 0, .int .i64 0, .bool false]) (by simp [results, Try.results6, go_sem]) rfl ?_
              exact ⟨_, rfl, FigT.no (fun hh => o3 (hh.2.1 k hlt).2.2), B1⟩
          · go_wp2_with fail
            refine (in_b _ _ _ true (by simpa using o1) _).mono ?_
            rintro e w2 ⟨rfl, rfl⟩
            go_wp2_with fail
            refine (in_b _ _ _ false (by simpa using o2) _).mono ?_
            rintro e w2 ⟨rfl, rfl⟩
            go_wp2
            refine bodyPost_ret (v := .tuple #[.int .i64 0, .int .i64 0, .bool false]) (by simp [results, Try.results6, go_sem]) rfl ?_
            exact ⟨_, rfl, FigT.no (fun hh => o2 (hh.2.1 k hlt).2.1), B1⟩
        · go_wp2_with fail
          refine (in_b _ _ _ false (by simpa using o1) _).mono ?_
          rintro e w2 ⟨rfl, rfl⟩
          go_wp2
          refine bodyPost_ret (v := .tuple #[.int .i64 0, .int .i64 0, .bool false]) (by simp [results, Try.results6, go_sem]) rfl ?_
          exact ⟨_, rfl, FigT.no (fun hh => o1 (hh.2.1 k hlt).1), B1⟩
      · have hlt' : ¬ (k : Int) < (n : Int) := by omega
        obtain rfl : k = n := by omega
        by_cases hz : tS f k = 0
        · have HZ : Hid (tS f k = 0) := hz
          rw [hz]
          clear hz bS
          go_wp2
          refine bodyPost_ret (v := .tuple #[.int .i64 0, .int .i64 0, .bool false]) (by simp [results, Try.results6, go_sem]) rfl ?_
          exact ⟨_, rfl, FigT.no (fun hh => hh.2.2 HZ.out), B⟩
        · have HT : Hid (FigT f k (.tuple #[.int .i64 (Int.tdiv (tD f k) (Int.gcd (tD f k) (tS f k * 27720))), .int .i64 (Int.tdiv (tS f k * 27720) (Int.gcd (tD f k) (tS f k * 27720))), .bool true])) := .inl ⟨h60, hM, hz, rfl⟩
          have hY0 : Hid (0 < tS f k * 27720 ∧ tS f k * 27720 ≤ 1663200000000 * (k : Int)) := ⟨by omega, by omega⟩
          have HM : Hid (allM f k) := hM
          obtain ⟨S, hS⟩ : ∃ S, tS f k = S := ⟨_, rfl⟩
          rw [hS] at HT hY0 hz bS ⊢
          clear hM hS
          go_wp2
          go_loopw [8, 9] (fun s u wr => ∃ j : Nat, j ≤ k ∧ s = .int .i64 (tD f j) ∧ u = .int .i64 (j : Int) ∧ Below w.heap.size w wr) (fun _ u _ => k - (intOf u).toNat)
          case atStart => exact ⟨0, Nat.zero_le _, rfl, rfl, B⟩
          case round =>
            clear B
            obtain ⟨j, hj, rfl, rfl, B⟩ := hrel
            have hMj : allM f j := fun i hi => HM.out i (by omega)
            have bD := tD_in hMj
            by_cases hlt : j < k
            · have hlt' : (j : Int) < (k : Int) := by omega
              obtain ⟨c0, c1, c2, c3, c4, c5, c6, c7⟩ := Merged.open (h.below B) j hlt
              obtain ⟨o1, o2, o3⟩ := HM.out j hlt
              have pq := part_in o1
              have pp := prod_in o3 pq
              have hD1 : Hid (tD f (j + 1) = tD f j + f (j * 8 + 5) * Int.tdiv 27720 (f (j * 8 + 3))) := rfl
              obtain ⟨X, hX⟩ : ∃ X, tD f j = X := ⟨_, rfl⟩
              rw [hX] at bD hD1 ⊢
              obtain ⟨C, hC⟩ : ∃ C, f (j * 8 + 3) = C := ⟨_, rfl⟩
              obtain ⟨D, hD⟩ : ∃ D, f (j * 8 + 5) = D := ⟨_, rfl⟩
              rw [hC] at c3 o1 pq pp hD1
              rw [hD] at c5 o3 pp hD1
              have hC0 : C ≠ 0 := by omega
              clear hMj hX hC hD o2
              obtain ⟨q, hq⟩ : ∃ q, Int.tdiv 27720 C = q := ⟨_, rfl⟩
              rw [hq] at pq pp hD1
              obtain ⟨Z, hZ⟩ : ∃ Z, D * q = Z := ⟨_, rfl⟩
              rw [hZ] at pp hD1
              have w0 : IntKind.i64.wrap (Int.tdiv 27720 C) = q := by rw [hq, IntKind.wrap_i64]; omega
              have w1 : IntKind.i64.wrap (D * q) = Z := by rw [hZ, IntKind.wrap_i64]; omega
              have w2 : IntKind.i64.wrap (X + Z) = X + Z := by rw [IntKind.wrap_i64]; omega
              clear hZ
              go_wp2
              go_region
              all_goals
                go_wp2
                refine ⟨⟨j + 1, by omega, by rw [hD1.out], by go_num, B.drew⟩, by simp [intOf]; omega⟩
            · have hlt' : ¬ (j : Int) < (k : Int) := by omega
              obtain rfl : j = k := by omega
              obtain ⟨X, hX⟩ : ∃ X, tD f j = X := ⟨_, rfl⟩
              rw [hX] at bD HT ⊢
              obtain ⟨Y, hY⟩ : ∃ Y, S * 27720 = Y := ⟨_, rfl⟩
              rw [hY] at hY0 HT
              have bY := hY0.out
              have hG0 : Int.gcd X Y ≠ 0 := by
                intro e
                rw [Int.gcd_eq_zero_iff] at e
                omega
              have hGY : (Int.gcd X Y : Int) ≤ Y := Int.le_of_dvd (by omega) (Int.gcd_dvd_right ..)
              obtain ⟨G, hG⟩ : ∃ G : Nat, Int.gcd X Y = G := ⟨_, rfl⟩
              rw [hG] at hG0 hGY HT
              have hG1 : (G : Int) ≠ 0 := by omega
              have hXd : 0 ≤ X.tdiv (G : Int) ∧ X.tdiv (G : Int) ≤ X := ⟨Int.tdiv_nonneg (by omega) (by omega), by rw [Int.tdiv_eq_ediv_of_nonneg (by omega)]; exact Int.ediv_le_self _ (by omega)⟩
              have hYd : 0 ≤ Y.tdiv (G : Int) ∧ Y.tdiv (G : Int) ≤ Y := ⟨Int.tdiv_nonneg (by omega) (by omega), by rw [Int.tdiv_eq_ediv_of_nonneg (by omega)]; exact Int.ediv_le_self _ (by omega)⟩
              have w9 : IntKind.i64.wrap (S * 27720) = Y := by rw [hY, IntKind.wrap_i64]; omega
              clear hX hY0 hMj HM
              go_wp2_with fail
              try rw [hY]
              refine (specGcd_any _ _ _ (by omega) (by omega)).mono ?_
              rintro e w2 ⟨rfl, rfl⟩
              rw [hG]
              clear hG hY
              obtain ⟨A1, hA1⟩ : ∃ A1, X.tdiv (G : Int) = A1 := ⟨_, rfl⟩
              obtain ⟨A2, hA2⟩ : ∃ A2, Y.tdiv (G : Int) = A2 := ⟨_, rfl⟩
              rw [hA1] at hXd HT
              rw [hA2] at hYd HT
              have w1 : IntKind.i64.wrap (X.tdiv (G : Int)) = A1 := by rw [hA1, IntKind.wrap_i64]; omega
              have w2 : IntKind.i64.wrap (Y.tdiv (G : Int)) = A2 := by rw [hA2, IntKind.wrap_i64]; omega
              go_wp2
              go_region
              all_goals
                go_wp2
                refine bodyPost_ret (v := .tuple #[.int .i64 A1, .int .i64 A2, .bool true]) (by simp [results, Try.results6, go_sem]) rfl ?_
                exact ⟨_, rfl, HT.out, B.drew⟩
  · have h60' : (n : Int) > 60 := by omega
    go_enter Try.func6, Try.ntmps6
    go_wp2
    refine bodyPost_ret (v := .tuple #[.int .i64 0, .int .i64 0, .bool false]) (by simp [results, Try.results6, go_sem]) rfl ?_
    exact ⟨_, rfl, FigT.no (fun hh => h60 hh.1), Below.refl _ _⟩
end Go.Proofs.Ytnlbnjdfkbhkhaa
