/-
  Entries counted, the distance from the mean, the numbers of a list, and the farthest one, by the program: walked.
-/
import Derived.Test.YtnlbnjdfkbhkhaaOa
import Derived.Test.YtnlbnjdfkbhkhaaOb
import Derived.BigRegion
namespace Go.Proofs.Ytnlbnjdfkbhkhaa
open Go.RowKit

/-- All that lay at V's end lies there still. -/
def Kb (V : World) (w : World) : Prop := Below V.heap.size V w
set_option maxHeartbeats 1600000 in
theorem counted_no (x0 x1 x2 c s d x6 x7 h k l i : Int) (w : World) (hc : 1 ≤ c ∧ c ≤ 100000) (hs : -1000000000000 ≤ s ∧ s ≤ 1000000000000) (hi : -1000000 ≤ i ∧ i ≤ 1000000) : Calls Try.prog 38 #[mergedV x0 x1 x2 c s d x6 x7, obsV h k l i] w fun e w' => e = .returned (mergedV x0 x1 x2 (c + 1) (s + i) d (min x6 i) (max x7 i)) ∧ Below w.heap.size w w' := by
  have hc0 : ¬ c = 0 := by omega
  have w1 : IntKind.i64.wrap (c + 1) = c + 1 := by rw [IntKind.wrap_i64]; omega
  have w2 : IntKind.i64.wrap (s + i) = s + i := by rw [IntKind.wrap_i64]; omega
  have e1 : i < x6 → min x6 i = i := fun h => by omega
  have e2 : x6 ≤ i → min x6 i = x6 := fun h => by omega
  have e3 : x7 < i → max x7 i = i := fun h => by omega
  have e4 : i ≤ x7 → max x7 i = x7 := fun h => by omega
  obtain ⟨mi, hmi⟩ : ∃ mi, min x6 i = mi := ⟨_, rfl⟩
  obtain ⟨ma, hma⟩ : ∃ ma, max x7 i = ma := ⟨_, rfl⟩
  rw [hmi] at e1 e2 ⊢
  rw [hma] at e3 e4 ⊢
  have E1 : Hid (i < x6 → mi = i) := e1
  have E2 : Hid (x6 ≤ i → mi = x6) := e2
  have E3 : Hid (x7 < i → ma = i) := e3
  have E4 : Hid (i ≤ x7 → ma = x7) := e4
  clear hmi hma e1 e2 e3 e4
  go_enter Try.func38, Try.ntmps38
  go_wp2
  all_goals
    refine bodyPost_ret (v := mergedV x0 x1 x2 (c + 1) (s + i) d mi ma) ?_ rfl ⟨rfl, (below_alloc _ _).trans (((below_alloc _ _).trans ((below_alloc _ _).mono (by simp))).mono (by simp))⟩
  · rw [E1.out (by assumption), E3.out (by assumption)]; simp [results, Try.results38, go_sem]
  · rw [E1.out (by assumption), E4.out (by assumption)]; simp [results, Try.results38, go_sem]
  · rw [E2.out (by assumption), E3.out (by assumption)]; simp [results, Try.results38, go_sem]
  · rw [E2.out (by assumption), E4.out (by assumption)]; simp [results, Try.results38, go_sem]
set_option maxHeartbeats 1600000 in
theorem counted_new (x0 x1 x2 s d x6 x7 h k l i : Int) (w : World) (hi : -1000000 ≤ i ∧ i ≤ 1000000) : Calls Try.prog 38 #[mergedV x0 x1 x2 0 s d x6 x7, obsV h k l i] w fun e w' => e = .returned (mergedV h k l 1 i 0 i i) ∧ Below w.heap.size w w' := by
  have w2 : IntKind.i64.wrap (0 + i) = i := by rw [IntKind.wrap_i64]; omega
  go_enter Try.func38, Try.ntmps38
  go_wp2
  all_goals
    exact bodyPost_ret (v := mergedV h k l 1 i 0 i i) (by simp [results, Try.results38, go_sem]) rfl ⟨rfl, (below_alloc _ _).trans (((below_alloc _ _).trans ((below_alloc _ _).mono (by simp))).mono (by simp))⟩
theorem counted_any (x0 x1 x2 c s d x6 x7 h k l i : Int) (w : World) (hc : 0 ≤ c ∧ c ≤ 100000) (h0 : c = 0 → s = 0 ∧ d = 0) (hs : -1000000000000 ≤ s ∧ s ≤ 1000000000000) (hi : -1000000 ≤ i ∧ i ≤ 1000000) : Calls Try.prog 38 #[mergedV x0 x1 x2 c s d x6 x7, obsV h k l i] w fun e w' => (∃ y0 y1 y2 y6 y7, e = .returned (mergedV y0 y1 y2 (c + 1) (s + i) d y6 y7)) ∧ Below w.heap.size w w' := by
  by_cases e : c = 0
  · obtain ⟨rfl, rfl⟩ := h0 e
    subst e
    refine (counted_new x0 x1 x2 0 0 x6 x7 h k l i w hi).mono ?_
    rintro e w' ⟨rfl, b⟩
    exact ⟨⟨h, k, l, i, i, by simp⟩, b⟩
  · refine (counted_no x0 x1 x2 c s d x6 x7 h k l i w (by omega) hs hi).mono ?_
    rintro e w' ⟨rfl, b⟩
    exact ⟨⟨_, _, _, _, _, rfl⟩, b⟩
theorem off_any (x0 x1 x2 c s d x6 x7 h k l i : Int) (w : World) (hc : 0 ≤ c ∧ c ≤ 100000) (hs : -100000000000 ≤ s ∧ s ≤ 100000000000) (hi : -1000000 ≤ i ∧ i ≤ 1000000) : Calls Try.prog 39 #[mergedV x0 x1 x2 c s d x6 x7, obsV h k l i] w fun e w' => e = .returned (.int .i64 (mag (c * i - s))) ∧ Below w.heap.size w w' := by
  have hp : -(100000 * 1000000) ≤ c * i ∧ c * i ≤ 100000 * 1000000 := by
    have h1 : (c * i).natAbs ≤ 100000 * 1000000 := by
      rw [Int.natAbs_mul]
      exact Nat.mul_le_mul (by omega) (by omega)
    omega
  obtain ⟨X, hX⟩ : ∃ X, c * i = X := ⟨_, rfl⟩
  rw [hX] at hp ⊢
  have w1 : IntKind.i64.wrap (c * i) = X := by rw [hX, IntKind.wrap_i64]; omega
  obtain ⟨V, hV, a1, a2, b1, -⟩ := bx2 w 42 52 #[.int .i64 x0, .int .i64 x1, .int .i64 x2, .int .i64 c, .int .i64 s, .int .i64 d, .int .i64 x6, .int .i64 x7] #[.int .i64 h, .int .i64 k, .int .i64 l, .int .i64 i]
  obtain ⟨d0, d1, d2, d3, d4, d5, d6, d7, lt1⟩ := Merged.box a1
  obtain ⟨q0, q1, q2, q3, lt2⟩ := Obs.box a2
  go_enter Try.func39, Try.ntmps39
  go_wp2_with (go_at_call 24; refine (mag_any _ _ (by omega)).mono ?_; rintro e w3 ⟨rfl, rfl⟩)
  go_ret
  exact ⟨rfl, b1⟩
set_option maxRecDepth 100000 in
set_option maxHeartbeats 1600000 in
theorem numbers_any {w : World} {g n c : Nat} (hn : n ≤ 60) :
    Calls Try.prog 30 #[.slice (some ⟨g, 0, none⟩) n c] w fun e w' => ∃ v, e = .returned v ∧ Lst w' w.heap.size v (toI (List.range n)) ∧ Below w.heap.size w w' := by
  have hn' : (n : Int) ≤ 60 := by omega
  obtain ⟨i0, hi0, hz0, hz1, hz2⟩ := info_parts infoInt
  obtain ⟨V, hV, A0, B, -⟩ := boxed w 2 #[]
  have R : Lst V w.heap.size (.slice (some ⟨w.heap.size, 0, none⟩) 0 0) [] := Lst.start A0
  have hbs : ∀ w, (Instr.buildSlice 32 0 #[]).run Try.prog w = .ok (.slice (some ⟨w.heap.size, 0, none⟩) 0 0) (w.alloc (.cells #[] 2)) := fun _ => by kernel_rfl
  go_enter Try.func30, Try.ntmps30
  go_wp2
  go_loopw [3, 8] (fun s t wr => ∃ k : Nat, k ≤ n ∧ t = .int .i64 (k : Int) ∧ Lst wr w.heap.size s (toI (List.range k)) ∧ Below w.heap.size w wr) (fun _ t _ => n - (intOf t).toNat)
  case atStart => exact ⟨0, Nat.zero_le _, rfl, R, B⟩
  case round =>
    clear R B A0 hV
    obtain ⟨k, hk', rfl, R, B⟩ := hrel
    by_cases hk : k < n
    · have hklt : (k : Int) < (n : Int) := by omega
      obtain ⟨V9, hV9, A9, b10, -⟩ := boxed wr 2 #[.int .i64 (k : Int)]
      have R9 := R.below b10
      have B9 := B.trans (b10.mono B.size)
      obtain ⟨g9, hg9⟩ : ∃ g, wr.heap.size = g := ⟨_, rfl⟩
      rw [hg9] at A9
      have hb2 : ∀ w, (Instr.buildSlice 32 1 #[(0, .int .i64 (k : Int))]).run Try.prog w = .ok (.slice (some ⟨w.heap.size, 0, none⟩) 1 1) (w.alloc (.cells #[.int .i64 (k : Int)] 2)) := fun _ => by kernel_rfl
      obtain ⟨m, hm⟩ : ∃ m, (toI (List.range k)).length = m := ⟨_, rfl⟩
      have hmk : m = k := by rw [← hm, toI_len]; simp
      have hown := R9.own
      rw [hm] at hown
      have hz9 := B9.size
      have HR : Hid (toI (List.range (k + 1)) = toI (List.range k) ++ [(k : Int)]) := by simp [toI, List.range_succ, Hid]
      clear b10
      go_wp2_with (at_builtin; refine wpList_append_own_at _ rfl _ _ _ rfl w.heap.size 2 i0 _ 1 8 Try.underlying32 hi0 hz0 hz1 hz2 rfl (by omega) u3 m (lCells (toI (List.range k))) rfl hown ⟨g9, 0, none⟩ 1 1 (lCells [(k : Int)]) rfl rfl (news1 A9) (lCells_one _) (by unfold maxLen; omega) (by omega) (by omega) ?_; intro v2 w3 hown2 hgrow2 hne2 hat2)
      rw [← hm] at hown2
      have R2 := R9.grown hown2 hne2
      have B2 := grown_below B9 hgrow2 hz9 (fun j hj => (R9.ge hj).1)
      rw [← HR.out] at R2
      exact ⟨⟨k + 1, by omega, by go_num, R2, B2⟩, by simp [intOf]; omega⟩
    · have hklt : ¬ (k : Int) < (n : Int) := by omega
      obtain rfl : k = n := by omega
      go_wp2
      exact bodyPost_ret (v := u3) (by simp [results, Try.results30, go_sem]) rfl ⟨_, rfl, R, B⟩
end Go.Proofs.Ytnlbnjdfkbhkhaa
