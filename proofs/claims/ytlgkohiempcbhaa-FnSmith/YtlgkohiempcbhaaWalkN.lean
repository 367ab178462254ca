/-
  Smith, the program's and the specification's; lists marked and held, walked.
-/
import Derived.Test.YtlgkohiempcbhaaWalkM
namespace Go.Proofs.Ytlgkohiempcbhaa
open Go.RowKit

/-- Marks are written into a list of one's own. -/
theorem mark_any {w : World} {g n cap : Nat} {f : Nat → Int} (h : Own w g n f) (hn : n ≤ 1048576) :
    Calls Try.prog 30 #[.slice (some ⟨g, 0, none⟩) n cap, .int .i64 1] w fun e w' => e = .returned (.int .i64 (1 + n)) ∧ Own w' g n (fun i => 1 + i) ∧ Kept g w w' := by
  have hM : ∃ cur : Array Value, At 2 w g cur ∧ cur.size = n ∧ ∀ i, i < 0 → cur[i]? = some (.int .i64 ((fun i : Nat => (1 : Int) + i) i)) := by
    obtain ⟨cur, h1, h2, -⟩ := h
    exact ⟨cur, h1, h2, fun i hi => by omega⟩
  have m0 : Made w g n 0 (fun i => 1 + i) := hM
  clear hM h
  go_enter Try.func30, Try.ntmps30
  go_wp2
  go_loopw [1, 5] (fun s t wr => ∃ k : Nat, k ≤ n ∧ s = .int .i64 (1 + k) ∧ t = .int .i64 k ∧ Made wr g n k (fun i => 1 + i) ∧ Kept g w wr) (fun _ t _ => n - (intOf t).toNat)
  case atStart => exact ⟨0, Nat.zero_le _, rfl, rfl, m0, Kept.refl _ _⟩
  case round =>
    clear m0
    obtain ⟨k, hk, rfl, rfl, hm, hK⟩ := hrel
    by_cases hlt : k < n
    · have hlt' : (k : Int) < (n : Int) := by omega
      have hn' : (n : Int) ≤ 1048576 := by omega
      obtain ⟨z0, y0⟩ := hm.open hlt
      have HM : Hid (Made wr g n k (fun i => 1 + i)) := hm
      clear hm
      go_wp2
      refine ⟨⟨k + 1, by omega, by go_num, by go_num, HM.out.set hlt, hK.set _⟩, by simp [intOf]; omega⟩
    · have hlt' : ¬ (k : Int) < (n : Int) := by omega
      obtain rfl : k = n := by omega
      go_wp2
      go_ret
      exact ⟨rfl, hm, hK⟩
theorem held_any {w : World} {g n cap : Nat} (h : Own w g n (fun i => 1 + i)) (hn : n ≤ 1048576) :
    Calls Try.prog 31 #[.slice (some ⟨g, 0, none⟩) n cap, .int .i64 1] w fun e w' => e = .returned (.int .i64 (1 + n)) ∧ Below w.heap.size w w' := by
  go_enter Try.func31, Try.ntmps31
  go_wp2
  go_loopw [1, 5] (fun s t wr => ∃ k : Nat, k ≤ n ∧ s = .int .i64 (1 + k) ∧ t = .int .i64 k ∧ Below w.heap.size w wr) (fun _ t _ => n - (intOf t).toNat)
  case atStart => exact ⟨0, Nat.zero_le _, rfl, rfl, Below.refl _ _⟩
  case round =>
    obtain ⟨k, hk, rfl, rfl, bW⟩ := hrel
    by_cases hlt : k < n
    · have hlt' : (k : Int) < (n : Int) := by omega
      have hn' : (n : Int) ≤ 1048576 := by omega
      have c0 := (h.below bW).row k hlt
      rw [Nat.zero_add] at c0
      go_wp2
      exact ⟨⟨k + 1, by omega, by go_num, by go_num, bW⟩, by simp [intOf]; omega⟩
    · have hlt' : ¬ (k : Int) < (n : Int) := by omega
      obtain rfl : k = n := by omega
      go_wp2
      go_ret
      exact ⟨rfl, bW⟩
/-- The three numbers. -/
def smf (f : Nat → Int) (i : Nat) : Int :=
  match i with
  | 0 => gAll f 9
  | 1 => gAll (adj f) 9 / gAll f 9
  | _ => mag (det3 f) / gAll (adj f) 9
def smc (n : Nat) (f : Nat → Int) : Nat := if detOf n f = 0 then 0 else 3
theorem At.ints {t : TypeId} {w : World} {q : Nat} {m : Nat → Int} (h : At t w q (matA m)) : Ints w q 0 9 m := fun i hi => by rw [Nat.zero_add]; exact h.cell i (matA_get m i hi)
set_option maxHeartbeats 1600000 in
theorem implSmith_any {w : World} {a : Option Addr} {n cap : Nat} {f : Nat → Int} (hs : Src w a n f) :
    Calls Try.prog 19 #[.slice a n cap] w fun e w' => ∃ g, e = .returned (.slice (some ⟨g, 0, none⟩) (smc n f) (smc n f)) ∧ w.heap.size ≤ g ∧ Own w' g (smc n f) (smf f) ∧ Below w.heap.size w w' := by
  obtain ⟨m, hmd⟩ : ∃ m, matOf n f = m := ⟨_, rfl⟩
  have hm : ∀ i, i < 9 → -1000 ≤ m i ∧ m i ≤ 1000 := by rw [← hmd]; exact matOf_bound n f
  have hdm : det3 m = detOf n f := by rw [← hmd]; exact det3_matOf n f
  have hmat : Calls Try.prog 39 #[.slice a n cap] w fun e w' => e = .returned (.agg (matA m)) ∧ Below w.heap.size w w' := by
    have h := matrixOf_any (cap := cap) hs
    rwa [hmd] at h
  have hdet : ∀ w, Calls Try.prog 40 #[.agg (matA m)] w fun e w' => e = .returned (.int .i64 (det3 m)) ∧ Below w.heap.size w w' := det_any hm
  have hadj : ∀ w, Calls Try.prog 49 #[.agg (matA m)] w fun e w' => e = .returned (.agg (matA (adj m))) ∧ Below w.heap.size w w' := adj_any hm
  have hdb := det_bound hm
  have hdb' : -1000000000000000 ≤ det3 m ∧ det3 m ≤ 1000000000000000 := by omega
  clear hs
  unfold matA at hmat hdet hadj
  by_cases h0 : detOf n f = 0
  · rw [smc, if_pos h0]
    go_enter Try.func19, Try.ntmps19
    go_wp2_with (first
      | (go_at_call 39; refine hmat.mono ?_; rintro e w1 ⟨rfl, b1⟩; obtain ⟨W1, hW1, a1, c1, -⟩ := boxed w1 54 (matA m); unfold matA at hW1; obtain ⟨⟨x0, x1, x2, x3, x4, x5, x6, x7, x8⟩, -⟩ := a1.open9)
      | (go_at_call 40; refine (hdet _).mono ?_; rintro e w2 ⟨rfl, b2⟩)
      | (go_at_call 45; refine (mag_any 0 _ ⟨by decide, by decide⟩).mono ?_; rintro e w3 ⟨rfl, rfl⟩; rw [show mag 0 = 0 from rfl]))
    go_ret
    have q1 := b1.trans (c1.mono b1.size)
    have q2 := q1.trans (b2.mono q1.size)
    exact ⟨w2.heap.size, rfl, q2.size, ⟨_, at_new 2 w2 _, rfl, fun i hi => by omega⟩, q2.trans ((below_alloc _ _).mono q2.size)⟩
  · rw [smc, if_neg h0]
    have hM := isM_of_det h0
    have hmf : m = f := by rw [← hmd, matOf, if_pos hM]
    have hd0 : det3 m ≠ 0 := by rw [hdm]; exact h0
    obtain ⟨p1, p2⟩ := two_pos hd0
    have hg1 := gAll_le (M := 1000) (by decide) 9 hm 9 (Nat.le_refl _)
    have hg0 := gAll_nonneg m 9
    have hh1 := gAll_le (f := adj m) (M := 2000000) (by decide) 9 (fun i _ => adj_bound hm i) 9 (Nat.le_refl _)
    have hh0 := gAll_nonneg (adj m) 9
    have hc1 : Hid (∀ w g, At 54 w g (matA m) → Calls Try.prog 50 #[.slice (some ⟨g, 0, none⟩) 9 9] w fun e w' => e = .returned (.int .i64 (gAll m 9)) ∧ Below w.heap.size w w') := fun w g h => gcdAll_any (M := 1000) ⟨by decide, by decide⟩ hm h.ints h.lt
    have hc2 : Hid (∀ w g, At 54 w g (matA (adj m)) → Calls Try.prog 50 #[.slice (some ⟨g, 0, none⟩) 9 9] w fun e w' => e = .returned (.int .i64 (gAll (adj m) 9)) ∧ Below w.heap.size w w') := fun w g h => gcdAll_any (M := 2000000) ⟨by decide, by decide⟩ (fun i _ => adj_bound hm i) h.ints h.lt
    have hmg : 0 ≤ mag (det3 m) ∧ mag (det3 m) ≤ 6000000000 := by rw [mag_eq]; omega
    have hmz : ¬ mag (det3 m) = 0 := by rw [mag_eq]; omega
    subst hmf
    clear hmd hdm hm h0 hM
    obtain ⟨G1, hG1⟩ : ∃ G, gAll m 9 = G := ⟨_, rfl⟩
    obtain ⟨G2, hG2⟩ : ∃ G, gAll (adj m) 9 = G := ⟨_, rfl⟩
    obtain ⟨D, hD⟩ : ∃ D, mag (det3 m) = D := ⟨_, rfl⟩
    have HV : Hid (gAll m 9 = G1 ∧ gAll (adj m) 9 = G2 ∧ mag (det3 m) = D) := ⟨hG1, hG2, hD⟩
    rw [hG1] at p1 hg1 hg0 hc1
    rw [hG2] at p2 hh1 hh0 hc2
    rw [hD] at hmg hmz
    have hbeq : (D == 0) = false := by simpa using hmz
    clear hG1 hG2 hd0
    obtain ⟨d, hd⟩ : ∃ d, adj m = d := ⟨_, rfl⟩
    rw [hd] at hadj hc2
    go_enter Try.func19, Try.ntmps19
    go_wp2_with (first
      | (go_at_call 39; refine hmat.mono ?_; rintro e w1 ⟨rfl, b1⟩; obtain ⟨W1, hW1, a1, c1, -⟩ := boxed w1 54 (matA m); unfold matA at hW1; replace b1 := b1.trans (c1.mono b1.size); obtain ⟨g1, hg1'⟩ : ∃ g, w1.heap.size = g := ⟨_, rfl⟩; rw [hg1'] at a1; obtain ⟨⟨x0, x1, x2, x3, x4, x5, x6, x7, x8⟩, -⟩ := a1.open9)
      | (go_at_call 40; refine (hdet _).mono ?_; rintro e w2 ⟨rfl, b2⟩; replace b1 := b1.trans (b2.mono b1.size); replace a1 := a1.below b2; obtain ⟨⟨x0, x1, x2, x3, x4, x5, x6, x7, x8⟩, -⟩ := a1.open9)
      | (go_at_call 45; refine (mag_any _ _ hdb').mono ?_; rintro e w3 ⟨rfl, rfl⟩; rw [hD])
      | (go_at_call 49; refine (hadj _).mono ?_; rintro e w4 ⟨rfl, b4⟩; replace b1 := b1.trans (b4.mono b1.size); replace a1 := a1.below b4; obtain ⟨W5, hW5, a5, c5, -⟩ := boxed w4 54 (matA d); unfold matA at hW5; replace b1 := b1.trans (c5.mono b1.size); replace a1 := a1.below c5; obtain ⟨g5, hg5⟩ : ∃ g, w4.heap.size = g := ⟨_, rfl⟩; rw [hg5] at a5; clear x0 x1 x2 x3 x4 x5 x6 x7 x8))
    go_region_with (first
      | (go_at_call_of 50 (g1); refine (hc1.out _ _ (At.belowN (n := W5.heap.size) a1 (Below.refl _ _).drew a1.lt)).mono ?_; rintro e w6 ⟨rfl, b6⟩; have a7 : At 54 w6 g5 (matA d) := At.below (w := W5.drew) a5 b6)
      | (go_at_call_of 50 (g5); refine (hc2.out _ _ a7).mono ?_; rintro e w8 ⟨rfl, b8⟩))
    all_goals
      have q1 : Below w.heap.size w w6 := b1.drew.trans (b6.mono b1.size)
      have q2 := q1.trans (b8.mono q1.size)
      clear b6 b8 a7 a1 a5 hc1 hc2 hadj hdet hmat
      go_wp2
      go_region
      all_goals
        go_wp2
        go_ret
        refine ⟨w8.heap.size, rfl, q2.size, ⟨_, at_new 2 w8 _, rfl, fun i hi => ?_⟩, (q2.trans ((below_alloc _ _).mono q2.size)).drew⟩
        rw [IntWalk.i64_quo _ _ ⟨hh0, by omega, by omega⟩, IntWalk.i64_quo _ _ ⟨hmg.1, by omega, by omega⟩]
        obtain ⟨v1, v2, v3⟩ := HV.out
        rcases (by omega : i = 0 ∨ i = 1 ∨ i = 2) with rfl | rfl | rfl
        · show some (Value.int IntKind.i64 G1) = some (.int .i64 (gAll m 9)); rw [v1]
        · show some (Value.int IntKind.i64 (G2 / G1)) = some (.int .i64 (gAll (adj m) 9 / gAll m 9)); rw [v1, v2]
        · show some (Value.int IntKind.i64 (D / G2)) = some (.int .i64 (mag (det3 m) / gAll (adj m) 9)); rw [v2, v3]
end Go.Proofs.Ytlgkohiempcbhaa
