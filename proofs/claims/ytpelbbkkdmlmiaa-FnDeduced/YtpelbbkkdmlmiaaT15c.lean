/-
  Pairs that add up, by the specification: walked.
-/
import Derived.Test.YtpelbbkkdmlmiaaT15b
namespace Go.Proofs.Ytpelbbkkdmlmiaa
open Go.RowKit

theorem cs_start (p : Nat → Bool) (i : Nat) : cs (fun k => decide (i < k) && p k) (i + 1) = 0 := cs_none _ _ fun k hk => by simp; omega
theorem adds_iff (f : Nat → Int) (a b c : Int) (i k : Nat) : adds f a b c i k = true ↔ f (i * 4) + f (k * 4) = a ∧ f (i * 4 + 1) + f (k * 4 + 1) = b ∧ f (i * 4 + 2) + f (k * 4 + 2) = c := by
  unfold adds
  rw [decide_eq_true_eq]
  omega
set_option maxRecDepth 100000 in
set_option maxHeartbeats 3200000 in
theorem specPairs_any {w : World} {g n cap : Nat} {f : Nat → Int} (a b c : Int) (h : Recs 4 w g n f) (ok : SgOk n f) :
    Calls Try.prog 27 #[.slice (some ⟨g, 0, none⟩) n cap, hV a b c] w fun e w' => e = .returned (.tuple #[.int .i64 (pl f n a b c : Int), .int .i64 (mi f n a b c : Int)]) ∧ Below w.heap.size w w' := by
  have hn60 := ok.1
  have hn' : (n : Int) ≤ 60 := by omega
  obtain ⟨W1, hW1, a1, B1, -⟩ := boxed w 33 #[.int .i64 a, .int .i64 b, .int .i64 c]
  have h1 := h.below B1
  have hg := h.1
  obtain ⟨q, hq⟩ : ∃ q, w.heap.size = q := ⟨_, rfl⟩
  have hgq : g < q := by omega
  have hqs : Hid (w.heap.size = q) := hq
  rw [hq] at a1
  clear h
  go_enter Try.func27, Try.ntmps27
  go_wp2
  clear hq hW1
  go_loopw [6, 7, 8] (fun s t u wr => ∃ i : Nat, i ≤ n ∧ s = .int .i64 (es (pP f a b c) n i : Int) ∧ t = .int .i64 (es (pM f a b c) n i : Int) ∧ u = .int .i64 (i : Int) ∧ At 33 wr q #[.int .i64 a, .int .i64 b, .int .i64 c] ∧ Recs 4 wr g n f ∧ Below w.heap.size w wr) (fun _ _ u _ => n - (intOf u).toNat)
  case atStart => exact ⟨0, Nat.zero_le _, rfl, rfl, rfl, a1, h1, B1⟩
  case round =>
    clear a1 h1 B1
    obtain ⟨i, hi, rfl, rfl, rfl, a1, h1, B1⟩ := hrel
    by_cases hin : i < n
    · have hin' : (i : Int) < (n : Int) := by omega
      go_wp2
      obtain ⟨X, hX⟩ : ∃ X, es (pP f a b c) n i = X := ⟨_, rfl⟩
      obtain ⟨Y, hY⟩ : ∃ Y, es (pM f a b c) n i = Y := ⟨_, rfl⟩
      have HX : Hid (es (pP f a b c) n i = X) := hX
      have HY : Hid (es (pM f a b c) n i = Y) := hY
      have bX : X ≤ 3600 := by rw [← hX]; exact Nat.le_trans (es_le _ _ _) (Nat.mul_le_mul (Nat.le_trans hi hn60) hn60)
      have bY : Y ≤ 3600 := by rw [← hY]; exact Nat.le_trans (es_le _ _ _) (Nat.mul_le_mul (Nat.le_trans hi hn60) hn60)
      rw [hX, hY]
      clear hX hY
      go_loopw [6, 7, 9] (fun s t u wr => ∃ k : Nat, i + 1 ≤ k ∧ k ≤ n ∧ s = .int .i64 ((X + cs (fun k => decide (i < k) && pP f a b c i k) k : Nat) : Int) ∧ t = .int .i64 ((Y + cs (fun k => decide (i < k) && pM f a b c i k) k : Nat) : Int) ∧ u = .int .i64 (k : Int) ∧ At 33 wr q #[.int .i64 a, .int .i64 b, .int .i64 c] ∧ Recs 4 wr g n f ∧ Below w.heap.size w wr) (fun _ _ u _ => n - (intOf u).toNat)
      case atStart => exact ⟨i + 1, Nat.le_refl _, hin, by rw [cs_start, Nat.add_zero], by rw [cs_start, Nat.add_zero], by go_num, a1, h1, B1⟩
      case round =>
        clear a1 h1 B1
        obtain ⟨k, hik, hk, rfl, rfl, rfl, a1, h1, B1⟩ := hrel
        have e1 : ∀ p : Nat → Nat → Bool, cs (fun k => decide (i < k) && p i k) (k + 1) = cs (fun k => decide (i < k) && p i k) k + if p i k then 1 else 0 := fun p => by
          have : i < k := by omega
          simp only [cs, this, decide_true, Bool.true_and]
        have E1 := e1 (pP f a b c)
        have E2 := e1 (pM f a b c)
        clear e1
        have b1 := cs_le (fun k => decide (i < k) && pP f a b c i k) k
        have b2 := cs_le (fun k => decide (i < k) && pM f a b c i k) k
        obtain ⟨X2, hX2⟩ : ∃ X2, cs (fun k => decide (i < k) && pP f a b c i k) k = X2 := ⟨_, rfl⟩
        obtain ⟨Y2, hY2⟩ : ∃ Y2, cs (fun k => decide (i < k) && pM f a b c i k) k = Y2 := ⟨_, rfl⟩
        rw [hX2] at E1 b1 ⊢
        rw [hY2] at E2 b2 ⊢
        by_cases hkn : k < n
        · have hkn' : (k : Int) < (n : Int) := by omega
          obtain ⟨⟨p1, p2⟩, ⟨p3, p4⟩, p5, p6⟩ := ok.hk hin
          obtain ⟨⟨q1, q2⟩, ⟨q3, q4⟩, q5, q6⟩ := ok.hk hkn
          obtain ⟨c0, c1, c2, c3⟩ := Signed3.open h1 i hin
          obtain ⟨d0, d1, d2, d3⟩ := Signed3.open h1 k hkn
          have AI := adds_iff f a b c i k
          obtain ⟨x0, hx0⟩ : ∃ x, f (i * 4) = x := ⟨_, rfl⟩
          obtain ⟨x1, hx1⟩ : ∃ x, f (i * 4 + 1) = x := ⟨_, rfl⟩
          obtain ⟨x2, hx2⟩ : ∃ x, f (i * 4 + 2) = x := ⟨_, rfl⟩
          obtain ⟨x3, hx3⟩ : ∃ x, f (i * 4 + 3) = x := ⟨_, rfl⟩
          obtain ⟨y0, hy0⟩ : ∃ x, f (k * 4) = x := ⟨_, rfl⟩
          obtain ⟨y1, hy1⟩ : ∃ x, f (k * 4 + 1) = x := ⟨_, rfl⟩
          obtain ⟨y2, hy2⟩ : ∃ x, f (k * 4 + 2) = x := ⟨_, rfl⟩
          obtain ⟨y3, hy3⟩ : ∃ x, f (k * 4 + 3) = x := ⟨_, rfl⟩
          have EP : pP f a b c i k = (adds f a b c i k && decide (y3 = x3)) := by unfold pP alik; rw [hx3, hy3]
          have EM : pM f a b c i k = (adds f a b c i k && !decide (y3 = x3)) := by unfold pM alik; rw [hx3, hy3]
          rw [EP] at E1
          rw [EM] at E2
          rw [hx0, hx1, hx2, hy0, hy1, hy2] at AI
          rw [hx0] at p1 p2 c0
          rw [hx1] at p3 p4 c1
          rw [hx2] at p5 p6 c2
          rw [hx3] at c3
          rw [hy0] at q1 q2 d0
          rw [hy1] at q3 q4 d1
          rw [hy2] at q5 q6 d2
          rw [hy3] at d3
          clear hx0 hx1 hx2 hx3 hy0 hy1 hy2 hy3 EP EM
          obtain ⟨V1, hV1, m1, bb1, s1⟩ := boxed wr 49 #[.int .i64 x0, .int .i64 x1, .int .i64 x2, .int .i64 x3]
          obtain ⟨V2, hV2, m2, bb2, s2⟩ := boxed V1 49 #[.int .i64 y0, .int .i64 y1, .int .i64 y2, .int .i64 y3]
          obtain ⟨ad, had⟩ : ∃ ad, adds f a b c i k = ad := ⟨_, rfl⟩
          rw [had] at E1 E2 AI
          clear had
          replace d0 := (bb1.cell (p := ⟨g, k * 4, none⟩) h1.1).trans d0
          replace d1 := (bb1.cell (p := ⟨g, k * 4 + 1, none⟩) h1.1).trans d1
          replace d2 := (bb1.cell (p := ⟨g, k * 4 + 2, none⟩) h1.1).trans d2
          replace d3 := (bb1.cell (p := ⟨g, k * 4 + 3, none⟩) h1.1).trans d3
          have h2 := (h1.below bb1).below bb2
          have a2 := (a1.below bb1).below bb2
          have B2 := (B1.trans (bb1.mono B1.size)).trans (bb2.mono (Nat.le_trans B1.size bb1.size))
          have m1' := m1.below bb2
          have l1 : wr.heap.size < V1.heap.size := by omega
          obtain ⟨r1, hr1⟩ : ∃ r, V1.heap.size = r := ⟨_, rfl⟩
          rw [hr1] at m2 l1
          obtain ⟨g0, g1, g2, g3, -⟩ := Signed3.box m1'
          obtain ⟨k0, k1, k2, k3, -⟩ := Signed3.box m2
          obtain ⟨j0, j1, j2, -⟩ := a2.open3
          clear bb1 bb2 s1 s2 m1 m2 m1' a1 h1 B1 l1
          have bnd : X + X2 ≤ 4000 ∧ Y + Y2 ≤ 4000 := by omega
          by_cases hA : x0 + y0 = a
          case neg =>
            have hA' : (x0 + y0 != a) = true := by simpa using hA
            obtain rfl : ad = false := by cases ad; rfl; exact absurd (AI.1 rfl).1 hA
            simp only [Bool.false_and, Bool.false_eq_true, if_false, Nat.add_zero] at E1 E2
            have H1 : Hid (cs (fun k => decide (i < k) && pP f a b c i k) (k + 1) = X2) := E1
            have H2 : Hid (cs (fun k => decide (i < k) && pM f a b c i k) (k + 1) = Y2) := E2
            clear AI E1 E2 hX2 hY2 hA
            go_wp2
            exact ⟨⟨k + 1, by omega, by omega, by rw [H1.out], by rw [H2.out], by go_num, a2, h2, B2⟩, by simp [intOf]; omega⟩
          have hA' : (x0 + y0 != a) = false := by simpa using hA
          by_cases hB : x1 + y1 = b
          case neg =>
            have hB' : (x1 + y1 != b) = true := by simpa using hB
            obtain rfl : ad = false := by cases ad; rfl; exact absurd (AI.1 rfl).2.1 hB
            simp only [Bool.false_and, Bool.false_eq_true, if_false, Nat.add_zero] at E1 E2
            have H1 : Hid (cs (fun k => decide (i < k) && pP f a b c i k) (k + 1) = X2) := E1
            have H2 : Hid (cs (fun k => decide (i < k) && pM f a b c i k) (k + 1) = Y2) := E2
            clear AI E1 E2 hX2 hY2 hA hB
            go_wp2
            exact ⟨⟨k + 1, by omega, by omega, by rw [H1.out], by rw [H2.out], by go_num, a2, h2, B2⟩, by simp [intOf]; omega⟩
          have hB' : (x1 + y1 != b) = false := by simpa using hB
          by_cases hC : x2 + y2 = c
          case neg =>
            have hC' : (x2 + y2 != c) = true := by simpa using hC
            obtain rfl : ad = false := by cases ad; rfl; exact absurd (AI.1 rfl).2.2 hC
            simp only [Bool.false_and, Bool.false_eq_true, if_false, Nat.add_zero] at E1 E2
            have H1 : Hid (cs (fun k => decide (i < k) && pP f a b c i k) (k + 1) = X2) := E1
            have H2 : Hid (cs (fun k => decide (i < k) && pM f a b c i k) (k + 1) = Y2) := E2
            clear AI E1 E2 hX2 hY2 hA hB hC
            go_wp2
            exact ⟨⟨k + 1, by omega, by omega, by rw [H1.out], by rw [H2.out], by go_num, a2, h2, B2⟩, by simp [intOf]; omega⟩
          have hC' : (x2 + y2 != c) = false := by simpa using hC
          obtain rfl : ad = true := AI.2 ⟨hA, hB, hC⟩
          by_cases hs : y3 = x3
          · have hs' : (x3 == y3) = true := by simp [hs]
            simp only [hs, Bool.true_and, decide_true, if_true, Bool.not_true, Bool.false_eq_true, if_false, Nat.add_zero] at E1 E2
            have H1 : Hid (cs (fun k => decide (i < k) && pP f a b c i k) (k + 1) = X2 + 1) := E1
            have H2 : Hid (cs (fun k => decide (i < k) && pM f a b c i k) (k + 1) = Y2) := E2
            clear AI E1 E2 hX2 hY2 hA hB hC hs
            go_wp2
            exact ⟨⟨k + 1, by omega, by omega, by rw [H1.out]; go_num, by rw [H2.out], by go_num, a2, h2, B2⟩, by simp [intOf]; omega⟩
          · have hs' : (x3 == y3) = false := by simpa using fun e => hs e.symm
            simp only [hs, Bool.true_and, decide_false, if_true, Bool.not_false, Bool.false_eq_true, if_false, Nat.add_zero] at E1 E2
            have H1 : Hid (cs (fun k => decide (i < k) && pP f a b c i k) (k + 1) = X2) := E1
            have H2 : Hid (cs (fun k => decide (i < k) && pM f a b c i k) (k + 1) = Y2 + 1) := E2
            clear AI E1 E2 hX2 hY2 hA hB hC hs
            go_wp2
            exact ⟨⟨k + 1, by omega, by omega, by rw [H1.out], by rw [H2.out]; go_num, by go_num, a2, h2, B2⟩, by simp [intOf]; omega⟩
        · have hkn' : ¬ (k : Int) < (n : Int) := by omega
          obtain rfl : k = n := by omega
          go_wp2
          refine ⟨⟨i + 1, by omega, ?_, ?_, by go_num, a1, h1, B1⟩, by simp [intOf]; omega⟩
          · rw [es, HX.out, hX2]
          · rw [es, HY.out, hY2]
    · have hin' : ¬ (i : Int) < (n : Int) := by omega
      obtain rfl : i = n := by omega
      rw [pl_es, mi_es]
      go_wp2
      exact bodyPost_ret (v := .tuple #[.int .i64 (pl f i a b c : Int), .int .i64 (mi f i a b c : Int)]) (by simp [results, Try.results27, go_sem]) rfl ⟨rfl, B1⟩
end Go.Proofs.Ytpelbbkkdmlmiaa
