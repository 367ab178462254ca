/-
  Which data are right: by the specification: walked.
-/
import Derived.Test.YtdhfoekfejcceaaD16e
import Derived.Lib.SlicesS
namespace Go.Proofs.Ytdhfoekfejcceaa
open Go.RowKit

/-- How many values the first k items have. -/
def tot (n : Nat → Nat) : Nat → Nat
  | 0 => 0
  | k + 1 => tot n k + n k
/-- Where loop j begins. -/
def atL (F : Nat) (lp : Nat → Int) : Nat → Nat
  | 0 => F
  | j + 1 => atL F lp j + (lp j).toNat
/-- The first F items are single, and no more. -/
def Fst (F N : Nat) (rw : Nat → Int) : Prop := F ≤ N ∧ (∀ i, i < F → rw i = -1) ∧ (F < N → rw F ≠ -1)
theorem Fst.one {F F' N : Nat} {rw : Nat → Int} (h : Fst F N rw) (h' : Fst F' N rw) : F = F' := by
  obtain ⟨a1, a2, a3⟩ := h
  obtain ⟨b1, b2, b3⟩ := h'
  rcases Nat.lt_trichotomy F F' with k | k | k
  · exact absurd (b2 F k) (a3 (by omega))
  · exact k
  · exact absurd (a2 F' k) (b3 (by omega))
/-- Loop j is as told. -/
def LpOk (N : Nat) (n : Nat → Nat) (rw : Nat → Int) (x : Nat) (l : Int) : Prop := 1 ≤ l ∧ l ≤ (N : Int) - x ∧ ∀ k, x ≤ k → k < x + l.toNat → 0 ≤ rw x ∧ rw k = rw x ∧ (n k : Int) = rw x
/-- Item i is as told, by itself and against those ahead of it. -/
def ItOk (nm : Nat → ByteArray) (n : Nat → Nat) (f : Nat → Nat → ByteArray) (i : Nat) : Prop := nmOk (nm i) ∧ tot n (i + 1) ≤ 4000 ∧ (∀ j, j < i → nm j ≠ nm i) ∧ ∀ k, k < n i → vlOk (f i k)
/-- A data that is right. -/
def DOk (s : ByteArray) (N M : Nat) (nm : Nat → ByteArray) (n : Nat → Nat) (rw : Nat → Int) (f : Nat → Nat → ByteArray) (lp : Nat → Int) : Prop :=
  nmOk s ∧ N ≤ 200 ∧ (∀ i, i < N → ItOk nm n f i) ∧ ∃ F, Fst F N rw ∧ (∀ i, i < F → n i = 1) ∧ (∀ j, j < M → LpOk N n rw (atL F lp j) (lp j)) ∧ atL F lp M = N
theorem atL_ge {F : Nat} {lp : Nat → Int} : ∀ {j : Nat}, (∀ i, i < j → 1 ≤ lp i) → F + j ≤ atL F lp j
  | 0, _ => Nat.le_refl _
  | j + 1, h => by
    have h1 := atL_ge (F := F) (lp := lp) (j := j) (fun i hi => h i (by omega))
    have h2 := h j (by omega)
    show F + (j + 1) ≤ atL F lp j + (lp j).toNat
    omega
theorem DOk.m {s : ByteArray} {N M : Nat} {nm : Nat → ByteArray} {n : Nat → Nat} {rw : Nat → Int} {f : Nat → Nat → ByteArray} {lp : Nat → Int} (h : DOk s N M nm n rw f lp) : M ≤ 200 := by
  obtain ⟨-, h1, -, F, h2, -, h3, h4⟩ := h
  have := atL_ge (F := F) (lp := lp) (j := M) (fun i hi => (h3 i hi).1)
  omega
theorem DOk.fst {s : ByteArray} {N M F : Nat} {nm : Nat → ByteArray} {n : Nat → Nat} {rw : Nat → Int} {f : Nat → Nat → ByteArray} {lp : Nat → Int} (h : DOk s N M nm n rw f lp) (hF : Fst F N rw) : (∀ i, i < F → n i = 1) ∧ (∀ j, j < M → LpOk N n rw (atL F lp j) (lp j)) ∧ atL F lp M = N := by
  obtain ⟨-, h1, -, F', h2, h3⟩ := h
  obtain rfl := h2.one hF
  exact h3
theorem no_of {b : Bool} {P : Prop} (hb : Hid (b = true ↔ P)) (h : ¬ P) : b = false := by
  cases b
  · rfl
  · exact absurd (hb.out.1 rfl) h
theorem iff_no {P : Prop} (h : false = true ↔ P) : ¬ P := fun k => by have := h.2 k; cases this
set_option maxRecDepth 100000 in
set_option maxHeartbeats 6400000 in
theorem specOk_any {w : World} {g N h M : Nat} {s : ByteArray} {vb : Nat → Nat} {nm : Nat → ByteArray} {n : Nat → Nat} {rw : Nat → Int} {f : Nat → Nat → ByteArray} {lp : Nat → Int} (D : DaO w g N h M vb nm n rw f lp) (hN : N ≤ 1048576) (hn : ∀ i, i < N → n i ≤ 1048576) (hM : M ≤ 1048576) (hl64 : ∀ j, j < M → -9223372036854775808 ≤ lp j ∧ lp j ≤ 9223372036854775807) (b : Bool) (hb : Hid (b = true ↔ DOk s N M nm n rw f lp)) :
    Calls Try.prog 7 #[dV s g N h M] w fun e w' => e = .returned (.bool b) ∧ Below w.heap.size w w' := by
  unfold dV
  obtain ⟨W1, hW1, a1, b1, -⟩ := boxed w 30 #[.string s, .slice (some ⟨g, 0, none⟩) N N, .slice (some ⟨h, 0, none⟩) M M]
  obtain ⟨q1, hq1⟩ : ∃ q, w.heap.size = q := ⟨_, rfl⟩
  rw [hq1] at a1
  replace D := D.below b1
  obtain ⟨c0, c1, c2, -⟩ := a1.open3
  have hN' : (N : Int) ≤ 1048576 := by omega
  have hM' : (M : Int) ≤ 1048576 := by omega
  obtain ⟨b0, hb0⟩ := bool_of (nmOk s)
  have S0 := fun w => sName_any s w b0 hb0
  cases b0
  · obtain rfl := no_of hb (fun k => iff_no hb0 k.1)
    clear hb0
    go_enter Try.func7, Try.ntmps7
    go_wp2_with (go_at_call 21; refine (S0 _).mono ?_; rintro e w2 ⟨rfl, rfl⟩)
    go_ret
    exact ⟨rfl, b1⟩
  have H0 : Hid (nmOk s) := hb0.1 rfl
  clear hb0
  by_cases hN2 : 200 < N
  · obtain rfl := no_of hb (fun k => by have := k.2.1; omega)
    have hN3 : (200 : Int) < (N : Int) := by omega
    go_enter Try.func7, Try.ntmps7
    go_wp2_with (go_at_call 21; refine (S0 _).mono ?_; rintro e w2 ⟨rfl, rfl⟩)
    go_ret
    exact ⟨rfl, b1⟩
  have hN3 : ¬ (200 : Int) < (N : Int) := by omega
  by_cases hM2 : 200 < M
  · obtain rfl := no_of hb (fun k => by have := k.m; omega)
    have hM3 : (200 : Int) < (M : Int) := by omega
    go_enter Try.func7, Try.ntmps7
    go_wp2_with (go_at_call 21; refine (S0 _).mono ?_; rintro e w2 ⟨rfl, rfl⟩)
    go_ret
    exact ⟨rfl, b1⟩
  have hM3 : ¬ (200 : Int) < (M : Int) := by omega
  go_enter Try.func7, Try.ntmps7
  go_wp2_with (go_at_call 21; refine (S0 _).mono ?_; rintro e w2 ⟨rfl, rfl⟩)
  clear hW1 hq1 c0 c1 c2 S0
  go_loopw [3, 4] (fun t u wr => ∃ i : Nat, i ≤ N ∧ t = .int .i64 (tot n i : Nat) ∧ u = .int .i64 (i : Int) ∧ tot n i ≤ 4000 ∧ (∀ j, j < i → ItOk nm n f j) ∧ At 30 wr q1 #[.string s, .slice (some ⟨g, 0, none⟩) N N, .slice (some ⟨h, 0, none⟩) M M] ∧ DaO wr g N h M vb nm n rw f lp ∧ Below w.heap.size w wr) (fun _ u _ => N - (intOf u).toNat)
  case atStart => exact ⟨0, Nat.zero_le _, rfl, rfl, Nat.zero_le _, fun j hj => by omega, a1, D, b1⟩
  case round =>
    clear a1 D b1
    obtain ⟨i, hi, rfl, rfl, ht, hall, A1, D, B⟩ := hrel
    have HA : Hid (∀ j, j < i → ItOk nm n f j) := hall
    clear hall
    obtain ⟨c0, c1, c2, -⟩ := A1.open3
    by_cases hlt : i < N
    · have hlt' : (i : Int) < (N : Int) := by omega
      obtain ⟨d0, d1, d2⟩ := D.it.at hlt
      have hni := hn i hlt
      have hni' : (n i : Int) ≤ 1048576 := by omega
      obtain ⟨V1, hV1, m1, bb1, -⟩ := boxed wr 46 #[.string (nm i), .slice (some ⟨vb i, 0, none⟩) (n i) (n i), .int .i64 (rw i)]
      obtain ⟨r1, hr1⟩ : ∃ r, wr.heap.size = r := ⟨_, rfl⟩
      rw [hr1] at m1
      obtain ⟨x0, x1, x2, -⟩ := m1.open3
      replace A1 := A1.below bb1
      replace D := D.below bb1
      replace B := B.trans (bb1.mono B.size)
      obtain ⟨T, hT⟩ : ∃ T, tot n (i + 1) = T := ⟨_, rfl⟩
      have hT' : ((tot n i : Nat) : Int) + (n i : Int) = (T : Int) := by have : tot n (i + 1) = tot n i + n i := rfl; omega
      have hTb : (T : Int) ≤ 2000000 := by omega
      have HT : Hid (tot n (i + 1) = T) := hT
      clear hT
      obtain ⟨y1, hy1⟩ := bool_of (nmOk (nm i))
      have S1 := fun w => sName_any (nm i) w y1 hy1
      cases y1
      · obtain rfl := no_of hb (fun k => iff_no hy1 (k.2.2.1 i hlt).1)
        clear hy1
        go_wp2_with (go_at_call 21; refine (S1 _).mono ?_; rintro e w2 ⟨rfl, rfl⟩)
        go_ret
        exact ⟨rfl, B⟩
      have H1 : Hid (nmOk (nm i)) := hy1.1 rfl
      clear hy1
      by_cases hT4 : 4000 < T
      · obtain rfl := no_of hb (fun k => by have := (k.2.2.1 i hlt).2.1; rw [HT.out] at this; omega)
        have hT5 : (4000 : Int) < (T : Int) := by omega
        go_wp2_with (go_at_call 21; refine (S1 _).mono ?_; rintro e w2 ⟨rfl, rfl⟩)
        go_ret
        exact ⟨rfl, B⟩
      have hT5 : ¬ (4000 : Int) < (T : Int) := by omega
      go_wp2_with (go_at_call 21; refine (S1 _).mono ?_; rintro e w2 ⟨rfl, rfl⟩)
      clear hV1 hr1 bb1 c0 c1 c2 d0 d1 d2 x0 x1 x2 S1
      go_loopw [6] (fun u wr => ∃ k : Nat, k ≤ i ∧ u = .int .i64 (k : Int) ∧ (∀ j, j < k → nm j ≠ nm i) ∧ At 30 wr q1 #[.string s, .slice (some ⟨g, 0, none⟩) N N, .slice (some ⟨h, 0, none⟩) M M] ∧ At 46 wr r1 #[.string (nm i), .slice (some ⟨vb i, 0, none⟩) (n i) (n i), .int .i64 (rw i)] ∧ DaO wr g N h M vb nm n rw f lp ∧ Below w.heap.size w wr) (fun u _ => i - (intOf u).toNat)
      case atStart => exact ⟨0, Nat.zero_le _, rfl, fun j hj => by omega, A1, m1, D, B⟩
      case round =>
        clear A1 m1 D B
        obtain ⟨k, hk, rfl, hall, A1, m1, D, B⟩ := hrel
        have HN : Hid (∀ j, j < k → nm j ≠ nm i) := hall
        clear hall
        obtain ⟨c0, c1, c2, -⟩ := A1.open3
        obtain ⟨x0, x1, x2, -⟩ := m1.open3
        by_cases hki : k < i
        · have hki' : (k : Int) < (i : Int) := by omega
          have hkN' : (k : Int) < (N : Int) := by omega
          have hk0 : (0 : Int) ≤ (k : Int) := by omega
          obtain ⟨d0, -, -⟩ := D.it.at (show k < N by omega)
          by_cases e : nm k = nm i
          · obtain rfl := no_of hb (fun K => (K.2.2.1 i hlt).2.2.1 k hki e)
            rw [e] at d0
            have hbe := beq_self_eq_true (nm i).toList
            go_wp2
            go_quiet (fail)
            go_wp2
            go_ret
            exact ⟨rfl, below_drewN B _⟩
          · have hbe := (Go.Lib.bytes_beq_false_iff (nm k) (nm i)).2 e
            have He : Hid (nm k ≠ nm i) := e
            clear e
            go_wp2
            go_quiet (fail)
            go_wp2
            go_roundw
            case rel =>
              refine ⟨k + 1, by omega, by go_num, fun j hj => ?_, A1.below (below_drewN (Below.refl _ _) _), m1.below (below_drewN (Below.refl _ _) _), D.below (below_drewN (Below.refl _ _) _), below_drewN B _⟩
              by_cases ej : j = k
              · rw [ej]; exact He.out
              · exact HN.out j (by omega)
            case measure => simp [intOf]; omega
        · have hki' : ¬ (k : Int) < (i : Int) := by omega
          obtain rfl : k = i := by omega
          clear hki hki' hk
          go_wp2
          clear c0 c1 c2 x0 x1 x2
          go_loopw [7] (fun u wr => ∃ j : Nat, j ≤ n k ∧ u = .int .i64 (j : Int) ∧ (∀ i, i < j → vlOk (f k i)) ∧ At 30 wr q1 #[.string s, .slice (some ⟨g, 0, none⟩) N N, .slice (some ⟨h, 0, none⟩) M M] ∧ At 46 wr r1 #[.string (nm k), .slice (some ⟨vb k, 0, none⟩) (n k) (n k), .int .i64 (rw k)] ∧ DaO wr g N h M vb nm n rw f lp ∧ Below w.heap.size w wr) (fun u _ => n k - (intOf u).toNat)
          case atStart => exact ⟨0, Nat.zero_le _, rfl, fun j hj => by omega, A1, m1, D, B⟩
          case round =>
            clear A1 m1 D B
            obtain ⟨j, hj, rfl, hall, A1, m1, D, B⟩ := hrel
            have HV : Hid (∀ i, i < j → vlOk (f k i)) := hall
            clear hall
            obtain ⟨c0, c1, c2, -⟩ := A1.open3
            obtain ⟨x0, x1, x2, -⟩ := m1.open3
            by_cases hjn : j < n k
            · have hjn' : (j : Int) < (n k : Int) := by omega
              have d0 := (D.it.own k hlt).2.strs j hjn
              rw [Nat.zero_add] at d0
              obtain ⟨y2, hy2⟩ := bool_of (vlOk (f k j))
              have S2 := fun w => sValue_any (f k j) w y2 hy2
              cases y2
              · obtain rfl := no_of hb (fun K => iff_no hy2 ((K.2.2.1 k hlt).2.2.2 j hjn))
                clear hy2
                go_wp2_with (go_at_call 22; refine (S2 _).mono ?_; rintro e w2 ⟨rfl, rfl⟩)
                go_ret
                exact ⟨rfl, B⟩
              · have H2 : Hid (vlOk (f k j)) := hy2.1 rfl
                clear hy2
                go_wp2_with (go_at_call 22; refine (S2 _).mono ?_; rintro e w2 ⟨rfl, rfl⟩)
                refine ⟨⟨j + 1, by omega, by go_num, fun i hi => ?_, A1, m1, D, B⟩, by simp [intOf]; omega⟩
                by_cases e : i = j
                · rw [e]; exact H2.out
                · exact HV.out i (by omega)
            · have hjn' : ¬ (j : Int) < (n k : Int) := by omega
              have H4 : Hid (∀ j, j < k + 1 → ItOk nm n f j) := show ∀ j, j < k + 1 → ItOk nm n f j from fun i hi => by
                by_cases e : i = k
                · subst e
                  exact ⟨H1.out, by rw [HT.out]; omega, HN.out, fun i hi => HV.out i (by omega)⟩
                · exact HA.out i (by omega)
              have H5 : Hid (((tot n (k + 1) : Nat) : Int) = (T : Int)) := by show _ = _; rw [HT.out]
              have H6 : Hid (tot n (k + 1) ≤ 4000) := by show _ ≤ _; rw [HT.out]; omega
              clear HA HN HV HT hT' H1
              go_wp2
              exact ⟨⟨k + 1, by omega, by rw [H5.out], by go_num, H6.out, H4.out, A1, D, B⟩, by simp [intOf]; omega⟩
    · have hlt' : ¬ (i : Int) < (N : Int) := by omega
      obtain rfl : i = N := by omega
      clear hlt' hlt hi
      go_wp2
      clear c0 c1 c2
      go_loopw [8] (fun u wr => ∃ F : Nat, F ≤ i ∧ u = .int .i64 (F : Int) ∧ (∀ k, k < F → rw k = -1 ∧ n k = 1) ∧ At 30 wr q1 #[.string s, .slice (some ⟨g, 0, none⟩) i i, .slice (some ⟨h, 0, none⟩) M M] ∧ DaO wr g i h M vb nm n rw f lp ∧ Below w.heap.size w wr) (fun u _ => i - (intOf u).toNat)
      case atStart => exact ⟨0, Nat.zero_le _, rfl, fun j hj => by omega, A1, D, B⟩
      case round =>
        clear A1 D B
        obtain ⟨F, hF, rfl, hall, A1, D, B⟩ := hrel
        have HF : Hid (∀ k, k < F → rw k = -1 ∧ n k = 1) := hall
        clear hall
        obtain ⟨c0, c1, c2, -⟩ := A1.open3
        by_cases hs : F < i ∧ rw F = -1
        · obtain ⟨hFi, hrw⟩ := hs
          have hFi' : (F : Int) < (i : Int) := by omega
          obtain ⟨d0, d1, d2⟩ := D.it.at hFi
          rw [hrw] at d2
          by_cases h1 : n F = 1
          · have HF2 : Hid (∀ k, k < F + 1 → rw k = -1 ∧ n k = 1) := show ∀ k, k < F + 1 → rw k = -1 ∧ n k = 1 from fun k hk => by
              by_cases e : k = F
              · rw [e]; exact ⟨hrw, h1⟩
              · exact HF.out k (by omega)
            rw [h1] at d1
            clear HF h1 hrw
            go_wp2
            exact ⟨⟨F + 1, by omega, by go_num, HF2.out, A1, D, B⟩, by simp [intOf]; omega⟩
          · obtain rfl := no_of hb (fun K => by
              obtain ⟨F', hF', k1, -⟩ := K.2.2.2
              refine h1 (k1 F ?_)
              rcases Nat.lt_or_ge F F' with k | k
              · exact k
              · rcases Nat.lt_or_eq_of_le k with k | k
                · exact absurd (HF.out F' k).1 (hF'.2.2 (by omega))
                · rw [k] at hF'; exact absurd hrw (hF'.2.2 hFi))
            have h1' : ((n F : Int) != 1) = true := by simp; omega
            clear h1 hrw
            go_wp2
            go_ret
            exact ⟨rfl, B⟩
        · have HFst : Hid (Fst F i rw) := ⟨hF, fun k hk => (HF.out k hk).1, fun hlt e => hs ⟨hlt, e⟩⟩
          have HF1 : Hid (∀ k, k < F → n k = 1) := show ∀ k, k < F → n k = 1 from fun k hk => (HF.out k hk).2
          clear HF
          by_cases hFi : F < i
          · have hFi' : (F : Int) < (i : Int) := by omega
            obtain ⟨d0, d1, d2⟩ := D.it.at hFi
            have hrw : (rw F == -1) = false := by simp; exact fun e => hs ⟨hFi, e⟩
            clear hs
            go_wp2
            try clear d0 d1 d2 hrw
            clear c0 c1 c2 hFi hFi'
            go_loopw [8, 10] (fun t u wr => ∃ j : Nat, j ≤ M ∧ t = .int .i64 ((atL F lp j : Nat) : Int) ∧ u = .int .i64 (j : Int) ∧ atL F lp j ≤ i ∧ (∀ k, k < j → LpOk i n rw (atL F lp k) (lp k)) ∧ At 30 wr q1 #[.string s, .slice (some ⟨g, 0, none⟩) i i, .slice (some ⟨h, 0, none⟩) M M] ∧ DaO wr g i h M vb nm n rw f lp ∧ Below w.heap.size w wr) (fun _ u _ => M - (intOf u).toNat)
            case atStart => exact ⟨0, Nat.zero_le _, rfl, rfl, hF, fun j hj => by omega, A1, D, B⟩
            case round =>
              clear A1 D B
              obtain ⟨j, hj, rfl, rfl, hxN, hall, A1, D, B⟩ := hrel
              have HL : Hid (∀ k, k < j → LpOk i n rw (atL F lp k) (lp k)) := hall
              clear hall
              obtain ⟨c0, c1, c2, -⟩ := A1.open3
              obtain ⟨x, hx⟩ : ∃ x, atL F lp j = x := ⟨_, rfl⟩
              have HX : Hid (atL F lp j = x) := hx
              rw [hx] at hxN ⊢
              clear hx
              by_cases hjM : j < M
              · have hjM' : (j : Int) < (M : Int) := by omega
                have e0 := Made.row D.lo j hjM
                rw [Nat.zero_add] at e0
                have l64 := hl64 j hjM
                obtain ⟨l, hl⟩ : ∃ l, lp j = l := ⟨_, rfl⟩
                have Hl : Hid (lp j = l) := hl
                rw [hl] at e0 l64
                clear hl
                have NO : ¬ LpOk i n rw x l → b = false := fun hno => no_of hb (fun K => hno (by
                  have := (K.fst HFst.out).2.1 j hjM
                  rw [HX.out, Hl.out] at this
                  exact this))
                have hxN' : (x : Int) ≤ (i : Int) := by omega
                by_cases h1 : l < 1
                · obtain rfl := NO (fun k => by have := k.1; omega)
                  clear NO
                  go_wp2
                  go_ret
                  exact ⟨rfl, B⟩
                by_cases h2 : (i : Int) - (x : Int) < l
                · obtain rfl := NO (fun k => by have := k.2.1; omega)
                  clear NO
                  go_wp2
                  go_ret
                  exact ⟨rfl, B⟩
                have hxi : x < i := by omega
                have hxi' : (x : Int) < (i : Int) := by omega
                obtain ⟨L, rfl⟩ : ∃ L : Nat, l = (L : Int) := ⟨l.toNat, by omega⟩
                obtain ⟨d0, d1, d2⟩ := D.it.at hxi
                obtain ⟨R, hR⟩ : ∃ R, rw x = R := ⟨_, rfl⟩
                have HR : Hid (rw x = R) := hR
                rw [hR] at d2
                clear hR
                go_wp2
                clear c0 c1 c2 d0 d1 d2 e0
                go_loopw [8, 12] (fun t u wr => ∃ k : Nat, k ≤ L ∧ t = .int .i64 ((x + k : Nat) : Int) ∧ u = .int .i64 (k : Int) ∧ (∀ y, x ≤ y → y < x + k → 0 ≤ R ∧ rw y = R ∧ (n y : Int) = R) ∧ At 30 wr q1 #[.string s, .slice (some ⟨g, 0, none⟩) i i, .slice (some ⟨h, 0, none⟩) M M] ∧ DaO wr g i h M vb nm n rw f lp ∧ Below w.heap.size w wr) (fun _ u _ => L - (intOf u).toNat)
                case atStart => exact ⟨0, Nat.zero_le _, rfl, rfl, fun y h1 h2 => by omega, A1, D, B⟩
                case round =>
                  clear A1 D B
                  obtain ⟨k, hk, rfl, rfl, hall, A1, D, B⟩ := hrel
                  have HK : Hid (∀ y, x ≤ y → y < x + k → 0 ≤ R ∧ rw y = R ∧ (n y : Int) = R) := hall
                  clear hall
                  obtain ⟨c0, c1, c2, -⟩ := A1.open3
                  have e0 := Made.row D.lo j hjM
                  rw [Nat.zero_add, Hl.out] at e0
                  by_cases hkL : k < L
                  · have hkL' : (k : Int) < (L : Int) := by omega
                    have hyi : x + k < i := by omega
                    obtain ⟨y, hy⟩ : ∃ y, x + k = y := ⟨_, rfl⟩
                    have HY : Hid (x + k = y) := hy
                    rw [hy] at hyi ⊢
                    have hyi' : (y : Int) < (i : Int) := by omega
                    clear hy
                    obtain ⟨d0, d1, d2⟩ := D.it.at hyi
                    have hny := hn y hyi
                    have hny' : (n y : Int) ≤ 1048576 := by omega
                    by_cases g1 : R < 0
                    · obtain rfl := NO (fun K => by have := (K.2.2 x (Nat.le_refl _) (by omega)).1; rw [HR.out] at this; omega)
                      clear NO
                      go_wp2
                      go_ret
                      exact ⟨rfl, B⟩
                    by_cases g2 : rw y = R
                    · rw [g2] at d2
                      by_cases g3 : (n y : Int) = R
                      · have HK2 : Hid (∀ z, x ≤ z → z < x + (k + 1) → 0 ≤ R ∧ rw z = R ∧ (n z : Int) = R) := show ∀ z, x ≤ z → z < x + (k + 1) → 0 ≤ R ∧ rw z = R ∧ (n z : Int) = R from fun z h1 h2 => by
                          by_cases e : z = y
                          · rw [e]; exact ⟨by omega, g2, g3⟩
                          · exact HK.out z h1 (by have := HY.out; omega)
                        have HY2 : Hid (((x + (k + 1) : Nat) : Int) = (y : Int) + 1) := by show _ = _; have := HY.out; omega
                        have g3' : ((n y : Int) != R) = false := by simpa using g3
                        have g2' := bne_self_eq_false R
                        clear NO HK g2 g3
                        go_wp2
                        exact ⟨⟨k + 1, by omega, by rw [HY2.out], by go_num, HK2.out, A1, D, B⟩, by simp [intOf]; omega⟩
                      · obtain rfl := NO (fun K => g3 (by have := (K.2.2 y (by have := HY.out; omega) (by have := HY.out; omega)).2.2; rw [HR.out] at this; exact this))
                        have g3' : ((n y : Int) != R) = true := by simpa using g3
                        have g2' := bne_self_eq_false R
                        clear NO g3 g2
                        go_wp2
                        go_ret
                        exact ⟨rfl, B⟩
                    · obtain rfl := NO (fun K => g2 (by have := (K.2.2 y (by have := HY.out; omega) (by have := HY.out; omega)).2.1; rw [HR.out] at this; exact this))
                      have g2' : (rw y != R) = true := by simpa using g2
                      clear NO g2
                      go_wp2
                      go_ret
                      exact ⟨rfl, B⟩
                  · have hkL' : ¬ (k : Int) < (L : Int) := by omega
                    obtain rfl : k = L := by omega
                    have HX2 : Hid (atL F lp (j + 1) = x + k) := by
                      show atL F lp j + (lp j).toNat = x + k
                      rw [HX.out, Hl.out, Int.toNat_natCast]
                    have HL2 : Hid (∀ z, z < j + 1 → LpOk i n rw (atL F lp z) (lp z)) := show ∀ z, z < j + 1 → LpOk i n rw (atL F lp z) (lp z) from fun z hz => by
                      by_cases e : z = j
                      · rw [e, HX.out, Hl.out]
                        refine ⟨by omega, by omega, fun y h1 h2 => ?_⟩
                        rw [HR.out]
                        exact HK.out y h1 (by rw [Int.toNat_natCast] at h2; exact h2)
                      · exact HL.out z (by omega)
                    have hle : x + k ≤ i := by omega
                    clear NO HK HL
                    go_wp2
                    exact ⟨⟨j + 1, by omega, by rw [HX2.out], by go_num, by rw [HX2.out]; exact hle, HL2.out, A1, D, B⟩, by simp [intOf]; omega⟩
              · have hjM' : ¬ (j : Int) < (M : Int) := by omega
                obtain rfl : j = M := by omega
                by_cases hxi : x = i
                · obtain rfl : b = true := hb.out.2 ⟨H0.out, by omega, HA.out, F, HFst.out, HF1.out, HL.out, by rw [HX.out, hxi]⟩
                  have hq : ((x : Int) == (i : Int)) = true := by simp [hxi]
                  clear hxi
                  go_wp2
                  go_ret
                  exact ⟨rfl, B⟩
                · obtain rfl := no_of hb (fun K => hxi (by have := (K.fst HFst.out).2.2; rw [HX.out] at this; exact this))
                  have hq : ((x : Int) == (i : Int)) = false := by simp; omega
                  clear hxi
                  go_wp2
                  go_ret
                  exact ⟨rfl, B⟩
          · have hFi' : ¬ (F : Int) < (i : Int) := by omega
            clear hs
            go_wp2
            try clear d0 d1 d2 hrw
            clear c0 c1 c2 hFi hFi'
            go_loopw [8, 10] (fun t u wr => ∃ j : Nat, j ≤ M ∧ t = .int .i64 ((atL F lp j : Nat) : Int) ∧ u = .int .i64 (j : Int) ∧ atL F lp j ≤ i ∧ (∀ k, k < j → LpOk i n rw (atL F lp k) (lp k)) ∧ At 30 wr q1 #[.string s, .slice (some ⟨g, 0, none⟩) i i, .slice (some ⟨h, 0, none⟩) M M] ∧ DaO wr g i h M vb nm n rw f lp ∧ Below w.heap.size w wr) (fun _ u _ => M - (intOf u).toNat)
            case atStart => exact ⟨0, Nat.zero_le _, rfl, rfl, hF, fun j hj => by omega, A1, D, B⟩
            case round =>
              clear A1 D B
              obtain ⟨j, hj, rfl, rfl, hxN, hall, A1, D, B⟩ := hrel
              have HL : Hid (∀ k, k < j → LpOk i n rw (atL F lp k) (lp k)) := hall
              clear hall
              obtain ⟨c0, c1, c2, -⟩ := A1.open3
              obtain ⟨x, hx⟩ : ∃ x, atL F lp j = x := ⟨_, rfl⟩
              have HX : Hid (atL F lp j = x) := hx
              rw [hx] at hxN ⊢
              clear hx
              by_cases hjM : j < M
              · have hjM' : (j : Int) < (M : Int) := by omega
                have e0 := Made.row D.lo j hjM
                rw [Nat.zero_add] at e0
                have l64 := hl64 j hjM
                obtain ⟨l, hl⟩ : ∃ l, lp j = l := ⟨_, rfl⟩
                have Hl : Hid (lp j = l) := hl
                rw [hl] at e0 l64
                clear hl
                have NO : ¬ LpOk i n rw x l → b = false := fun hno => no_of hb (fun K => hno (by
                  have := (K.fst HFst.out).2.1 j hjM
                  rw [HX.out, Hl.out] at this
                  exact this))
                have hxN' : (x : Int) ≤ (i : Int) := by omega
                by_cases h1 : l < 1
                · obtain rfl := NO (fun k => by have := k.1; omega)
                  clear NO
                  go_wp2
                  go_ret
                  exact ⟨rfl, B⟩
                by_cases h2 : (i : Int) - (x : Int) < l
                · obtain rfl := NO (fun k => by have := k.2.1; omega)
                  clear NO
                  go_wp2
                  go_ret
                  exact ⟨rfl, B⟩
                have hxi : x < i := by omega
                have hxi' : (x : Int) < (i : Int) := by omega
                obtain ⟨L, rfl⟩ : ∃ L : Nat, l = (L : Int) := ⟨l.toNat, by omega⟩
                obtain ⟨d0, d1, d2⟩ := D.it.at hxi
                obtain ⟨R, hR⟩ : ∃ R, rw x = R := ⟨_, rfl⟩
                have HR : Hid (rw x = R) := hR
                rw [hR] at d2
                clear hR
                go_wp2
                clear c0 c1 c2 d0 d1 d2 e0
                go_loopw [8, 12] (fun t u wr => ∃ k : Nat, k ≤ L ∧ t = .int .i64 ((x + k : Nat) : Int) ∧ u = .int .i64 (k : Int) ∧ (∀ y, x ≤ y → y < x + k → 0 ≤ R ∧ rw y = R ∧ (n y : Int) = R) ∧ At 30 wr q1 #[.string s, .slice (some ⟨g, 0, none⟩) i i, .slice (some ⟨h, 0, none⟩) M M] ∧ DaO wr g i h M vb nm n rw f lp ∧ Below w.heap.size w wr) (fun _ u _ => L - (intOf u).toNat)
                case atStart => exact ⟨0, Nat.zero_le _, rfl, rfl, fun y h1 h2 => by omega, A1, D, B⟩
                case round =>
                  clear A1 D B
                  obtain ⟨k, hk, rfl, rfl, hall, A1, D, B⟩ := hrel
                  have HK : Hid (∀ y, x ≤ y → y < x + k → 0 ≤ R ∧ rw y = R ∧ (n y : Int) = R) := hall
                  clear hall
                  obtain ⟨c0, c1, c2, -⟩ := A1.open3
                  have e0 := Made.row D.lo j hjM
                  rw [Nat.zero_add, Hl.out] at e0
                  by_cases hkL : k < L
                  · have hkL' : (k : Int) < (L : Int) := by omega
                    have hyi : x + k < i := by omega
                    obtain ⟨y, hy⟩ : ∃ y, x + k = y := ⟨_, rfl⟩
                    have HY : Hid (x + k = y) := hy
                    rw [hy] at hyi ⊢
                    have hyi' : (y : Int) < (i : Int) := by omega
                    clear hy
                    obtain ⟨d0, d1, d2⟩ := D.it.at hyi
                    have hny := hn y hyi
                    have hny' : (n y : Int) ≤ 1048576 := by omega
                    by_cases g1 : R < 0
                    · obtain rfl := NO (fun K => by have := (K.2.2 x (Nat.le_refl _) (by omega)).1; rw [HR.out] at this; omega)
                      clear NO
                      go_wp2
                      go_ret
                      exact ⟨rfl, B⟩
                    by_cases g2 : rw y = R
                    · rw [g2] at d2
                      by_cases g3 : (n y : Int) = R
                      · have HK2 : Hid (∀ z, x ≤ z → z < x + (k + 1) → 0 ≤ R ∧ rw z = R ∧ (n z : Int) = R) := show ∀ z, x ≤ z → z < x + (k + 1) → 0 ≤ R ∧ rw z = R ∧ (n z : Int) = R from fun z h1 h2 => by
                          by_cases e : z = y
                          · rw [e]; exact ⟨by omega, g2, g3⟩
                          · exact HK.out z h1 (by have := HY.out; omega)
                        have HY2 : Hid (((x + (k + 1) : Nat) : Int) = (y : Int) + 1) := by show _ = _; have := HY.out; omega
                        have g3' : ((n y : Int) != R) = false := by simpa using g3
                        have g2' := bne_self_eq_false R
                        clear NO HK g2 g3
                        go_wp2
                        exact ⟨⟨k + 1, by omega, by rw [HY2.out], by go_num, HK2.out, A1, D, B⟩, by simp [intOf]; omega⟩
                      · obtain rfl := NO (fun K => g3 (by have := (K.2.2 y (by have := HY.out; omega) (by have := HY.out; omega)).2.2; rw [HR.out] at this; exact this))
                        have g3' : ((n y : Int) != R) = true := by simpa using g3
                        have g2' := bne_self_eq_false R
                        clear NO g3 g2
                        go_wp2
                        go_ret
                        exact ⟨rfl, B⟩
                    · obtain rfl := NO (fun K => g2 (by have := (K.2.2 y (by have := HY.out; omega) (by have := HY.out; omega)).2.1; rw [HR.out] at this; exact this))
                      have g2' : (rw y != R) = true := by simpa using g2
                      clear NO g2
                      go_wp2
                      go_ret
                      exact ⟨rfl, B⟩
                  · have hkL' : ¬ (k : Int) < (L : Int) := by omega
                    obtain rfl : k = L := by omega
                    have HX2 : Hid (atL F lp (j + 1) = x + k) := by
                      show atL F lp j + (lp j).toNat = x + k
                      rw [HX.out, Hl.out, Int.toNat_natCast]
                    have HL2 : Hid (∀ z, z < j + 1 → LpOk i n rw (atL F lp z) (lp z)) := show ∀ z, z < j + 1 → LpOk i n rw (atL F lp z) (lp z) from fun z hz => by
                      by_cases e : z = j
                      · rw [e, HX.out, Hl.out]
                        refine ⟨by omega, by omega, fun y h1 h2 => ?_⟩
                        rw [HR.out]
                        exact HK.out y h1 (by rw [Int.toNat_natCast] at h2; exact h2)
                      · exact HL.out z (by omega)
                    have hle : x + k ≤ i := by omega
                    clear NO HK HL
                    go_wp2
                    exact ⟨⟨j + 1, by omega, by rw [HX2.out], by go_num, by rw [HX2.out]; exact hle, HL2.out, A1, D, B⟩, by simp [intOf]; omega⟩
              · have hjM' : ¬ (j : Int) < (M : Int) := by omega
                obtain rfl : j = M := by omega
                by_cases hxi : x = i
                · obtain rfl : b = true := hb.out.2 ⟨H0.out, by omega, HA.out, F, HFst.out, HF1.out, HL.out, by rw [HX.out, hxi]⟩
                  have hq : ((x : Int) == (i : Int)) = true := by simp [hxi]
                  clear hxi
                  go_wp2
                  go_ret
                  exact ⟨rfl, B⟩
                · obtain rfl := no_of hb (fun K => hxi (by have := (K.fst HFst.out).2.2; rw [HX.out] at this; exact this))
                  have hq : ((x : Int) == (i : Int)) = false := by simp; omega
                  clear hxi
                  go_wp2
                  go_ret
                  exact ⟨rfl, B⟩
end Go.Proofs.Ytdhfoekfejcceaa
