/-
  Surfaces: which are right, and their steps, by the program and by the specification, walked.
-/
import Derived.Test.YtlmgdcoknpakcaaIa
namespace Go.Proofs.Ytlmgdcoknpakcaa
open Go.RowKit

theorem inS_any (x lo hi : Int) (w : World) : Calls Try.prog 48 #[.int .i64 x, .int .i64 lo, .int .i64 hi] w fun e w' => e = .returned (.bool (decide (lo ≤ x ∧ x ≤ hi))) ∧ w = w' := by
  by_cases h1 : lo ≤ x <;> by_cases h2 : x ≤ hi
  all_goals
    go_enter Try.func48, Try.ntmps48
    go_wp2
    go_ret
    exact ⟨by simp [h1, h2], rfl⟩
/-- A list is a surface. -/
def surfB (len : Nat) (f : Nat → Int) : Bool := decide (1 ≤ len ∧ len ≤ 200) && (List.range len).all fun i => decide (0 ≤ f i ∧ f i ≤ 1000000)
theorem surfB_len {len : Nat} {f : Nat → Int} (h : ¬ (1 ≤ len ∧ len ≤ 200)) : surfB len f = false := by simp [surfB, h]
theorem surfB_no {len : Nat} {f : Nat → Int} {k : Nat} (hk : k < len) (h : ¬ (0 ≤ f k ∧ f k ≤ 1000000)) : surfB len f = false := by
  have : ((List.range len).all fun i => decide (0 ≤ f i ∧ f i ≤ 1000000)) = false := by
    rw [List.all_eq_false]
    exact ⟨k, List.mem_range.2 hk, by simpa using h⟩
  simp only [surfB, this, Bool.and_false]
theorem surfB_yes {len : Nat} {f : Nat → Int} (hc : 1 ≤ len ∧ len ≤ 200) (h : ∀ i, i < len → 0 ≤ f i ∧ f i ≤ 1000000) : surfB len f = true := by
  have : ((List.range len).all fun i => decide (0 ≤ f i ∧ f i ≤ 1000000)) = true := by
    rw [List.all_eq_true]
    intro x hx
    exact decide_eq_true (h x (List.mem_range.1 hx))
  simp only [surfB, this, Bool.and_true, decide_eq_true hc]
theorem surfB_of {len : Nat} {f : Nat → Int} (h : surfB len f = true) : (1 ≤ len ∧ len ≤ 200) ∧ ∀ i, i < len → 0 ≤ f i ∧ f i ≤ 1000000 := by
  simp only [surfB, Bool.and_eq_true, decide_eq_true_eq, List.all_eq_true, List.mem_range] at h
  exact h
theorem implSurf_any {w : World} {a : Option Addr} {len cap : Nat} {f : Nat → Int} (hs : Src w a len f) (hlen : len ≤ 1048576) :
    Calls Try.prog 71 #[.slice a len cap] w fun e w' => e = .returned (.bool (surfB len f)) ∧ w = w' := by
  have hll : (len : Int) ≤ 1048576 := by omega
  by_cases hl : 1 ≤ len ∧ len ≤ 200
  · have hl1 : ¬ (len : Int) < 1 := by omega
    have hl2 : ¬ 200 < (len : Int) := by omega
    have H : ∀ k, k < len → ¬ (0 ≤ f k ∧ f k ≤ 1000000) → surfB len f = false := fun k hk h => surfB_no hk h
    have H1 : (∀ i, i < len → 0 ≤ f i ∧ f i ≤ 1000000) → surfB len f = true := fun h => surfB_yes hl h
    generalize surfB len f = D at H H1 ⊢
    go_enter Try.func71, Try.ntmps71
    go_wp2
    go_loopw [15] (fun s wr => ∃ k : Nat, k ≤ len ∧ s = .int .i64 k ∧ (∀ i, i < k → 0 ≤ f i ∧ f i ≤ 1000000) ∧ w = wr) (fun s _ => len - (intOf s).toNat)
    case atStart => exact ⟨0, Nat.zero_le _, rfl, fun i hi => absurd hi (Nat.not_lt_zero _), rfl⟩
    case round =>
      obtain ⟨k, hk, rfl, hall, rfl⟩ := hrel
      by_cases hlt : k < len
      · have hlt' : (k : Int) < (len : Int) := by omega
        rcases hs with h0 | ⟨b, off, rfl, hb, hr⟩
        · omega
        have g0 := hr k hlt
        by_cases p1 : f k < 0
        · go_wp2
          go_ret
          exact ⟨by rw [H k hlt (by omega)]; rfl, rfl⟩
        · by_cases p2 : 1000000 < f k
          · go_wp2
            go_ret
            exact ⟨by rw [H k hlt (by omega)]; rfl, rfl⟩
          · go_wp2
            refine ⟨⟨k + 1, by omega, by go_num, fun i hi => ?_, trivial⟩, by simp [intOf]; omega⟩
            by_cases e : i = k
            · subst e; omega
            · exact hall i (by omega)
      · have hlt' : ¬ (k : Int) < (len : Int) := by omega
        obtain rfl : k = len := by omega
        go_wp2
        go_ret
        exact ⟨by rw [H1 hall]; rfl, rfl⟩
  · rw [surfB_len hl]
    rcases (show (len : Int) < 1 ∨ (1 ≤ (len : Int) ∧ 200 < (len : Int)) by omega) with h1 | h1
    all_goals
      go_enter Try.func71, Try.ntmps71
      go_wp2
      go_ret
      exact ⟨rfl, rfl⟩
theorem specSurf_any {w : World} {a : Option Addr} {len cap : Nat} {f : Nat → Int} (hs : Src w a len f) (hlen : len ≤ 1048576) :
    Calls Try.prog 69 #[.slice a len cap] w fun e w' => e = .returned (.bool (surfB len f)) ∧ w = w' := by
  have hll : (len : Int) ≤ 1048576 := by omega
  by_cases hl : 1 ≤ len ∧ len ≤ 200
  · have hl1 : ((len : Int) == 0) = false := by simp; omega
    have hl2 : ¬ 200 < (len : Int) := by omega
    have H : ∀ k, k < len → ¬ (0 ≤ f k ∧ f k ≤ 1000000) → surfB len f = false := fun k hk h => surfB_no hk h
    have H1 : (∀ i, i < len → 0 ≤ f i ∧ f i ≤ 1000000) → surfB len f = true := fun h => surfB_yes hl h
    generalize surfB len f = D at H H1 ⊢
    go_enter Try.func69, Try.ntmps69
    go_wp2
    go_loopw [3] (fun s wr => ∃ k : Nat, k ≤ len ∧ s = .int .i64 k ∧ (∀ i, i < k → 0 ≤ f i ∧ f i ≤ 1000000) ∧ w = wr) (fun s _ => len - (intOf s).toNat)
    case atStart => exact ⟨0, Nat.zero_le _, rfl, fun i hi => absurd hi (Nat.not_lt_zero _), rfl⟩
    case round =>
      obtain ⟨k, hk, rfl, hall, rfl⟩ := hrel
      by_cases hlt : k < len
      · have hlt' : (k : Int) < (len : Int) := by omega
        rcases hs with h0 | ⟨b, off, rfl, hb, hr⟩
        · omega
        have g0 := hr k hlt
        by_cases p1 : 0 ≤ f k ∧ f k ≤ 1000000
        · have hi : decide (0 ≤ f k ∧ f k ≤ 1000000) = true := decide_eq_true p1
          go_wp2_with (go_at_call 48; refine (inS_any _ _ _ _).mono ?_; rintro e w2 ⟨rfl, rfl⟩; rw [hi])
          refine ⟨⟨k + 1, by omega, by go_num, fun i hi => ?_, trivial⟩, by simp [intOf]; omega⟩
          by_cases e : i = k
          · subst e; omega
          · exact hall i (by omega)
        · have hi : decide (0 ≤ f k ∧ f k ≤ 1000000) = false := decide_eq_false p1
          go_wp2_with (go_at_call 48; refine (inS_any _ _ _ _).mono ?_; rintro e w2 ⟨rfl, rfl⟩; rw [hi])
          go_ret
          exact ⟨by rw [H k hlt p1]; rfl, rfl⟩
      · have hlt' : ¬ (k : Int) < (len : Int) := by omega
        obtain rfl : k = len := by omega
        go_wp2
        go_ret
        exact ⟨by rw [H1 hall]; rfl, rfl⟩
  · rw [surfB_len hl]
    rcases (show len = 0 ∨ (1 ≤ len ∧ 200 < len) by omega) with h1 | h1
    · subst h1
      go_enter Try.func69, Try.ntmps69
      go_wp2
      go_ret
      exact ⟨rfl, rfl⟩
    · have h2 : ((len : Int) == 0) = false := by simp; omega
      have h3 : 200 < (len : Int) := by omega
      go_enter Try.func69, Try.ntmps69
      go_wp2
      go_ret
      exact ⟨rfl, rfl⟩
theorem beside_any {w : World} {a : Option Addr} {n cap i : Nat} (hn : n ≤ 200) (hi : i < n) :
    Calls Try.prog 72 #[.slice a n cap, .int .i64 (i : Int)] w fun e w' => e = .returned (.tuple #[.int .i64 (((i + n - 1) % n : Nat) : Int), .int .i64 (((i + 1) % n : Nat) : Int)]) ∧ Below w.heap.size w w' := by
  have h0 : ((n : Int) == 0) = false := by simp; omega
  have h1 : (n : Int) ≠ 0 := by omega
  have m1 : ((i : Int) + n - 1).tmod n = (((i + n - 1) % n : Nat) : Int) := by
    rw [Int.tmod_eq_emod_of_nonneg (by omega), show (i : Int) + n - 1 = ((i + n - 1 : Nat) : Int) by omega, ← Int.natCast_emod]
  have m2 : ((i : Int) + 1).tmod n = (((i + 1) % n : Nat) : Int) := by
    rw [Int.tmod_eq_emod_of_nonneg (by omega), show (i : Int) + 1 = ((i + 1 : Nat) : Int) by omega, ← Int.natCast_emod]
  have hn' : (n : Int) ≤ 200 := by omega
  have hi' : (i : Int) < n := by omega
  have w1 : IntKind.i64.wrap ((i : Int) + n) = (i : Int) + n := IntWalk.i64_in _ (by omega)
  have w2 : IntKind.i64.wrap ((i : Int) + n - 1) = (i : Int) + n - 1 := IntWalk.i64_in _ (by omega)
  have w3 : IntKind.i64.wrap ((i : Int) + 1) = (i : Int) + 1 := IntWalk.i64_in _ (by omega)
  obtain ⟨A, hA⟩ : ∃ A : Nat, (i + n - 1) % n = A := ⟨_, rfl⟩
  obtain ⟨B, hB⟩ : ∃ B : Nat, (i + 1) % n = B := ⟨_, rfl⟩
  have lA : A < n := hA ▸ Nat.mod_lt _ (by omega)
  have lB : B < n := hB ▸ Nat.mod_lt _ (by omega)
  rw [hA] at m1 ⊢
  rw [hB] at m2 ⊢
  have w4 : IntKind.i64.wrap (A : Int) = A := IntWalk.i64_in _ (by omega)
  have w5 : IntKind.i64.wrap (B : Int) = B := IntWalk.i64_in _ (by omega)
  clear hA hB
  go_enter Try.func72, Try.ntmps72
  go_wp2
  go_quiet (fail)
  go_wp2
  exact bodyPost_ret (v := .tuple #[.int .i64 (A : Int), .int .i64 (B : Int)]) (by simp [results, Try.results72, go_sem]) rfl ⟨rfl, below_drewN (Below.refl _ _) _⟩
theorem magn_any (x : Int) (w : World) (hx : -1000000 ≤ x ∧ x ≤ 1000000) : Calls Try.prog 73 #[.int .i64 x] w fun e w' => e = .returned (.int .i64 (x.natAbs : Int)) ∧ w = w' := by
  rcases Int.lt_or_le x 0 with h | h
  · rw [show (x.natAbs : Int) = -x by omega]
    go_enter Try.func73, Try.ntmps73
    go_wp2
    all_goals
      first
      | (exfalso; omega)
      | (go_ret
         exact ⟨rfl, rfl⟩)
  · rw [show (x.natAbs : Int) = x by omega]
    go_enter Try.func73, Try.ntmps73
    go_wp2
    all_goals
      first
      | (exfalso; omega)
      | (go_ret
         exact ⟨rfl, rfl⟩)
      | (have e : x = 0 := by omega
         subst e
         go_ret
         exact ⟨rfl, rfl⟩)
theorem abs_any (x : Int) (w : World) (hx : -1000000 ≤ x ∧ x ≤ 1000000) : Calls Try.prog 70 #[.int .i64 x] w fun e w' => e = .returned (.int .i64 (x.natAbs : Int)) ∧ w = w' := by
  rcases Int.lt_or_le x 0 with h | h
  · rw [show (x.natAbs : Int) = -x by omega]
    go_enter Try.func70, Try.ntmps70
    go_wp2
    go_ret
    exact ⟨rfl, rfl⟩
  · rw [show (x.natAbs : Int) = x by omega]
    go_enter Try.func70, Try.ntmps70
    go_wp2
    go_ret
    exact ⟨rfl, rfl⟩
/-- The steps of a surface up to k. -/
def riseAt (n : Nat) (f : Nat → Int) (k : Nat) : Int := f ((k + 1) % n) - f k
def stN (n : Nat) (f : Nat → Int) : Nat → Int
  | 0 => 0
  | k + 1 => stN n f k + (if 0 < riseAt n f k then 1 else 0)
def stS (n : Nat) (f : Nat → Int) : Nat → Int
  | 0 => 0
  | k + 1 => stS n f k + ((riseAt n f k).natAbs : Int)
theorem rise_in {n : Nat} {f : Nat → Int} (hn : 1 ≤ n) (hf : ∀ i, i < n → 0 ≤ f i ∧ f i ≤ 1000000) {k : Nat} (hk : k < n) : -1000000 ≤ riseAt n f k ∧ riseAt n f k ≤ 1000000 := by
  have h1 := hf k hk
  have h2 := hf ((k + 1) % n) (Nat.mod_lt _ (by omega))
  unfold riseAt
  omega
theorem st_in2 {n : Nat} {f : Nat → Int} (hn : 1 ≤ n) (hf : ∀ i, i < n → 0 ≤ f i ∧ f i ≤ 1000000) : ∀ k : Nat, k ≤ n → (0 ≤ stN n f k ∧ stN n f k ≤ k) ∧ 0 ≤ stS n f k ∧ stS n f k ≤ 1000000 * k
  | 0, _ => by simp [stN, stS]
  | k + 1, hk => by
    have h1 := st_in2 hn hf k (by omega)
    have h2 := rise_in hn hf (k := k) (by omega)
    simp only [stN, stS]
    refine ⟨?_, by omega, by omega⟩
    split <;> omega
theorem specSteps_no {w : World} {a : Option Addr} {n cap : Nat} {f : Nat → Int} (hs : Src w a n f) (hn : n ≤ 1048576) (h : surfB n f = false) :
    Calls Try.prog 33 #[.slice a n cap] w fun e w' => e = .returned (.tuple #[.int .i64 0, .int .i64 0]) ∧ w = w' := by
  go_enter Try.func33, Try.ntmps33
  go_wp2_with (go_at_call 69; refine (specSurf_any hs hn).mono ?_; rintro e w2 ⟨rfl, rfl⟩; rw [h])
  exact bodyPost_ret (v := .tuple #[.int .i64 0, .int .i64 0]) (by simp [results, Try.results33, go_sem]) rfl ⟨rfl, rfl⟩
theorem implSteps_no {w : World} {a : Option Addr} {n cap : Nat} {f : Nat → Int} (hs : Src w a n f) (hn : n ≤ 1048576) (h : surfB n f = false) :
    Calls Try.prog 35 #[.slice a n cap] w fun e w' => e = .returned (.tuple #[.int .i64 0, .int .i64 0]) ∧ w = w' := by
  go_enter Try.func35, Try.ntmps35
  go_wp2_with (go_at_call 71; refine (implSurf_any hs hn).mono ?_; rintro e w2 ⟨rfl, rfl⟩; rw [h])
  exact bodyPost_ret (v := .tuple #[.int .i64 0, .int .i64 0]) (by simp [results, Try.results35, go_sem]) rfl ⟨rfl, rfl⟩
theorem specSteps_yes {w : World} {a : Option Addr} {n cap : Nat} {f : Nat → Int} (hs : Src w a n f) (hn : n ≤ 1048576) (h : surfB n f = true) :
    Calls Try.prog 33 #[.slice a n cap] w fun e w' => e = .returned (.tuple #[.int .i64 (stN n f n), .int .i64 (stS n f n)]) ∧ Below w.heap.size w w' := by
  obtain ⟨⟨hn1, hn2⟩, hf⟩ := surfB_of h
  go_enter Try.func33, Try.ntmps33
  go_wp2_with (go_at_call 69; refine (specSurf_any hs hn).mono ?_; rintro e w2 ⟨rfl, rfl⟩; rw [h])
  go_loopw [4, 5, 6] (fun s t i wr => ∃ k : Nat, k ≤ n ∧ s = .int .i64 (stN n f k) ∧ t = .int .i64 (stS n f k) ∧ i = .int .i64 (k : Int) ∧ Below w.heap.size w wr) (fun _ _ i _ => n - (intOf i).toNat)
  case atStart => exact ⟨0, Nat.zero_le _, rfl, rfl, rfl, Below.refl _ _⟩
  case round =>
    obtain ⟨k, hk, rfl, rfl, rfl, hbel⟩ := hrel
    obtain ⟨⟨P0, P1⟩, Q0, Q1⟩ := st_in2 hn1 hf k hk
    by_cases hlt : k < n
    · have hlt' : (k : Int) < (n : Int) := by omega
      have hnn : (n : Int) ≤ 200 := by omega
      have hr := rise_in hn1 hf hlt
      have hn1' : stN n f (k + 1) = stN n f k + (if 0 < riseAt n f k then 1 else 0) := rfl
      have hn2' : stS n f (k + 1) = stS n f k + ((riseAt n f k).natAbs : Int) := rfl
      obtain ⟨P, hP⟩ : ∃ P, stN n f k = P := ⟨_, rfl⟩
      obtain ⟨Q, hQ⟩ : ∃ Q, stS n f k = Q := ⟨_, rfl⟩
      obtain ⟨J, hJ⟩ : ∃ J, (k + 1) % n = J := ⟨_, rfl⟩
      have lJ : J < n := hJ ▸ Nat.mod_lt _ (by omega)
      have lJ' : (J : Int) < n := by omega
      have hD : riseAt n f k = f J - f k := by unfold riseAt; rw [hJ]
      rcases hs with h0 | ⟨b, off, rfl, hb, hrr⟩
      · omega
      have hbw := hbel.size
      have g0 := (hbel.cell (p := ⟨b, off + k, none⟩) hb).trans (hrr k hlt)
      have g1 := (hbel.cell (p := ⟨b, off + J, none⟩) hb).trans (hrr J lJ)
      obtain ⟨x, hx⟩ : ∃ x, f k = x := ⟨_, rfl⟩
      obtain ⟨y, hy⟩ : ∃ y, f J = y := ⟨_, rfl⟩
      rw [hx] at g0 hD
      rw [hy] at g1 hD
      obtain ⟨D, hDD⟩ : ∃ D, y - x = D := ⟨_, rfl⟩
      rw [hDD] at hD
      rw [hD] at hn1' hn2' hr
      obtain ⟨Da, hDa⟩ : ∃ D' : Int, (D.natAbs : Int) = D' := ⟨_, rfl⟩
      rw [hDa] at hn2'
      have hDa1 : 0 ≤ Da ∧ Da ≤ 1000000 := by omega
      rw [hP] at P0 P1 hn1' ⊢
      rw [hQ] at Q0 Q1 hn2' ⊢
      have m2 : ((k : Int) + 1).tmod n = (J : Int) := by
        rw [Int.tmod_eq_emod_of_nonneg (by omega), show (k : Int) + 1 = ((k + 1 : Nat) : Int) by omega, ← Int.natCast_emod, hJ]
      have h0 : ((n : Int) == 0) = false := by simp; omega
      have h0' : (n : Int) ≠ 0 := by omega
      have w3 : IntKind.i64.wrap ((k : Int) + 1) = (k : Int) + 1 := IntWalk.i64_in _ (by omega)
      have w5 : IntKind.i64.wrap (J : Int) = J := IntWalk.i64_in _ (by omega)
      have w6 : IntKind.i64.wrap D = D := IntWalk.i64_in _ (by omega)
      go_wp2
      go_quiet (fail)
      have hK0 : Below w.heap.size w (wr.drewN nq) := below_drewN hbel _
      by_cases hpos : 0 < D
      · rw [if_pos hpos] at hn1'
        go_wp2_with (go_at_call 70; refine (abs_any D _ ⟨by omega, by omega⟩).mono ?_; rintro e w2 ⟨rfl, rfl⟩; rw [hDa])
        refine ⟨⟨k + 1, by omega, by rw [hn1'], by rw [hn2'], by go_num, hK0⟩, by simp [intOf]; omega⟩
      · rw [if_neg hpos] at hn1'
        go_wp2_with (go_at_call 70; refine (abs_any D _ ⟨by omega, by omega⟩).mono ?_; rintro e w2 ⟨rfl, rfl⟩; rw [hDa])
        refine ⟨⟨k + 1, by omega, by rw [hn1']; simp, by rw [hn2'], by go_num, hK0⟩, by simp [intOf]; omega⟩
    · have hlt' : ¬ (k : Int) < (n : Int) := by omega
      obtain rfl : k = n := by omega
      go_wp2
      exact bodyPost_ret (v := .tuple #[.int .i64 (stN k f k), .int .i64 (stS k f k)]) (by simp [results, Try.results33, go_sem]) rfl ⟨rfl, hbel⟩
theorem implSteps_yes {w : World} {a : Option Addr} {n cap : Nat} {f : Nat → Int} (hs : Src w a n f) (hn : n ≤ 1048576) (h : surfB n f = true) :
    Calls Try.prog 35 #[.slice a n cap] w fun e w' => e = .returned (.tuple #[.int .i64 (stN n f n), .int .i64 (stS n f n)]) ∧ Below w.heap.size w w' := by
  obtain ⟨⟨hn1, hn2⟩, hf⟩ := surfB_of h
  go_enter Try.func35, Try.ntmps35
  go_wp2_with (go_at_call 71; refine (implSurf_any hs hn).mono ?_; rintro e w2 ⟨rfl, rfl⟩; rw [h])
  go_loopw [4, 5, 16] (fun s t i wr => ∃ k : Nat, k ≤ n ∧ s = .int .i64 (stN n f k) ∧ t = .int .i64 (stS n f k) ∧ i = .int .i64 (k : Int) ∧ Below w.heap.size w wr) (fun _ _ i _ => n - (intOf i).toNat)
  case atStart => exact ⟨0, Nat.zero_le _, rfl, rfl, rfl, Below.refl _ _⟩
  case round =>
    obtain ⟨k, hk, rfl, rfl, rfl, hbel⟩ := hrel
    obtain ⟨⟨P0, P1⟩, Q0, Q1⟩ := st_in2 hn1 hf k hk
    by_cases hlt : k < n
    · have hlt' : (k : Int) < (n : Int) := by omega
      have hnn : (n : Int) ≤ 200 := by omega
      have hr := rise_in hn1 hf hlt
      have hn1' : stN n f (k + 1) = stN n f k + (if 0 < riseAt n f k then 1 else 0) := rfl
      have hn2' : stS n f (k + 1) = stS n f k + ((riseAt n f k).natAbs : Int) := rfl
      obtain ⟨P, hP⟩ : ∃ P, stN n f k = P := ⟨_, rfl⟩
      obtain ⟨Q, hQ⟩ : ∃ Q, stS n f k = Q := ⟨_, rfl⟩
      obtain ⟨J, hJ⟩ : ∃ J, (k + 1) % n = J := ⟨_, rfl⟩
      have lJ : J < n := hJ ▸ Nat.mod_lt _ (by omega)
      have lJ' : (J : Int) < n := by omega
      have hD : riseAt n f k = f J - f k := by unfold riseAt; rw [hJ]
      rcases hs with h0 | ⟨b, off, rfl, hb, hrr⟩
      · omega
      have hbw := hbel.size
      have g0 := (hbel.cell (p := ⟨b, off + k, none⟩) hb).trans (hrr k hlt)
      have g1 := (hbel.cell (p := ⟨b, off + J, none⟩) hb).trans (hrr J lJ)
      obtain ⟨x, hx⟩ : ∃ x, f k = x := ⟨_, rfl⟩
      obtain ⟨y, hy⟩ : ∃ y, f J = y := ⟨_, rfl⟩
      rw [hx] at g0 hD
      rw [hy] at g1 hD
      obtain ⟨D, hDD⟩ : ∃ D, y - x = D := ⟨_, rfl⟩
      rw [hDD] at hD
      rw [hD] at hn1' hn2' hr
      obtain ⟨Da, hDa⟩ : ∃ D' : Int, (D.natAbs : Int) = D' := ⟨_, rfl⟩
      rw [hDa] at hn2'
      have hDa1 : 0 ≤ Da ∧ Da ≤ 1000000 := by omega
      rw [hP] at P0 P1 hn1' ⊢
      rw [hQ] at Q0 Q1 hn2' ⊢
      have m2 : ((k : Int) + 1).tmod n = (J : Int) := by
        rw [Int.tmod_eq_emod_of_nonneg (by omega), show (k : Int) + 1 = ((k + 1 : Nat) : Int) by omega, ← Int.natCast_emod, hJ]
      have h0 : ((n : Int) == 0) = false := by simp; omega
      have h0' : (n : Int) ≠ 0 := by omega
      have w3 : IntKind.i64.wrap ((k : Int) + 1) = (k : Int) + 1 := IntWalk.i64_in _ (by omega)
      have w5 : IntKind.i64.wrap (J : Int) = J := IntWalk.i64_in _ (by omega)
      have w6 : IntKind.i64.wrap D = D := IntWalk.i64_in _ (by omega)
      go_wp2_with fail
      refine (beside_any hn2 hlt).mono ?_
      rintro e w9 ⟨rfl, b9⟩
      rw [hJ]
      replace hbel := hbel.trans (b9.mono hbel.size)
      replace g0 := (b9.cell (p := ⟨b, off + k, none⟩) (Nat.lt_of_lt_of_le hb hbw)).trans g0
      replace g1 := (b9.cell (p := ⟨b, off + J, none⟩) (Nat.lt_of_lt_of_le hb hbw)).trans g1
      clear b9 hbw
      by_cases hpos : 0 < D
      · rw [if_pos hpos] at hn1'
        go_wp2_with (go_at_call 73; refine (magn_any D _ ⟨by omega, by omega⟩).mono ?_; rintro e w2 ⟨rfl, rfl⟩; rw [hDa])
        refine ⟨⟨k + 1, by omega, by rw [hn1'], by rw [hn2'], by go_num, hbel⟩, by simp [intOf]; omega⟩
      · rw [if_neg hpos] at hn1'
        go_wp2_with (go_at_call 73; refine (magn_any D _ ⟨by omega, by omega⟩).mono ?_; rintro e w2 ⟨rfl, rfl⟩; rw [hDa])
        refine ⟨⟨k + 1, by omega, by rw [hn1']; simp, by rw [hn2'], by go_num, hbel⟩, by simp [intOf]; omega⟩
    · have hlt' : ¬ (k : Int) < (n : Int) := by omega
      obtain rfl : k = n := by omega
      go_wp2
      exact bodyPost_ret (v := .tuple #[.int .i64 (stN k f k), .int .i64 (stS k f k)]) (by simp [results, Try.results35, go_sem]) rfl ⟨rfl, hbel⟩
theorem bothSteps (n : Nat) (f : Nat → Int) (hn : n ≤ 1048576) : ∃ p q : Int, (∀ {w : World} {a : Option Addr} {cap : Nat}, Src w a n f → Calls Try.prog 33 #[.slice a n cap] w fun e w' => e = .returned (.tuple #[.int .i64 p, .int .i64 q]) ∧ Below w.heap.size w w') ∧ (∀ {w : World} {a : Option Addr} {cap : Nat}, Src w a n f → Calls Try.prog 35 #[.slice a n cap] w fun e w' => e = .returned (.tuple #[.int .i64 p, .int .i64 q]) ∧ Below w.heap.size w w') := by
  rcases h : surfB n f with _ | _
  · refine ⟨0, 0, fun hs => (specSteps_no hs hn h).mono ?_, fun hs => (implSteps_no hs hn h).mono ?_⟩
    · rintro e w' ⟨rfl, rfl⟩; exact ⟨rfl, Below.refl _ _⟩
    · rintro e w' ⟨rfl, rfl⟩; exact ⟨rfl, Below.refl _ _⟩
  · exact ⟨_, _, fun hs => specSteps_yes hs hn h, fun hs => implSteps_yes hs hn h⟩
theorem exactSteps_walk {w : World} {a : Option Addr} {n cap : Nat} {f : Nat → Int} (hs : Src w a n f) (hl : n ≤ maxLen) :
    Calls Try.prog 7 #[.slice a n cap] w fun e w' => e = .returned (.bool true) ∧ Below w.heap.size w w' := by
  unfold maxLen at hl
  have bW : Below w.heap.size w w := Below.refl _ _
  by_cases h1 : (1048576 : Int) < n
  · go_enter Try.func7, Try.ntmps7
    go_wp2
    go_ret
    exact ⟨rfl, bW⟩
  · have hn : n ≤ 1048576 := by omega
    obtain ⟨p, q, SP, IM⟩ := bothSteps n f hn
    have hPP : (p != p) = false := bne_self_eq_false p
    have hQQ : (q != q) = false := bne_self_eq_false q
    go_enter Try.func7, Try.ntmps7
    go_wp2_with fail
    refine (toInts_any (hs.below bW) hn).mono ?_
    rintro e w1 ⟨g1, rfl, -, O1, b⟩
    replace bW := bW.trans (b.mono bW.size)
    clear b
    go_wp2_with fail
    refine (SP (.inr ⟨_, _, rfl, O1.lt, O1.row⟩)).mono ?_
    rintro e w2 ⟨rfl, b⟩
    replace bW := bW.trans (b.mono bW.size)
    clear b O1
    go_wp2_with fail
    refine (toInts_any (hs.below bW) hn).mono ?_
    rintro e w3 ⟨g3, rfl, -, O3, b⟩
    replace bW := bW.trans (b.mono bW.size)
    clear b
    go_wp2_with fail
    refine (IM (.inr ⟨_, _, rfl, O3.lt, O3.row⟩)).mono ?_
    rintro e w4 ⟨rfl, b⟩
    replace bW := bW.trans (b.mono bW.size)
    replace O3 := O3.below b
    clear b
    go_wp2_with fail
    refine (toInts_any (hs.below bW) hn).mono ?_
    rintro e w5 ⟨g5, rfl, -, O5, b⟩
    replace bW := bW.trans (b.mono bW.size)
    replace O3 := O3.below b
    clear b
    go_wp2_with fail
    refine (eqInts_true O3.row O5.row O3.lt O5.lt hn).mono ?_
    rintro e w6 ⟨rfl, b⟩
    replace bW := bW.trans (b.mono bW.size)
    go_wp2
    go_ret
    exact ⟨rfl, bW⟩
theorem exactSteps_of {w : World} {a : Option Addr} {n cap : Nat} {zs : List Int} (h1 : IsRow .i64 w a n cap zs) :
    Calls Try.prog 7 #[.slice a n cap] w fun e w' => e = .returned (.bool true) ∧ Below w.heap.size w w' := by
  obtain ⟨f, hs, hl, -⟩ := src_of h1
  exact exactSteps_walk hs hl
end Go.Proofs.Ytlmgdcoknpakcaa
