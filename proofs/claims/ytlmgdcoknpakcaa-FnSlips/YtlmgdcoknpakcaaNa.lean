/-
  Nets: which are right, by the program and by the specification, walked.
-/
import Derived.Test.YtlmgdcoknpakcaaIa
namespace Go.Proofs.Ytlmgdcoknpakcaa
open Go.RowKit

theorem in_any (x lo hi : Int) (w : World) : Calls Try.prog 48 #[.int .i64 x, .int .i64 lo, .int .i64 hi] w fun e w' => e = .returned (.bool (decide (lo ≤ x ∧ x ≤ hi))) ∧ w = w' := by
  by_cases h1 : lo ≤ x <;> by_cases h2 : x ≤ hi
  all_goals
    go_enter Try.func48, Try.ntmps48
    go_wp2
    go_ret
    exact ⟨by simp [h1, h2], rfl⟩
theorem within_any (x hi : Int) (w : World) (h0 : 0 ≤ hi) (h : hi ≤ 1000000000000) : Calls Try.prog 59 #[.int .i64 x, .int .i64 hi] w fun e w' => e = .returned (.bool (decide (-hi ≤ x ∧ x ≤ hi))) ∧ w = w' := by
  by_cases h1 : -hi ≤ x <;> by_cases h2 : x ≤ hi
  all_goals
    go_enter Try.func59, Try.ntmps59
    go_wp2
    go_ret
    exact ⟨by simp [h1, h2], rfl⟩
theorem At.open4 {t : TypeId} {w : World} {q : Nat} {v0 v1 v2 v3 : Value} (h : At t w q #[v0, v1, v2, v3]) : w.cell? ⟨q, 0, none⟩ = some v0 ∧ w.cell? ⟨q, 1, none⟩ = some v1 ∧ w.cell? ⟨q, 2, none⟩ = some v2 ∧ w.cell? ⟨q, 3, none⟩ = some v3 ∧ w.frozen? ⟨q, 0, none⟩ = false ∧ w.frozen? ⟨q, 1, none⟩ = false ∧ w.frozen? ⟨q, 2, none⟩ = false ∧ w.frozen? ⟨q, 3, none⟩ = false :=
  ⟨h.cell 0 rfl, h.cell 1 rfl, h.cell 2 rfl, h.cell 3 rfl, h.frozen 0, h.frozen 1, h.frozen 2, h.frozen 3⟩
theorem put4_at {t : TypeId} {w : World} {q : Nat} {u0 u1 u2 u3 : Value} (h : At t w q #[u0, u1, u2, u3]) (v0 v1 v2 v3 : Value) : At t ((((w.setCell ⟨q, 0, none⟩ v0).setCell ⟨q, 1, none⟩ v1).setCell ⟨q, 2, none⟩ v2).setCell ⟨q, 3, none⟩ v3) q #[v0, v1, v2, v3] := by
  have := (((h.set 0 v0).set 1 v1).set 2 v2).set 3 v3
  simpa using this
theorem below_put4 {N q : Nat} {w w2 : World} (h : Below N w w2) (hq : N ≤ q) (v0 v1 v2 v3 : Value) : Below N w ((((w2.setCell ⟨q, 0, none⟩ v0).setCell ⟨q, 1, none⟩ v1).setCell ⟨q, 2, none⟩ v2).setCell ⟨q, 3, none⟩ v3) :=
  (((h.setCell hq v0).setCell hq v1).setCell hq v2).setCell hq v3
abbrev nV (W H : Int) (r u : Value) : Value := .agg #[.int .i64 W, .int .i64 H, r, u]
/-- A list is one of c slips. -/
def slipsB (len : Nat) (f : Nat → Int) (c : Int) : Bool := decide ((len : Int) = c) && (List.range len).all fun i => decide (-1000000 ≤ f i ∧ f i ≤ 1000000)
theorem slipsB_len {len : Nat} {f : Nat → Int} {c : Int} (h : (len : Int) ≠ c) : slipsB len f c = false := by simp [slipsB, h]
theorem slipsB_no {len : Nat} {f : Nat → Int} {c : Int} {k : Nat} (hk : k < len) (h : ¬ (-1000000 ≤ f k ∧ f k ≤ 1000000)) : slipsB len f c = false := by
  have : ((List.range len).all fun i => decide (-1000000 ≤ f i ∧ f i ≤ 1000000)) = false := by
    rw [List.all_eq_false]
    exact ⟨k, List.mem_range.2 hk, by simpa using h⟩
  simp only [slipsB, this, Bool.and_false]
theorem slipsB_yes {len : Nat} {f : Nat → Int} {c : Int} (hc : (len : Int) = c) (h : ∀ i, i < len → -1000000 ≤ f i ∧ f i ≤ 1000000) : slipsB len f c = true := by
  have : ((List.range len).all fun i => decide (-1000000 ≤ f i ∧ f i ≤ 1000000)) = true := by
    rw [List.all_eq_true]
    intro x hx
    exact decide_eq_true (h x (List.mem_range.1 hx))
  simp only [slipsB, this, Bool.and_true, decide_eq_true hc]
theorem slipsB_of {len : Nat} {f : Nat → Int} {c : Int} (h : slipsB len f c = true) : (len : Int) = c ∧ ∀ i, i < len → -1000000 ≤ f i ∧ f i ≤ 1000000 := by
  simp only [slipsB, Bool.and_eq_true, decide_eq_true_eq, List.all_eq_true, List.mem_range] at h
  exact h
theorem implSlips_any {w : World} {a : Option Addr} {len cap : Nat} {f : Nat → Int} (c : Int) (hs : Src w a len f) (hlen : len ≤ 1048576) :
    Calls Try.prog 65 #[.slice a len cap, .int .i64 c] w fun e w' => e = .returned (.bool (slipsB len f c)) ∧ w = w' := by
  have hll : (len : Int) ≤ 1048576 := by omega
  by_cases hl : (len : Int) = c
  · subst hl
    have hne : ((len : Int) != (len : Int)) = false := by simp
    have H : ∀ k, k < len → ¬ (-1000000 ≤ f k ∧ f k ≤ 1000000) → slipsB len f len = false := fun k hk h => slipsB_no hk h
    have H1 : (∀ i, i < len → -1000000 ≤ f i ∧ f i ≤ 1000000) → slipsB len f len = true := fun h => slipsB_yes rfl h
    generalize slipsB len f len = D at H H1 ⊢
    go_enter Try.func65, Try.ntmps65
    go_wp2
    go_loopw [13] (fun s wr => ∃ k : Nat, k ≤ len ∧ s = .int .i64 k ∧ (∀ i, i < k → -1000000 ≤ f i ∧ f i ≤ 1000000) ∧ w = wr) (fun s _ => len - (intOf s).toNat)
    case atStart => exact ⟨0, Nat.zero_le _, rfl, fun i hi => absurd hi (Nat.not_lt_zero _), rfl⟩
    case round =>
      obtain ⟨k, hk, rfl, hall, rfl⟩ := hrel
      by_cases hlt : k < len
      · have hlt' : (k : Int) < (len : Int) := by omega
        rcases hs with h0 | ⟨b, off, rfl, hb, hr⟩
        · omega
        have g0 := hr k hlt
        by_cases p1 : -1000000 ≤ f k ∧ f k ≤ 1000000
        · have hi : decide (-1000000 ≤ f k ∧ f k ≤ 1000000) = true := decide_eq_true p1
          go_wp2_with (go_at_call 59; refine (within_any _ _ _ (by decide) (by decide)).mono ?_; rintro e w2 ⟨rfl, rfl⟩; rw [hi])
          refine ⟨⟨k + 1, by omega, by go_num, fun i hi => ?_, trivial⟩, by simp [intOf]; omega⟩
          by_cases e : i = k
          · subst e; exact p1
          · exact hall i (by omega)
        · have hi : decide (-1000000 ≤ f k ∧ f k ≤ 1000000) = false := decide_eq_false p1
          go_wp2_with (go_at_call 59; refine (within_any _ _ _ (by decide) (by decide)).mono ?_; rintro e w2 ⟨rfl, rfl⟩; rw [hi])
          go_ret
          exact ⟨by rw [H k hlt p1]; rfl, rfl⟩
      · have hlt' : ¬ (k : Int) < (len : Int) := by omega
        obtain rfl : k = len := by omega
        go_wp2
        go_ret
        exact ⟨by rw [H1 hall]; rfl, rfl⟩
  · have hne : ((len : Int) != c) = true := by simp [hl]
    rw [slipsB_len hl]
    go_enter Try.func65, Try.ntmps65
    go_wp2
    go_ret
    exact ⟨rfl, rfl⟩
theorem specSlips_any {w : World} {a : Option Addr} {len cap : Nat} {f : Nat → Int} (c : Int) (hs : Src w a len f) (hlen : len ≤ 1048576) :
    Calls Try.prog 49 #[.slice a len cap, .int .i64 c] w fun e w' => e = .returned (.bool (slipsB len f c)) ∧ w = w' := by
  have hll : (len : Int) ≤ 1048576 := by omega
  by_cases hl : (len : Int) = c
  · subst hl
    have hne : ((len : Int) != (len : Int)) = false := by simp
    have H : ∀ k, k < len → ¬ (-1000000 ≤ f k ∧ f k ≤ 1000000) → slipsB len f len = false := fun k hk h => slipsB_no hk h
    have H1 : (∀ i, i < len → -1000000 ≤ f i ∧ f i ≤ 1000000) → slipsB len f len = true := fun h => slipsB_yes rfl h
    generalize slipsB len f len = D at H H1 ⊢
    go_enter Try.func49, Try.ntmps49
    go_wp2
    go_loopw [5] (fun s wr => ∃ k : Nat, k ≤ len ∧ s = .int .i64 k ∧ (∀ i, i < k → -1000000 ≤ f i ∧ f i ≤ 1000000) ∧ w = wr) (fun s _ => len - (intOf s).toNat)
    case atStart => exact ⟨0, Nat.zero_le _, rfl, fun i hi => absurd hi (Nat.not_lt_zero _), rfl⟩
    case round =>
      obtain ⟨k, hk, rfl, hall, rfl⟩ := hrel
      by_cases hlt : k < len
      · have hlt' : (k : Int) < (len : Int) := by omega
        rcases hs with h0 | ⟨b, off, rfl, hb, hr⟩
        · omega
        have g0 := hr k hlt
        by_cases p1 : -1000000 ≤ f k ∧ f k ≤ 1000000
        · have hi : decide (-1000000 ≤ f k ∧ f k ≤ 1000000) = true := decide_eq_true p1
          go_wp2_with (go_at_call 48; refine (in_any _ _ _ _).mono ?_; rintro e w2 ⟨rfl, rfl⟩; rw [hi])
          refine ⟨⟨k + 1, by omega, by go_num, fun i hi => ?_, trivial⟩, by simp [intOf]; omega⟩
          by_cases e : i = k
          · subst e; exact p1
          · exact hall i (by omega)
        · have hi : decide (-1000000 ≤ f k ∧ f k ≤ 1000000) = false := decide_eq_false p1
          go_wp2_with (go_at_call 48; refine (in_any _ _ _ _).mono ?_; rintro e w2 ⟨rfl, rfl⟩; rw [hi])
          go_ret
          exact ⟨by rw [H k hlt p1]; rfl, rfl⟩
      · have hlt' : ¬ (k : Int) < (len : Int) := by omega
        obtain rfl : k = len := by omega
        go_wp2
        go_ret
        exact ⟨by rw [H1 hall]; rfl, rfl⟩
  · have hne : ((len : Int) != c) = true := by simp [hl]
    rw [slipsB_len hl]
    go_enter Try.func49, Try.ntmps49
    go_wp2
    go_ret
    exact ⟨rfl, rfl⟩

/-- Which nets are right. -/
def netOk (W H : Int) (lr : Nat) (r : Nat → Int) (lu : Nat) (u : Nat → Int) : Bool :=
  decide (1 ≤ W ∧ W ≤ 30) && (decide (1 ≤ H ∧ H ≤ 30) && (slipsB lr r ((W - 1) * H) && slipsB lu u (W * (H - 1))))
theorem mul_in {a b x y : Int} (h1 : 0 ≤ a ∧ a ≤ x) (h2 : 0 ≤ b ∧ b ≤ y) : 0 ≤ a * b ∧ a * b ≤ x * y :=
  ⟨Int.mul_nonneg h1.1 h2.1, Int.mul_le_mul h1.2 h2.2 h2.1 (by omega)⟩
set_option maxHeartbeats 4000000 in
theorem implNetOk_any {w : World} {a a' : Option Addr} {lr lu cr cu : Nat} {r u : Nat → Int} (W H : Int) (hr : Src w a lr r) (hu : Src w a' lu u) (hlr : lr ≤ 1048576) (hlu : lu ≤ 1048576) :
    Calls Try.prog 52 #[nV W H (.slice a lr cr) (.slice a' lu cu)] w fun e w' => e = .returned (.bool (netOk W H lr r lu u)) ∧ Below w.heap.size w w' := by
  obtain ⟨V, hV, b0, bV, -⟩ := boxed w 32 #[.int .i64 W, .int .i64 H, .slice a lr cr, .slice a' lu cu]
  obtain ⟨c0, c1, c2, c3, -⟩ := b0.open4
  replace hr := hr.below bV
  replace hu := hu.below bV
  by_cases hW : 1 ≤ W ∧ W ≤ 30
  · by_cases hH : 1 ≤ H ∧ H ≤ 30
    · have p1 := mul_in (a := W - 1) (b := H) (x := 30) (y := 30) (by omega) (by omega)
      have p2 := mul_in (a := W) (b := H - 1) (x := 30) (y := 30) (by omega) (by omega)
      have hd : netOk W H lr r lu u = (slipsB lr r ((W - 1) * H) && slipsB lu u (W * (H - 1))) := by simp [netOk, hW, hH]
      rw [hd]
      have C1 := fun (w' : World) (h : V = w') => implSlips_any (cap := cr) ((W - 1) * H) (h ▸ hr) hlr
      have C2 := fun (w' : World) (h : V = w') => implSlips_any (cap := cu) (W * (H - 1)) (h ▸ hu) hlu
      rcases h1 : slipsB lr r ((W - 1) * H) with _ | _ <;> rcases Int.le_total W H with hWH | hWH
      all_goals
        rw [h1] at C1
        go_enter Try.func52, Try.ntmps52
        go_wp2_with (first | (go_at_call_of 65 (Value.slice a lr cr); refine (C1 _ rfl).mono ?_; rintro e w2 ⟨rfl, rfl⟩) | (go_at_call_of 65 (Value.slice a' lu cu); refine (C2 _ rfl).mono ?_; rintro e w2 ⟨rfl, rfl⟩))
        all_goals
          go_ret
          exact ⟨by simp, bV⟩
    · have hd : netOk W H lr r lu u = false := by simp [netOk, hH]
      rw [hd]
      rcases (show W < H ∨ W = H ∨ H < W by omega) with hWH | hWH | hWH <;> rcases (show H < 1 ∨ 30 < H by omega) with hH1 | hH1
      all_goals
        first
        | (exfalso; omega)
        | (go_enter Try.func52, Try.ntmps52
           go_wp2
           all_goals
             first
             | (exfalso; omega)
             | (go_ret
                first | exact ⟨rfl, bV⟩ | exact ⟨rfl, below_alloc _ _⟩))
  · have hd : netOk W H lr r lu u = false := by simp [netOk, hW]
    rw [hd]
    rcases (show W < H ∨ W = H ∨ H < W by omega) with hWH | hWH | hWH <;> rcases (show W < 1 ∨ 30 < W by omega) with hW1 | hW1 <;> rcases (show H < 1 ∨ (1 ≤ H ∧ H ≤ 30) ∨ 30 < H by omega) with hH1 | hH1 | hH1
    all_goals
      first
      | (exfalso; omega)
      | (go_enter Try.func52, Try.ntmps52
         go_wp2
         all_goals
           first
           | (exfalso; omega)
           | (go_ret
              first | exact ⟨rfl, bV⟩ | exact ⟨rfl, below_alloc _ _⟩))
theorem specNetOk_any {w : World} {a a' : Option Addr} {lr lu cr cu : Nat} {r u : Nat → Int} (W H : Int) (hr : Src w a lr r) (hu : Src w a' lu u) (hlr : lr ≤ 1048576) (hlu : lu ≤ 1048576) :
    Calls Try.prog 14 #[nV W H (.slice a lr cr) (.slice a' lu cu)] w fun e w' => e = .returned (.bool (netOk W H lr r lu u)) ∧ Below w.heap.size w w' := by
  obtain ⟨V, hV, b0, bV, -⟩ := boxed w 32 #[.int .i64 W, .int .i64 H, .slice a lr cr, .slice a' lu cu]
  obtain ⟨c0, c1, c2, c3, -⟩ := b0.open4
  replace hr := hr.below bV
  replace hu := hu.below bV
  by_cases hW : 1 ≤ W ∧ W ≤ 30
  · have dW : decide (1 ≤ W ∧ W ≤ 30) = true := decide_eq_true hW
    by_cases hH : 1 ≤ H ∧ H ≤ 30
    · have dH : decide (1 ≤ H ∧ H ≤ 30) = true := decide_eq_true hH
      have p1 := mul_in (a := W - 1) (b := H) (x := 30) (y := 30) (by omega) (by omega)
      have p2 := mul_in (a := W) (b := H - 1) (x := 30) (y := 30) (by omega) (by omega)
      have hd : netOk W H lr r lu u = (slipsB lr r ((W - 1) * H) && slipsB lu u (W * (H - 1))) := by simp [netOk, hW, hH]
      rw [hd]
      have C1 := fun (w' : World) (h : V = w') => specSlips_any (cap := cr) ((W - 1) * H) (h ▸ hr) hlr
      have C2 := fun (w' : World) (h : V = w') => specSlips_any (cap := cu) (W * (H - 1)) (h ▸ hu) hlu
      rcases h1 : slipsB lr r ((W - 1) * H) with _ | _
      all_goals
        rw [h1] at C1
        go_enter Try.func14, Try.ntmps14
        go_wp2_with (first | (go_at_call_of 49 (Value.slice a lr cr); refine (C1 _ rfl).mono ?_; rintro e w2 ⟨rfl, rfl⟩) | (go_at_call_of 49 (Value.slice a' lu cu); refine (C2 _ rfl).mono ?_; rintro e w2 ⟨rfl, rfl⟩) | (go_at_call 48; refine (in_any _ _ _ _).mono ?_; rintro e w2 ⟨rfl, rfl⟩; first | rw [dW] | rw [dH]))
        go_ret
        exact ⟨by simp, bV⟩
    · have dH : decide (1 ≤ H ∧ H ≤ 30) = false := decide_eq_false hH
      have hd : netOk W H lr r lu u = false := by simp [netOk, hH]
      rw [hd]
      go_enter Try.func14, Try.ntmps14
      go_wp2_with (go_at_call 48; refine (in_any _ _ _ _).mono ?_; rintro e w2 ⟨rfl, rfl⟩; first | rw [dW] | rw [dH])
      go_ret
      exact ⟨by simp, bV⟩
  · have dW : decide (1 ≤ W ∧ W ≤ 30) = false := decide_eq_false hW
    have hd : netOk W H lr r lu u = false := by simp [netOk, hW]
    rw [hd]
    go_enter Try.func14, Try.ntmps14
    go_wp2_with (go_at_call 48; refine (in_any _ _ _ _).mono ?_; rintro e w2 ⟨rfl, rfl⟩; first | rw [dW])
    go_ret
    exact ⟨by simp, bV⟩
end Go.Proofs.Ytlmgdcoknpakcaa
