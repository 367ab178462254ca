/-
  Maps: taken over, compared, sized; which are right, by the program and by the specification, walked.
-/
import Derived.Test.YtiocneailhplkaaGreatMC
import Derived.Test.YtiocneailhplkaaGreatMA
namespace Go.Proofs.YtiocneailhplkaaGreat
open Go.RowKit

/-- The sides of maps. -/
def side (n : Int) : Prop := n = 1 ∨ n = 2 ∨ n = 3 ∨ n = 4 ∨ n = 6 ∨ n = 12
instance (n : Int) : Decidable (side n) := by unfold side; infer_instance
theorem cyclic_any (n : Int) (w : World) (hn : -9223372036854775808 ≤ n ∧ n ≤ 9223372036854775807) : Calls Tryz.prog 65 #[.int .i64 n] w fun e w' => e = .returned (.bool (decide (side n))) ∧ w = w' := by
  by_cases h0 : 0 < n
  · have h1 : ¬ n = 0 := by omega
    by_cases h12 : n ≤ 12
    · rcases (by omega : n = 1 ∨ n = 2 ∨ n = 3 ∨ n = 4 ∨ n = 5 ∨ n = 6 ∨ n = 7 ∨ n = 8 ∨ n = 9 ∨ n = 10 ∨ n = 11 ∨ n = 12) with rfl | rfl | rfl | rfl | rfl | rfl | rfl | rfl | rfl | rfl | rfl | rfl
      all_goals
        go_enter Tryz.func65, Tryz.ntmps65
        go_wp2
        go_ret
        exact ⟨by simp [side], rfl⟩
    · have ht : (12 : Int).tmod n = 12 := Int.tmod_eq_of_lt (by omega) (by omega)
      have hd : decide (side n) = false := decide_eq_false (by unfold side; omega)
      rw [hd]
      go_enter Tryz.func65, Tryz.ntmps65
      go_wp2
      go_ret
      exact ⟨rfl, rfl⟩
  · have hd : decide (side n) = false := decide_eq_false (by unfold side; omega)
    rw [hd]
    go_enter Tryz.func65, Tryz.ntmps65
    go_wp2
    go_ret
    exact ⟨rfl, rfl⟩
theorem side_any (n : Int) (w : World) : Calls Tryz.prog 53 #[.int .i64 n] w fun e w' => e = .returned (.bool (decide (side n))) ∧ w = w' := by
  by_cases h : side n
  · rcases h with rfl | rfl | rfl | rfl | rfl | rfl
    all_goals
      go_enter Tryz.func53, Tryz.ntmps53
      go_wp2
      go_ret
      exact ⟨by simp [side], rfl⟩
  · rw [decide_eq_false h]
    unfold side at h
    have h1 : (n == 1) = false := by simp; omega
    have h2 : (n == 2) = false := by simp; omega
    have h3 : (n == 3) = false := by simp; omega
    have h4 : (n == 4) = false := by simp; omega
    have h6 : (n == 6) = false := by simp; omega
    have h12 : (n == 12) = false := by simp; omega
    go_enter Tryz.func53, Tryz.ntmps53
    go_wp2
    go_ret
    exact ⟨by simp, rfl⟩
/-- Which maps are right. -/
def mapOk (n : Int) (len : Nat) (f : Nat → Int) : Prop := side n ∧ (len : Int) = n * n * n ∧ ∀ i, i < len → 0 ≤ f i ∧ f i ≤ 12288
instance (n : Int) (len : Nat) (f : Nat → Int) : Decidable (mapOk n len f) := by unfold mapOk; infer_instance
abbrev mV (n : Int) (v : Value) : Value := .agg #[.int .i64 n, v]
theorem side_by {n : Int} (h : side n) : (1 ≤ n ∧ n ≤ 12) ∧ (0 ≤ n * n ∧ n * n ≤ 144) ∧ (0 ≤ n * n * n ∧ n * n * n ≤ 1728) := by
  rcases h with rfl | rfl | rfl | rfl | rfl | rfl <;> decide
theorem implMapOk_any {w : World} {a : Option Addr} {len cap : Nat} {f : Nat → Int} (n : Int) (hn : -9223372036854775808 ≤ n ∧ n ≤ 9223372036854775807) (hs : Src w a len f) (hlen : len ≤ 1048576) :
    Calls Tryz.prog 32 #[mV n (.slice a len cap)] w fun e w' => e = .returned (.bool (decide (mapOk n len f))) ∧ Below w.heap.size w w' := by
  obtain ⟨W, hW, b0, bW, -⟩ := boxed w 26 #[.int .i64 n, .slice a len cap]
  obtain ⟨c0, c1, -⟩ := b0.open2
  replace hs := hs.below bW
  by_cases hside : side n
  · have hd : decide (side n) = true := decide_eq_true hside
    by_cases hl : (len : Int) = n * n * n
    · have hl0 := hl
      have H : ∀ k, k < len → ¬ (0 ≤ f k ∧ f k ≤ 12288) → decide (mapOk n len f) = false := fun k hk h => decide_eq_false fun h' => h (h'.2.2 k hk)
      have H1 : (∀ i, i < len → 0 ≤ f i ∧ f i ≤ 12288) → decide (mapOk n len f) = true := fun h => decide_eq_true ⟨hside, hl0, h⟩
      generalize decide (mapOk n len f) = D at H H1 ⊢
      have hll : (len : Int) ≤ 1048576 := by omega
      have hne : ((len : Int) != n * n * n) = false := by simp [hl]
      obtain ⟨q0, q1, q2⟩ := side_by hside
      clear hside hl hl0
      go_enter Tryz.func32, Tryz.ntmps32
      go_wp2_with (go_at_call 65; refine (cyclic_any _ _ (by omega)).mono ?_; rintro e w2 ⟨rfl, rfl⟩; try rw [hd])
      go_loopw [26] (fun s wr => ∃ k : Nat, k ≤ len ∧ s = .int .i64 k ∧ (∀ i, i < k → 0 ≤ f i ∧ f i ≤ 12288) ∧ Below W.heap.size W wr) (fun s _ => len - (intOf s).toNat)
      case atStart => exact ⟨0, Nat.zero_le _, rfl, fun i hi => absurd hi (by omega), Below.refl _ _⟩
      case round =>
        obtain ⟨k, hk, rfl, hall, hbel⟩ := hrel
        by_cases hlt : k < len
        · have hlt' : (k : Int) < (len : Int) := by omega
          rcases hs with h0 | ⟨b, off, rfl, hb, hr⟩
          · omega
          have g0 := (hbel.cell (p := ⟨b, off + k, none⟩) hb).trans (hr k hlt)
          replace b0 := b0.below hbel
          obtain ⟨c0, c1, -⟩ := b0.open2
          by_cases p1 : f k < 0
          · go_wp2
            go_ret
            exact ⟨by rw [H k hlt (by omega)]; rfl, bW.trans (hbel.mono bW.size)⟩
          · by_cases p2 : 12289 ≤ f k
            · go_wp2
              go_ret
              exact ⟨by rw [H k hlt (by omega)]; rfl, bW.trans (hbel.mono bW.size)⟩
            · go_wp2
              refine ⟨⟨k + 1, by omega, by go_num, fun i hi => ?_, hbel⟩, by simp [intOf]; omega⟩
              by_cases e : i = k
              · subst e; omega
              · exact hall i (by omega)
        · have hlt' : ¬ (k : Int) < (len : Int) := by omega
          obtain rfl : k = len := by omega
          replace b0 := b0.below hbel
          obtain ⟨c0, c1, -⟩ := b0.open2
          go_wp2
          go_ret
          exact ⟨by rw [H1 hall]; rfl, bW.trans (hbel.mono bW.size)⟩
    · have hdd : decide (mapOk n len f) = false := decide_eq_false fun h => hl h.2.1
      rw [hdd]
      have hll : (len : Int) ≤ 1048576 := by omega
      have hne : ((len : Int) != n * n * n) = true := by simp [hl]
      obtain ⟨q0, q1, q2⟩ := side_by hside
      clear hside hl
      go_enter Tryz.func32, Tryz.ntmps32
      go_wp2_with (go_at_call 65; refine (cyclic_any _ _ (by omega)).mono ?_; rintro e w2 ⟨rfl, rfl⟩; try rw [hd])
      go_ret
      exact ⟨rfl, bW⟩
  · have hd : decide (side n) = false := decide_eq_false hside
    have hdd : decide (mapOk n len f) = false := decide_eq_false fun h => hside h.1
    rw [hdd]
    go_enter Tryz.func32, Tryz.ntmps32
    go_wp2_with (go_at_call 65; refine (cyclic_any _ _ (by omega)).mono ?_; rintro e w2 ⟨rfl, rfl⟩; try rw [hd])
    go_ret
    exact ⟨rfl, bW⟩
theorem specMapOk_any {w : World} {a : Option Addr} {len cap : Nat} {f : Nat → Int} (n : Int) (hs : Src w a len f) (hlen : len ≤ 1048576) :
    Calls Tryz.prog 25 #[mV n (.slice a len cap)] w fun e w' => e = .returned (.bool (decide (mapOk n len f))) ∧ Below w.heap.size w w' := by
  obtain ⟨W, hW, b0, bW, -⟩ := boxed w 26 #[.int .i64 n, .slice a len cap]
  obtain ⟨c0, c1, -⟩ := b0.open2
  replace hs := hs.below bW
  by_cases hside : side n
  · have hd : decide (side n) = true := decide_eq_true hside
    by_cases hl : (len : Int) = n * n * n
    · have hl0 := hl
      have H : ∀ k, k < len → ¬ (0 ≤ f k ∧ f k ≤ 12288) → decide (mapOk n len f) = false := fun k hk h => decide_eq_false fun h' => h (h'.2.2 k hk)
      have H1 : (∀ i, i < len → 0 ≤ f i ∧ f i ≤ 12288) → decide (mapOk n len f) = true := fun h => decide_eq_true ⟨hside, hl0, h⟩
      generalize decide (mapOk n len f) = D at H H1 ⊢
      have hll : (len : Int) ≤ 1048576 := by omega
      have hne : ((len : Int) != n * n * n) = false := by simp [hl]
      obtain ⟨q0, q1, q2⟩ := side_by hside
      clear hside hl hl0
      go_enter Tryz.func25, Tryz.ntmps25
      go_wp2_with (go_at_call 53; refine (side_any _ _).mono ?_; rintro e w2 ⟨rfl, rfl⟩; try rw [hd])
      go_loopw [3] (fun s wr => ∃ k : Nat, k ≤ len ∧ s = .int .i64 k ∧ (∀ i, i < k → 0 ≤ f i ∧ f i ≤ 12288) ∧ Below W.heap.size W wr) (fun s _ => len - (intOf s).toNat)
      case atStart => exact ⟨0, Nat.zero_le _, rfl, fun i hi => absurd hi (by omega), Below.refl _ _⟩
      case round =>
        obtain ⟨k, hk, rfl, hall, hbel⟩ := hrel
        by_cases hlt : k < len
        · have hlt' : (k : Int) < (len : Int) := by omega
          rcases hs with h0 | ⟨b, off, rfl, hb, hr⟩
          · omega
          have g0 := (hbel.cell (p := ⟨b, off + k, none⟩) hb).trans (hr k hlt)
          replace b0 := b0.below hbel
          obtain ⟨c0, c1, -⟩ := b0.open2
          by_cases p1 : 0 ≤ f k ∧ f k ≤ 12288
          · have hi : decide (0 ≤ f k ∧ f k ≤ 12288) = true := decide_eq_true p1
            go_wp2_with (go_at_call 54; refine (in_any _ _ _ _).mono ?_; rintro e w2 ⟨rfl, rfl⟩; rw [hi])
            refine ⟨⟨k + 1, by omega, by go_num, fun i hi => ?_, hbel⟩, by simp [intOf]; omega⟩
            by_cases e : i = k
            · subst e; exact p1
            · exact hall i (by omega)
          · have hi : decide (0 ≤ f k ∧ f k ≤ 12288) = false := decide_eq_false p1
            go_wp2_with (go_at_call 54; refine (in_any _ _ _ _).mono ?_; rintro e w2 ⟨rfl, rfl⟩; rw [hi])
            go_ret
            exact ⟨by rw [H k hlt p1]; rfl, bW.trans (hbel.mono bW.size)⟩
        · have hlt' : ¬ (k : Int) < (len : Int) := by omega
          obtain rfl : k = len := by omega
          replace b0 := b0.below hbel
          obtain ⟨c0, c1, -⟩ := b0.open2
          go_wp2
          go_ret
          exact ⟨by rw [H1 hall]; rfl, bW.trans (hbel.mono bW.size)⟩
    · have hdd : decide (mapOk n len f) = false := decide_eq_false fun h => hl h.2.1
      rw [hdd]
      have hll : (len : Int) ≤ 1048576 := by omega
      have hne : ((len : Int) != n * n * n) = true := by simp [hl]
      obtain ⟨q0, q1, q2⟩ := side_by hside
      clear hside hl
      go_enter Tryz.func25, Tryz.ntmps25
      go_wp2_with (go_at_call 53; refine (side_any _ _).mono ?_; rintro e w2 ⟨rfl, rfl⟩; try rw [hd])
      go_ret
      exact ⟨rfl, bW⟩
  · have hd : decide (side n) = false := decide_eq_false hside
    have hdd : decide (mapOk n len f) = false := decide_eq_false fun h => hside h.1
    rw [hdd]
    go_enter Tryz.func25, Tryz.ntmps25
    go_wp2_with (go_at_call 53; refine (side_any _ _).mono ?_; rintro e w2 ⟨rfl, rfl⟩; try rw [hd])
    go_ret
    exact ⟨rfl, bW⟩
theorem szMap_any (n : Int) (a : Option Addr) (len cap : Nat) (w : World) (hn : len ≤ maxLen) :
    Calls Tryz.prog 12 #[mV n (.slice a len cap), .int .i64 1048576] w fun e w' => ∃ r : Int, e = .returned (.int .i64 r) ∧ (r = -1 ∨ (r = 1048576 - len ∧ 0 ≤ r)) ∧ Below w.heap.size w w' := by
  obtain ⟨W1, hW1, a1, bW1, z1⟩ := boxed w 34 #[.int .i64 n, .slice a len cap]
  obtain ⟨c0, c1, -⟩ := a1.open2
  by_cases h1 : (1048576 : Int) < len
  · have r1 : (if (1048576 : Int) < (len : Int) then -1 else (1048576 : Int) - len) = -1 := if_pos h1
    go_enter Tryz.func12, Tryz.ntmps12
    go_wp2_with (go_at_call 40; refine (sz_any _ _ _ _ _ (by assumption) (by omega)).mono ?_; rintro e w2 ⟨rfl, rfl⟩; rw [r1])
    go_ret
    exact ⟨_, rfl, .inl rfl, bW1⟩
  · obtain ⟨L, hL⟩ : ∃ L, 1048576 - (len : Int) = L := ⟨_, rfl⟩
    have hL1 : 0 ≤ L ∧ L ≤ 1048576 := by omega
    have r1 : (if (1048576 : Int) < (len : Int) then -1 else (1048576 : Int) - len) = L := (if_neg h1).trans hL
    go_enter Tryz.func12, Tryz.ntmps12
    go_wp2_with (go_at_call 40; refine (sz_any _ _ _ _ _ (by assumption) (by omega)).mono ?_; rintro e w2 ⟨rfl, rfl⟩; rw [r1])
    go_ret
    exact ⟨_, rfl, .inr ⟨hL.symm, hL1.1⟩, bW1⟩
/-- A map of its own memory. -/
def MapAt (w : World) (lo hi : Nat) (m : Value) (n : Int) (len : Nat) (f : Nat → Int) : Prop := ∃ v, m = mV n v ∧ Arr w lo hi v len f
theorem MapAt.below {w w' : World} {lo hi : Nat} {m : Value} {n : Int} {len : Nat} {f : Nat → Int} (h : MapAt w lo hi m n len f) (hb : Below w.heap.size w w') : MapAt w' lo hi m n len f := by
  obtain ⟨v, e, h1⟩ := h
  exact ⟨v, e, h1.below hb⟩
theorem MapAt.wide {w : World} {lo hi lo' hi' : Nat} {m : Value} {n : Int} {len : Nat} {f : Nat → Int} (h : MapAt w lo hi m n len f) (h1 : lo' ≤ lo) (h2 : hi ≤ hi') : MapAt w lo' hi' m n len f := by
  obtain ⟨v, e, h3⟩ := h
  exact ⟨v, e, h3.wide h1 h2⟩
theorem MapAt.turn {w w' : World} {lo hi a b : Nat} {m : Value} {n : Int} {len : Nat} {f : Nat → Int} (h : MapAt w a b m n len f) (ht : Turn lo hi w w') (hd : b ≤ lo ∨ hi ≤ a) : MapAt w' a b m n len f := by
  obtain ⟨v, e, h3⟩ := h
  exact ⟨v, e, h3.turn ht hd⟩
theorem toMap_any {w : World} {a : Option Addr} {len cap : Nat} {f : Nat → Int} (n : Int) (hs : Src w a len f) (hn : len ≤ 1048576) :
    Calls Tryz.prog 14 #[mV n (.slice a len cap)] w fun e w' => ∃ m, e = .returned m ∧ MapAt w' w.heap.size w'.heap.size m n len f ∧ Below w.heap.size w w' := by
  obtain ⟨W1, hW1, a1, bW1, -⟩ := boxed w 34 #[.int .i64 n, .slice a len cap]
  obtain ⟨W2, hW2, a2, bW2, -⟩ := boxed W1 26 #[.int .i64 0, .slice none 0 0]
  obtain ⟨W3, hW3, a3, bW3, -⟩ := boxed W2 26 #[.int .i64 0, .slice none 0 0]
  have s2 := a2.lt
  have s1 := a1.lt
  have s3 := a3.lt
  replace a1 := (a1.below bW2).below bW3
  replace a2 := a2.below bW3
  replace bW1 := (bW1.trans (bW2.mono bW1.size)).trans (bW3.mono (by omega))
  obtain ⟨c0, c1, -⟩ := a1.open2
  obtain ⟨d0, d1, e0, e1⟩ := a3.open2
  go_enter Tryz.func14, Tryz.ntmps14
  go_wp2_with fail
  obtain ⟨V, hV, v1, v2, v3, bV, sV⟩ : ∃ V, W3.setCell ⟨W2.heap.size, 0, none⟩ (.int .i64 n) = V ∧ At 34 V w.heap.size #[.int .i64 n, .slice a len cap] ∧ At 26 V W1.heap.size #[.int .i64 0, .slice none 0 0] ∧ At 26 V W2.heap.size #[.int .i64 n, .slice none 0 0] ∧ Below w.heap.size w V ∧ W3.heap.size ≤ V.heap.size := by
    refine ⟨_, rfl, a1.setOther (by omega) _, a2.setOther (by omega) _, by simpa using a3.set 0 (.int .i64 n), bW1.setCell (show w.heap.size ≤ W2.heap.size by omega) _, by simp [World.setCell]⟩
  rw [hV]
  clear c0 c1 d0 d1 e0 e1 a1 a2 a3 hV hW1 hW2 hW3 bW2 bW3
  refine (toInts_any (hs.below bV) hn).mono ?_
  rintro e w1 ⟨g1, rfl, hg1, o1, b1⟩
  replace v1 := v1.below b1
  replace v2 := v2.below b1
  replace v3 := v3.below b1
  replace bV := bV.trans (b1.mono bV.size)
  have s4 := b1.size
  clear b1
  obtain ⟨d0, d1, e0, e1⟩ := v3.open2
  obtain ⟨W4, hW4, a34, a24, o14, bW4⟩ : ∃ W, w1.setCell ⟨W2.heap.size, 1, none⟩ (.slice (some ⟨g1, 0, none⟩) len len) = W ∧ At 26 W W2.heap.size #[.int .i64 n, .slice (some ⟨g1, 0, none⟩) len len] ∧ At 26 W W1.heap.size #[.int .i64 0, .slice none 0 0] ∧ Own W g1 len f ∧ Below w.heap.size w W := by
    refine ⟨_, rfl, by simpa using v3.set 1 (.slice (some ⟨g1, 0, none⟩) len len), v2.setOther (by omega) _, Made.setOther o1 (by omega) _, bV.setCell (show w.heap.size ≤ W2.heap.size by omega) _⟩
  clear d0
  obtain ⟨c0, c1, -⟩ := a34.open2
  obtain ⟨f0, f1, r0, r1⟩ := a24.open2
  go_wp2
  have a7 : At 26 ((W4.setCell ⟨W1.heap.size, 0, none⟩ (.int .i64 n)).setCell ⟨W1.heap.size, 1, none⟩ (.slice (some ⟨g1, 0, none⟩) len len)) W1.heap.size #[.int .i64 n, .slice (some ⟨g1, 0, none⟩) len len] := by
    simpa using (a24.set 0 (.int .i64 n)).set 1 (.slice (some ⟨g1, 0, none⟩) len len)
  obtain ⟨p0, p1, -⟩ := a7.open2
  refine bodyPost_ret (v := mV n (.slice (some ⟨g1, 0, none⟩) len len)) (by simp [results, Tryz.results14, go_sem, p0, p1]) rfl ?_
  have q1 : Own ((W4.setCell ⟨W1.heap.size, 0, none⟩ (.int .i64 n)).setCell ⟨W1.heap.size, 1, none⟩ (.slice (some ⟨g1, 0, none⟩) len len)) g1 len f := Made.setOther (Made.setOther o14 (by omega) _) (by omega) _
  exact ⟨_, rfl, ⟨_, rfl, arr_of_own q1 (by omega)⟩, (bW4.setCell (show w.heap.size ≤ W1.heap.size by omega) _).setCell (show w.heap.size ≤ W1.heap.size by omega) _⟩
theorem eqMap_true {w : World} {lo1 hi1 lo2 hi2 : Nat} {m1 m2 : Value} {n : Int} {len : Nat} {f : Nat → Int} (h1 : MapAt w lo1 hi1 m1 n len f) (h2 : MapAt w lo2 hi2 m2 n len f) (hn : len ≤ 1048576) :
    Calls Tryz.prog 16 #[m1, m2] w fun e w' => e = .returned (.bool true) ∧ Below w.heap.size w w' := by
  obtain ⟨v1, rfl, m1⟩ := h1
  obtain ⟨v2, rfl, m2⟩ := h2
  obtain ⟨W1, hW1, a1, bW1, -⟩ := boxed w 26 #[.int .i64 n, v1]
  obtain ⟨W2, hW2, a2, bW2, -⟩ := boxed W1 26 #[.int .i64 n, v2]
  have s1 := a1.lt
  replace a1 := a1.below bW2
  replace m1 := (m1.below bW1).below bW2
  replace m2 := (m2.below bW1).below bW2
  replace bW1 := bW1.trans (bW2.mono bW1.size)
  obtain ⟨d1, e1, rfl, -⟩ := m1.src
  obtain ⟨d2, e2, rfl, -⟩ := m2.src
  obtain ⟨c0, c1, -⟩ := a1.open2
  obtain ⟨c2, c3, -⟩ := a2.open2
  go_enter Tryz.func16, Tryz.ntmps16
  go_wp2_with fail
  refine (eqArr_true m1 m2 hn).mono ?_
  rintro e w3 ⟨rfl, b3⟩
  go_wp2
  go_ret
  exact ⟨rfl, bW1.trans (b3.mono bW1.size)⟩
theorem markMap_any {w : World} {lo hi : Nat} {m : Value} {n : Int} {len : Nat} {f : Nat → Int} (ho : MapAt w lo hi m n len f) (hn : len ≤ 1048576) (x : Nat) (hx : x ≤ 5000000) :
    Calls Tryz.prog 18 #[m, .int .i64 (x : Int)] w fun e w' => e = .returned (.int .i64 ((x + len : Nat) : Int)) ∧ MapAt w' lo hi m n len (fun i => (x + i : Nat)) ∧ Turn lo hi w w' := by
  obtain ⟨v1, rfl, m1⟩ := ho
  obtain ⟨W1, hW1, a1, bW1, -⟩ := boxed w 26 #[.int .i64 n, v1]
  replace m1 := m1.below bW1
  have tW : Turn lo hi w W1 := .of_below bW1
  obtain ⟨c0, c1, -⟩ := a1.open2
  obtain ⟨d1, e1, rfl, -⟩ := m1.src
  go_enter Tryz.func18, Tryz.ntmps18
  go_wp2_with fail
  refine (markArr_any m1 hn x (by omega)).mono ?_
  rintro e w3 ⟨rfl, m1', o3⟩
  have t3 := Turn.of_only o3 m1
  go_wp2
  go_ret
  exact ⟨rfl, ⟨_, rfl, m1'⟩, tW.trans t3⟩
theorem heldMap_any {w : World} {lo hi : Nat} {m : Value} {n : Int} {len : Nat} (x : Nat) (ho : MapAt w lo hi m n len (fun i => (x + i : Nat))) (hn : len ≤ 1048576) (hx : x ≤ 5000000) :
    Calls Tryz.prog 20 #[m, .int .i64 (x : Int)] w fun e w' => e = .returned (.int .i64 ((x + len : Nat) : Int)) ∧ Below w.heap.size w w' := by
  obtain ⟨v1, rfl, m1⟩ := ho
  obtain ⟨W1, hW1, a1, bW1, -⟩ := boxed w 26 #[.int .i64 n, v1]
  replace m1 := m1.below bW1
  obtain ⟨c0, c1, -⟩ := a1.open2
  obtain ⟨d1, e1, rfl, -⟩ := m1.src
  go_enter Tryz.func20, Tryz.ntmps20
  go_wp2_with fail
  refine (heldArr_any x m1 hn (by omega)).mono ?_
  rintro e w3 ⟨rfl, b3⟩
  have p1 : ¬ ((x + len : Nat) : Int) < 0 := by omega
  go_wp2
  go_ret
  exact ⟨rfl, bW1.trans (b3.mono bW1.size)⟩
end Go.Proofs.YtiocneailhplkaaGreat
