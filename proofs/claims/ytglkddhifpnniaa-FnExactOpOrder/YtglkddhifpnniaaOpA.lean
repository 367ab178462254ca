/-
  Operators as the laws take them over, and compare, mark and hold them, walked.
-/
import Derived.Test.YtglkddhifpnniaaArr
namespace Go.Proofs.Ytglkddhifpnniaa
open Go.RowKit

theorem At.open2 {t : TypeId} {w : World} {q : Nat} {v0 v1 : Value} (h : At t w q #[v0, v1]) : w.cell? ⟨q, 0, none⟩ = some v0 ∧ w.cell? ⟨q, 1, none⟩ = some v1 ∧ w.frozen? ⟨q, 0, none⟩ = false ∧ w.frozen? ⟨q, 1, none⟩ = false :=
  ⟨h.cell 0 rfl, h.cell 1 rfl, h.frozen 0, h.frozen 1⟩
/-- An operator of its own memory. -/
def OpAt (w : World) (lo hi : Nat) (o : Value) (n : Nat) (f : Nat → Int) (k : Nat) (h : Nat → Int) : Prop :=
  ∃ v1 v2, o = .agg #[v1, v2] ∧ Arr w lo hi v1 n f ∧ Arr w lo hi v2 k h ∧ Apart v1 v2
theorem OpAt.below {w w' : World} {lo hi : Nat} {o : Value} {n k : Nat} {f h : Nat → Int} (ho : OpAt w lo hi o n f k h) (hb : Below w.heap.size w w') : OpAt w' lo hi o n f k h := by
  obtain ⟨v1, v2, e, h1, h2, h3⟩ := ho
  exact ⟨v1, v2, e, h1.below hb, h2.below hb, h3⟩
/-- Blocks from lo up to hi alone may have turned. -/
structure Turn (lo hi : Nat) (w w' : World) : Prop where
  os : w'.os = w.os
  tape : w'.tape = w.tape
  output : w'.output = w.output
  size : w.heap.size ≤ w'.heap.size
  block : ∀ k, k < w.heap.size → (k < lo ∨ hi ≤ k) → w'.heap[k]? = w.heap[k]?
theorem Turn.trans {lo hi : Nat} {a b c : World} (h : Turn lo hi a b) (k : Turn lo hi b c) : Turn lo hi a c :=
  ⟨k.os.trans h.os, k.tape.trans h.tape, k.output.trans h.output, Nat.le_trans h.size k.size, fun i hi hp => (k.block i (Nat.lt_of_lt_of_le hi h.size) hp).trans (h.block i hi hp)⟩
theorem Turn.of_below {lo hi : Nat} {w w' : World} (h : Below w.heap.size w w') : Turn lo hi w w' := ⟨h.os, h.tape, h.output, h.size, fun k hk _ => h.block k hk⟩
theorem Turn.of_only {lo hi : Nat} {v : Value} {w w' : World} {n : Nat} {f : Nat → Int} (h : Only v w w') (ha : Arr w lo hi v n f) : Turn lo hi w w' :=
  ⟨h.os, h.tape, h.output, h.size, fun k hk hd => h.block k hk (fun e => by have := ha.lt e; omega)⟩
theorem Turn.below {lo hi N : Nat} {w0 w w' : World} (h : Turn lo hi w w') (hb : Below N w0 w) (hN : N ≤ lo) (hs : N ≤ w.heap.size) : Below N w0 w' :=
  hb.trans ⟨h.os, h.tape, h.output, h.size, fun k hk => h.block k (by omega) (.inl (by omega))⟩
theorem Arr.turn {w w' : World} {lo hi a b : Nat} {v : Value} {n : Nat} {f : Nat → Int} (h : Arr w a b v n f) (ht : Turn lo hi w w') (hd : b ≤ lo ∨ hi ≤ a) : Arr w' a b v n f := by
  refine h.imp id ?_
  rintro ⟨g, c, rfl, hl, hh, hc, cur, h1, h2⟩
  exact ⟨g, c, rfl, hl, hh, hc, cur, (ht.block g h1.lt (by omega)).trans h1, h2⟩
theorem OpAt.turn {w w' : World} {lo hi a b : Nat} {o : Value} {n k : Nat} {f h : Nat → Int} (ho : OpAt w a b o n f k h) (ht : Turn lo hi w w') (hd : b ≤ lo ∨ hi ≤ a) : OpAt w' a b o n f k h := by
  obtain ⟨v1, v2, e, h1, h2, h3⟩ := ho
  exact ⟨v1, v2, e, h1.turn ht hd, h2.turn ht hd, h3⟩
theorem At.turn {t : TypeId} {w w' : World} {q lo hi : Nat} {vs : Array Value} (h : At t w q vs) (ht : Turn lo hi w w') (hd : q < lo ∨ hi ≤ q) : At t w' q vs := (ht.block q h.lt hd).trans h

theorem sz_any (a : Option Addr) (n cap : Nat) (left : Int) (w : World) (hn : n ≤ maxLen) (hl : -1 ≤ left ∧ left ≤ 1048576) :
    Calls Try.prog 17 #[.slice a n cap, .int .i64 left] w fun e w' => e = .returned (.int .i64 (if left < n then -1 else left - n)) ∧ w = w' := by
  unfold maxLen at hn
  by_cases h : left < n
  · rw [if_pos h]
    go_enter Try.func17, Try.ntmps17
    go_wp2
    go_ret
    exact ⟨rfl, rfl⟩
  · rw [if_neg h]
    go_enter Try.func17, Try.ntmps17
    go_wp2
    go_ret
    exact ⟨rfl, rfl⟩
theorem szOp_any (a b : Option Addr) (n cap k cap' : Nat) (left : Int) (w : World) (hn : n ≤ maxLen) (hk : k ≤ maxLen) (hl : -1 ≤ left ∧ left ≤ 1048576) :
    Calls Try.prog 6 #[.agg #[.slice a n cap, .slice b k cap'], .int .i64 left] w fun e w' => ∃ r : Int, e = .returned (.int .i64 r) ∧ (r = -1 ∨ (r = left - n - k ∧ 0 ≤ r)) ∧ Below w.heap.size w w' := by
  obtain ⟨W1, hW1, a1, bW1, z1⟩ := boxed w 24 #[.slice a n cap, .slice b k cap']
  obtain ⟨c0, c1, -⟩ := a1.open2
  by_cases h1 : left < n
  · have r1 : (if left < (n : Int) then -1 else left - n) = -1 := if_pos h1
    go_enter Try.func6, Try.ntmps6
    go_wp2_with (go_at_call 17; refine (sz_any _ _ _ _ _ (by assumption) (by omega)).mono ?_; rintro e w2 ⟨rfl, rfl⟩; try rw [r1])
    go_ret
    exact ⟨_, rfl, .inl rfl, bW1⟩
  · obtain ⟨L, hL⟩ : ∃ L, left - (n : Int) = L := ⟨_, rfl⟩
    have hL1 : 0 ≤ L ∧ L ≤ 1048576 := by omega
    have r1 : (if left < (n : Int) then -1 else left - n) = L := (if_neg h1).trans hL
    by_cases h2 : L < k
    · have r2 : (if L < (k : Int) then -1 else L - k) = -1 := if_pos h2
      go_enter Try.func6, Try.ntmps6
      go_wp2_with (go_at_call 17; refine (sz_any _ _ _ _ _ (by assumption) (by omega)).mono ?_; rintro e w2 ⟨rfl, rfl⟩; first | rw [r1] | rw [r2])
      go_ret
      exact ⟨_, rfl, .inl rfl, bW1⟩
    · obtain ⟨R, hR⟩ : ∃ R, L - (k : Int) = R := ⟨_, rfl⟩
      have hR1 : 0 ≤ R ∧ R ≤ 1048576 := by omega
      have r2 : (if L < (k : Int) then -1 else L - k) = R := (if_neg h2).trans hR
      go_enter Try.func6, Try.ntmps6
      go_wp2_with (go_at_call 17; refine (sz_any _ _ _ _ _ (by assumption) (by omega)).mono ?_; rintro e w2 ⟨rfl, rfl⟩; first | rw [r1] | rw [r2])
      go_ret
      exact ⟨_, rfl, .inr ⟨by omega, hR1.1⟩, bW1⟩
theorem Made.setOther {w : World} {g n k q i : Nat} {f : Nat → Int} (h : Made w g n k f) (hq : g ≠ q) (v : Value) : Made (w.setCell ⟨q, i, none⟩ v) g n k f := by
  obtain ⟨cur, q1, q2⟩ := h
  exact ⟨cur, q1.setOther hq _, q2⟩
theorem toOp_any {w : World} {a b : Option Addr} {n cap k cap' : Nat} {f h : Nat → Int} (hs : Src w a n f) (ht : Src w b k h) (hn : n ≤ 1048576) (hk : k ≤ 1048576) :
    Calls Try.prog 8 #[.agg #[.slice a n cap, .slice b k cap']] w fun e w' => ∃ o, e = .returned o ∧ OpAt w' w.heap.size w'.heap.size o n f k h ∧ Below w.heap.size w w' := by
  obtain ⟨W1, hW1, a1, bW1, -⟩ := boxed w 24 #[.slice a n cap, .slice b k cap']
  obtain ⟨W2, hW2, a2, bW2, -⟩ := boxed W1 26 #[.slice none 0 0, .slice none 0 0]
  obtain ⟨W3, hW3, a3, bW3, -⟩ := boxed W2 26 #[.slice none 0 0, .slice none 0 0]
  have s2 := a2.lt
  have s1 := a1.lt
  have s3 := a3.lt
  replace a1 := (a1.below bW2).below bW3
  replace a2 := a2.below bW3
  replace bW1 := (bW1.trans (bW2.mono bW1.size)).trans (bW3.mono (by omega))
  obtain ⟨c0, c1, -⟩ := a1.open2
  go_enter Try.func8, Try.ntmps8
  go_wp2_with fail
  refine (toInts_any (hs.below bW1) hn).mono ?_
  rintro e w1 ⟨g1, rfl, hg1, o1, b1⟩
  replace a1 := a1.below b1
  replace a2 := a2.below b1
  replace a3 := a3.below b1
  replace bW1 := bW1.trans (b1.mono bW1.size)
  have s4 := b1.size
  clear c0 c1 b1
  obtain ⟨c0, c1, -⟩ := a1.open2
  obtain ⟨d0, d1, e0, e1⟩ := a3.open2
  obtain ⟨W4, hW4, a34, a14, a24, o14, bW4, s5⟩ : ∃ W, w1.setCell ⟨W2.heap.size, 0, none⟩ (.slice (some ⟨g1, 0, none⟩) n n) = W ∧ At 26 W W2.heap.size #[.slice (some ⟨g1, 0, none⟩) n n, .slice none 0 0] ∧ At 24 W w.heap.size #[.slice a n cap, .slice b k cap'] ∧ At 26 W W1.heap.size #[.slice none 0 0, .slice none 0 0] ∧ Own W g1 n f ∧ Below w.heap.size w W ∧ W3.heap.size ≤ W.heap.size := by
    refine ⟨_, rfl, ?_, a1.setOther (by omega) _, a2.setOther (by omega) _, Made.setOther o1 (by omega) _, bW1.setCell (show w.heap.size ≤ W2.heap.size by omega) _, by simpa [World.setCell] using s4⟩
    simpa using a3.set 0 (.slice (some ⟨g1, 0, none⟩) n n)
  clear a1 a2 a3 o1 bW1
  clear c0 c1
  obtain ⟨c0, c1, -⟩ := a14.open2
  go_wp2_with fail
  refine (toInts_any (ht.below bW4) hk).mono ?_
  rintro e w5 ⟨g2, rfl, hg2, o2, b5⟩
  have hg12 : g1 < W4.heap.size := o14.lt
  replace a14 := a14.below b5
  replace a24 := a24.below b5
  replace a34 := a34.below b5
  replace o14 := o14.below b5
  replace bW4 := bW4.trans (b5.mono bW4.size)
  have s6 := b5.size
  clear c0 c1 d0 d1 e0 e1 b5 hW4
  obtain ⟨c0, c1, -⟩ := a14.open2
  obtain ⟨d0, d1, e0, e1⟩ := a34.open2
  obtain ⟨W6, hW6, a36, a26, o16, o26, bW6, s7⟩ : ∃ W, w5.setCell ⟨W2.heap.size, 1, none⟩ (.slice (some ⟨g2, 0, none⟩) k k) = W ∧ At 26 W W2.heap.size #[.slice (some ⟨g1, 0, none⟩) n n, .slice (some ⟨g2, 0, none⟩) k k] ∧ At 26 W W1.heap.size #[.slice none 0 0, .slice none 0 0] ∧ Own W g1 n f ∧ Own W g2 k h ∧ Below w.heap.size w W ∧ W4.heap.size ≤ W.heap.size := by
    refine ⟨_, rfl, ?_, a24.setOther (by omega) _, Made.setOther o14 (by omega) _, Made.setOther o2 (by omega) _, bW4.setCell (show w.heap.size ≤ W2.heap.size by omega) _, by simpa [World.setCell] using s6⟩
    simpa using a34.set 1 (.slice (some ⟨g2, 0, none⟩) k k)
  clear c0 c1 d0
  obtain ⟨c0, c1, -⟩ := a36.open2
  obtain ⟨f0, f1, r0, r1⟩ := a26.open2
  go_wp2
  have a7 : At 26 ((W6.setCell ⟨W1.heap.size, 0, none⟩ (.slice (some ⟨g1, 0, none⟩) n n)).setCell ⟨W1.heap.size, 1, none⟩ (.slice (some ⟨g2, 0, none⟩) k k)) W1.heap.size #[.slice (some ⟨g1, 0, none⟩) n n, .slice (some ⟨g2, 0, none⟩) k k] := by
    simpa using (a26.set 0 (.slice (some ⟨g1, 0, none⟩) n n)).set 1 (.slice (some ⟨g2, 0, none⟩) k k)
  obtain ⟨p0, p1, -⟩ := a7.open2
  refine bodyPost_ret (v := .agg #[.slice (some ⟨g1, 0, none⟩) n n, .slice (some ⟨g2, 0, none⟩) k k]) (by simp [results, Try.results8, go_sem, p0, p1]) rfl ?_
  have q1 : Own ((W6.setCell ⟨W1.heap.size, 0, none⟩ (.slice (some ⟨g1, 0, none⟩) n n)).setCell ⟨W1.heap.size, 1, none⟩ (.slice (some ⟨g2, 0, none⟩) k k)) g1 n f := Made.setOther (Made.setOther o16 (by omega) _) (by omega) _
  have q2 : Own ((W6.setCell ⟨W1.heap.size, 0, none⟩ (.slice (some ⟨g1, 0, none⟩) n n)).setCell ⟨W1.heap.size, 1, none⟩ (.slice (some ⟨g2, 0, none⟩) k k)) g2 k h := Made.setOther (Made.setOther o26 (by omega) _) (by omega) _
  refine ⟨_, rfl, ⟨_, _, rfl, arr_of_own q1 (by omega), arr_of_own q2 (by omega), ?_⟩, ?_⟩
  · intro x h1 h2
    cases h1
    cases h2
    omega
  · exact (bW6.setCell (show w.heap.size ≤ W1.heap.size by omega) _).setCell (show w.heap.size ≤ W1.heap.size by omega) _
theorem OpAt.wide {w : World} {lo hi lo' hi' : Nat} {o : Value} {n k : Nat} {f h : Nat → Int} (ho : OpAt w lo hi o n f k h) (h1 : lo' ≤ lo) (h2 : hi ≤ hi') : OpAt w lo' hi' o n f k h := by
  obtain ⟨v1, v2, e, r1, r2, r3⟩ := ho
  exact ⟨v1, v2, e, r1.wide h1 h2, r2.wide h1 h2, r3⟩
/-- Two operators with the same numbers are told as equal. -/
theorem eqOp_true {w : World} {lo1 hi1 lo2 hi2 : Nat} {o1 o2 : Value} {n k : Nat} {f h : Nat → Int} (h1 : OpAt w lo1 hi1 o1 n f k h) (h2 : OpAt w lo2 hi2 o2 n f k h) (hn : n ≤ 1048576) (hk : k ≤ 1048576) :
    Calls Try.prog 10 #[o1, o2] w fun e w' => e = .returned (.bool true) ∧ Below w.heap.size w w' := by
  obtain ⟨v1, u1, rfl, m1, t1, -⟩ := h1
  obtain ⟨v2, u2, rfl, m2, t2, -⟩ := h2
  obtain ⟨W1, hW1, a1, bW1, -⟩ := boxed w 26 #[v1, u1]
  obtain ⟨W2, hW2, a2, bW2, -⟩ := boxed W1 26 #[v2, u2]
  have s1 := a1.lt
  replace a1 := a1.below bW2
  replace m1 := (m1.below bW1).below bW2
  replace m2 := (m2.below bW1).below bW2
  replace t1 := (t1.below bW1).below bW2
  replace t2 := (t2.below bW1).below bW2
  replace bW1 := bW1.trans (bW2.mono bW1.size)
  obtain ⟨d1, e1, rfl, -⟩ := m1.src
  obtain ⟨d2, e2, rfl, -⟩ := m2.src
  obtain ⟨d3, e3, rfl, -⟩ := t1.src
  obtain ⟨d4, e4, rfl, -⟩ := t2.src
  obtain ⟨c0, c1, -⟩ := a1.open2
  obtain ⟨c2, c3, -⟩ := a2.open2
  go_enter Try.func10, Try.ntmps10
  go_wp2_with fail
  refine (eqArr_true m1 m2 hn).mono ?_
  rintro e w3 ⟨rfl, b3⟩
  replace a1 := a1.below b3
  replace a2 := a2.below b3
  replace t1 := t1.below b3
  replace t2 := t2.below b3
  replace bW1 := bW1.trans (b3.mono bW1.size)
  clear c0 c1 c2 c3 m1 m2
  obtain ⟨c0, c1, -⟩ := a1.open2
  obtain ⟨c2, c3, -⟩ := a2.open2
  go_wp2_with fail
  refine (eqArr_true t1 t2 hk).mono ?_
  rintro e w4 ⟨rfl, b4⟩
  go_wp2
  go_ret
  exact ⟨rfl, bW1.trans (b4.mono bW1.size)⟩
theorem markOp_any {w : World} {lo hi : Nat} {o : Value} {n k : Nat} {f h : Nat → Int} (ho : OpAt w lo hi o n f k h) (hn : n ≤ 1048576) (hk : k ≤ 1048576) (x : Nat) (hx : x ≤ 5000000) (hhi : hi ≤ w.heap.size) :
    Calls Try.prog 11 #[o, .int .i64 (x : Int)] w fun e w' => e = .returned (.int .i64 ((x + n + k : Nat) : Int)) ∧ OpAt w' lo hi o n (fun i => (x + i : Nat)) k (fun i => (x + n + i : Nat)) ∧ Turn lo hi w w' := by
  obtain ⟨v1, v2, rfl, m1, m2, ap⟩ := ho
  obtain ⟨W1, hW1, a1, bW1, -⟩ := boxed w 26 #[v1, v2]
  replace m1 := m1.below bW1
  replace m2 := m2.below bW1
  have tW : Turn lo hi w W1 := .of_below bW1
  obtain ⟨c0, c1, -⟩ := a1.open2
  obtain ⟨d1, e1, rfl, -⟩ := m1.src
  obtain ⟨d2, e2, rfl, -⟩ := m2.src
  go_enter Try.func11, Try.ntmps11
  go_wp2_with fail
  refine (markArr_any m1 hn x (by omega)).mono ?_
  rintro e w3 ⟨rfl, m1', o3⟩
  have t3 := Turn.of_only o3 m1
  replace a1 := a1.turn t3 (.inr hhi)
  replace m2 := m2.only o3 ap
  replace tW := tW.trans t3
  clear c0 c1 m1
  obtain ⟨c0, c1, -⟩ := a1.open2
  go_wp2_with fail
  refine (markArr_any m2 hk (x + n) (by omega)).mono ?_
  rintro e w4 ⟨rfl, m2', o4⟩
  have t4 := Turn.of_only o4 m2
  go_wp2
  go_ret
  exact ⟨rfl, ⟨_, _, rfl, m1'.only o4 ap.symm, m2', ap⟩, tW.trans t4⟩
theorem heldOp_any {w : World} {lo hi : Nat} {o : Value} {n k : Nat} (x : Nat) (ho : OpAt w lo hi o n (fun i => (x + i : Nat)) k (fun i => (x + n + i : Nat))) (hn : n ≤ 1048576) (hk : k ≤ 1048576) (hx : x ≤ 5000000) :
    Calls Try.prog 12 #[o, .int .i64 (x : Int)] w fun e w' => e = .returned (.int .i64 ((x + n + k : Nat) : Int)) ∧ Below w.heap.size w w' := by
  obtain ⟨v1, v2, rfl, m1, m2, ap⟩ := ho
  obtain ⟨W1, hW1, a1, bW1, -⟩ := boxed w 26 #[v1, v2]
  replace m1 := m1.below bW1
  replace m2 := m2.below bW1
  obtain ⟨c0, c1, -⟩ := a1.open2
  obtain ⟨d1, e1, rfl, -⟩ := m1.src
  obtain ⟨d2, e2, rfl, -⟩ := m2.src
  go_enter Try.func12, Try.ntmps12
  go_wp2_with fail
  refine (heldArr_any x m1 hn (by omega)).mono ?_
  rintro e w3 ⟨rfl, b3⟩
  replace a1 := a1.below b3
  replace m2 := m2.below b3
  replace bW1 := bW1.trans (b3.mono bW1.size)
  clear c0 c1 m1 b3
  obtain ⟨c0, c1, -⟩ := a1.open2
  have p1 : ¬ ((x + n : Nat) : Int) < 0 := by omega
  go_wp2_with fail
  refine (heldArr_any (x + n) m2 hk (by omega)).mono ?_
  rintro e w4 ⟨rfl, b4⟩
  have p2 : ¬ ((x + n + k : Nat) : Int) < 0 := by omega
  go_wp2
  go_ret
  exact ⟨rfl, bW1.trans (b4.mono bW1.size)⟩
end Go.Proofs.Ytglkddhifpnniaa
