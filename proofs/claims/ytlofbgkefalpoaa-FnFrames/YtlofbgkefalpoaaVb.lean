/-
  Frames: sized, taken over, compared, marked and held, walked.
-/
import Derived.Test.YtlofbgkefalpoaaVa
namespace Go.Proofs.Ytlofbgkefalpoaa
open Go.RowKit

theorem szFrame_any (W H : Int) (a : Option Addr) (len cap : Nat) (left : Int) (w : World) (hn : len ≤ maxLen) (hl : 0 ≤ left ∧ left ≤ 1048576) :
    Calls Try.prog 14 #[fV W H (.slice a len cap), .int .i64 left] w fun e w' => ∃ r : Int, e = .returned (.int .i64 r) ∧ (r = -1 ∨ (r = left - len ∧ 0 ≤ r)) ∧ Below w.heap.size w w' := by
  obtain ⟨W1, hW1, a1, bW1, z1⟩ := boxed w 34 #[.int .i64 W, .int .i64 H, .slice a len cap]
  obtain ⟨c0, c1, c2, -⟩ := a1.open3
  by_cases h1 : left < len
  · have r1 : (if left < (len : Int) then -1 else left - len) = -1 := if_pos h1
    go_enter Try.func14, Try.ntmps14
    go_wp2_with (go_at_call 42; refine (szI_any _ _ _ _ _ (by assumption) (by omega)).mono ?_; rintro e w2 ⟨rfl, rfl⟩; rw [r1])
    go_ret
    exact ⟨_, rfl, .inl rfl, bW1⟩
  · obtain ⟨L, hL⟩ : ∃ L, left - (len : Int) = L := ⟨_, rfl⟩
    have hL1 : 0 ≤ L ∧ L ≤ 1048576 := by omega
    have r1 : (if left < (len : Int) then -1 else left - len) = L := (if_neg h1).trans hL
    go_enter Try.func14, Try.ntmps14
    go_wp2_with (go_at_call 42; refine (szI_any _ _ _ _ _ (by assumption) (by omega)).mono ?_; rintro e w2 ⟨rfl, rfl⟩; rw [r1])
    go_ret
    exact ⟨_, rfl, .inr ⟨hL.symm, hL1.1⟩, bW1⟩
/-- A frame of its own memory. -/
def FrAt (w : World) (lo hi : Nat) (m : Value) (W H : Int) (len : Nat) (f : Nat → Int) : Prop := ∃ v, m = fV W H v ∧ Arr w lo hi v len f
theorem FrAt.below {w w' : World} {lo hi : Nat} {m : Value} {W H : Int} {len : Nat} {f : Nat → Int} (h : FrAt w lo hi m W H len f) (hb : Below w.heap.size w w') : FrAt w' lo hi m W H len f := by
  obtain ⟨v, e, h1⟩ := h
  exact ⟨v, e, h1.below hb⟩
theorem FrAt.wide {w : World} {lo hi lo' hi' : Nat} {m : Value} {W H : Int} {len : Nat} {f : Nat → Int} (h : FrAt w lo hi m W H len f) (h1 : lo' ≤ lo) (h2 : hi ≤ hi') : FrAt w lo' hi' m W H len f := by
  obtain ⟨v, e, h3⟩ := h
  exact ⟨v, e, h3.wide h1 h2⟩
theorem FrAt.turn {w w' : World} {lo hi a b : Nat} {m : Value} {W H : Int} {len : Nat} {f : Nat → Int} (h : FrAt w a b m W H len f) (ht : Turn lo hi w w') (hd : b ≤ lo ∨ hi ≤ a) : FrAt w' a b m W H len f := by
  obtain ⟨v, e, h3⟩ := h
  exact ⟨v, e, h3.turn ht hd⟩
theorem FrAt.open {w : World} {lo hi : Nat} {m : Value} {W H : Int} {len : Nat} {f : Nat → Int} (h : FrAt w lo hi m W H len f) : ∃ a c, m = fV W H (.slice a len c) ∧ Src w a len f ∧ Arr w lo hi (.slice a len c) len f := by
  obtain ⟨v, rfl, h1⟩ := h
  obtain ⟨a, c, rfl, hs⟩ := h1.src
  exact ⟨a, c, rfl, hs, h1⟩
theorem toFrame_any {w : World} {a : Option Addr} {len cap : Nat} {f : Nat → Int} (W H : Int) (hs : Src w a len f) (hn : len ≤ 1048576) :
    Calls Try.prog 16 #[fV W H (.slice a len cap)] w fun e w' => ∃ m, e = .returned m ∧ FrAt w' w.heap.size w'.heap.size m W H len f ∧ Below w.heap.size w w' := by
  obtain ⟨W1, hW1, a1, bW1, -⟩ := boxed w 34 #[.int .i64 W, .int .i64 H, .slice a len cap]
  obtain ⟨W2, hW2, a2, bW2, -⟩ := boxed W1 28 #[.int .i64 0, .int .i64 0, .slice none 0 0]
  obtain ⟨W3, hW3, a3, bW3, -⟩ := boxed W2 28 #[.int .i64 0, .int .i64 0, .slice none 0 0]
  have s2 := a2.lt
  have s1 := a1.lt
  have s3 := a3.lt
  replace a1 := (a1.below bW2).below bW3
  replace a2 := a2.below bW3
  replace bW1 := (bW1.trans (bW2.mono bW1.size)).trans (bW3.mono (by omega))
  obtain ⟨c0, c1, c2, -⟩ := a1.open3
  obtain ⟨d0, d1, d2, e0, e1, e2⟩ := a3.open3
  go_enter Try.func16, Try.ntmps16
  go_wp2_with fail
  obtain ⟨V, hV, v1, v2, v3, bV, sV⟩ : ∃ V, (W3.setCell ⟨W2.heap.size, 0, none⟩ (.int .i64 W)).setCell ⟨W2.heap.size, 1, none⟩ (.int .i64 H) = V ∧ At 34 V w.heap.size #[.int .i64 W, .int .i64 H, .slice a len cap] ∧ At 28 V W1.heap.size #[.int .i64 0, .int .i64 0, .slice none 0 0] ∧ At 28 V W2.heap.size #[.int .i64 W, .int .i64 H, .slice none 0 0] ∧ Below w.heap.size w V ∧ W3.heap.size ≤ V.heap.size := by
    refine ⟨_, rfl, (a1.setOther (by omega) _).setOther (by omega) _, (a2.setOther (by omega) _).setOther (by omega) _, by simpa using (a3.set 0 (.int .i64 W)).set 1 (.int .i64 H), (bW1.setCell (show w.heap.size ≤ W2.heap.size by omega) _).setCell (show w.heap.size ≤ W2.heap.size by omega) _, by simp [World.setCell]⟩
  rw [hV]
  clear c0 c1 c2 d0 d1 d2 e0 e1 e2 a1 a2 a3 hV hW1 hW2 hW3 bW2 bW3
  refine (toInts_any (hs.below bV) hn).mono ?_
  rintro e w1 ⟨g1, rfl, hg1, o1, b1⟩
  replace v1 := v1.below b1
  replace v2 := v2.below b1
  replace v3 := v3.below b1
  replace bV := bV.trans (b1.mono bV.size)
  have s4 := b1.size
  have s5 := o1.lt
  clear b1
  obtain ⟨d0, d1, d2, e0, e1, e2⟩ := v3.open3
  obtain ⟨W4, hW4, a34, a24, o14, bW4⟩ : ∃ W4, w1.setCell ⟨W2.heap.size, 2, none⟩ (.slice (some ⟨g1, 0, none⟩) len len) = W4 ∧ At 28 W4 W2.heap.size #[.int .i64 W, .int .i64 H, .slice (some ⟨g1, 0, none⟩) len len] ∧ At 28 W4 W1.heap.size #[.int .i64 0, .int .i64 0, .slice none 0 0] ∧ Own W4 g1 len f ∧ Below w.heap.size w W4 := by
    refine ⟨_, rfl, by simpa using v3.set 2 (.slice (some ⟨g1, 0, none⟩) len len), v2.setOther (by omega) _, Made.setOther o1 (by omega) _, bV.setCell (show w.heap.size ≤ W2.heap.size by omega) _⟩
  clear d0 d1
  obtain ⟨c0, c1, c2, -⟩ := a34.open3
  obtain ⟨f0, f1, f2, r0, r1, r2⟩ := a24.open3
  go_wp2
  have a7 := put3_at a24 (.int .i64 W) (.int .i64 H) (.slice (some ⟨g1, 0, none⟩) len len)
  obtain ⟨p0, p1, p2, -⟩ := a7.open3
  refine bodyPost_ret (v := fV W H (.slice (some ⟨g1, 0, none⟩) len len)) (by simp [results, Try.results16, go_sem, p0, p1, p2]) rfl ?_
  have q1 : Own (((W4.setCell ⟨W1.heap.size, 0, none⟩ (.int .i64 W)).setCell ⟨W1.heap.size, 1, none⟩ (.int .i64 H)).setCell ⟨W1.heap.size, 2, none⟩ (.slice (some ⟨g1, 0, none⟩) len len)) g1 len f := Made.setOther (Made.setOther (Made.setOther o14 (by omega) _) (by omega) _) (by omega) _
  exact ⟨_, rfl, ⟨_, rfl, arr_of_own q1 (by omega)⟩, below_put3 bW4 (by omega) _ _ _⟩
theorem eqFrame_true {w : World} {lo1 hi1 lo2 hi2 : Nat} {m1 m2 : Value} {W H : Int} {len : Nat} {f : Nat → Int} (h1 : FrAt w lo1 hi1 m1 W H len f) (h2 : FrAt w lo2 hi2 m2 W H len f) (hn : len ≤ 1048576) :
    Calls Try.prog 18 #[m1, m2] w fun e w' => e = .returned (.bool true) ∧ Below w.heap.size w w' := by
  obtain ⟨v1, rfl, m1⟩ := h1
  obtain ⟨v2, rfl, m2⟩ := h2
  obtain ⟨W1, hW1, a1, bW1, -⟩ := boxed w 28 #[.int .i64 W, .int .i64 H, v1]
  obtain ⟨W2, hW2, a2, bW2, -⟩ := boxed W1 28 #[.int .i64 W, .int .i64 H, v2]
  have s1 := a1.lt
  replace a1 := a1.below bW2
  replace m1 := (m1.below bW1).below bW2
  replace m2 := (m2.below bW1).below bW2
  replace bW1 := bW1.trans (bW2.mono bW1.size)
  obtain ⟨d1, e1, rfl, -⟩ := m1.src
  obtain ⟨d2, e2, rfl, -⟩ := m2.src
  obtain ⟨c0, c1, c2, -⟩ := a1.open3
  obtain ⟨c4, c5, c6, -⟩ := a2.open3
  go_enter Try.func18, Try.ntmps18
  go_wp2_with fail
  refine (eqArr_true m1 m2 hn).mono ?_
  rintro e w3 ⟨rfl, b3⟩
  go_wp2
  go_ret
  exact ⟨rfl, bW1.trans (b3.mono bW1.size)⟩
theorem markFrame_any {w : World} {lo hi : Nat} {m : Value} {W H : Int} {len : Nat} {f : Nat → Int} (ho : FrAt w lo hi m W H len f) (hn : len ≤ 1048576) (x : Nat) (hx : x ≤ 5000000) :
    Calls Try.prog 23 #[m, .int .i64 (x : Int)] w fun e w' => e = .returned (.int .i64 ((x + len : Nat) : Int)) ∧ FrAt w' lo hi m W H len (fun i => (x + i : Nat)) ∧ Turn lo hi w w' := by
  obtain ⟨v1, rfl, m1⟩ := ho
  obtain ⟨W1, hW1, a1, bW1, -⟩ := boxed w 28 #[.int .i64 W, .int .i64 H, v1]
  replace m1 := m1.below bW1
  have tW : Turn lo hi w W1 := .of_below bW1
  obtain ⟨c0, c1, c2, -⟩ := a1.open3
  obtain ⟨d1, e1, rfl, -⟩ := m1.src
  go_enter Try.func23, Try.ntmps23
  go_wp2_with fail
  refine (markArr_any m1 hn x (by omega)).mono ?_
  rintro e w3 ⟨rfl, m1', o3⟩
  have t3 := Turn.of_only o3 m1
  go_wp2
  go_ret
  exact ⟨rfl, ⟨_, rfl, m1'⟩, tW.trans t3⟩
theorem heldFrame_any {w : World} {lo hi : Nat} {m : Value} {W H : Int} {len : Nat} (x : Nat) (ho : FrAt w lo hi m W H len (fun i => (x + i : Nat))) (hn : len ≤ 1048576) (hx : x ≤ 5000000) :
    Calls Try.prog 24 #[m, .int .i64 (x : Int)] w fun e w' => e = .returned (.int .i64 ((x + len : Nat) : Int)) ∧ Below w.heap.size w w' := by
  obtain ⟨v1, rfl, m1⟩ := ho
  obtain ⟨W1, hW1, a1, bW1, -⟩ := boxed w 28 #[.int .i64 W, .int .i64 H, v1]
  replace m1 := m1.below bW1
  obtain ⟨c0, c1, c2, -⟩ := a1.open3
  obtain ⟨d1, e1, rfl, -⟩ := m1.src
  go_enter Try.func24, Try.ntmps24
  go_wp2_with fail
  refine (heldArr_any x m1 hn (by omega)).mono ?_
  rintro e w3 ⟨rfl, b3⟩
  have p1 : ¬ ((x + len : Nat) : Int) < 0 := by omega
  go_wp2
  go_ret
  exact ⟨rfl, bW1.trans (b3.mono bW1.size)⟩
end Go.Proofs.Ytlofbgkefalpoaa
