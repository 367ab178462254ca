/-
  The exact law of traces reduced: walked.
-/
import Derived.Test.YthcanmnbaemdbaaDoorRd
namespace Go.Proofs.YthcanmnbaemdbaaDoor
open Go.RowKit

theorem src_own {w : World} {g n : Nat} {f : Nat → Int} (h : Own w g n f) : Src w (some ⟨g, 0, none⟩) n f := .inr ⟨g, 0, rfl, h.lt, Made.row h⟩
theorem tab_turn {w w' : World} {lo hi : Nat} (h : Tab w) (t : Turn lo hi w w') (hl : 0 < lo) : Tab w' :=
  ⟨Nat.lt_of_lt_of_le h.1 t.size, fun i hi => (World.cell?_of_block (w := w) (t.block 0 h.1 (.inl hl))).trans (h.2 i hi)⟩
set_option maxRecDepth 100000 in
set_option maxHeartbeats 3200000 in
theorem exactReduced_walk {w : World} {a : Option Addr} {len cap : Nat} {f : Nat → Int} (n : Int) (hn64 : -9223372036854775808 ≤ n ∧ n ≤ 9223372036854775807) (hS : Src w a len f) (hn : len ≤ maxLen) (ht : Tab w) :
    Calls Tryd.prog 5 #[.int .i64 n, .slice a len cap] w fun e w' => e = .returned (.bool true) ∧ Below w.heap.size w w' := by
  unfold maxLen at hn
  have h0w := ht.1
  have bW : Below w.heap.size w w := Below.refl _ _
  go_enter Tryd.func5, Tryd.ntmps5
  by_cases hc' : len ≤ 1048576
  case neg =>
    have hc2 : (1048576 : Int) < (len : Int) := by omega
    go_wp2
    go_ret
    exact ⟨rfl, Below.refl _ _⟩
  have hc := hc'
  have hc2 : ¬ (1048576 : Int) < (len : Int) := by omega
  obtain ⟨L, F, b, hL, SP, IM⟩ := red_some (len := len) (f := f) n hc hn64
  have hL' : L ≤ 1048576 := by omega
  have hbb : (b != b) = false := by simp
  go_wp2_with fail
  refine (toInts_any (hS.below bW) hc).mono ?_
  rintro e w2 ⟨g1, rfl, lg1, O1, b2⟩
  replace ht := ht.below b2
  replace bW := bW.trans (b2.mono bW.size)
  clear b2
  go_wp2_with fail
  refine (SP _ _ _ (src_own O1)).mono ?_
  rintro e w3 ⟨v0, rfl, A0, b3⟩
  replace ht := ht.below b3
  replace O1 := O1.below b3
  replace bW := bW.trans (b3.mono bW.size)
  clear b3
  obtain ⟨a0, c0, rfl, -⟩ := A0.src
  clear O1
  go_wp2_with fail
  refine (toInts_any (hS.below bW) hc).mono ?_
  have bW3 := bW.size
  rintro e w4 ⟨gx, rfl, lx, OX, b4⟩
  replace ht := ht.below b4
  replace A0 := A0.below b4
  replace bW := bW.trans (b4.mono bW.size)
  clear b4
  have lxs := OX.lt
  have AX : Arr w4 gx (gx + 1) (.slice (some ⟨gx, 0, none⟩) len len) len f := .inr ⟨gx, len, rfl, Nat.le_refl _, by omega, Nat.le_refl _, OX⟩
  go_wp2_with fail
  refine (IM _ _ _ (src_own OX) ht).mono ?_
  rintro e w5 ⟨v1, rfl, A1, b5⟩
  clear OX
  replace ht := ht.below b5
  replace A0 := A0.below b5
  replace AX := AX.below b5
  replace bW := bW.trans (b5.mono bW.size)
  clear b5
  obtain ⟨a1, c1, rfl, -⟩ := A1.src
  go_wp2_with fail
  refine (eqArr_true A1 A0 hL').mono ?_
  rintro e w6 ⟨rfl, b6⟩
  replace ht := ht.below b6
  replace A0 := A0.below b6
  replace AX := AX.below b6
  replace A1 := A1.below b6
  replace bW := bW.trans (b6.mono bW.size)
  clear b6
  go_wp2_with fail
  refine (toInts_any (hS.below bW) hc).mono ?_
  rintro e w7 ⟨g7, rfl, lg7, O7, b7⟩
  replace ht := ht.below b7
  replace A0 := A0.below b7
  replace AX := AX.below b7
  replace A1 := A1.below b7
  replace bW := bW.trans (b7.mono bW.size)
  clear b7
  go_wp2_with fail
  refine (eqArr_true AX (arr_of_own O7 (Nat.le_refl _)) hc).mono ?_
  rintro e w8 ⟨rfl, b8⟩
  replace ht := ht.below b8
  replace A0 := A0.below b8
  replace AX := AX.below b8
  replace A1 := A1.below b8
  replace bW := bW.trans (b8.mono bW.size)
  clear b8
  clear O7
  go_wp2_with fail
  refine (markArr_any AX hc 1 (by omega)).mono ?_
  rintro e w9 ⟨rfl, AX', o9⟩
  have t9 := Turn.of_only o9 AX
  replace A0 := A0.turn t9 (.inl (by omega))
  replace A1 := A1.turn t9 (.inr (by omega))
  replace ht : Tab w9 := tab_turn ht t9 (by omega)
  replace bW := t9.below bW (by omega) bW.size
  clear AX AX' o9 t9
  obtain ⟨Kx, hKx⟩ : ∃ K : Int, ((1 + len : Nat) : Int) = K := ⟨_, rfl⟩
  have hKx0 : ¬ Kx < 0 := by omega
  rw [hKx]
  go_wp2_with fail
  refine (eqArr_true A1 A0 hL').mono ?_
  rintro e w10 ⟨rfl, b10⟩
  replace ht := ht.below b10
  replace A0 := A0.below b10
  replace A1 := A1.below b10
  replace bW := bW.trans (b10.mono bW.size)
  clear b10
  go_wp2_with fail
  refine (markArr_any A1 hL' 1 (by omega)).mono ?_
  rintro e w11 ⟨rfl, A1', o11⟩
  have t11 := Turn.of_only o11 A1
  replace A0 := A0.turn t11 (.inl (by omega))
  replace ht : Tab w11 := tab_turn ht t11 (by omega)
  replace bW := t11.below bW (by omega) bW.size
  clear A1 o11 t11
  obtain ⟨Kq, hKq⟩ : ∃ K : Int, ((1 + L : Nat) : Int) = K := ⟨_, rfl⟩
  have hK0 : ¬ Kq < 0 := by omega
  have hK1 : (Kq != Kq) = false := by simp
  rw [hKq]
  go_wp2_with fail
  refine (heldArr_any 1 A1' hL' (by omega)).mono ?_
  rintro e w12 ⟨rfl, b12⟩
  rw [hKq]
  replace ht := ht.below b12
  replace A0 := A0.below b12
  replace A1' := A1'.below b12
  replace bW := bW.trans (b12.mono bW.size)
  clear b12
  go_wp2_with fail
  refine (toInts_any (hS.below bW) hc).mono ?_
  rintro e w13 ⟨g13, rfl, lg13, O13, b13⟩
  replace ht := ht.below b13
  replace A0 := A0.below b13
  replace A1' := A1'.below b13
  replace bW := bW.trans (b13.mono bW.size)
  clear b13
  go_wp2_with fail
  refine (IM _ _ _ (src_own O13) ht).mono ?_
  rintro e w14 ⟨v2, rfl, A2, b14⟩
  clear O13
  replace ht := ht.below b14
  replace A0 := A0.below b14
  replace A1' := A1'.below b14
  replace bW := bW.trans (b14.mono bW.size)
  clear b14
  obtain ⟨a2, c2, rfl, -⟩ := A2.src
  go_wp2_with fail
  refine (eqArr_true A2 A0 hL').mono ?_
  rintro e w15 ⟨rfl, b15⟩
  replace ht := ht.below b15
  replace A0 := A0.below b15
  replace A1' := A1'.below b15
  replace A2 := A2.below b15
  replace bW := bW.trans (b15.mono bW.size)
  clear b15
  go_wp2_with fail
  refine (heldArr_any 1 A1' hL' (by omega)).mono ?_
  rintro e w16 ⟨rfl, b16⟩
  rw [hKq]
  replace ht := ht.below b16
  replace A0 := A0.below b16
  replace A1' := A1'.below b16
  replace A2 := A2.below b16
  replace bW := bW.trans (b16.mono bW.size)
  clear b16
  go_wp2
  go_ret
  exact ⟨rfl, bW⟩
theorem reduced_of {w : World} {a : Option Addr} {len cap : Nat} {zs : List Int} {n : Int} (hn : (Lit.int .i64 n).wf = true) (h1 : IsRow .i64 w a len cap zs) (ht : Tab w) :
    Calls Tryd.prog 5 #[.int .i64 n, .slice a len cap] w fun e w' => e = .returned (.bool true) ∧ Below w.heap.size w w' := by
  obtain ⟨f, hs, hl, -⟩ := src_of h1
  exact exactReduced_walk n (wf64 hn) hs hl ht
end Go.Proofs.YthcanmnbaemdbaaDoor
