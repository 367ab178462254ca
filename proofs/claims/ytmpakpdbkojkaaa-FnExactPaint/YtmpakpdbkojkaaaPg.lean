/-
  The exact law of painted atoms: walked.
-/
import Derived.Test.YtmpakpdbkojkaaaPf
namespace Go.Proofs.Ytmpakpdbkojkaaa
open Go.RowKit

theorem Laid4.lt {w : World} {g n k : Nat} {f : Nat → Int} (h : Laid4 w g n k f) : g < w.heap.size := by
  obtain ⟨cur, h1, -⟩ := h
  exact h1.lt
set_option maxRecDepth 100000 in
set_option maxHeartbeats 3200000 in
theorem exactPaint_walk {w : World} {a : Option Addr} {cnt cap : Nat} {f : Nat → Int} (n : Int) (hn64 : -9223372036854775808 ≤ n ∧ n ≤ 9223372036854775807) (hS : Src w a (cnt * 4) f) (hn : cnt ≤ maxLen) :
    Calls Try.prog 5 #[.slice a cnt cap, .int .i64 n] w fun e w' => e = .returned (.bool true) ∧ Below w.heap.size w w' := by
  go_enter Try.func5, Try.ntmps5
  go_wp2_with fail
  refine (sz_any _ hn).mono ?_
  rintro e w1 ⟨⟨r, rfl, hr⟩, rfl⟩
  rcases hr with rfl | ⟨h0, hc⟩
  · go_wp2
    go_ret
    exact ⟨rfl, Below.refl _ _⟩
  · have h1 : ¬ r < 0 := by omega
    have bW : Below w.heap.size w w := Below.refl _ _
    have hL' : ∀ L : Nat, L ≤ 1728 → L ≤ 1048576 := fun _ h => by omega
    obtain ⟨N, L, F, hL, SP, IM⟩ := paint_some (cnt := cnt) (f := f) n hc hn64
    go_wp2_with fail
    refine (toAtomS_any (hS.below bW) hc).mono ?_
    rintro e w2 ⟨g1, rfl, Q1, b2⟩
    replace bW := bW.trans (b2.mono bW.size)
    clear b2
    go_wp2_with fail
    refine (SP _ _ _ Q1).mono ?_
    rintro e w3 ⟨m0, rfl, M0, b3⟩
    replace bW := bW.trans (b3.mono bW.size)
    clear b3
    obtain ⟨v0, rfl, A0⟩ := M0
    obtain ⟨a0, c0, rfl, -⟩ := A0.src
    clear Q1
    obtain ⟨V3, hV3, bw, bb, -⟩ := boxed w3 41 #[.int .i64 N, .slice a0 L c0]
    have s3 : w3.heap.size < V3.heap.size := bw.lt
    replace A0 := A0.below bb
    replace bW := bW.trans (bb.mono bW.size)
    clear bb
    go_wp2_with fail
    obtain ⟨qw, hqw⟩ : ∃ q, w3.heap.size = q := ⟨_, rfl⟩
    rw [hqw] at A0 bw s3 ⊢
    clear hV3 hqw
    have bW3 := bW.size
    refine (toAtomS_own (hS.below bW) hc).mono ?_
    rintro e w4 ⟨gx, rfl, lx, LX, b4⟩
    replace A0 := A0.below b4
    replace bw := bw.below b4
    replace bW := bW.trans (b4.mono bW.size)
    clear b4
    have lx2 : qw < gx := Nat.lt_of_lt_of_le s3 lx
    have bW0 : w.heap.size ≤ gx := Nat.le_trans bW3 lx
    clear s3 lx
    go_wp2_with fail
    refine (IM _ _ _ LX.quads).mono ?_
    have lx3 := LX.lt
    rintro e w5 ⟨m1, rfl, M1, b5⟩
    have sz5 := b5.size
    replace A0 := A0.below b5
    replace bw := bw.below b5
    replace LX := LX.below b5
    replace bW := bW.trans (b5.mono bW.size)
    clear b5
    obtain ⟨v1, rfl, A1⟩ := M1
    obtain ⟨a1, c1, rfl, -⟩ := A1.src
    obtain ⟨V5, hV5, bg, bb, -⟩ := boxed w5 41 #[.int .i64 N, .slice a1 L c1]
    have s5 : w5.heap.size < V5.heap.size := bg.lt
    replace A0 := A0.below bb
    replace bw := bw.below bb
    replace LX := LX.below bb
    replace A1 := A1.below bb
    replace bW := bW.trans (bb.mono bW.size)
    clear bb
    obtain ⟨x0, x1, -⟩ := bw.open2
    obtain ⟨y0, y1, -⟩ := bg.open2
    go_wp2_with fail
    obtain ⟨qg, hqg⟩ : ∃ q, w5.heap.size = q := ⟨_, rfl⟩
    rw [hqg] at A1 bg s5 sz5 y0 y1 ⊢
    obtain ⟨l1, hl1⟩ : ∃ q, w4.heap.size = q := ⟨_, rfl⟩
    rw [hl1] at A1 lx3 sz5
    clear hV5 hqg hl1
    refine (eqMap_true ⟨_, rfl, A1⟩ ⟨_, rfl, A0⟩ (hL' L hL)).mono ?_
    rintro e w6 ⟨rfl, b6⟩
    replace A0 := A0.below b6
    replace bw := bw.below b6
    replace LX := LX.below b6
    replace A1 := A1.below b6
    replace bg := bg.below b6
    replace bW := bW.trans (b6.mono bW.size)
    clear b6
    clear x0 x1 y0 y1
    go_wp2_with fail
    refine (toAtomS_any (hS.below bW) hc).mono ?_
    rintro e w7 ⟨g7, rfl, Q7, b7⟩
    replace A0 := A0.below b7
    replace bw := bw.below b7
    replace LX := LX.below b7
    replace A1 := A1.below b7
    replace bg := bg.below b7
    replace bW := bW.trans (b7.mono bW.size)
    clear b7
    go_wp2_with fail
    refine (eqAtomS_true LX.quads Q7 hc).mono ?_
    rintro e w8 ⟨rfl, b8⟩
    replace A0 := A0.below b8
    replace bw := bw.below b8
    replace LX := LX.below b8
    replace A1 := A1.below b8
    replace bg := bg.below b8
    replace bW := bW.trans (b8.mono bW.size)
    clear b8
    clear Q7
    go_wp2_with fail
    refine (markAtomS_any LX hc).mono ?_
    rintro e w9 ⟨r9, rfl, hr9, t9⟩
    have n9 : ¬ r9 < 0 := by omega
    replace A0 := A0.turn t9 (.inl (by omega))
    replace bw := bw.turn t9 (.inl lx2)
    replace A1 := A1.turn t9 (.inr (by omega))
    replace bg := bg.turn t9 (.inr (by omega))
    replace bW := t9.below bW (by have := bW0; omega) bW.size
    clear LX t9
    obtain ⟨x0, x1, -⟩ := bw.open2
    obtain ⟨y0, y1, -⟩ := bg.open2
    go_wp2_with fail
    refine (eqMap_true ⟨_, rfl, A1⟩ ⟨_, rfl, A0⟩ (hL' L hL)).mono ?_
    rintro e w10 ⟨rfl, b10⟩
    replace A0 := A0.below b10
    replace bw := bw.below b10
    replace A1 := A1.below b10
    replace bg := bg.below b10
    replace bW := bW.trans (b10.mono bW.size)
    clear b10
    clear x0 x1 y0 y1
    obtain ⟨y0, y1, -⟩ := bg.open2
    go_wp2_with fail
    refine (markMap_any ⟨_, rfl, A1⟩ (hL' L hL) 1 (by omega)).mono ?_
    rintro e w11 ⟨rfl, M1, t11⟩
    obtain ⟨v1, ev1, A1'⟩ := M1
    clear A1
    obtain rfl : Value.slice a1 L c1 = v1 := by simpa using ev1
    replace A0 := A0.turn t11 (.inl (by omega))
    replace bw := bw.turn t11 (.inl (by omega))
    replace bg := bg.turn t11 (.inr (Nat.le_refl _))
    replace bW := t11.below bW (by omega) bW.size
    clear t11 ev1 y0 y1
    obtain ⟨Kq, hKq⟩ : ∃ K : Int, ((1 + L : Nat) : Int) = K := ⟨_, rfl⟩
    have hK0 : ¬ Kq < 0 := by omega
    have hK1 : (Kq != Kq) = false := by simp
    rw [hKq]
    obtain ⟨y0, y1, -⟩ := bg.open2
    go_wp2_with fail
    refine (heldMap_any 1 ⟨_, rfl, A1'⟩ (hL' L hL) (by omega)).mono ?_
    rintro e w12 ⟨rfl, b12⟩
    rw [hKq]
    replace A0 := A0.below b12
    replace bw := bw.below b12
    replace bg := bg.below b12
    replace A1' := A1'.below b12
    replace bW := bW.trans (b12.mono bW.size)
    clear b12
    clear y0 y1
    go_wp2_with fail
    refine (toAtomS_any (hS.below bW) hc).mono ?_
    rintro e w13 ⟨g13, rfl, Q13, b13⟩
    replace A0 := A0.below b13
    replace bw := bw.below b13
    replace bg := bg.below b13
    replace A1' := A1'.below b13
    replace bW := bW.trans (b13.mono bW.size)
    clear b13
    go_wp2_with fail
    refine (IM _ _ _ Q13).mono ?_
    rintro e w14 ⟨m2, rfl, M2, b14⟩
    replace A0 := A0.below b14
    replace bw := bw.below b14
    replace bg := bg.below b14
    replace A1' := A1'.below b14
    replace bW := bW.trans (b14.mono bW.size)
    clear b14
    obtain ⟨v2, rfl, A2⟩ := M2
    obtain ⟨a2, c2, rfl, -⟩ := A2.src
    clear Q13
    obtain ⟨V14, hV14, bh, bb, -⟩ := boxed w14 41 #[.int .i64 N, .slice a2 L c2]
    replace A0 := A0.below bb
    replace bw := bw.below bb
    replace bg := bg.below bb
    replace A1' := A1'.below bb
    replace A2 := A2.below bb
    replace bW := bW.trans (bb.mono bW.size)
    clear bb
    obtain ⟨x0, x1, -⟩ := bw.open2
    obtain ⟨z0, z1, -⟩ := bh.open2
    go_wp2_with fail
    refine (eqMap_true ⟨_, rfl, A2⟩ ⟨_, rfl, A0⟩ (hL' L hL)).mono ?_
    rintro e w15 ⟨rfl, b15⟩
    replace A0 := A0.below b15
    replace bw := bw.below b15
    replace bg := bg.below b15
    replace A1' := A1'.below b15
    replace A2 := A2.below b15
    replace bh := bh.below b15
    replace bW := bW.trans (b15.mono bW.size)
    clear b15
    clear x0 x1 z0 z1 hV14
    obtain ⟨y0, y1, -⟩ := bg.open2
    go_wp2_with fail
    refine (heldMap_any 1 ⟨_, rfl, A1'⟩ (hL' L hL) (by omega)).mono ?_
    rintro e w16 ⟨rfl, b16⟩
    rw [hKq]
    replace A0 := A0.below b16
    replace bw := bw.below b16
    replace bg := bg.below b16
    replace A1' := A1'.below b16
    replace A2 := A2.below b16
    replace bh := bh.below b16
    replace bW := bW.trans (b16.mono bW.size)
    clear b16
    go_wp2
    go_ret
    exact ⟨rfl, bW⟩
end Go.Proofs.Ytmpakpdbkojkaaa
