/-
  The law of conjugates: walked.
-/
import Derived.Test.YtgoegaiglfifdabDoorCo
namespace Go.Proofs.YtgoegaiglfifdabDoor
open Go.RowKit

theorem exactCycConj_walk (a b c d : Int) (w : World) (ht : Tab w) : Calls Tryd.prog 3 #[cV a b c d] w fun e w' => e = .returned (.bool true) ∧ Below w.heap.size w w' := by
  obtain ⟨p, q, r, s, hs⟩ := conjT_parts a b c d
  have S := fun w => specConj_any a b c d w
  have I := fun (w : World) (h : Tab w) => implConj_any a b c d w h
  rw [hs] at S I
  clear hs
  obtain ⟨W, hW, b0, bW, -⟩ := boxed w 23 #[.int .i64 a, .int .i64 b, .int .i64 c, .int .i64 d]
  have t := ht.below bW
  go_enter Tryd.func3, Tryd.ntmps3
  obtain ⟨c0, c1, c2, c3, -⟩ := b0.open4
  go_wp2_with (go_at_call 8; refine (toCyc_any _ _ _ _ _).mono ?_; rintro e w2 ⟨rfl, hb2⟩; clear c0 c1 c2 c3; replace b0 := b0.below hb2; replace bW := bW.trans (hb2.mono bW.size); replace t := t.below hb2; obtain ⟨c0, c1, c2, c3, -⟩ := b0.open4; clear hb2)
  refine (S _).mono ?_
  rintro e w3 ⟨rfl, hb3⟩
  replace b0 := b0.below hb3
  replace t := t.below hb3
  replace bW := bW.trans (hb3.mono bW.size)
  have l0 := b0.lt
  clear c0 c1 c2 c3 hb3 hW S
  obtain ⟨c0, c1, c2, c3, -⟩ := b0.open4
  go_wp2_with (fail)
  obtain ⟨V, hV, b5, bV, -⟩ := boxed w3 24 #[.int .i64 p, .int .i64 q, .int .i64 r, .int .i64 s]
  rw [hV]
  replace t := t.below bV
  replace bW := bW.trans (bV.mono bW.size)
  clear c0 c1 c2 c3 hV bV b0 l0
  refine (toCyc_any _ _ _ _ _).mono ?_
  rintro e w4 ⟨rfl, hb4⟩
  replace b5 := b5.below hb4
  replace t := t.below hb4
  replace bW := bW.trans (hb4.mono bW.size)
  go_wp2_with (fail)
  refine (I _ t).mono ?_
  rintro e w5 ⟨rfl, hb5⟩
  replace b5 := b5.below hb5
  replace bW := bW.trans (hb5.mono bW.size)
  have l5 := b5.lt
  clear hb4 hb5 t I ht
  obtain ⟨c0, c1, c2, c3, -⟩ := b5.open4
  go_wp2_with (go_at_call 10; refine (eqCyc_any _ _ _ _ _).mono ?_; rintro e w6 ⟨rfl, hb6⟩)
  go_ret
  exact ⟨rfl, bW.trans (((below_alloc _ _).trans (hb6.mono (by simp))).mono bW.size)⟩
end Go.Proofs.YtgoegaiglfifdabDoor
