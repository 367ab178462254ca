/-
  The law FnExactStrategy: walked.
-/
import Derived.Test.YtcpeaenophaphaaAw
namespace Go.Proofs.Ytcpeaenophaphaa
open Go.RowKit

def stP (N : Nat) (n : Nat → Nat) (f : Nat → Nat → Int) (B : List Nat) : Prop := (ExOk N n f ∧ BestP N (Cov N n f) B) ∨ (¬ ExOk N n f ∧ B = [])
theorem stP.same {N : Nat} {n : Nat → Nat} {f : Nat → Nat → Int} {B C : List Nat} (h : stP N n f B) (k : stP N n f C) : B = C := by
  rcases h with ⟨h0, h1⟩ | ⟨h0, rfl⟩
  · rcases k with ⟨-, k1⟩ | ⟨k0, -⟩
    · exact h1.same k1
    · exact absurd h0 k0
  · rcases k with ⟨k0, -⟩ | ⟨-, rfl⟩
    · exact absurd k0 h0
    · rfl
/-- What Strategy tells. -/
noncomputable def stg (N : Nat) (n : Nat → Nat) (f : Nat → Nat → Int) : List Nat := @dite _ (∃ B, stP N n f B) (Classical.propDecidable _) (fun h => Classical.choose h) (fun _ => [])
theorem stg_is {N : Nat} {n : Nat → Nat} {f : Nat → Nat → Int} {B : List Nat} (h : stP N n f B) : stg N n f = B := by
  have he : ∃ B, stP N n f B := ⟨B, h⟩
  unfold stg
  rw [dif_pos he]
  exact (Classical.choose_spec he).same h
theorem stg_len (N : Nat) (n : Nat → Nat) (f : Nat → Nat → Int) : (stg N n f).length ≤ 12 := by
  by_cases he : ∃ B, stP N n f B
  · obtain ⟨B, h⟩ := he
    rw [stg_is h]
    rcases h with ⟨h0, h1⟩ | ⟨h0, rfl⟩
    · obtain ⟨M0, -, e⟩ := mk_onto N B h1.1
      rw [← e]
      exact Nat.le_trans (mk_len M0 N) h0.1
    · exact Nat.zero_le _
  · unfold stg
    rw [dif_neg he]
    exact Nat.zero_le _
theorem stgP_lt {w : World} {N : Nat} {n : Nat → Nat} {f : Nat → Nat → Int} {e : Ending} {w' : World} (h : StgP w N n f e w') : LtP w (stg N n f) e w' := by
  obtain ⟨B, h1, h2⟩ := h
  rw [stg_is h1]
  exact h2
theorem specStg_l {w : World} {b N cap : Nat} {a : Nat → Option Addr} {c : Nat → Nat} {n : Nat → Nat} {f : Nat → Nat → Int} (hS : Lli w b 0 N a c n f) (hN : N ≤ 1048576) (hn : ∀ i, i < N → n i ≤ 1048576) :
    Calls Try.prog 11 #[.slice (some ⟨b, 0, none⟩) N cap] w (LtP w (stg N n f)) := (specStrategy_any hS hN hn).mono fun _ _ h => stgP_lt h
theorem implStg_l {w : World} {b N cap : Nat} {a : Nat → Option Addr} {c : Nat → Nat} {n : Nat → Nat} {f : Nat → Nat → Int} (hS : Lli w b 0 N a c n f) (hN : N ≤ 1048576) (hn : ∀ i, i < N → n i ≤ 1048576) :
    Calls Try.prog 12 #[.slice (some ⟨b, 0, none⟩) N cap] w (LtP w (stg N n f)) := (implStrategy_any hS hN hn).mono fun _ _ h => stgP_lt h
set_option maxRecDepth 100000 in
set_option maxHeartbeats 4000000 in
theorem exactStrategy_walk {w : World} {p : Option Addr} {N cap : Nat} {a : Nat → Option Addr} {c : Nat → Nat} {n : Nat → Nat} {f : Nat → Nat → Int} (hS : LlS w p N a c n f) (hN0 : N ≤ maxLen) (hn0 : ∀ i, i < N → n i ≤ maxLen) :
    Calls Try.prog 5 #[.slice p N cap] w fun e w' => e = .returned (.bool true) ∧ Below w.heap.size w w' := by
  go_enter Try.func5, Try.ntmps5
  go_wp2_with fail
  refine (szSS_any hS hN0 hn0).mono ?_
  rintro e w1 ⟨r, rfl, hr, bW⟩
  rcases hr with rfl | ⟨hr, hT⟩
  · go_wp2
    go_ret
    exact ⟨rfl, bW⟩
  have hr' : ¬ r < 0 := by omega
  have hN : N ≤ 1048576 := by omega
  have hn : ∀ i, i < N → n i ≤ 1048576 := fun i hi => by have := tot_each (n := n) hi; omega
  have hlen := stg_len N n f
  obtain ⟨m, hm⟩ : ∃ m, (stg N n f).length = m := ⟨_, rfl⟩
  have SP := fun (w : World) (b : Nat) (a : Nat → Option Addr) (c : Nat → Nat) (h : Lli w b 0 N a c n f) => specStg_l (cap := N) h hN hn
  have IP := fun (w : World) (b : Nat) (a : Nat → Option Addr) (c : Nat → Nat) (h : Lli w b 0 N a c n f) => implStg_l (cap := N) h hN hn
  unfold LtP at SP IP
  rw [hm] at hlen SP IP
  clear hm
  have hmm : m ≤ 1048576 := by omega
  go_wp2_with fail
  refine (toSS_any (hS.below bW) hN hn).mono ?_
  rintro e w2 ⟨g1, B1, v1, rfl, T1, bb⟩
  replace bW := bW.trans (bb.mono bW.size)
  clear bb
  obtain ⟨a1, c1, -, F1⟩ := T1.fri
  clear T1
  go_wp2_with fail
  refine (SP _ _ _ _ F1).mono ?_
  rintro e w4 ⟨vw, rfl, Aw, bb⟩
  replace bW := bW.trans (bb.mono bW.size)
  have zw4 := bW.size
  clear bb F1
  go_wp2_with fail
  refine (toSS_any (hS.below bW) hN hn).mono ?_
  rintro e w5 ⟨g3, B3, v3, rfl, T3, bb⟩
  replace bW := bW.trans (bb.mono bW.size)
  replace Aw := Aw.below bb
  have z5 := bb.size
  have z4 := Nat.le_refl w4.heap.size
  clear bb
  obtain ⟨a3, c3, -, F3⟩ := T3.fri
  go_wp2_with fail
  refine (IP _ _ _ _ F3).mono ?_
  rintro e w7 ⟨vg, rfl, Ag, bb⟩
  replace bW := bW.trans (bb.mono bW.size)
  replace T3 := T3.below bb
  replace Aw := Aw.below bb
  have z7 := bb.size
  clear bb F3
  go_wp2_with fail
  refine (eqArr_true Ag Aw hmm).mono ?_
  rintro e w8 ⟨rfl, bb⟩
  replace bW := bW.trans (bb.mono bW.size)
  replace T3 := T3.below bb
  replace Aw := Aw.below bb
  replace Ag := Ag.below bb
  have z8 := bb.size
  clear bb
  go_wp2_with fail
  refine (toSS_any (hS.below bW) hN hn).mono ?_
  rintro e w9 ⟨g5, B5, v5, rfl, T5, bb⟩
  replace bW := bW.trans (bb.mono bW.size)
  replace T3 := T3.below bb
  replace Aw := Aw.below bb
  replace Ag := Ag.below bb
  have z9 := bb.size
  clear bb
  go_wp2_with fail
  refine (eqSS_true T3 T5 hN hn).mono ?_
  rintro e w10 ⟨rfl, bb⟩
  replace bW := bW.trans (bb.mono bW.size)
  replace T3 := T3.below bb
  replace Aw := Aw.below bb
  replace Ag := Ag.below bb
  have z10 := bb.size
  clear bb T5
  have zw := bW.size
  go_wp2_with fail
  refine (markSS_any T3 hN (by omega)).mono ?_
  rintro e w11 ⟨rfl, tt⟩
  replace Aw := Aw.turn tt (by omega)
  replace Ag := Ag.turn tt (by omega)
  replace bW := tt.below bW (by omega) (by omega)
  have z11 := tt.size
  clear tt T3
  have kn : ¬ ((1 + tot n N : Nat) : Int) < 0 := by omega
  go_wp2_with fail
  refine (eqArr_true Ag Aw hmm).mono ?_
  rintro e w12 ⟨rfl, bb⟩
  replace bW := bW.trans (bb.mono bW.size)
  replace Aw := Aw.below bb
  replace Ag := Ag.below bb
  have z12 := bb.size
  clear bb kn
  go_wp2_with fail
  refine (markArr_t Ag hmm 1 (by omega)).mono ?_
  rintro e w13 ⟨rfl, Am, tt⟩
  replace Aw := Aw.turn tt (by omega)
  replace bW := tt.below bW (by omega) (by omega)
  have z13 := tt.size
  clear tt Ag
  go_wp2_with fail
  refine (heldArr_any 1 Am hmm (by omega)).mono ?_
  rintro e w14 ⟨rfl, bb⟩
  replace bW := bW.trans (bb.mono bW.size)
  replace Aw := Aw.below bb
  replace Am := Am.below bb
  have z14 := bb.size
  clear bb
  have kn : ¬ ((1 + m : Nat) : Int) < 0 := by omega
  have e1 : (((1 + m : Nat) : Int) != ((1 + m : Nat) : Int)) = false := bne_self_eq_false _
  go_wp2_with fail
  refine (toSS_any (hS.below bW) hN hn).mono ?_
  rintro e w15 ⟨g6, B6, v6, rfl, T6, bb⟩
  replace bW := bW.trans (bb.mono bW.size)
  replace Aw := Aw.below bb
  replace Am := Am.below bb
  clear bb
  obtain ⟨a6, c6, -, F6⟩ := T6.fri
  clear T6
  go_wp2_with fail
  refine (IP _ _ _ _ F6).mono ?_
  rintro e w16 ⟨vh, rfl, Ah, bb⟩
  replace bW := bW.trans (bb.mono bW.size)
  replace Aw := Aw.below bb
  replace Am := Am.below bb
  clear bb F6
  go_wp2_with fail
  refine (eqArr_true Ah Aw hmm).mono ?_
  rintro e w17 ⟨rfl, bb⟩
  replace bW := bW.trans (bb.mono bW.size)
  replace Am := Am.below bb
  clear bb Ah Aw
  go_wp2_with fail
  refine (heldArr_any 1 Am hmm (by omega)).mono ?_
  rintro e w18 ⟨rfl, bb⟩
  replace bW := bW.trans (bb.mono bW.size)
  clear bb
  go_wp2
  go_ret
  exact ⟨rfl, bW⟩
end Go.Proofs.Ytcpeaenophaphaa
