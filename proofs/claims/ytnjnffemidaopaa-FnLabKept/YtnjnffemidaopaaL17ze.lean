/-
  A deed drawn: walked.
-/
import Derived.Test.YtnjnffemidaopaaL17zd
import Derived.Test.YtnjnffemidaopaaL17i
namespace Go.Proofs.Ytnjnffemidaopaa
open Go.RowKit

theorem At.keptP {t : TypeId} {w w' : World} {p q : Nat} {vs : Array Value} (h : At t w q vs) (hk : Kept p w w') (hq : q ≠ p) : At t w' q vs := (hk.block q h.lt hq).trans h
def CutD (w : World) (q1 p : Nat) (a : Option Addr) (len cap : Nat) (s3 : Value) (wc : World) : Prop := ∃ (g3 : Nat) (x0 x1 x2 x3 : Int), s3 = .pointer (some ⟨g3, 0, none⟩) ∧ At 29 wc g3 #[.int .i64 x0, .int .i64 x1, .int .i64 x2, .int .i64 x3] ∧ w.heap.size ≤ g3 ∧ g3 ≠ q1 ∧ (0 ≤ x3 ∧ x3 ≤ 30) ∧ At 29 wc q1 #[.int .i64 0, .int .i64 0, .int .i64 0, .int .i64 0] ∧ Dz w wc p a len cap
theorem shareH {P : Program} {md : Region.Mode} {ops : Array Oper} {Q : Exit → Act → World → Prop} {S : World → Prop} {fuel : Nat} {l : Array Bool} {a : Act} {w : World} (F : Act → World → Prop) (fuel' : Nat) (l' : Array Bool) (h2 : ∀ a' w', S w' → F a' w' → wpAnyH P md ops Q S fuel' l' a' w') (h1 : (∀ a' w', S w' → F a' w' → wpAnyH P md ops Q S fuel' l' a' w') → wpAnyH P md ops Q S fuel l a w) : wpAnyH P md ops Q S fuel l a w := h1 h2
set_option maxRecDepth 100000 in
set_option maxHeartbeats 51200000 in
theorem drawDeed_any : DeedC := by
  intro w0 w p a len cap hdr
  obtain ⟨W1, hW1, A1, bb, -⟩ := boxed w 29 #[.int .i64 0, .int .i64 0, .int .i64 0, .int .i64 0]
  have hp : p < w.heap.size := hdr.2.lt
  have R : Dz w W1 p a len cap := ⟨Kept.of_below bb, hdr.2.kept bb, hp⟩
  obtain ⟨q1, hq1⟩ : ∃ q, w.heap.size = q := ⟨_, rfl⟩
  rw [hq1] at A1
  have hq1w : w.heap.size ≤ q1 := by omega
  have hqp : q1 ≠ p := by omega
  clear bb
  go_enter Try.func36, Try.ntmps36
  go_wp2_with fail
  clear hW1 hq1
  go_cut [3] from 4 to 18 (fun s3 wc => CutD w q1 p a len cap s3 wc)
  case first =>
    have hb4 : ∀ w, (Instr.buildSlice 42 13 #[(0, .int .i64 1), (1, .int .i64 2), (2, .int .i64 2), (3, .int .i64 3), (4, .int .i64 3), (5, .int .i64 4), (6, .int .i64 4), (7, .int .i64 5), (8, .int .i64 6), (9, .int .i64 6), (10, .int .i64 6), (11, .int .i64 7), (12, .int .i64 8)]).run Try.prog w = .ok (.slice (some ⟨w.heap.size, 0, none⟩) 13 13) (w.alloc (.cells #[.int .i64 1, .int .i64 2, .int .i64 2, .int .i64 3, .int .i64 3, .int .i64 4, .int .i64 4, .int .i64 5, .int .i64 6, .int .i64 6, .int .i64 6, .int .i64 7, .int .i64 8] 2)) := fun _ => by kernel_rfl
    obtain ⟨u, hu0, bb⟩ : ∃ uu, W1.drew = uu ∧ Below W1.heap.size W1 uu := ⟨_, rfl, (Below.refl _ _).drew⟩
    replace A1 := A1.below bb
    replace R := R.below bb
    clear bb
    refine wp_region_held_drew (S := AnyW) (by kernel_rfl) (by rw [hu0]; exact trivial) (fun hHeld => ?_)
    rw [hu0] at hHeld ⊢
    clear hu0
    change wpAnyH _ _ _ _ _ 17 #[false, false, false, false, false, false, false, false, false, false, false, false, false, false, false, false, false] _ _
    refine wpAnyH_take (i := 1) (v := .pointer (some ⟨p, 0, none⟩)) rfl (by kernel_rfl) (by kernel_rfl) (by kernel_rfl) (fun _ _ _ h => h) (Or.inl ⟨by kernel_rfl, ?_⟩) hHeld ?_
    · intro w' hSw; go_simp
    try simp only [Act.put, List.setIfInBounds_toArray, List.set_cons_zero, List.set_cons_succ, List.getElem_toArray, List.getElem_cons_succ, List.getElem_cons_zero]
    refine wpAnyH_take (i := 5) (v := .pointer (some ⟨p, 0, none⟩)) rfl (by kernel_rfl) (by kernel_rfl) (by kernel_rfl) (fun _ _ _ h => h) (Or.inl ⟨by kernel_rfl, ?_⟩) hHeld ?_
    · intro w' hSw; go_simp
    try simp only [Act.put, List.setIfInBounds_toArray, List.set_cons_zero, List.set_cons_succ, List.getElem_toArray, List.getElem_cons_succ, List.getElem_cons_zero]
    refine wpAnyH_take (i := 8) (v := .pointer (some ⟨p, 0, none⟩)) rfl (by kernel_rfl) (by kernel_rfl) (by kernel_rfl) (fun _ _ _ h => h) (Or.inl ⟨by kernel_rfl, ?_⟩) hHeld ?_
    · intro w' hSw; go_simp
    try simp only [Act.put, List.setIfInBounds_toArray, List.set_cons_zero, List.set_cons_succ, List.getElem_toArray, List.getElem_cons_succ, List.getElem_cons_zero]
    refine wpAnyH_take (i := 11) (v := .pointer (some ⟨p, 0, none⟩)) rfl (by kernel_rfl) (by kernel_rfl) (by kernel_rfl) (fun _ _ _ h => h) (Or.inl ⟨by kernel_rfl, ?_⟩) hHeld ?_
    · intro w' hSw; go_simp
    try simp only [Act.put, List.setIfInBounds_toArray, List.set_cons_zero, List.set_cons_succ, List.getElem_toArray, List.getElem_cons_succ, List.getElem_cons_zero]
    refine shareH (fun a' u => ∃ (q4 : Nat) (i9 : Nat) (y9 : Int) (d1 : Int) (d2 : Int) (d3 : Int) (g3 : Nat), a' = { tmps := #[.pointer (some ⟨p, 0, none⟩), undef, .pointer (some ⟨q1, 0, none⟩), .pointer (some ⟨g3, 0, none⟩), .slice ((some ⟨q4, 0, none⟩)) 13 13, .pointer (some ⟨p, 0, none⟩), .int .i64 ((i9 : Int)), .pointer (some ⟨q4, i9, none⟩), .int .i64 (y9), .pointer (some ⟨p, 0, none⟩), .int .i64 (d1), .int .i64 ((1 + d1)), .pointer (some ⟨p, 0, none⟩), .int .i64 (d2), .int .i64 ((1 + d2)), .pointer (some ⟨p, 0, none⟩), .int .i64 (d3), .int .i64 ((1 + d3)), deedV y9 (1 + d1) (1 + d2) (1 + d3), undef, undef, undef, undef, undef, undef, undef, undef, undef, undef, undef, undef, undef, undef, undef, undef, undef, undef, undef, undef, undef, undef, undef, undef, undef, undef, undef, undef, undef, undef, undef, undef, undef, undef, undef, undef, undef, undef, undef, undef, undef], defers := [] } ∧ (At 29 u q1 #[.int .i64 0, .int .i64 0, .int .i64 0, .int .i64 0]) ∧ (Dz w u p a len cap) ∧ (At 2 u q4 #[.int .i64 1, .int .i64 2, .int .i64 2, .int .i64 3, .int .i64 3, .int .i64 4, .int .i64 4, .int .i64 5, .int .i64 6, .int .i64 6, .int .i64 6, .int .i64 7, .int .i64 8]) ∧ (q4 ≠ p) ∧ (i9 < 13) ∧ ((i9 : Int) < 13) ∧ (0 ≤ d1) ∧ (d1 < 3) ∧ (0 ≤ d2) ∧ (d2 < 3) ∧ (0 ≤ d3) ∧ (d3 < 20) ∧ (At 29 u g3 #[.int .i64 0, .int .i64 0, .int .i64 0, .int .i64 0]) ∧ (g3 ≠ p) ∧ (g3 ≠ q1) ∧ (w.heap.size ≤ g3)) 1 #[true, true, true, true, true, true, true, true, true, true, true, true, true, true, true, true, false] ?_ ?_
    · intro a' u hHeld hF
      obtain ⟨q4, i9, y9, d1, d2, d3, g3, rfl, A1, R, b4, hq4p, hi9, hi8, d10, d11, d20, d21, d30, d31, G3, hg3p, hgq, hg3⟩ := hF
      refine wpAnyH_ready (rs := [16]) (by kernel_rfl) (by simp) ?_
      refine AllReadyH.cons rfl (fun KK hK' => ?_) AllReadyH.nil
      obtain ⟨y0, y1, y2, y3, -⟩ := Deed.box G3
      obtain ⟨z0, z1, z2, z3⟩ := Deed.boxF G3
      go_simp
      have G7 := Deed.putBox G3 (.int .i64 y9) (.int .i64 (1 + d1)) (.int .i64 (1 + d2)) (.int .i64 (1 + d3))
      replace A1 := ((((A1.setOther (Ne.symm hgq) (i := 0) (.int .i64 y9)).setOther (Ne.symm hgq) (i := 1) (.int .i64 (1 + d1))).setOther (Ne.symm hgq) (i := 2) (.int .i64 (1 + d2))).setOther (Ne.symm hgq) (i := 3) (.int .i64 (1 + d3)))
      replace R := ((((R.setO (i := 0) (v := .int .i64 y9) hg3).setO (i := 1) (v := .int .i64 (1 + d1)) hg3).setO (i := 2) (v := .int .i64 (1 + d2)) hg3).setO (i := 3) (v := .int .i64 (1 + d3)) hg3)
      clear G3
      obtain ⟨u1, hv⟩ : ∃ V, ((((u.setCell ⟨g3, 0, none⟩ (.int .i64 y9)).setCell ⟨g3, 1, none⟩ (.int .i64 (1 + d1))).setCell ⟨g3, 2, none⟩ (.int .i64 (1 + d2))).setCell ⟨g3, 3, none⟩ (.int .i64 (1 + d3))) = V := ⟨_, rfl⟩
      rw [hv] at G7 A1 R ⊢
      clear hv y0 y1 y2 y3 z0 z1 z2 z3
      clear hHeld
      refine hK'.out _ _ (trivial) (fun hHeld => ?_)
      clear hK' KK
      try simp only [List.setIfInBounds_toArray, List.set_cons_zero, List.set_cons_succ]
      refine wpAnyH_done (by kernel_rfl) ?_ _
      clear hHeld
      go_wp2_with fail
      go_meet
      case rel => exact ⟨g3, y9, 1 + d1, 1 + d2, 1 + d3, rfl, G7, hg3, hgq, ⟨by omega, by omega⟩, A1, R⟩
    intro h_0_2_4_6_9_12_15
    refine shareH (fun a' u => ∃ (q4 : Nat) (i9 : Nat) (y9 : Int) (d1 : Int) (d2 : Int) (d3 : Int), a' = { tmps := #[.pointer (some ⟨p, 0, none⟩), undef, .pointer (some ⟨q1, 0, none⟩), undef, .slice ((some ⟨q4, 0, none⟩)) 13 13, .pointer (some ⟨p, 0, none⟩), .int .i64 ((i9 : Int)), .pointer (some ⟨q4, i9, none⟩), .int .i64 (y9), .pointer (some ⟨p, 0, none⟩), .int .i64 (d1), .int .i64 ((1 + d1)), .pointer (some ⟨p, 0, none⟩), .int .i64 (d2), .int .i64 ((1 + d2)), .pointer (some ⟨p, 0, none⟩), .int .i64 (d3), .int .i64 ((1 + d3)), deedV y9 (1 + d1) (1 + d2) (1 + d3), undef, undef, undef, undef, undef, undef, undef, undef, undef, undef, undef, undef, undef, undef, undef, undef, undef, undef, undef, undef, undef, undef, undef, undef, undef, undef, undef, undef, undef, undef, undef, undef, undef, undef, undef, undef, undef, undef, undef, undef, undef], defers := [] } ∧ (At 29 u q1 #[.int .i64 0, .int .i64 0, .int .i64 0, .int .i64 0]) ∧ (Dz w u p a len cap) ∧ (At 2 u q4 #[.int .i64 1, .int .i64 2, .int .i64 2, .int .i64 3, .int .i64 3, .int .i64 4, .int .i64 4, .int .i64 5, .int .i64 6, .int .i64 6, .int .i64 6, .int .i64 7, .int .i64 8]) ∧ (q4 ≠ p) ∧ (i9 < 13) ∧ ((i9 : Int) < 13) ∧ (0 ≤ d1) ∧ (d1 < 3) ∧ (0 ≤ d2) ∧ (d2 < 3) ∧ (0 ≤ d3) ∧ (d3 < 20)) 2 #[true, true, true, true, true, true, true, true, true, true, true, true, true, true, true, false, false] ?_ ?_
    · intro a' u hHeld hF
      obtain ⟨q4, i9, y9, d1, d2, d3, rfl, A1, R, b4, hq4p, hi9, hi8, d10, d11, d20, d21, d30, d31⟩ := hF
      refine wpAnyH_ready (rs := [15]) (by kernel_rfl) (by simp) ?_
      refine AllReadyH.cons rfl (fun KK hK' => ?_) AllReadyH.nil
      go_simp
      obtain ⟨u1, h6, G3, bb, -⟩ := boxed u 29 #[.int .i64 0, .int .i64 0, .int .i64 0, .int .i64 0]
      rw [h6]
      clear h6
      obtain ⟨g3, hg3e⟩ : ∃ q, u.heap.size = q := ⟨_, rfl⟩
      have hg3p : g3 ≠ p := by have := R.cur.lt; omega
      have hgq : g3 ≠ q1 := by have := A1.lt; omega
      have hg3 : w.heap.size ≤ g3 := by have := R.kp.size; omega
      rw [hg3e] at G3 ⊢
      clear hg3e
      replace A1 := A1.below bb
      replace R := R.below bb
      replace b4 := b4.below bb
      clear bb
      clear hHeld
      refine hK'.out _ _ (trivial) (fun hHeld => ?_)
      clear hK' KK
      try simp only [List.setIfInBounds_toArray, List.set_cons_zero, List.set_cons_succ]
      exact h_0_2_4_6_9_12_15 _ _ hHeld ⟨q4, i9, y9, d1, d2, d3, g3, rfl, A1, R, b4, hq4p, hi9, hi8, d10, d11, d20, d21, d30, d31, G3, hg3p, hgq, hg3⟩
    intro h_0_2_4_6_9_12
    refine shareH (fun a' u => ∃ (q4 : Nat) (i9 : Nat) (y9 : Int) (d1 : Int) (d2 : Int) (g3 : Nat), a' = { tmps := #[.pointer (some ⟨p, 0, none⟩), undef, .pointer (some ⟨q1, 0, none⟩), .pointer (some ⟨g3, 0, none⟩), .slice ((some ⟨q4, 0, none⟩)) 13 13, .pointer (some ⟨p, 0, none⟩), .int .i64 ((i9 : Int)), .pointer (some ⟨q4, i9, none⟩), .int .i64 (y9), .pointer (some ⟨p, 0, none⟩), .int .i64 (d1), .int .i64 ((1 + d1)), .pointer (some ⟨p, 0, none⟩), .int .i64 (d2), .int .i64 ((1 + d2)), .pointer (some ⟨p, 0, none⟩), undef, undef, undef, undef, undef, undef, undef, undef, undef, undef, undef, undef, undef, undef, undef, undef, undef, undef, undef, undef, undef, undef, undef, undef, undef, undef, undef, undef, undef, undef, undef, undef, undef, undef, undef, undef, undef, undef, undef, undef, undef, undef, undef, undef], defers := [] } ∧ (At 29 u q1 #[.int .i64 0, .int .i64 0, .int .i64 0, .int .i64 0]) ∧ (Dz w u p a len cap) ∧ (At 2 u q4 #[.int .i64 1, .int .i64 2, .int .i64 2, .int .i64 3, .int .i64 3, .int .i64 4, .int .i64 4, .int .i64 5, .int .i64 6, .int .i64 6, .int .i64 6, .int .i64 7, .int .i64 8]) ∧ (q4 ≠ p) ∧ (i9 < 13) ∧ ((i9 : Int) < 13) ∧ (0 ≤ d1) ∧ (d1 < 3) ∧ (0 ≤ d2) ∧ (d2 < 3) ∧ (At 29 u g3 #[.int .i64 0, .int .i64 0, .int .i64 0, .int .i64 0]) ∧ (g3 ≠ p) ∧ (g3 ≠ q1) ∧ (w.heap.size ≤ g3)) 4 #[true, true, true, true, true, true, true, true, true, true, true, true, false, false, false, true, false] ?_ ?_
    · intro a' u hHeld hF
      obtain ⟨q4, i9, y9, d1, d2, g3, rfl, A1, R, b4, hq4p, hi9, hi8, d10, d11, d20, d21, G3, hg3p, hgq, hg3⟩ := hF
      refine wpAnyH_ready (rs := [12]) (by kernel_rfl) (by simp) ?_
      refine AllReadyH.cons rfl (fun KK hK' => ?_) AllReadyH.nil
      go_simp
      refine (below_dr R.st 20 (by omega) (by omega)).mono ?_
      rintro e u1 ⟨d3, rfl, d30, d31, hd⟩
      replace A1 := A1.keptP hd.1 hqp
      replace b4 := b4.keptP hd.1 hq4p
      replace G3 := G3.keptP hd.1 hg3p
      replace R := R.draw hd
      clear hd
      have hw_d3 : IntKind.i64.wrap (1 + d3) = 1 + d3 := IntWalk.i64_in (1 + d3) (by omega)
      try go_wp2_with fail
      clear hHeld
      refine hK'.out _ _ (trivial) (fun hHeld => ?_)
      clear hK' KK
      try simp only [List.setIfInBounds_toArray, List.set_cons_zero, List.set_cons_succ]
      refine wpAnyH_take (i := 13) (v := .int .i64 ((1 + d3))) rfl (by kernel_rfl) (by kernel_rfl) (by kernel_rfl) (fun _ _ _ h => h) (Or.inl ⟨by kernel_rfl, ?_⟩) hHeld ?_
      · intro w' hSw; go_simp
      try simp only [Act.put, List.setIfInBounds_toArray, List.set_cons_zero, List.set_cons_succ, List.getElem_toArray, List.getElem_cons_succ, List.getElem_cons_zero]
      refine wpAnyH_take (i := 14) (v := deedV y9 (1 + d1) (1 + d2) (1 + d3)) rfl (by kernel_rfl) (by kernel_rfl) (by kernel_rfl) (fun _ _ _ h => h) (Or.inl ⟨by kernel_rfl, ?_⟩) hHeld ?_
      · intro w' hSw; go_simp
      try simp only [Act.put, List.setIfInBounds_toArray, List.set_cons_zero, List.set_cons_succ, List.getElem_toArray, List.getElem_cons_succ, List.getElem_cons_zero]
      exact h_0_2_4_6_9_12_15 _ _ hHeld ⟨q4, i9, y9, d1, d2, d3, g3, rfl, A1, R, b4, hq4p, hi9, hi8, d10, d11, d20, d21, d30, d31, G3, hg3p, hgq, hg3⟩
    intro h_0_2_4_6_9_15
    refine shareH (fun a' u => ∃ (q4 : Nat) (i9 : Nat) (d1 : Int) (d2 : Int) (d3 : Int) (g3 : Nat), a' = { tmps := #[.pointer (some ⟨p, 0, none⟩), undef, .pointer (some ⟨q1, 0, none⟩), .pointer (some ⟨g3, 0, none⟩), .slice ((some ⟨q4, 0, none⟩)) 13 13, .pointer (some ⟨p, 0, none⟩), .int .i64 ((i9 : Int)), .pointer (some ⟨q4, i9, none⟩), undef, .pointer (some ⟨p, 0, none⟩), .int .i64 (d1), .int .i64 ((1 + d1)), .pointer (some ⟨p, 0, none⟩), .int .i64 (d2), .int .i64 ((1 + d2)), .pointer (some ⟨p, 0, none⟩), .int .i64 (d3), .int .i64 ((1 + d3)), undef, undef, undef, undef, undef, undef, undef, undef, undef, undef, undef, undef, undef, undef, undef, undef, undef, undef, undef, undef, undef, undef, undef, undef, undef, undef, undef, undef, undef, undef, undef, undef, undef, undef, undef, undef, undef, undef, undef, undef, undef, undef], defers := [] } ∧ (At 29 u q1 #[.int .i64 0, .int .i64 0, .int .i64 0, .int .i64 0]) ∧ (Dz w u p a len cap) ∧ (At 2 u q4 #[.int .i64 1, .int .i64 2, .int .i64 2, .int .i64 3, .int .i64 3, .int .i64 4, .int .i64 4, .int .i64 5, .int .i64 6, .int .i64 6, .int .i64 6, .int .i64 7, .int .i64 8]) ∧ (q4 ≠ p) ∧ (i9 < 13) ∧ ((i9 : Int) < 13) ∧ (0 ≤ d1) ∧ (d1 < 3) ∧ (0 ≤ d2) ∧ (d2 < 3) ∧ (0 ≤ d3) ∧ (d3 < 20) ∧ (At 29 u g3 #[.int .i64 0, .int .i64 0, .int .i64 0, .int .i64 0]) ∧ (g3 ≠ p) ∧ (g3 ≠ q1) ∧ (w.heap.size ≤ g3)) 3 #[true, true, true, true, false, true, true, true, true, true, true, true, true, true, false, true, false] ?_ ?_
    · intro a' u hHeld hF
      obtain ⟨q4, i9, d1, d2, d3, g3, rfl, A1, R, b4, hq4p, hi9, hi8, d10, d11, d20, d21, d30, d31, G3, hg3p, hgq, hg3⟩ := hF
      refine wpAnyH_ready (rs := [4]) (by kernel_rfl) (by simp) ?_
      refine AllReadyH.cons rfl (fun KK hK' => ?_) AllReadyH.nil
      have c9 := lit_at (l := [1, 2, 2, 3, 3, 4, 4, 5, 6, 6, 6, 7, 8]) b4 (i := i9) (by simp; omega)
      obtain ⟨y9, hy9⟩ : ∃ y, ([1, 2, 2, 3, 3, 4, 4, 5, 6, 6, 6, 7, 8] : List Int).getD i9 0 = y := ⟨_, rfl⟩
      rw [hy9] at c9
      clear hy9
      go_simp
      clear hHeld
      refine hK'.out _ _ (trivial) (fun hHeld => ?_)
      clear hK' KK
      try simp only [List.setIfInBounds_toArray, List.set_cons_zero, List.set_cons_succ]
      refine wpAnyH_take (i := 14) (v := deedV y9 (1 + d1) (1 + d2) (1 + d3)) rfl (by kernel_rfl) (by kernel_rfl) (by kernel_rfl) (fun _ _ _ h => h) (Or.inl ⟨by kernel_rfl, ?_⟩) hHeld ?_
      · intro w' hSw; go_simp
      try simp only [Act.put, List.setIfInBounds_toArray, List.set_cons_zero, List.set_cons_succ, List.getElem_toArray, List.getElem_cons_succ, List.getElem_cons_zero]
      exact h_0_2_4_6_9_12_15 _ _ hHeld ⟨q4, i9, y9, d1, d2, d3, g3, rfl, A1, R, b4, hq4p, hi9, hi8, d10, d11, d20, d21, d30, d31, G3, hg3p, hgq, hg3⟩
    intro h_0_2_6_9_12_15
    refine shareH (fun a' u => ∃ (q4 : Nat) (i9 : Nat) (y9 : Int) (d1 : Int) (d2 : Int), a' = { tmps := #[.pointer (some ⟨p, 0, none⟩), undef, .pointer (some ⟨q1, 0, none⟩), undef, .slice ((some ⟨q4, 0, none⟩)) 13 13, .pointer (some ⟨p, 0, none⟩), .int .i64 ((i9 : Int)), .pointer (some ⟨q4, i9, none⟩), .int .i64 (y9), .pointer (some ⟨p, 0, none⟩), .int .i64 (d1), .int .i64 ((1 + d1)), .pointer (some ⟨p, 0, none⟩), .int .i64 (d2), .int .i64 ((1 + d2)), .pointer (some ⟨p, 0, none⟩), undef, undef, undef, undef, undef, undef, undef, undef, undef, undef, undef, undef, undef, undef, undef, undef, undef, undef, undef, undef, undef, undef, undef, undef, undef, undef, undef, undef, undef, undef, undef, undef, undef, undef, undef, undef, undef, undef, undef, undef, undef, undef, undef, undef], defers := [] } ∧ (At 29 u q1 #[.int .i64 0, .int .i64 0, .int .i64 0, .int .i64 0]) ∧ (Dz w u p a len cap) ∧ (At 2 u q4 #[.int .i64 1, .int .i64 2, .int .i64 2, .int .i64 3, .int .i64 3, .int .i64 4, .int .i64 4, .int .i64 5, .int .i64 6, .int .i64 6, .int .i64 6, .int .i64 7, .int .i64 8]) ∧ (q4 ≠ p) ∧ (i9 < 13) ∧ ((i9 : Int) < 13) ∧ (0 ≤ d1) ∧ (d1 < 3) ∧ (0 ≤ d2) ∧ (d2 < 3)) 5 #[true, true, true, true, true, true, true, true, true, true, true, true, false, false, false, false, false] ?_ ?_
    · intro a' u hHeld hF
      obtain ⟨q4, i9, y9, d1, d2, rfl, A1, R, b4, hq4p, hi9, hi8, d10, d11, d20, d21⟩ := hF
      refine wpAnyH_ready (rs := [12, 15]) (by kernel_rfl) (by simp) ?_
      refine AllReadyH.cons rfl (fun KK hK' => ?_) (AllReadyH.cons rfl (fun KK hK' => ?_) AllReadyH.nil)
      · go_simp
        refine (below_dr R.st 20 (by omega) (by omega)).mono ?_
        rintro e u1 ⟨d3, rfl, d30, d31, hd⟩
        replace A1 := A1.keptP hd.1 hqp
        replace b4 := b4.keptP hd.1 hq4p
        replace R := R.draw hd
        clear hd
        have hw_d3 : IntKind.i64.wrap (1 + d3) = 1 + d3 := IntWalk.i64_in (1 + d3) (by omega)
        try go_wp2_with fail
        clear hHeld
        refine hK'.out _ _ (trivial) (fun hHeld => ?_)
        clear hK' KK
        try simp only [List.setIfInBounds_toArray, List.set_cons_zero, List.set_cons_succ]
        refine wpAnyH_take (i := 13) (v := .int .i64 ((1 + d3))) rfl (by kernel_rfl) (by kernel_rfl) (by kernel_rfl) (fun _ _ _ h => h) (Or.inl ⟨by kernel_rfl, ?_⟩) hHeld ?_
        · intro w' hSw; go_simp
        try simp only [Act.put, List.setIfInBounds_toArray, List.set_cons_zero, List.set_cons_succ, List.getElem_toArray, List.getElem_cons_succ, List.getElem_cons_zero]
        refine wpAnyH_take (i := 14) (v := deedV y9 (1 + d1) (1 + d2) (1 + d3)) rfl (by kernel_rfl) (by kernel_rfl) (by kernel_rfl) (fun _ _ _ h => h) (Or.inl ⟨by kernel_rfl, ?_⟩) hHeld ?_
        · intro w' hSw; go_simp
        try simp only [Act.put, List.setIfInBounds_toArray, List.set_cons_zero, List.set_cons_succ, List.getElem_toArray, List.getElem_cons_succ, List.getElem_cons_zero]
        exact h_0_2_4_6_9_12 _ _ hHeld ⟨q4, i9, y9, d1, d2, d3, rfl, A1, R, b4, hq4p, hi9, hi8, d10, d11, d20, d21, d30, d31⟩
      · go_simp
        obtain ⟨u1, h6, G3, bb, -⟩ := boxed u 29 #[.int .i64 0, .int .i64 0, .int .i64 0, .int .i64 0]
        rw [h6]
        clear h6
        obtain ⟨g3, hg3e⟩ : ∃ q, u.heap.size = q := ⟨_, rfl⟩
        have hg3p : g3 ≠ p := by have := R.cur.lt; omega
        have hgq : g3 ≠ q1 := by have := A1.lt; omega
        have hg3 : w.heap.size ≤ g3 := by have := R.kp.size; omega
        rw [hg3e] at G3 ⊢
        clear hg3e
        replace A1 := A1.below bb
        replace R := R.below bb
        replace b4 := b4.below bb
        clear bb
        clear hHeld
        refine hK'.out _ _ (trivial) (fun hHeld => ?_)
        clear hK' KK
        try simp only [List.setIfInBounds_toArray, List.set_cons_zero, List.set_cons_succ]
        exact h_0_2_4_6_9_15 _ _ hHeld ⟨q4, i9, y9, d1, d2, g3, rfl, A1, R, b4, hq4p, hi9, hi8, d10, d11, d20, d21, G3, hg3p, hgq, hg3⟩
    intro h_0_2_4_6_9
    refine shareH (fun a' u => ∃ (q4 : Nat) (i9 : Nat) (y9 : Int) (d1 : Int) (g3 : Nat), a' = { tmps := #[.pointer (some ⟨p, 0, none⟩), undef, .pointer (some ⟨q1, 0, none⟩), .pointer (some ⟨g3, 0, none⟩), .slice ((some ⟨q4, 0, none⟩)) 13 13, .pointer (some ⟨p, 0, none⟩), .int .i64 ((i9 : Int)), .pointer (some ⟨q4, i9, none⟩), .int .i64 (y9), .pointer (some ⟨p, 0, none⟩), .int .i64 (d1), .int .i64 ((1 + d1)), .pointer (some ⟨p, 0, none⟩), undef, undef, .pointer (some ⟨p, 0, none⟩), undef, undef, undef, undef, undef, undef, undef, undef, undef, undef, undef, undef, undef, undef, undef, undef, undef, undef, undef, undef, undef, undef, undef, undef, undef, undef, undef, undef, undef, undef, undef, undef, undef, undef, undef, undef, undef, undef, undef, undef, undef, undef, undef, undef], defers := [] } ∧ (At 29 u q1 #[.int .i64 0, .int .i64 0, .int .i64 0, .int .i64 0]) ∧ (Dz w u p a len cap) ∧ (At 2 u q4 #[.int .i64 1, .int .i64 2, .int .i64 2, .int .i64 3, .int .i64 3, .int .i64 4, .int .i64 4, .int .i64 5, .int .i64 6, .int .i64 6, .int .i64 6, .int .i64 7, .int .i64 8]) ∧ (q4 ≠ p) ∧ (i9 < 13) ∧ ((i9 : Int) < 13) ∧ (0 ≤ d1) ∧ (d1 < 3) ∧ (At 29 u g3 #[.int .i64 0, .int .i64 0, .int .i64 0, .int .i64 0]) ∧ (g3 ≠ p) ∧ (g3 ≠ q1) ∧ (w.heap.size ≤ g3)) 6 #[true, true, true, true, true, true, true, true, true, false, false, true, false, false, false, true, false] ?_ ?_
    · intro a' u hHeld hF
      obtain ⟨q4, i9, y9, d1, g3, rfl, A1, R, b4, hq4p, hi9, hi8, d10, d11, G3, hg3p, hgq, hg3⟩ := hF
      refine wpAnyH_ready (rs := [9]) (by kernel_rfl) (by simp) ?_
      refine AllReadyH.cons rfl (fun KK hK' => ?_) AllReadyH.nil
      go_simp
      refine (below_dr R.st 3 (by omega) (by omega)).mono ?_
      rintro e u1 ⟨d2, rfl, d20, d21, hd⟩
      replace A1 := A1.keptP hd.1 hqp
      replace b4 := b4.keptP hd.1 hq4p
      replace G3 := G3.keptP hd.1 hg3p
      replace R := R.draw hd
      clear hd
      have hw_d2 : IntKind.i64.wrap (1 + d2) = 1 + d2 := IntWalk.i64_in (1 + d2) (by omega)
      try go_wp2_with fail
      clear hHeld
      refine hK'.out _ _ (trivial) (fun hHeld => ?_)
      clear hK' KK
      try simp only [List.setIfInBounds_toArray, List.set_cons_zero, List.set_cons_succ]
      refine wpAnyH_take (i := 10) (v := .int .i64 ((1 + d2))) rfl (by kernel_rfl) (by kernel_rfl) (by kernel_rfl) (fun _ _ _ h => h) (Or.inl ⟨by kernel_rfl, ?_⟩) hHeld ?_
      · intro w' hSw; go_simp
      try simp only [Act.put, List.setIfInBounds_toArray, List.set_cons_zero, List.set_cons_succ, List.getElem_toArray, List.getElem_cons_succ, List.getElem_cons_zero]
      exact h_0_2_4_6_9_15 _ _ hHeld ⟨q4, i9, y9, d1, d2, g3, rfl, A1, R, b4, hq4p, hi9, hi8, d10, d11, d20, d21, G3, hg3p, hgq, hg3⟩
    intro h_0_2_4_6_15
    refine shareH (fun a' u => ∃ (q4 : Nat) (i9 : Nat) (d1 : Int) (d2 : Int) (d3 : Int), a' = { tmps := #[.pointer (some ⟨p, 0, none⟩), undef, .pointer (some ⟨q1, 0, none⟩), undef, .slice ((some ⟨q4, 0, none⟩)) 13 13, .pointer (some ⟨p, 0, none⟩), .int .i64 ((i9 : Int)), .pointer (some ⟨q4, i9, none⟩), undef, .pointer (some ⟨p, 0, none⟩), .int .i64 (d1), .int .i64 ((1 + d1)), .pointer (some ⟨p, 0, none⟩), .int .i64 (d2), .int .i64 ((1 + d2)), .pointer (some ⟨p, 0, none⟩), .int .i64 (d3), .int .i64 ((1 + d3)), undef, undef, undef, undef, undef, undef, undef, undef, undef, undef, undef, undef, undef, undef, undef, undef, undef, undef, undef, undef, undef, undef, undef, undef, undef, undef, undef, undef, undef, undef, undef, undef, undef, undef, undef, undef, undef, undef, undef, undef, undef, undef], defers := [] } ∧ (At 29 u q1 #[.int .i64 0, .int .i64 0, .int .i64 0, .int .i64 0]) ∧ (Dz w u p a len cap) ∧ (At 2 u q4 #[.int .i64 1, .int .i64 2, .int .i64 2, .int .i64 3, .int .i64 3, .int .i64 4, .int .i64 4, .int .i64 5, .int .i64 6, .int .i64 6, .int .i64 6, .int .i64 7, .int .i64 8]) ∧ (q4 ≠ p) ∧ (i9 < 13) ∧ ((i9 : Int) < 13) ∧ (0 ≤ d1) ∧ (d1 < 3) ∧ (0 ≤ d2) ∧ (d2 < 3) ∧ (0 ≤ d3) ∧ (d3 < 20)) 4 #[true, true, true, true, false, true, true, true, true, true, true, true, true, true, false, false, false] ?_ ?_
    · intro a' u hHeld hF
      obtain ⟨q4, i9, d1, d2, d3, rfl, A1, R, b4, hq4p, hi9, hi8, d10, d11, d20, d21, d30, d31⟩ := hF
      refine wpAnyH_ready (rs := [4, 15]) (by kernel_rfl) (by simp) ?_
      refine AllReadyH.cons rfl (fun KK hK' => ?_) (AllReadyH.cons rfl (fun KK hK' => ?_) AllReadyH.nil)
      · have c9 := lit_at (l := [1, 2, 2, 3, 3, 4, 4, 5, 6, 6, 6, 7, 8]) b4 (i := i9) (by simp; omega)
        obtain ⟨y9, hy9⟩ : ∃ y, ([1, 2, 2, 3, 3, 4, 4, 5, 6, 6, 6, 7, 8] : List Int).getD i9 0 = y := ⟨_, rfl⟩
        rw [hy9] at c9
        clear hy9
        go_simp
        clear hHeld
        refine hK'.out _ _ (trivial) (fun hHeld => ?_)
        clear hK' KK
        try simp only [List.setIfInBounds_toArray, List.set_cons_zero, List.set_cons_succ]
        refine wpAnyH_take (i := 14) (v := deedV y9 (1 + d1) (1 + d2) (1 + d3)) rfl (by kernel_rfl) (by kernel_rfl) (by kernel_rfl) (fun _ _ _ h => h) (Or.inl ⟨by kernel_rfl, ?_⟩) hHeld ?_
        · intro w' hSw; go_simp
        try simp only [Act.put, List.setIfInBounds_toArray, List.set_cons_zero, List.set_cons_succ, List.getElem_toArray, List.getElem_cons_succ, List.getElem_cons_zero]
        exact h_0_2_4_6_9_12 _ _ hHeld ⟨q4, i9, y9, d1, d2, d3, rfl, A1, R, b4, hq4p, hi9, hi8, d10, d11, d20, d21, d30, d31⟩
      · go_simp
        obtain ⟨u1, h6, G3, bb, -⟩ := boxed u 29 #[.int .i64 0, .int .i64 0, .int .i64 0, .int .i64 0]
        rw [h6]
        clear h6
        obtain ⟨g3, hg3e⟩ : ∃ q, u.heap.size = q := ⟨_, rfl⟩
        have hg3p : g3 ≠ p := by have := R.cur.lt; omega
        have hgq : g3 ≠ q1 := by have := A1.lt; omega
        have hg3 : w.heap.size ≤ g3 := by have := R.kp.size; omega
        rw [hg3e] at G3 ⊢
        clear hg3e
        replace A1 := A1.below bb
        replace R := R.below bb
        replace b4 := b4.below bb
        clear bb
        clear hHeld
        refine hK'.out _ _ (trivial) (fun hHeld => ?_)
        clear hK' KK
        try simp only [List.setIfInBounds_toArray, List.set_cons_zero, List.set_cons_succ]
        exact h_0_2_6_9_12_15 _ _ hHeld ⟨q4, i9, d1, d2, d3, g3, rfl, A1, R, b4, hq4p, hi9, hi8, d10, d11, d20, d21, d30, d31, G3, hg3p, hgq, hg3⟩
    intro h_0_2_6_9_12
    refine shareH (fun a' u => ∃ (q4 : Nat) (i9 : Nat) (d1 : Int) (d2 : Int) (g3 : Nat), a' = { tmps := #[.pointer (some ⟨p, 0, none⟩), undef, .pointer (some ⟨q1, 0, none⟩), .pointer (some ⟨g3, 0, none⟩), .slice ((some ⟨q4, 0, none⟩)) 13 13, .pointer (some ⟨p, 0, none⟩), .int .i64 ((i9 : Int)), .pointer (some ⟨q4, i9, none⟩), undef, .pointer (some ⟨p, 0, none⟩), .int .i64 (d1), .int .i64 ((1 + d1)), .pointer (some ⟨p, 0, none⟩), .int .i64 (d2), .int .i64 ((1 + d2)), .pointer (some ⟨p, 0, none⟩), undef, undef, undef, undef, undef, undef, undef, undef, undef, undef, undef, undef, undef, undef, undef, undef, undef, undef, undef, undef, undef, undef, undef, undef, undef, undef, undef, undef, undef, undef, undef, undef, undef, undef, undef, undef, undef, undef, undef, undef, undef, undef, undef, undef], defers := [] } ∧ (At 29 u q1 #[.int .i64 0, .int .i64 0, .int .i64 0, .int .i64 0]) ∧ (Dz w u p a len cap) ∧ (At 2 u q4 #[.int .i64 1, .int .i64 2, .int .i64 2, .int .i64 3, .int .i64 3, .int .i64 4, .int .i64 4, .int .i64 5, .int .i64 6, .int .i64 6, .int .i64 6, .int .i64 7, .int .i64 8]) ∧ (q4 ≠ p) ∧ (i9 < 13) ∧ ((i9 : Int) < 13) ∧ (0 ≤ d1) ∧ (d1 < 3) ∧ (0 ≤ d2) ∧ (d2 < 3) ∧ (At 29 u g3 #[.int .i64 0, .int .i64 0, .int .i64 0, .int .i64 0]) ∧ (g3 ≠ p) ∧ (g3 ≠ q1) ∧ (w.heap.size ≤ g3)) 5 #[true, true, true, true, false, true, true, true, true, true, true, true, false, false, false, true, false] ?_ ?_
    · intro a' u hHeld hF
      obtain ⟨q4, i9, d1, d2, g3, rfl, A1, R, b4, hq4p, hi9, hi8, d10, d11, d20, d21, G3, hg3p, hgq, hg3⟩ := hF
      refine wpAnyH_ready (rs := [4, 12]) (by kernel_rfl) (by simp) ?_
      refine AllReadyH.cons rfl (fun KK hK' => ?_) (AllReadyH.cons rfl (fun KK hK' => ?_) AllReadyH.nil)
      · have c9 := lit_at (l := [1, 2, 2, 3, 3, 4, 4, 5, 6, 6, 6, 7, 8]) b4 (i := i9) (by simp; omega)
        obtain ⟨y9, hy9⟩ : ∃ y, ([1, 2, 2, 3, 3, 4, 4, 5, 6, 6, 6, 7, 8] : List Int).getD i9 0 = y := ⟨_, rfl⟩
        rw [hy9] at c9
        clear hy9
        go_simp
        clear hHeld
        refine hK'.out _ _ (trivial) (fun hHeld => ?_)
        clear hK' KK
        try simp only [List.setIfInBounds_toArray, List.set_cons_zero, List.set_cons_succ]
        exact h_0_2_4_6_9_15 _ _ hHeld ⟨q4, i9, y9, d1, d2, g3, rfl, A1, R, b4, hq4p, hi9, hi8, d10, d11, d20, d21, G3, hg3p, hgq, hg3⟩
      · go_simp
        refine (below_dr R.st 20 (by omega) (by omega)).mono ?_
        rintro e u1 ⟨d3, rfl, d30, d31, hd⟩
        replace A1 := A1.keptP hd.1 hqp
        replace b4 := b4.keptP hd.1 hq4p
        replace G3 := G3.keptP hd.1 hg3p
        replace R := R.draw hd
        clear hd
        have hw_d3 : IntKind.i64.wrap (1 + d3) = 1 + d3 := IntWalk.i64_in (1 + d3) (by omega)
        try go_wp2_with fail
        clear hHeld
        refine hK'.out _ _ (trivial) (fun hHeld => ?_)
        clear hK' KK
        try simp only [List.setIfInBounds_toArray, List.set_cons_zero, List.set_cons_succ]
        refine wpAnyH_take (i := 13) (v := .int .i64 ((1 + d3))) rfl (by kernel_rfl) (by kernel_rfl) (by kernel_rfl) (fun _ _ _ h => h) (Or.inl ⟨by kernel_rfl, ?_⟩) hHeld ?_
        · intro w' hSw; go_simp
        try simp only [Act.put, List.setIfInBounds_toArray, List.set_cons_zero, List.set_cons_succ, List.getElem_toArray, List.getElem_cons_succ, List.getElem_cons_zero]
        exact h_0_2_6_9_12_15 _ _ hHeld ⟨q4, i9, d1, d2, d3, g3, rfl, A1, R, b4, hq4p, hi9, hi8, d10, d11, d20, d21, d30, d31, G3, hg3p, hgq, hg3⟩
    intro h_0_2_6_9_15
    refine shareH (fun a' u => ∃ (i9 : Nat) (d1 : Int) (d2 : Int) (d3 : Int) (g3 : Nat), a' = { tmps := #[.pointer (some ⟨p, 0, none⟩), undef, .pointer (some ⟨q1, 0, none⟩), .pointer (some ⟨g3, 0, none⟩), undef, .pointer (some ⟨p, 0, none⟩), .int .i64 ((i9 : Int)), undef, undef, .pointer (some ⟨p, 0, none⟩), .int .i64 (d1), .int .i64 ((1 + d1)), .pointer (some ⟨p, 0, none⟩), .int .i64 (d2), .int .i64 ((1 + d2)), .pointer (some ⟨p, 0, none⟩), .int .i64 (d3), .int .i64 ((1 + d3)), undef, undef, undef, undef, undef, undef, undef, undef, undef, undef, undef, undef, undef, undef, undef, undef, undef, undef, undef, undef, undef, undef, undef, undef, undef, undef, undef, undef, undef, undef, undef, undef, undef, undef, undef, undef, undef, undef, undef, undef, undef, undef], defers := [] } ∧ (At 29 u q1 #[.int .i64 0, .int .i64 0, .int .i64 0, .int .i64 0]) ∧ (Dz w u p a len cap) ∧ (i9 < 13) ∧ ((i9 : Int) < 13) ∧ (0 ≤ d1) ∧ (d1 < 3) ∧ (0 ≤ d2) ∧ (d2 < 3) ∧ (0 ≤ d3) ∧ (d3 < 20) ∧ (At 29 u g3 #[.int .i64 0, .int .i64 0, .int .i64 0, .int .i64 0]) ∧ (g3 ≠ p) ∧ (g3 ≠ q1) ∧ (w.heap.size ≤ g3)) 5 #[false, true, true, false, false, true, true, true, true, true, true, true, true, true, false, true, false] ?_ ?_
    · intro a' u hHeld hF
      obtain ⟨i9, d1, d2, d3, g3, rfl, A1, R, hi9, hi8, d10, d11, d20, d21, d30, d31, G3, hg3p, hgq, hg3⟩ := hF
      refine wpAnyH_ready (rs := [0]) (by kernel_rfl) (by simp) ?_
      refine AllReadyH.cons rfl (fun KK hK' => ?_) AllReadyH.nil
      go_simp
      obtain ⟨u1, h6, b4, bb, -⟩ := boxed u 2 #[.int .i64 1, .int .i64 2, .int .i64 2, .int .i64 3, .int .i64 3, .int .i64 4, .int .i64 4, .int .i64 5, .int .i64 6, .int .i64 6, .int .i64 6, .int .i64 7, .int .i64 8]
      rw [h6]
      clear h6
      obtain ⟨q4, hq4⟩ : ∃ q, u.heap.size = q := ⟨_, rfl⟩
      have hq4p : q4 ≠ p := by have := R.cur.lt; omega
      rw [hq4] at b4 ⊢
      clear hq4
      replace A1 := A1.below bb
      replace R := R.below bb
      replace G3 := G3.below bb
      clear bb
      clear hHeld
      refine hK'.out _ _ (trivial) (fun hHeld => ?_)
      clear hK' KK
      try simp only [List.setIfInBounds_toArray, List.set_cons_zero]
      refine wpAnyH_take (i := 3) (v := .pointer (some ⟨q4, i9, none⟩)) rfl (by kernel_rfl) (by kernel_rfl) (by kernel_rfl) (fun _ _ _ h => h) (Or.inl ⟨by kernel_rfl, ?_⟩) hHeld ?_
      · intro w' hSw; go_simp
      try simp only [Act.put, List.setIfInBounds_toArray, List.set_cons_zero, List.set_cons_succ, List.getElem_toArray, List.getElem_cons_succ, List.getElem_cons_zero]
      exact h_0_2_6_9_12_15 _ _ hHeld ⟨q4, i9, d1, d2, d3, g3, rfl, A1, R, b4, hq4p, hi9, hi8, d10, d11, d20, d21, d30, d31, G3, hg3p, hgq, hg3⟩
    intro h_2_6_9_12_15
    refine shareH (fun a' u => ∃ (q4 : Nat) (i9 : Nat) (y9 : Int) (d1 : Int), a' = { tmps := #[.pointer (some ⟨p, 0, none⟩), undef, .pointer (some ⟨q1, 0, none⟩), undef, .slice ((some ⟨q4, 0, none⟩)) 13 13, .pointer (some ⟨p, 0, none⟩), .int .i64 ((i9 : Int)), .pointer (some ⟨q4, i9, none⟩), .int .i64 (y9), .pointer (some ⟨p, 0, none⟩), .int .i64 (d1), .int .i64 ((1 + d1)), .pointer (some ⟨p, 0, none⟩), undef, undef, .pointer (some ⟨p, 0, none⟩), undef, undef, undef, undef, undef, undef, undef, undef, undef, undef, undef, undef, undef, undef, undef, undef, undef, undef, undef, undef, undef, undef, undef, undef, undef, undef, undef, undef, undef, undef, undef, undef, undef, undef, undef, undef, undef, undef, undef, undef, undef, undef, undef, undef], defers := [] } ∧ (At 29 u q1 #[.int .i64 0, .int .i64 0, .int .i64 0, .int .i64 0]) ∧ (Dz w u p a len cap) ∧ (At 2 u q4 #[.int .i64 1, .int .i64 2, .int .i64 2, .int .i64 3, .int .i64 3, .int .i64 4, .int .i64 4, .int .i64 5, .int .i64 6, .int .i64 6, .int .i64 6, .int .i64 7, .int .i64 8]) ∧ (q4 ≠ p) ∧ (i9 < 13) ∧ ((i9 : Int) < 13) ∧ (0 ≤ d1) ∧ (d1 < 3)) 7 #[true, true, true, true, true, true, true, true, true, false, false, true, false, false, false, false, false] ?_ ?_
    · intro a' u hHeld hF
      obtain ⟨q4, i9, y9, d1, rfl, A1, R, b4, hq4p, hi9, hi8, d10, d11⟩ := hF
      refine wpAnyH_ready (rs := [9, 15]) (by kernel_rfl) (by simp) ?_
      refine AllReadyH.cons rfl (fun KK hK' => ?_) (AllReadyH.cons rfl (fun KK hK' => ?_) AllReadyH.nil)
      · go_simp
        refine (below_dr R.st 3 (by omega) (by omega)).mono ?_
        rintro e u1 ⟨d2, rfl, d20, d21, hd⟩
        replace A1 := A1.keptP hd.1 hqp
        replace b4 := b4.keptP hd.1 hq4p
        replace R := R.draw hd
        clear hd
        have hw_d2 : IntKind.i64.wrap (1 + d2) = 1 + d2 := IntWalk.i64_in (1 + d2) (by omega)
        try go_wp2_with fail
        clear hHeld
        refine hK'.out _ _ (trivial) (fun hHeld => ?_)
        clear hK' KK
        try simp only [List.setIfInBounds_toArray, List.set_cons_zero, List.set_cons_succ]
        refine wpAnyH_take (i := 10) (v := .int .i64 ((1 + d2))) rfl (by kernel_rfl) (by kernel_rfl) (by kernel_rfl) (fun _ _ _ h => h) (Or.inl ⟨by kernel_rfl, ?_⟩) hHeld ?_
        · intro w' hSw; go_simp
        try simp only [Act.put, List.setIfInBounds_toArray, List.set_cons_zero, List.set_cons_succ, List.getElem_toArray, List.getElem_cons_succ, List.getElem_cons_zero]
        exact h_0_2_4_6_9 _ _ hHeld ⟨q4, i9, y9, d1, d2, rfl, A1, R, b4, hq4p, hi9, hi8, d10, d11, d20, d21⟩
      · go_simp
        obtain ⟨u1, h6, G3, bb, -⟩ := boxed u 29 #[.int .i64 0, .int .i64 0, .int .i64 0, .int .i64 0]
        rw [h6]
        clear h6
        obtain ⟨g3, hg3e⟩ : ∃ q, u.heap.size = q := ⟨_, rfl⟩
        have hg3p : g3 ≠ p := by have := R.cur.lt; omega
        have hgq : g3 ≠ q1 := by have := A1.lt; omega
        have hg3 : w.heap.size ≤ g3 := by have := R.kp.size; omega
        rw [hg3e] at G3 ⊢
        clear hg3e
        replace A1 := A1.below bb
        replace R := R.below bb
        replace b4 := b4.below bb
        clear bb
        clear hHeld
        refine hK'.out _ _ (trivial) (fun hHeld => ?_)
        clear hK' KK
        try simp only [List.setIfInBounds_toArray, List.set_cons_zero, List.set_cons_succ]
        exact h_0_2_4_6_15 _ _ hHeld ⟨q4, i9, y9, d1, g3, rfl, A1, R, b4, hq4p, hi9, hi8, d10, d11, G3, hg3p, hgq, hg3⟩
    intro h_0_2_4_6
    refine shareH (fun a' u => ∃ (q4 : Nat) (i9 : Nat) (y9 : Int) (g3 : Nat), a' = { tmps := #[.pointer (some ⟨p, 0, none⟩), undef, .pointer (some ⟨q1, 0, none⟩), .pointer (some ⟨g3, 0, none⟩), .slice ((some ⟨q4, 0, none⟩)) 13 13, .pointer (some ⟨p, 0, none⟩), .int .i64 ((i9 : Int)), .pointer (some ⟨q4, i9, none⟩), .int .i64 (y9), .pointer (some ⟨p, 0, none⟩), undef, undef, .pointer (some ⟨p, 0, none⟩), undef, undef, .pointer (some ⟨p, 0, none⟩), undef, undef, undef, undef, undef, undef, undef, undef, undef, undef, undef, undef, undef, undef, undef, undef, undef, undef, undef, undef, undef, undef, undef, undef, undef, undef, undef, undef, undef, undef, undef, undef, undef, undef, undef, undef, undef, undef, undef, undef, undef, undef, undef, undef], defers := [] } ∧ (At 29 u q1 #[.int .i64 0, .int .i64 0, .int .i64 0, .int .i64 0]) ∧ (Dz w u p a len cap) ∧ (At 2 u q4 #[.int .i64 1, .int .i64 2, .int .i64 2, .int .i64 3, .int .i64 3, .int .i64 4, .int .i64 4, .int .i64 5, .int .i64 6, .int .i64 6, .int .i64 6, .int .i64 7, .int .i64 8]) ∧ (q4 ≠ p) ∧ (i9 < 13) ∧ ((i9 : Int) < 13) ∧ (At 29 u g3 #[.int .i64 0, .int .i64 0, .int .i64 0, .int .i64 0]) ∧ (g3 ≠ p) ∧ (g3 ≠ q1) ∧ (w.heap.size ≤ g3)) 8 #[true, true, true, true, true, true, false, false, true, false, false, true, false, false, false, true, false] ?_ ?_
    · intro a' u hHeld hF
      obtain ⟨q4, i9, y9, g3, rfl, A1, R, b4, hq4p, hi9, hi8, G3, hg3p, hgq, hg3⟩ := hF
      refine wpAnyH_ready (rs := [6]) (by kernel_rfl) (by simp) ?_
      refine AllReadyH.cons rfl (fun KK hK' => ?_) AllReadyH.nil
      go_simp
      refine (below_dr R.st 3 (by omega) (by omega)).mono ?_
      rintro e u1 ⟨d1, rfl, d10, d11, hd⟩
      replace A1 := A1.keptP hd.1 hqp
      replace b4 := b4.keptP hd.1 hq4p
      replace G3 := G3.keptP hd.1 hg3p
      replace R := R.draw hd
      clear hd
      have hw_d1 : IntKind.i64.wrap (1 + d1) = 1 + d1 := IntWalk.i64_in (1 + d1) (by omega)
      try go_wp2_with fail
      clear hHeld
      refine hK'.out _ _ (trivial) (fun hHeld => ?_)
      clear hK' KK
      try simp only [List.setIfInBounds_toArray, List.set_cons_zero, List.set_cons_succ]
      refine wpAnyH_take (i := 7) (v := .int .i64 ((1 + d1))) rfl (by kernel_rfl) (by kernel_rfl) (by kernel_rfl) (fun _ _ _ h => h) (Or.inl ⟨by kernel_rfl, ?_⟩) hHeld ?_
      · intro w' hSw; go_simp
      try simp only [Act.put, List.setIfInBounds_toArray, List.set_cons_zero, List.set_cons_succ, List.getElem_toArray, List.getElem_cons_succ, List.getElem_cons_zero]
      exact h_0_2_4_6_15 _ _ hHeld ⟨q4, i9, y9, d1, g3, rfl, A1, R, b4, hq4p, hi9, hi8, d10, d11, G3, hg3p, hgq, hg3⟩
    intro h_0_2_4_15
    refine shareH (fun a' u => ∃ (q4 : Nat) (i9 : Nat) (d1 : Int) (d2 : Int), a' = { tmps := #[.pointer (some ⟨p, 0, none⟩), undef, .pointer (some ⟨q1, 0, none⟩), undef, .slice ((some ⟨q4, 0, none⟩)) 13 13, .pointer (some ⟨p, 0, none⟩), .int .i64 ((i9 : Int)), .pointer (some ⟨q4, i9, none⟩), undef, .pointer (some ⟨p, 0, none⟩), .int .i64 (d1), .int .i64 ((1 + d1)), .pointer (some ⟨p, 0, none⟩), .int .i64 (d2), .int .i64 ((1 + d2)), .pointer (some ⟨p, 0, none⟩), undef, undef, undef, undef, undef, undef, undef, undef, undef, undef, undef, undef, undef, undef, undef, undef, undef, undef, undef, undef, undef, undef, undef, undef, undef, undef, undef, undef, undef, undef, undef, undef, undef, undef, undef, undef, undef, undef, undef, undef, undef, undef, undef, undef], defers := [] } ∧ (At 29 u q1 #[.int .i64 0, .int .i64 0, .int .i64 0, .int .i64 0]) ∧ (Dz w u p a len cap) ∧ (At 2 u q4 #[.int .i64 1, .int .i64 2, .int .i64 2, .int .i64 3, .int .i64 3, .int .i64 4, .int .i64 4, .int .i64 5, .int .i64 6, .int .i64 6, .int .i64 6, .int .i64 7, .int .i64 8]) ∧ (q4 ≠ p) ∧ (i9 < 13) ∧ ((i9 : Int) < 13) ∧ (0 ≤ d1) ∧ (d1 < 3) ∧ (0 ≤ d2) ∧ (d2 < 3)) 6 #[true, true, true, true, false, true, true, true, true, true, true, true, false, false, false, false, false] ?_ ?_
    · intro a' u hHeld hF
      obtain ⟨q4, i9, d1, d2, rfl, A1, R, b4, hq4p, hi9, hi8, d10, d11, d20, d21⟩ := hF
      refine wpAnyH_ready (rs := [4, 12, 15]) (by kernel_rfl) (by simp) ?_
      refine AllReadyH.cons rfl (fun KK hK' => ?_) (AllReadyH.cons rfl (fun KK hK' => ?_) (AllReadyH.cons rfl (fun KK hK' => ?_) AllReadyH.nil))
      · have c9 := lit_at (l := [1, 2, 2, 3, 3, 4, 4, 5, 6, 6, 6, 7, 8]) b4 (i := i9) (by simp; omega)
        obtain ⟨y9, hy9⟩ : ∃ y, ([1, 2, 2, 3, 3, 4, 4, 5, 6, 6, 6, 7, 8] : List Int).getD i9 0 = y := ⟨_, rfl⟩
        rw [hy9] at c9
        clear hy9
        go_simp
        clear hHeld
        refine hK'.out _ _ (trivial) (fun hHeld => ?_)
        clear hK' KK
        try simp only [List.setIfInBounds_toArray, List.set_cons_zero, List.set_cons_succ]
        exact h_0_2_4_6_9 _ _ hHeld ⟨q4, i9, y9, d1, d2, rfl, A1, R, b4, hq4p, hi9, hi8, d10, d11, d20, d21⟩
      · go_simp
        refine (below_dr R.st 20 (by omega) (by omega)).mono ?_
        rintro e u1 ⟨d3, rfl, d30, d31, hd⟩
        replace A1 := A1.keptP hd.1 hqp
        replace b4 := b4.keptP hd.1 hq4p
        replace R := R.draw hd
        clear hd
        have hw_d3 : IntKind.i64.wrap (1 + d3) = 1 + d3 := IntWalk.i64_in (1 + d3) (by omega)
        try go_wp2_with fail
        clear hHeld
        refine hK'.out _ _ (trivial) (fun hHeld => ?_)
        clear hK' KK
        try simp only [List.setIfInBounds_toArray, List.set_cons_zero, List.set_cons_succ]
        refine wpAnyH_take (i := 13) (v := .int .i64 ((1 + d3))) rfl (by kernel_rfl) (by kernel_rfl) (by kernel_rfl) (fun _ _ _ h => h) (Or.inl ⟨by kernel_rfl, ?_⟩) hHeld ?_
        · intro w' hSw; go_simp
        try simp only [Act.put, List.setIfInBounds_toArray, List.set_cons_zero, List.set_cons_succ, List.getElem_toArray, List.getElem_cons_succ, List.getElem_cons_zero]
        exact h_0_2_6_9_12 _ _ hHeld ⟨q4, i9, d1, d2, d3, rfl, A1, R, b4, hq4p, hi9, hi8, d10, d11, d20, d21, d30, d31⟩
      · go_simp
        obtain ⟨u1, h6, G3, bb, -⟩ := boxed u 29 #[.int .i64 0, .int .i64 0, .int .i64 0, .int .i64 0]
        rw [h6]
        clear h6
        obtain ⟨g3, hg3e⟩ : ∃ q, u.heap.size = q := ⟨_, rfl⟩
        have hg3p : g3 ≠ p := by have := R.cur.lt; omega
        have hgq : g3 ≠ q1 := by have := A1.lt; omega
        have hg3 : w.heap.size ≤ g3 := by have := R.kp.size; omega
        rw [hg3e] at G3 ⊢
        clear hg3e
        replace A1 := A1.below bb
        replace R := R.below bb
        replace b4 := b4.below bb
        clear bb
        clear hHeld
        refine hK'.out _ _ (trivial) (fun hHeld => ?_)
        clear hK' KK
        try simp only [List.setIfInBounds_toArray, List.set_cons_zero, List.set_cons_succ]
        exact h_0_2_6_9_15 _ _ hHeld ⟨q4, i9, d1, d2, g3, rfl, A1, R, b4, hq4p, hi9, hi8, d10, d11, d20, d21, G3, hg3p, hgq, hg3⟩
    intro h_0_2_6_9
    refine shareH (fun a' u => ∃ (q4 : Nat) (i9 : Nat) (d1 : Int) (g3 : Nat), a' = { tmps := #[.pointer (some ⟨p, 0, none⟩), undef, .pointer (some ⟨q1, 0, none⟩), .pointer (some ⟨g3, 0, none⟩), .slice ((some ⟨q4, 0, none⟩)) 13 13, .pointer (some ⟨p, 0, none⟩), .int .i64 ((i9 : Int)), .pointer (some ⟨q4, i9, none⟩), undef, .pointer (some ⟨p, 0, none⟩), .int .i64 (d1), .int .i64 ((1 + d1)), .pointer (some ⟨p, 0, none⟩), undef, undef, .pointer (some ⟨p, 0, none⟩), undef, undef, undef, undef, undef, undef, undef, undef, undef, undef, undef, undef, undef, undef, undef, undef, undef, undef, undef, undef, undef, undef, undef, undef, undef, undef, undef, undef, undef, undef, undef, undef, undef, undef, undef, undef, undef, undef, undef, undef, undef, undef, undef, undef], defers := [] } ∧ (At 29 u q1 #[.int .i64 0, .int .i64 0, .int .i64 0, .int .i64 0]) ∧ (Dz w u p a len cap) ∧ (At 2 u q4 #[.int .i64 1, .int .i64 2, .int .i64 2, .int .i64 3, .int .i64 3, .int .i64 4, .int .i64 4, .int .i64 5, .int .i64 6, .int .i64 6, .int .i64 6, .int .i64 7, .int .i64 8]) ∧ (q4 ≠ p) ∧ (i9 < 13) ∧ ((i9 : Int) < 13) ∧ (0 ≤ d1) ∧ (d1 < 3) ∧ (At 29 u g3 #[.int .i64 0, .int .i64 0, .int .i64 0, .int .i64 0]) ∧ (g3 ≠ p) ∧ (g3 ≠ q1) ∧ (w.heap.size ≤ g3)) 7 #[true, true, true, true, false, true, true, true, true, false, false, true, false, false, false, true, false] ?_ ?_
    · intro a' u hHeld hF
      obtain ⟨q4, i9, d1, g3, rfl, A1, R, b4, hq4p, hi9, hi8, d10, d11, G3, hg3p, hgq, hg3⟩ := hF
      refine wpAnyH_ready (rs := [4, 9]) (by kernel_rfl) (by simp) ?_
      refine AllReadyH.cons rfl (fun KK hK' => ?_) (AllReadyH.cons rfl (fun KK hK' => ?_) AllReadyH.nil)
      · have c9 := lit_at (l := [1, 2, 2, 3, 3, 4, 4, 5, 6, 6, 6, 7, 8]) b4 (i := i9) (by simp; omega)
        obtain ⟨y9, hy9⟩ : ∃ y, ([1, 2, 2, 3, 3, 4, 4, 5, 6, 6, 6, 7, 8] : List Int).getD i9 0 = y := ⟨_, rfl⟩
        rw [hy9] at c9
        clear hy9
        go_simp
        clear hHeld
        refine hK'.out _ _ (trivial) (fun hHeld => ?_)
        clear hK' KK
        try simp only [List.setIfInBounds_toArray, List.set_cons_zero, List.set_cons_succ]
        exact h_0_2_4_6_15 _ _ hHeld ⟨q4, i9, y9, d1, g3, rfl, A1, R, b4, hq4p, hi9, hi8, d10, d11, G3, hg3p, hgq, hg3⟩
      · go_simp
        refine (below_dr R.st 3 (by omega) (by omega)).mono ?_
        rintro e u1 ⟨d2, rfl, d20, d21, hd⟩
        replace A1 := A1.keptP hd.1 hqp
        replace b4 := b4.keptP hd.1 hq4p
        replace G3 := G3.keptP hd.1 hg3p
        replace R := R.draw hd
        clear hd
        have hw_d2 : IntKind.i64.wrap (1 + d2) = 1 + d2 := IntWalk.i64_in (1 + d2) (by omega)
        try go_wp2_with fail
        clear hHeld
        refine hK'.out _ _ (trivial) (fun hHeld => ?_)
        clear hK' KK
        try simp only [List.setIfInBounds_toArray, List.set_cons_zero, List.set_cons_succ]
        refine wpAnyH_take (i := 10) (v := .int .i64 ((1 + d2))) rfl (by kernel_rfl) (by kernel_rfl) (by kernel_rfl) (fun _ _ _ h => h) (Or.inl ⟨by kernel_rfl, ?_⟩) hHeld ?_
        · intro w' hSw; go_simp
        try simp only [Act.put, List.setIfInBounds_toArray, List.set_cons_zero, List.set_cons_succ, List.getElem_toArray, List.getElem_cons_succ, List.getElem_cons_zero]
        exact h_0_2_6_9_15 _ _ hHeld ⟨q4, i9, d1, d2, g3, rfl, A1, R, b4, hq4p, hi9, hi8, d10, d11, d20, d21, G3, hg3p, hgq, hg3⟩
    intro h_0_2_6_15
    refine shareH (fun a' u => ∃ (i9 : Nat) (d1 : Int) (d2 : Int) (d3 : Int), a' = { tmps := #[.pointer (some ⟨p, 0, none⟩), undef, .pointer (some ⟨q1, 0, none⟩), undef, undef, .pointer (some ⟨p, 0, none⟩), .int .i64 ((i9 : Int)), undef, undef, .pointer (some ⟨p, 0, none⟩), .int .i64 (d1), .int .i64 ((1 + d1)), .pointer (some ⟨p, 0, none⟩), .int .i64 (d2), .int .i64 ((1 + d2)), .pointer (some ⟨p, 0, none⟩), .int .i64 (d3), .int .i64 ((1 + d3)), undef, undef, undef, undef, undef, undef, undef, undef, undef, undef, undef, undef, undef, undef, undef, undef, undef, undef, undef, undef, undef, undef, undef, undef, undef, undef, undef, undef, undef, undef, undef, undef, undef, undef, undef, undef, undef, undef, undef, undef, undef, undef], defers := [] } ∧ (At 29 u q1 #[.int .i64 0, .int .i64 0, .int .i64 0, .int .i64 0]) ∧ (Dz w u p a len cap) ∧ (i9 < 13) ∧ ((i9 : Int) < 13) ∧ (0 ≤ d1) ∧ (d1 < 3) ∧ (0 ≤ d2) ∧ (d2 < 3) ∧ (0 ≤ d3) ∧ (d3 < 20)) 6 #[false, true, true, false, false, true, true, true, true, true, true, true, true, true, false, false, false] ?_ ?_
    · intro a' u hHeld hF
      obtain ⟨i9, d1, d2, d3, rfl, A1, R, hi9, hi8, d10, d11, d20, d21, d30, d31⟩ := hF
      refine wpAnyH_ready (rs := [0, 15]) (by kernel_rfl) (by simp) ?_
      refine AllReadyH.cons rfl (fun KK hK' => ?_) (AllReadyH.cons rfl (fun KK hK' => ?_) AllReadyH.nil)
      · go_simp
        obtain ⟨u1, h6, b4, bb, -⟩ := boxed u 2 #[.int .i64 1, .int .i64 2, .int .i64 2, .int .i64 3, .int .i64 3, .int .i64 4, .int .i64 4, .int .i64 5, .int .i64 6, .int .i64 6, .int .i64 6, .int .i64 7, .int .i64 8]
        rw [h6]
        clear h6
        obtain ⟨q4, hq4⟩ : ∃ q, u.heap.size = q := ⟨_, rfl⟩
        have hq4p : q4 ≠ p := by have := R.cur.lt; omega
        rw [hq4] at b4 ⊢
        clear hq4
        replace A1 := A1.below bb
        replace R := R.below bb
        clear bb
        clear hHeld
        refine hK'.out _ _ (trivial) (fun hHeld => ?_)
        clear hK' KK
        try simp only [List.setIfInBounds_toArray, List.set_cons_zero]
        refine wpAnyH_take (i := 3) (v := .pointer (some ⟨q4, i9, none⟩)) rfl (by kernel_rfl) (by kernel_rfl) (by kernel_rfl) (fun _ _ _ h => h) (Or.inl ⟨by kernel_rfl, ?_⟩) hHeld ?_
        · intro w' hSw; go_simp
        try simp only [Act.put, List.setIfInBounds_toArray, List.set_cons_zero, List.set_cons_succ, List.getElem_toArray, List.getElem_cons_succ, List.getElem_cons_zero]
        exact h_0_2_6_9_12 _ _ hHeld ⟨q4, i9, d1, d2, d3, rfl, A1, R, b4, hq4p, hi9, hi8, d10, d11, d20, d21, d30, d31⟩
      · go_simp
        obtain ⟨u1, h6, G3, bb, -⟩ := boxed u 29 #[.int .i64 0, .int .i64 0, .int .i64 0, .int .i64 0]
        rw [h6]
        clear h6
        obtain ⟨g3, hg3e⟩ : ∃ q, u.heap.size = q := ⟨_, rfl⟩
        have hg3p : g3 ≠ p := by have := R.cur.lt; omega
        have hgq : g3 ≠ q1 := by have := A1.lt; omega
        have hg3 : w.heap.size ≤ g3 := by have := R.kp.size; omega
        rw [hg3e] at G3 ⊢
        clear hg3e
        replace A1 := A1.below bb
        replace R := R.below bb
        clear bb
        clear hHeld
        refine hK'.out _ _ (trivial) (fun hHeld => ?_)
        clear hK' KK
        try simp only [List.setIfInBounds_toArray, List.set_cons_zero, List.set_cons_succ]
        exact h_2_6_9_12_15 _ _ hHeld ⟨i9, d1, d2, d3, g3, rfl, A1, R, hi9, hi8, d10, d11, d20, d21, d30, d31, G3, hg3p, hgq, hg3⟩
    intro h_2_6_9_12
    refine shareH (fun a' u => ∃ (i9 : Nat) (d1 : Int) (d2 : Int) (g3 : Nat), a' = { tmps := #[.pointer (some ⟨p, 0, none⟩), undef, .pointer (some ⟨q1, 0, none⟩), .pointer (some ⟨g3, 0, none⟩), undef, .pointer (some ⟨p, 0, none⟩), .int .i64 ((i9 : Int)), undef, undef, .pointer (some ⟨p, 0, none⟩), .int .i64 (d1), .int .i64 ((1 + d1)), .pointer (some ⟨p, 0, none⟩), .int .i64 (d2), .int .i64 ((1 + d2)), .pointer (some ⟨p, 0, none⟩), undef, undef, undef, undef, undef, undef, undef, undef, undef, undef, undef, undef, undef, undef, undef, undef, undef, undef, undef, undef, undef, undef, undef, undef, undef, undef, undef, undef, undef, undef, undef, undef, undef, undef, undef, undef, undef, undef, undef, undef, undef, undef, undef, undef], defers := [] } ∧ (At 29 u q1 #[.int .i64 0, .int .i64 0, .int .i64 0, .int .i64 0]) ∧ (Dz w u p a len cap) ∧ (i9 < 13) ∧ ((i9 : Int) < 13) ∧ (0 ≤ d1) ∧ (d1 < 3) ∧ (0 ≤ d2) ∧ (d2 < 3) ∧ (At 29 u g3 #[.int .i64 0, .int .i64 0, .int .i64 0, .int .i64 0]) ∧ (g3 ≠ p) ∧ (g3 ≠ q1) ∧ (w.heap.size ≤ g3)) 7 #[false, true, true, false, false, true, true, true, true, true, true, true, false, false, false, true, false] ?_ ?_
    · intro a' u hHeld hF
      obtain ⟨i9, d1, d2, g3, rfl, A1, R, hi9, hi8, d10, d11, d20, d21, G3, hg3p, hgq, hg3⟩ := hF
      refine wpAnyH_ready (rs := [0, 12]) (by kernel_rfl) (by simp) ?_
      refine AllReadyH.cons rfl (fun KK hK' => ?_) (AllReadyH.cons rfl (fun KK hK' => ?_) AllReadyH.nil)
      · go_simp
        obtain ⟨u1, h6, b4, bb, -⟩ := boxed u 2 #[.int .i64 1, .int .i64 2, .int .i64 2, .int .i64 3, .int .i64 3, .int .i64 4, .int .i64 4, .int .i64 5, .int .i64 6, .int .i64 6, .int .i64 6, .int .i64 7, .int .i64 8]
        rw [h6]
        clear h6
        obtain ⟨q4, hq4⟩ : ∃ q, u.heap.size = q := ⟨_, rfl⟩
        have hq4p : q4 ≠ p := by have := R.cur.lt; omega
        rw [hq4] at b4 ⊢
        clear hq4
        replace A1 := A1.below bb
        replace R := R.below bb
        replace G3 := G3.below bb
        clear bb
        clear hHeld
        refine hK'.out _ _ (trivial) (fun hHeld => ?_)
        clear hK' KK
        try simp only [List.setIfInBounds_toArray, List.set_cons_zero]
        refine wpAnyH_take (i := 3) (v := .pointer (some ⟨q4, i9, none⟩)) rfl (by kernel_rfl) (by kernel_rfl) (by kernel_rfl) (fun _ _ _ h => h) (Or.inl ⟨by kernel_rfl, ?_⟩) hHeld ?_
        · intro w' hSw; go_simp
        try simp only [Act.put, List.setIfInBounds_toArray, List.set_cons_zero, List.set_cons_succ, List.getElem_toArray, List.getElem_cons_succ, List.getElem_cons_zero]
        exact h_0_2_6_9_15 _ _ hHeld ⟨q4, i9, d1, d2, g3, rfl, A1, R, b4, hq4p, hi9, hi8, d10, d11, d20, d21, G3, hg3p, hgq, hg3⟩
      · go_simp
        refine (below_dr R.st 20 (by omega) (by omega)).mono ?_
        rintro e u1 ⟨d3, rfl, d30, d31, hd⟩
        replace A1 := A1.keptP hd.1 hqp
        replace G3 := G3.keptP hd.1 hg3p
        replace R := R.draw hd
        clear hd
        have hw_d3 : IntKind.i64.wrap (1 + d3) = 1 + d3 := IntWalk.i64_in (1 + d3) (by omega)
        try go_wp2_with fail
        clear hHeld
        refine hK'.out _ _ (trivial) (fun hHeld => ?_)
        clear hK' KK
        try simp only [List.setIfInBounds_toArray, List.set_cons_zero, List.set_cons_succ]
        refine wpAnyH_take (i := 13) (v := .int .i64 ((1 + d3))) rfl (by kernel_rfl) (by kernel_rfl) (by kernel_rfl) (fun _ _ _ h => h) (Or.inl ⟨by kernel_rfl, ?_⟩) hHeld ?_
        · intro w' hSw; go_simp
        try simp only [Act.put, List.setIfInBounds_toArray, List.set_cons_zero, List.set_cons_succ, List.getElem_toArray, List.getElem_cons_succ, List.getElem_cons_zero]
        exact h_2_6_9_12_15 _ _ hHeld ⟨i9, d1, d2, d3, g3, rfl, A1, R, hi9, hi8, d10, d11, d20, d21, d30, d31, G3, hg3p, hgq, hg3⟩
    intro h_2_6_9_15
    refine shareH (fun a' u => ∃ (q4 : Nat) (i9 : Nat) (y9 : Int), a' = { tmps := #[.pointer (some ⟨p, 0, none⟩), undef, .pointer (some ⟨q1, 0, none⟩), undef, .slice ((some ⟨q4, 0, none⟩)) 13 13, .pointer (some ⟨p, 0, none⟩), .int .i64 ((i9 : Int)), .pointer (some ⟨q4, i9, none⟩), .int .i64 (y9), .pointer (some ⟨p, 0, none⟩), undef, undef, .pointer (some ⟨p, 0, none⟩), undef, undef, .pointer (some ⟨p, 0, none⟩), undef, undef, undef, undef, undef, undef, undef, undef, undef, undef, undef, undef, undef, undef, undef, undef, undef, undef, undef, undef, undef, undef, undef, undef, undef, undef, undef, undef, undef, undef, undef, undef, undef, undef, undef, undef, undef, undef, undef, undef, undef, undef, undef, undef], defers := [] } ∧ (At 29 u q1 #[.int .i64 0, .int .i64 0, .int .i64 0, .int .i64 0]) ∧ (Dz w u p a len cap) ∧ (At 2 u q4 #[.int .i64 1, .int .i64 2, .int .i64 2, .int .i64 3, .int .i64 3, .int .i64 4, .int .i64 4, .int .i64 5, .int .i64 6, .int .i64 6, .int .i64 6, .int .i64 7, .int .i64 8]) ∧ (q4 ≠ p) ∧ (i9 < 13) ∧ ((i9 : Int) < 13)) 9 #[true, true, true, true, true, true, false, false, true, false, false, true, false, false, false, false, false] ?_ ?_
    · intro a' u hHeld hF
      obtain ⟨q4, i9, y9, rfl, A1, R, b4, hq4p, hi9, hi8⟩ := hF
      refine wpAnyH_ready (rs := [6, 15]) (by kernel_rfl) (by simp) ?_
      refine AllReadyH.cons rfl (fun KK hK' => ?_) (AllReadyH.cons rfl (fun KK hK' => ?_) AllReadyH.nil)
      · go_simp
        refine (below_dr R.st 3 (by omega) (by omega)).mono ?_
        rintro e u1 ⟨d1, rfl, d10, d11, hd⟩
        replace A1 := A1.keptP hd.1 hqp
        replace b4 := b4.keptP hd.1 hq4p
        replace R := R.draw hd
        clear hd
        have hw_d1 : IntKind.i64.wrap (1 + d1) = 1 + d1 := IntWalk.i64_in (1 + d1) (by omega)
        try go_wp2_with fail
        clear hHeld
        refine hK'.out _ _ (trivial) (fun hHeld => ?_)
        clear hK' KK
        try simp only [List.setIfInBounds_toArray, List.set_cons_zero, List.set_cons_succ]
        refine wpAnyH_take (i := 7) (v := .int .i64 ((1 + d1))) rfl (by kernel_rfl) (by kernel_rfl) (by kernel_rfl) (fun _ _ _ h => h) (Or.inl ⟨by kernel_rfl, ?_⟩) hHeld ?_
        · intro w' hSw; go_simp
        try simp only [Act.put, List.setIfInBounds_toArray, List.set_cons_zero, List.set_cons_succ, List.getElem_toArray, List.getElem_cons_succ, List.getElem_cons_zero]
        exact h_0_2_4_6 _ _ hHeld ⟨q4, i9, y9, d1, rfl, A1, R, b4, hq4p, hi9, hi8, d10, d11⟩
      · go_simp
        obtain ⟨u1, h6, G3, bb, -⟩ := boxed u 29 #[.int .i64 0, .int .i64 0, .int .i64 0, .int .i64 0]
        rw [h6]
        clear h6
        obtain ⟨g3, hg3e⟩ : ∃ q, u.heap.size = q := ⟨_, rfl⟩
        have hg3p : g3 ≠ p := by have := R.cur.lt; omega
        have hgq : g3 ≠ q1 := by have := A1.lt; omega
        have hg3 : w.heap.size ≤ g3 := by have := R.kp.size; omega
        rw [hg3e] at G3 ⊢
        clear hg3e
        replace A1 := A1.below bb
        replace R := R.below bb
        replace b4 := b4.below bb
        clear bb
        clear hHeld
        refine hK'.out _ _ (trivial) (fun hHeld => ?_)
        clear hK' KK
        try simp only [List.setIfInBounds_toArray, List.set_cons_zero, List.set_cons_succ]
        exact h_0_2_4_15 _ _ hHeld ⟨q4, i9, y9, g3, rfl, A1, R, b4, hq4p, hi9, hi8, G3, hg3p, hgq, hg3⟩
    intro h_0_2_4
    refine shareH (fun a' u => ∃ (q4 : Nat) (i9 : Nat) (d1 : Int), a' = { tmps := #[.pointer (some ⟨p, 0, none⟩), undef, .pointer (some ⟨q1, 0, none⟩), undef, .slice ((some ⟨q4, 0, none⟩)) 13 13, .pointer (some ⟨p, 0, none⟩), .int .i64 ((i9 : Int)), .pointer (some ⟨q4, i9, none⟩), undef, .pointer (some ⟨p, 0, none⟩), .int .i64 (d1), .int .i64 ((1 + d1)), .pointer (some ⟨p, 0, none⟩), undef, undef, .pointer (some ⟨p, 0, none⟩), undef, undef, undef, undef, undef, undef, undef, undef, undef, undef, undef, undef, undef, undef, undef, undef, undef, undef, undef, undef, undef, undef, undef, undef, undef, undef, undef, undef, undef, undef, undef, undef, undef, undef, undef, undef, undef, undef, undef, undef, undef, undef, undef, undef], defers := [] } ∧ (At 29 u q1 #[.int .i64 0, .int .i64 0, .int .i64 0, .int .i64 0]) ∧ (Dz w u p a len cap) ∧ (At 2 u q4 #[.int .i64 1, .int .i64 2, .int .i64 2, .int .i64 3, .int .i64 3, .int .i64 4, .int .i64 4, .int .i64 5, .int .i64 6, .int .i64 6, .int .i64 6, .int .i64 7, .int .i64 8]) ∧ (q4 ≠ p) ∧ (i9 < 13) ∧ ((i9 : Int) < 13) ∧ (0 ≤ d1) ∧ (d1 < 3)) 8 #[true, true, true, true, false, true, true, true, true, false, false, true, false, false, false, false, false] ?_ ?_
    · intro a' u hHeld hF
      obtain ⟨q4, i9, d1, rfl, A1, R, b4, hq4p, hi9, hi8, d10, d11⟩ := hF
      refine wpAnyH_ready (rs := [4, 9, 15]) (by kernel_rfl) (by simp) ?_
      refine AllReadyH.cons rfl (fun KK hK' => ?_) (AllReadyH.cons rfl (fun KK hK' => ?_) (AllReadyH.cons rfl (fun KK hK' => ?_) AllReadyH.nil))
      · have c9 := lit_at (l := [1, 2, 2, 3, 3, 4, 4, 5, 6, 6, 6, 7, 8]) b4 (i := i9) (by simp; omega)
        obtain ⟨y9, hy9⟩ : ∃ y, ([1, 2, 2, 3, 3, 4, 4, 5, 6, 6, 6, 7, 8] : List Int).getD i9 0 = y := ⟨_, rfl⟩
        rw [hy9] at c9
        clear hy9
        go_simp
        clear hHeld
        refine hK'.out _ _ (trivial) (fun hHeld => ?_)
        clear hK' KK
        try simp only [List.setIfInBounds_toArray, List.set_cons_zero, List.set_cons_succ]
        exact h_0_2_4_6 _ _ hHeld ⟨q4, i9, y9, d1, rfl, A1, R, b4, hq4p, hi9, hi8, d10, d11⟩
      · go_simp
        refine (below_dr R.st 3 (by omega) (by omega)).mono ?_
        rintro e u1 ⟨d2, rfl, d20, d21, hd⟩
        replace A1 := A1.keptP hd.1 hqp
        replace b4 := b4.keptP hd.1 hq4p
        replace R := R.draw hd
        clear hd
        have hw_d2 : IntKind.i64.wrap (1 + d2) = 1 + d2 := IntWalk.i64_in (1 + d2) (by omega)
        try go_wp2_with fail
        clear hHeld
        refine hK'.out _ _ (trivial) (fun hHeld => ?_)
        clear hK' KK
        try simp only [List.setIfInBounds_toArray, List.set_cons_zero, List.set_cons_succ]
        refine wpAnyH_take (i := 10) (v := .int .i64 ((1 + d2))) rfl (by kernel_rfl) (by kernel_rfl) (by kernel_rfl) (fun _ _ _ h => h) (Or.inl ⟨by kernel_rfl, ?_⟩) hHeld ?_
        · intro w' hSw; go_simp
        try simp only [Act.put, List.setIfInBounds_toArray, List.set_cons_zero, List.set_cons_succ, List.getElem_toArray, List.getElem_cons_succ, List.getElem_cons_zero]
        exact h_0_2_6_9 _ _ hHeld ⟨q4, i9, d1, d2, rfl, A1, R, b4, hq4p, hi9, hi8, d10, d11, d20, d21⟩
      · go_simp
        obtain ⟨u1, h6, G3, bb, -⟩ := boxed u 29 #[.int .i64 0, .int .i64 0, .int .i64 0, .int .i64 0]
        rw [h6]
        clear h6
        obtain ⟨g3, hg3e⟩ : ∃ q, u.heap.size = q := ⟨_, rfl⟩
        have hg3p : g3 ≠ p := by have := R.cur.lt; omega
        have hgq : g3 ≠ q1 := by have := A1.lt; omega
        have hg3 : w.heap.size ≤ g3 := by have := R.kp.size; omega
        rw [hg3e] at G3 ⊢
        clear hg3e
        replace A1 := A1.below bb
        replace R := R.below bb
        replace b4 := b4.below bb
        clear bb
        clear hHeld
        refine hK'.out _ _ (trivial) (fun hHeld => ?_)
        clear hK' KK
        try simp only [List.setIfInBounds_toArray, List.set_cons_zero, List.set_cons_succ]
        exact h_0_2_6_15 _ _ hHeld ⟨q4, i9, d1, g3, rfl, A1, R, b4, hq4p, hi9, hi8, d10, d11, G3, hg3p, hgq, hg3⟩
    intro h_0_2_6
    refine shareH (fun a' u => ∃ (q4 : Nat) (i9 : Nat) (g3 : Nat), a' = { tmps := #[.pointer (some ⟨p, 0, none⟩), undef, .pointer (some ⟨q1, 0, none⟩), .pointer (some ⟨g3, 0, none⟩), .slice ((some ⟨q4, 0, none⟩)) 13 13, .pointer (some ⟨p, 0, none⟩), .int .i64 ((i9 : Int)), .pointer (some ⟨q4, i9, none⟩), undef, .pointer (some ⟨p, 0, none⟩), undef, undef, .pointer (some ⟨p, 0, none⟩), undef, undef, .pointer (some ⟨p, 0, none⟩), undef, undef, undef, undef, undef, undef, undef, undef, undef, undef, undef, undef, undef, undef, undef, undef, undef, undef, undef, undef, undef, undef, undef, undef, undef, undef, undef, undef, undef, undef, undef, undef, undef, undef, undef, undef, undef, undef, undef, undef, undef, undef, undef, undef], defers := [] } ∧ (At 29 u q1 #[.int .i64 0, .int .i64 0, .int .i64 0, .int .i64 0]) ∧ (Dz w u p a len cap) ∧ (At 2 u q4 #[.int .i64 1, .int .i64 2, .int .i64 2, .int .i64 3, .int .i64 3, .int .i64 4, .int .i64 4, .int .i64 5, .int .i64 6, .int .i64 6, .int .i64 6, .int .i64 7, .int .i64 8]) ∧ (q4 ≠ p) ∧ (i9 < 13) ∧ ((i9 : Int) < 13) ∧ (At 29 u g3 #[.int .i64 0, .int .i64 0, .int .i64 0, .int .i64 0]) ∧ (g3 ≠ p) ∧ (g3 ≠ q1) ∧ (w.heap.size ≤ g3)) 9 #[true, true, true, true, false, true, false, false, true, false, false, true, false, false, false, true, false] ?_ ?_
    · intro a' u hHeld hF
      obtain ⟨q4, i9, g3, rfl, A1, R, b4, hq4p, hi9, hi8, G3, hg3p, hgq, hg3⟩ := hF
      refine wpAnyH_ready (rs := [4, 6]) (by kernel_rfl) (by simp) ?_
      refine AllReadyH.cons rfl (fun KK hK' => ?_) (AllReadyH.cons rfl (fun KK hK' => ?_) AllReadyH.nil)
      · have c9 := lit_at (l := [1, 2, 2, 3, 3, 4, 4, 5, 6, 6, 6, 7, 8]) b4 (i := i9) (by simp; omega)
        obtain ⟨y9, hy9⟩ : ∃ y, ([1, 2, 2, 3, 3, 4, 4, 5, 6, 6, 6, 7, 8] : List Int).getD i9 0 = y := ⟨_, rfl⟩
        rw [hy9] at c9
        clear hy9
        go_simp
        clear hHeld
        refine hK'.out _ _ (trivial) (fun hHeld => ?_)
        clear hK' KK
        try simp only [List.setIfInBounds_toArray, List.set_cons_zero, List.set_cons_succ]
        exact h_0_2_4_15 _ _ hHeld ⟨q4, i9, y9, g3, rfl, A1, R, b4, hq4p, hi9, hi8, G3, hg3p, hgq, hg3⟩
      · go_simp
        refine (below_dr R.st 3 (by omega) (by omega)).mono ?_
        rintro e u1 ⟨d1, rfl, d10, d11, hd⟩
        replace A1 := A1.keptP hd.1 hqp
        replace b4 := b4.keptP hd.1 hq4p
        replace G3 := G3.keptP hd.1 hg3p
        replace R := R.draw hd
        clear hd
        have hw_d1 : IntKind.i64.wrap (1 + d1) = 1 + d1 := IntWalk.i64_in (1 + d1) (by omega)
        try go_wp2_with fail
        clear hHeld
        refine hK'.out _ _ (trivial) (fun hHeld => ?_)
        clear hK' KK
        try simp only [List.setIfInBounds_toArray, List.set_cons_zero, List.set_cons_succ]
        refine wpAnyH_take (i := 7) (v := .int .i64 ((1 + d1))) rfl (by kernel_rfl) (by kernel_rfl) (by kernel_rfl) (fun _ _ _ h => h) (Or.inl ⟨by kernel_rfl, ?_⟩) hHeld ?_
        · intro w' hSw; go_simp
        try simp only [Act.put, List.setIfInBounds_toArray, List.set_cons_zero, List.set_cons_succ, List.getElem_toArray, List.getElem_cons_succ, List.getElem_cons_zero]
        exact h_0_2_6_15 _ _ hHeld ⟨q4, i9, d1, g3, rfl, A1, R, b4, hq4p, hi9, hi8, d10, d11, G3, hg3p, hgq, hg3⟩
    intro h_0_2_15
    refine shareH (fun a' u => ∃ (i9 : Nat) (d1 : Int) (d2 : Int), a' = { tmps := #[.pointer (some ⟨p, 0, none⟩), undef, .pointer (some ⟨q1, 0, none⟩), undef, undef, .pointer (some ⟨p, 0, none⟩), .int .i64 ((i9 : Int)), undef, undef, .pointer (some ⟨p, 0, none⟩), .int .i64 (d1), .int .i64 ((1 + d1)), .pointer (some ⟨p, 0, none⟩), .int .i64 (d2), .int .i64 ((1 + d2)), .pointer (some ⟨p, 0, none⟩), undef, undef, undef, undef, undef, undef, undef, undef, undef, undef, undef, undef, undef, undef, undef, undef, undef, undef, undef, undef, undef, undef, undef, undef, undef, undef, undef, undef, undef, undef, undef, undef, undef, undef, undef, undef, undef, undef, undef, undef, undef, undef, undef, undef], defers := [] } ∧ (At 29 u q1 #[.int .i64 0, .int .i64 0, .int .i64 0, .int .i64 0]) ∧ (Dz w u p a len cap) ∧ (i9 < 13) ∧ ((i9 : Int) < 13) ∧ (0 ≤ d1) ∧ (d1 < 3) ∧ (0 ≤ d2) ∧ (d2 < 3)) 8 #[false, true, true, false, false, true, true, true, true, true, true, true, false, false, false, false, false] ?_ ?_
    · intro a' u hHeld hF
      obtain ⟨i9, d1, d2, rfl, A1, R, hi9, hi8, d10, d11, d20, d21⟩ := hF
      refine wpAnyH_ready (rs := [0, 12, 15]) (by kernel_rfl) (by simp) ?_
      refine AllReadyH.cons rfl (fun KK hK' => ?_) (AllReadyH.cons rfl (fun KK hK' => ?_) (AllReadyH.cons rfl (fun KK hK' => ?_) AllReadyH.nil))
      · go_simp
        obtain ⟨u1, h6, b4, bb, -⟩ := boxed u 2 #[.int .i64 1, .int .i64 2, .int .i64 2, .int .i64 3, .int .i64 3, .int .i64 4, .int .i64 4, .int .i64 5, .int .i64 6, .int .i64 6, .int .i64 6, .int .i64 7, .int .i64 8]
        rw [h6]
        clear h6
        obtain ⟨q4, hq4⟩ : ∃ q, u.heap.size = q := ⟨_, rfl⟩
        have hq4p : q4 ≠ p := by have := R.cur.lt; omega
        rw [hq4] at b4 ⊢
        clear hq4
        replace A1 := A1.below bb
        replace R := R.below bb
        clear bb
        clear hHeld
        refine hK'.out _ _ (trivial) (fun hHeld => ?_)
        clear hK' KK
        try simp only [List.setIfInBounds_toArray, List.set_cons_zero]
        refine wpAnyH_take (i := 3) (v := .pointer (some ⟨q4, i9, none⟩)) rfl (by kernel_rfl) (by kernel_rfl) (by kernel_rfl) (fun _ _ _ h => h) (Or.inl ⟨by kernel_rfl, ?_⟩) hHeld ?_
        · intro w' hSw; go_simp
        try simp only [Act.put, List.setIfInBounds_toArray, List.set_cons_zero, List.set_cons_succ, List.getElem_toArray, List.getElem_cons_succ, List.getElem_cons_zero]
        exact h_0_2_6_9 _ _ hHeld ⟨q4, i9, d1, d2, rfl, A1, R, b4, hq4p, hi9, hi8, d10, d11, d20, d21⟩
      · go_simp
        refine (below_dr R.st 20 (by omega) (by omega)).mono ?_
        rintro e u1 ⟨d3, rfl, d30, d31, hd⟩
        replace A1 := A1.keptP hd.1 hqp
        replace R := R.draw hd
        clear hd
        have hw_d3 : IntKind.i64.wrap (1 + d3) = 1 + d3 := IntWalk.i64_in (1 + d3) (by omega)
        try go_wp2_with fail
        clear hHeld
        refine hK'.out _ _ (trivial) (fun hHeld => ?_)
        clear hK' KK
        try simp only [List.setIfInBounds_toArray, List.set_cons_zero, List.set_cons_succ]
        refine wpAnyH_take (i := 13) (v := .int .i64 ((1 + d3))) rfl (by kernel_rfl) (by kernel_rfl) (by kernel_rfl) (fun _ _ _ h => h) (Or.inl ⟨by kernel_rfl, ?_⟩) hHeld ?_
        · intro w' hSw; go_simp
        try simp only [Act.put, List.setIfInBounds_toArray, List.set_cons_zero, List.set_cons_succ, List.getElem_toArray, List.getElem_cons_succ, List.getElem_cons_zero]
        exact h_2_6_9_12 _ _ hHeld ⟨i9, d1, d2, d3, rfl, A1, R, hi9, hi8, d10, d11, d20, d21, d30, d31⟩
      · go_simp
        obtain ⟨u1, h6, G3, bb, -⟩ := boxed u 29 #[.int .i64 0, .int .i64 0, .int .i64 0, .int .i64 0]
        rw [h6]
        clear h6
        obtain ⟨g3, hg3e⟩ : ∃ q, u.heap.size = q := ⟨_, rfl⟩
        have hg3p : g3 ≠ p := by have := R.cur.lt; omega
        have hgq : g3 ≠ q1 := by have := A1.lt; omega
        have hg3 : w.heap.size ≤ g3 := by have := R.kp.size; omega
        rw [hg3e] at G3 ⊢
        clear hg3e
        replace A1 := A1.below bb
        replace R := R.below bb
        clear bb
        clear hHeld
        refine hK'.out _ _ (trivial) (fun hHeld => ?_)
        clear hK' KK
        try simp only [List.setIfInBounds_toArray, List.set_cons_zero, List.set_cons_succ]
        exact h_2_6_9_15 _ _ hHeld ⟨i9, d1, d2, g3, rfl, A1, R, hi9, hi8, d10, d11, d20, d21, G3, hg3p, hgq, hg3⟩
    intro h_2_6_9
    refine shareH (fun a' u => ∃ (i9 : Nat) (d1 : Int) (g3 : Nat), a' = { tmps := #[.pointer (some ⟨p, 0, none⟩), undef, .pointer (some ⟨q1, 0, none⟩), .pointer (some ⟨g3, 0, none⟩), undef, .pointer (some ⟨p, 0, none⟩), .int .i64 ((i9 : Int)), undef, undef, .pointer (some ⟨p, 0, none⟩), .int .i64 (d1), .int .i64 ((1 + d1)), .pointer (some ⟨p, 0, none⟩), undef, undef, .pointer (some ⟨p, 0, none⟩), undef, undef, undef, undef, undef, undef, undef, undef, undef, undef, undef, undef, undef, undef, undef, undef, undef, undef, undef, undef, undef, undef, undef, undef, undef, undef, undef, undef, undef, undef, undef, undef, undef, undef, undef, undef, undef, undef, undef, undef, undef, undef, undef, undef], defers := [] } ∧ (At 29 u q1 #[.int .i64 0, .int .i64 0, .int .i64 0, .int .i64 0]) ∧ (Dz w u p a len cap) ∧ (i9 < 13) ∧ ((i9 : Int) < 13) ∧ (0 ≤ d1) ∧ (d1 < 3) ∧ (At 29 u g3 #[.int .i64 0, .int .i64 0, .int .i64 0, .int .i64 0]) ∧ (g3 ≠ p) ∧ (g3 ≠ q1) ∧ (w.heap.size ≤ g3)) 9 #[false, true, true, false, false, true, true, true, true, false, false, true, false, false, false, true, false] ?_ ?_
    · intro a' u hHeld hF
      obtain ⟨i9, d1, g3, rfl, A1, R, hi9, hi8, d10, d11, G3, hg3p, hgq, hg3⟩ := hF
      refine wpAnyH_ready (rs := [0, 9]) (by kernel_rfl) (by simp) ?_
      refine AllReadyH.cons rfl (fun KK hK' => ?_) (AllReadyH.cons rfl (fun KK hK' => ?_) AllReadyH.nil)
      · go_simp
        obtain ⟨u1, h6, b4, bb, -⟩ := boxed u 2 #[.int .i64 1, .int .i64 2, .int .i64 2, .int .i64 3, .int .i64 3, .int .i64 4, .int .i64 4, .int .i64 5, .int .i64 6, .int .i64 6, .int .i64 6, .int .i64 7, .int .i64 8]
        rw [h6]
        clear h6
        obtain ⟨q4, hq4⟩ : ∃ q, u.heap.size = q := ⟨_, rfl⟩
        have hq4p : q4 ≠ p := by have := R.cur.lt; omega
        rw [hq4] at b4 ⊢
        clear hq4
        replace A1 := A1.below bb
        replace R := R.below bb
        replace G3 := G3.below bb
        clear bb
        clear hHeld
        refine hK'.out _ _ (trivial) (fun hHeld => ?_)
        clear hK' KK
        try simp only [List.setIfInBounds_toArray, List.set_cons_zero]
        refine wpAnyH_take (i := 3) (v := .pointer (some ⟨q4, i9, none⟩)) rfl (by kernel_rfl) (by kernel_rfl) (by kernel_rfl) (fun _ _ _ h => h) (Or.inl ⟨by kernel_rfl, ?_⟩) hHeld ?_
        · intro w' hSw; go_simp
        try simp only [Act.put, List.setIfInBounds_toArray, List.set_cons_zero, List.set_cons_succ, List.getElem_toArray, List.getElem_cons_succ, List.getElem_cons_zero]
        exact h_0_2_6_15 _ _ hHeld ⟨q4, i9, d1, g3, rfl, A1, R, b4, hq4p, hi9, hi8, d10, d11, G3, hg3p, hgq, hg3⟩
      · go_simp
        refine (below_dr R.st 3 (by omega) (by omega)).mono ?_
        rintro e u1 ⟨d2, rfl, d20, d21, hd⟩
        replace A1 := A1.keptP hd.1 hqp
        replace G3 := G3.keptP hd.1 hg3p
        replace R := R.draw hd
        clear hd
        have hw_d2 : IntKind.i64.wrap (1 + d2) = 1 + d2 := IntWalk.i64_in (1 + d2) (by omega)
        try go_wp2_with fail
        clear hHeld
        refine hK'.out _ _ (trivial) (fun hHeld => ?_)
        clear hK' KK
        try simp only [List.setIfInBounds_toArray, List.set_cons_zero, List.set_cons_succ]
        refine wpAnyH_take (i := 10) (v := .int .i64 ((1 + d2))) rfl (by kernel_rfl) (by kernel_rfl) (by kernel_rfl) (fun _ _ _ h => h) (Or.inl ⟨by kernel_rfl, ?_⟩) hHeld ?_
        · intro w' hSw; go_simp
        try simp only [Act.put, List.setIfInBounds_toArray, List.set_cons_zero, List.set_cons_succ, List.getElem_toArray, List.getElem_cons_succ, List.getElem_cons_zero]
        exact h_2_6_9_15 _ _ hHeld ⟨i9, d1, d2, g3, rfl, A1, R, hi9, hi8, d10, d11, d20, d21, G3, hg3p, hgq, hg3⟩
    intro h_2_6_15
    refine shareH (fun a' u => ∃ (q4 : Nat) (i9 : Nat), a' = { tmps := #[.pointer (some ⟨p, 0, none⟩), undef, .pointer (some ⟨q1, 0, none⟩), undef, .slice ((some ⟨q4, 0, none⟩)) 13 13, .pointer (some ⟨p, 0, none⟩), .int .i64 ((i9 : Int)), .pointer (some ⟨q4, i9, none⟩), undef, .pointer (some ⟨p, 0, none⟩), undef, undef, .pointer (some ⟨p, 0, none⟩), undef, undef, .pointer (some ⟨p, 0, none⟩), undef, undef, undef, undef, undef, undef, undef, undef, undef, undef, undef, undef, undef, undef, undef, undef, undef, undef, undef, undef, undef, undef, undef, undef, undef, undef, undef, undef, undef, undef, undef, undef, undef, undef, undef, undef, undef, undef, undef, undef, undef, undef, undef, undef], defers := [] } ∧ (At 29 u q1 #[.int .i64 0, .int .i64 0, .int .i64 0, .int .i64 0]) ∧ (Dz w u p a len cap) ∧ (At 2 u q4 #[.int .i64 1, .int .i64 2, .int .i64 2, .int .i64 3, .int .i64 3, .int .i64 4, .int .i64 4, .int .i64 5, .int .i64 6, .int .i64 6, .int .i64 6, .int .i64 7, .int .i64 8]) ∧ (q4 ≠ p) ∧ (i9 < 13) ∧ ((i9 : Int) < 13)) 10 #[true, true, true, true, false, true, false, false, true, false, false, true, false, false, false, false, false] ?_ ?_
    · intro a' u hHeld hF
      obtain ⟨q4, i9, rfl, A1, R, b4, hq4p, hi9, hi8⟩ := hF
      refine wpAnyH_ready (rs := [4, 6, 15]) (by kernel_rfl) (by simp) ?_
      refine AllReadyH.cons rfl (fun KK hK' => ?_) (AllReadyH.cons rfl (fun KK hK' => ?_) (AllReadyH.cons rfl (fun KK hK' => ?_) AllReadyH.nil))
      · have c9 := lit_at (l := [1, 2, 2, 3, 3, 4, 4, 5, 6, 6, 6, 7, 8]) b4 (i := i9) (by simp; omega)
        obtain ⟨y9, hy9⟩ : ∃ y, ([1, 2, 2, 3, 3, 4, 4, 5, 6, 6, 6, 7, 8] : List Int).getD i9 0 = y := ⟨_, rfl⟩
        rw [hy9] at c9
        clear hy9
        go_simp
        clear hHeld
        refine hK'.out _ _ (trivial) (fun hHeld => ?_)
        clear hK' KK
        try simp only [List.setIfInBounds_toArray, List.set_cons_zero, List.set_cons_succ]
        exact h_0_2_4 _ _ hHeld ⟨q4, i9, y9, rfl, A1, R, b4, hq4p, hi9, hi8⟩
      · go_simp
        refine (below_dr R.st 3 (by omega) (by omega)).mono ?_
        rintro e u1 ⟨d1, rfl, d10, d11, hd⟩
        replace A1 := A1.keptP hd.1 hqp
        replace b4 := b4.keptP hd.1 hq4p
        replace R := R.draw hd
        clear hd
        have hw_d1 : IntKind.i64.wrap (1 + d1) = 1 + d1 := IntWalk.i64_in (1 + d1) (by omega)
        try go_wp2_with fail
        clear hHeld
        refine hK'.out _ _ (trivial) (fun hHeld => ?_)
        clear hK' KK
        try simp only [List.setIfInBounds_toArray, List.set_cons_zero, List.set_cons_succ]
        refine wpAnyH_take (i := 7) (v := .int .i64 ((1 + d1))) rfl (by kernel_rfl) (by kernel_rfl) (by kernel_rfl) (fun _ _ _ h => h) (Or.inl ⟨by kernel_rfl, ?_⟩) hHeld ?_
        · intro w' hSw; go_simp
        try simp only [Act.put, List.setIfInBounds_toArray, List.set_cons_zero, List.set_cons_succ, List.getElem_toArray, List.getElem_cons_succ, List.getElem_cons_zero]
        exact h_0_2_6 _ _ hHeld ⟨q4, i9, d1, rfl, A1, R, b4, hq4p, hi9, hi8, d10, d11⟩
      · go_simp
        obtain ⟨u1, h6, G3, bb, -⟩ := boxed u 29 #[.int .i64 0, .int .i64 0, .int .i64 0, .int .i64 0]
        rw [h6]
        clear h6
        obtain ⟨g3, hg3e⟩ : ∃ q, u.heap.size = q := ⟨_, rfl⟩
        have hg3p : g3 ≠ p := by have := R.cur.lt; omega
        have hgq : g3 ≠ q1 := by have := A1.lt; omega
        have hg3 : w.heap.size ≤ g3 := by have := R.kp.size; omega
        rw [hg3e] at G3 ⊢
        clear hg3e
        replace A1 := A1.below bb
        replace R := R.below bb
        replace b4 := b4.below bb
        clear bb
        clear hHeld
        refine hK'.out _ _ (trivial) (fun hHeld => ?_)
        clear hK' KK
        try simp only [List.setIfInBounds_toArray, List.set_cons_zero, List.set_cons_succ]
        exact h_0_2_15 _ _ hHeld ⟨q4, i9, g3, rfl, A1, R, b4, hq4p, hi9, hi8, G3, hg3p, hgq, hg3⟩
    intro h_0_2
    refine shareH (fun a' u => ∃ (q4 : Nat) (g3 : Nat), a' = { tmps := #[.pointer (some ⟨p, 0, none⟩), undef, .pointer (some ⟨q1, 0, none⟩), .pointer (some ⟨g3, 0, none⟩), .slice ((some ⟨q4, 0, none⟩)) 13 13, .pointer (some ⟨p, 0, none⟩), undef, undef, undef, .pointer (some ⟨p, 0, none⟩), undef, undef, .pointer (some ⟨p, 0, none⟩), undef, undef, .pointer (some ⟨p, 0, none⟩), undef, undef, undef, undef, undef, undef, undef, undef, undef, undef, undef, undef, undef, undef, undef, undef, undef, undef, undef, undef, undef, undef, undef, undef, undef, undef, undef, undef, undef, undef, undef, undef, undef, undef, undef, undef, undef, undef, undef, undef, undef, undef, undef, undef], defers := [] } ∧ (At 29 u q1 #[.int .i64 0, .int .i64 0, .int .i64 0, .int .i64 0]) ∧ (Dz w u p a len cap) ∧ (At 2 u q4 #[.int .i64 1, .int .i64 2, .int .i64 2, .int .i64 3, .int .i64 3, .int .i64 4, .int .i64 4, .int .i64 5, .int .i64 6, .int .i64 6, .int .i64 6, .int .i64 7, .int .i64 8]) ∧ (q4 ≠ p) ∧ (At 29 u g3 #[.int .i64 0, .int .i64 0, .int .i64 0, .int .i64 0]) ∧ (g3 ≠ p) ∧ (g3 ≠ q1) ∧ (w.heap.size ≤ g3)) 11 #[true, true, false, false, false, true, false, false, true, false, false, true, false, false, false, true, false] ?_ ?_
    · intro a' u hHeld hF
      obtain ⟨q4, g3, rfl, A1, R, b4, hq4p, G3, hg3p, hgq, hg3⟩ := hF
      refine wpAnyH_ready (rs := [2]) (by kernel_rfl) (by simp) ?_
      refine AllReadyH.cons rfl (fun KK hK' => ?_) AllReadyH.nil
      go_simp
      refine (below_dr R.st 13 (by omega) (by omega)).mono ?_
      rintro e u1 ⟨x9, rfl, x90, x91, hd⟩
      replace A1 := A1.keptP hd.1 hqp
      replace b4 := b4.keptP hd.1 hq4p
      replace G3 := G3.keptP hd.1 hg3p
      replace R := R.draw hd
      clear hd
      obtain ⟨i9, rfl⟩ : ∃ i9 : Nat, x9 = (i9 : Int) := ⟨x9.toNat, by omega⟩
      have hi9 : i9 < 13 := by omega
      have hi8 : (i9 : Int) < 13 := by omega
      try go_wp2_with fail
      clear hHeld
      refine hK'.out _ _ (trivial) (fun hHeld => ?_)
      clear hK' KK
      try simp only [List.setIfInBounds_toArray, List.set_cons_zero, List.set_cons_succ]
      refine wpAnyH_take (i := 3) (v := .pointer (some ⟨q4, i9, none⟩)) rfl (by kernel_rfl) (by kernel_rfl) (by kernel_rfl) (fun _ _ _ h => h) (Or.inl ⟨by kernel_rfl, ?_⟩) hHeld ?_
      · intro w' hSw; go_simp
      try simp only [Act.put, List.setIfInBounds_toArray, List.set_cons_zero, List.set_cons_succ, List.getElem_toArray, List.getElem_cons_succ, List.getElem_cons_zero]
      exact h_0_2_15 _ _ hHeld ⟨q4, i9, g3, rfl, A1, R, b4, hq4p, hi9, hi8, G3, hg3p, hgq, hg3⟩
    intro h_0_15
    refine shareH (fun a' u => ∃ (i9 : Nat) (d1 : Int), a' = { tmps := #[.pointer (some ⟨p, 0, none⟩), undef, .pointer (some ⟨q1, 0, none⟩), undef, undef, .pointer (some ⟨p, 0, none⟩), .int .i64 ((i9 : Int)), undef, undef, .pointer (some ⟨p, 0, none⟩), .int .i64 (d1), .int .i64 ((1 + d1)), .pointer (some ⟨p, 0, none⟩), undef, undef, .pointer (some ⟨p, 0, none⟩), undef, undef, undef, undef, undef, undef, undef, undef, undef, undef, undef, undef, undef, undef, undef, undef, undef, undef, undef, undef, undef, undef, undef, undef, undef, undef, undef, undef, undef, undef, undef, undef, undef, undef, undef, undef, undef, undef, undef, undef, undef, undef, undef, undef], defers := [] } ∧ (At 29 u q1 #[.int .i64 0, .int .i64 0, .int .i64 0, .int .i64 0]) ∧ (Dz w u p a len cap) ∧ (i9 < 13) ∧ ((i9 : Int) < 13) ∧ (0 ≤ d1) ∧ (d1 < 3)) 10 #[false, true, true, false, false, true, true, true, true, false, false, true, false, false, false, false, false] ?_ ?_
    · intro a' u hHeld hF
      obtain ⟨i9, d1, rfl, A1, R, hi9, hi8, d10, d11⟩ := hF
      refine wpAnyH_ready (rs := [0, 9, 15]) (by kernel_rfl) (by simp) ?_
      refine AllReadyH.cons rfl (fun KK hK' => ?_) (AllReadyH.cons rfl (fun KK hK' => ?_) (AllReadyH.cons rfl (fun KK hK' => ?_) AllReadyH.nil))
      · go_simp
        obtain ⟨u1, h6, b4, bb, -⟩ := boxed u 2 #[.int .i64 1, .int .i64 2, .int .i64 2, .int .i64 3, .int .i64 3, .int .i64 4, .int .i64 4, .int .i64 5, .int .i64 6, .int .i64 6, .int .i64 6, .int .i64 7, .int .i64 8]
        rw [h6]
        clear h6
        obtain ⟨q4, hq4⟩ : ∃ q, u.heap.size = q := ⟨_, rfl⟩
        have hq4p : q4 ≠ p := by have := R.cur.lt; omega
        rw [hq4] at b4 ⊢
        clear hq4
        replace A1 := A1.below bb
        replace R := R.below bb
        clear bb
        clear hHeld
        refine hK'.out _ _ (trivial) (fun hHeld => ?_)
        clear hK' KK
        try simp only [List.setIfInBounds_toArray, List.set_cons_zero]
        refine wpAnyH_take (i := 3) (v := .pointer (some ⟨q4, i9, none⟩)) rfl (by kernel_rfl) (by kernel_rfl) (by kernel_rfl) (fun _ _ _ h => h) (Or.inl ⟨by kernel_rfl, ?_⟩) hHeld ?_
        · intro w' hSw; go_simp
        try simp only [Act.put, List.setIfInBounds_toArray, List.set_cons_zero, List.set_cons_succ, List.getElem_toArray, List.getElem_cons_succ, List.getElem_cons_zero]
        exact h_0_2_6 _ _ hHeld ⟨q4, i9, d1, rfl, A1, R, b4, hq4p, hi9, hi8, d10, d11⟩
      · go_simp
        refine (below_dr R.st 3 (by omega) (by omega)).mono ?_
        rintro e u1 ⟨d2, rfl, d20, d21, hd⟩
        replace A1 := A1.keptP hd.1 hqp
        replace R := R.draw hd
        clear hd
        have hw_d2 : IntKind.i64.wrap (1 + d2) = 1 + d2 := IntWalk.i64_in (1 + d2) (by omega)
        try go_wp2_with fail
        clear hHeld
        refine hK'.out _ _ (trivial) (fun hHeld => ?_)
        clear hK' KK
        try simp only [List.setIfInBounds_toArray, List.set_cons_zero, List.set_cons_succ]
        refine wpAnyH_take (i := 10) (v := .int .i64 ((1 + d2))) rfl (by kernel_rfl) (by kernel_rfl) (by kernel_rfl) (fun _ _ _ h => h) (Or.inl ⟨by kernel_rfl, ?_⟩) hHeld ?_
        · intro w' hSw; go_simp
        try simp only [Act.put, List.setIfInBounds_toArray, List.set_cons_zero, List.set_cons_succ, List.getElem_toArray, List.getElem_cons_succ, List.getElem_cons_zero]
        exact h_2_6_9 _ _ hHeld ⟨i9, d1, d2, rfl, A1, R, hi9, hi8, d10, d11, d20, d21⟩
      · go_simp
        obtain ⟨u1, h6, G3, bb, -⟩ := boxed u 29 #[.int .i64 0, .int .i64 0, .int .i64 0, .int .i64 0]
        rw [h6]
        clear h6
        obtain ⟨g3, hg3e⟩ : ∃ q, u.heap.size = q := ⟨_, rfl⟩
        have hg3p : g3 ≠ p := by have := R.cur.lt; omega
        have hgq : g3 ≠ q1 := by have := A1.lt; omega
        have hg3 : w.heap.size ≤ g3 := by have := R.kp.size; omega
        rw [hg3e] at G3 ⊢
        clear hg3e
        replace A1 := A1.below bb
        replace R := R.below bb
        clear bb
        clear hHeld
        refine hK'.out _ _ (trivial) (fun hHeld => ?_)
        clear hK' KK
        try simp only [List.setIfInBounds_toArray, List.set_cons_zero, List.set_cons_succ]
        exact h_2_6_15 _ _ hHeld ⟨i9, d1, g3, rfl, A1, R, hi9, hi8, d10, d11, G3, hg3p, hgq, hg3⟩
    intro h_2_6
    refine shareH (fun a' u => ∃ (i9 : Nat) (g3 : Nat), a' = { tmps := #[.pointer (some ⟨p, 0, none⟩), undef, .pointer (some ⟨q1, 0, none⟩), .pointer (some ⟨g3, 0, none⟩), undef, .pointer (some ⟨p, 0, none⟩), .int .i64 ((i9 : Int)), undef, undef, .pointer (some ⟨p, 0, none⟩), undef, undef, .pointer (some ⟨p, 0, none⟩), undef, undef, .pointer (some ⟨p, 0, none⟩), undef, undef, undef, undef, undef, undef, undef, undef, undef, undef, undef, undef, undef, undef, undef, undef, undef, undef, undef, undef, undef, undef, undef, undef, undef, undef, undef, undef, undef, undef, undef, undef, undef, undef, undef, undef, undef, undef, undef, undef, undef, undef, undef, undef], defers := [] } ∧ (At 29 u q1 #[.int .i64 0, .int .i64 0, .int .i64 0, .int .i64 0]) ∧ (Dz w u p a len cap) ∧ (i9 < 13) ∧ ((i9 : Int) < 13) ∧ (At 29 u g3 #[.int .i64 0, .int .i64 0, .int .i64 0, .int .i64 0]) ∧ (g3 ≠ p) ∧ (g3 ≠ q1) ∧ (w.heap.size ≤ g3)) 11 #[false, true, true, false, false, true, false, false, true, false, false, true, false, false, false, true, false] ?_ ?_
    · intro a' u hHeld hF
      obtain ⟨i9, g3, rfl, A1, R, hi9, hi8, G3, hg3p, hgq, hg3⟩ := hF
      refine wpAnyH_ready (rs := [0, 6]) (by kernel_rfl) (by simp) ?_
      refine AllReadyH.cons rfl (fun KK hK' => ?_) (AllReadyH.cons rfl (fun KK hK' => ?_) AllReadyH.nil)
      · go_simp
        obtain ⟨u1, h6, b4, bb, -⟩ := boxed u 2 #[.int .i64 1, .int .i64 2, .int .i64 2, .int .i64 3, .int .i64 3, .int .i64 4, .int .i64 4, .int .i64 5, .int .i64 6, .int .i64 6, .int .i64 6, .int .i64 7, .int .i64 8]
        rw [h6]
        clear h6
        obtain ⟨q4, hq4⟩ : ∃ q, u.heap.size = q := ⟨_, rfl⟩
        have hq4p : q4 ≠ p := by have := R.cur.lt; omega
        rw [hq4] at b4 ⊢
        clear hq4
        replace A1 := A1.below bb
        replace R := R.below bb
        replace G3 := G3.below bb
        clear bb
        clear hHeld
        refine hK'.out _ _ (trivial) (fun hHeld => ?_)
        clear hK' KK
        try simp only [List.setIfInBounds_toArray, List.set_cons_zero]
        refine wpAnyH_take (i := 3) (v := .pointer (some ⟨q4, i9, none⟩)) rfl (by kernel_rfl) (by kernel_rfl) (by kernel_rfl) (fun _ _ _ h => h) (Or.inl ⟨by kernel_rfl, ?_⟩) hHeld ?_
        · intro w' hSw; go_simp
        try simp only [Act.put, List.setIfInBounds_toArray, List.set_cons_zero, List.set_cons_succ, List.getElem_toArray, List.getElem_cons_succ, List.getElem_cons_zero]
        exact h_0_2_15 _ _ hHeld ⟨q4, i9, g3, rfl, A1, R, b4, hq4p, hi9, hi8, G3, hg3p, hgq, hg3⟩
      · go_simp
        refine (below_dr R.st 3 (by omega) (by omega)).mono ?_
        rintro e u1 ⟨d1, rfl, d10, d11, hd⟩
        replace A1 := A1.keptP hd.1 hqp
        replace G3 := G3.keptP hd.1 hg3p
        replace R := R.draw hd
        clear hd
        have hw_d1 : IntKind.i64.wrap (1 + d1) = 1 + d1 := IntWalk.i64_in (1 + d1) (by omega)
        try go_wp2_with fail
        clear hHeld
        refine hK'.out _ _ (trivial) (fun hHeld => ?_)
        clear hK' KK
        try simp only [List.setIfInBounds_toArray, List.set_cons_zero, List.set_cons_succ]
        refine wpAnyH_take (i := 7) (v := .int .i64 ((1 + d1))) rfl (by kernel_rfl) (by kernel_rfl) (by kernel_rfl) (fun _ _ _ h => h) (Or.inl ⟨by kernel_rfl, ?_⟩) hHeld ?_
        · intro w' hSw; go_simp
        try simp only [Act.put, List.setIfInBounds_toArray, List.set_cons_zero, List.set_cons_succ, List.getElem_toArray, List.getElem_cons_succ, List.getElem_cons_zero]
        exact h_2_6_15 _ _ hHeld ⟨i9, d1, g3, rfl, A1, R, hi9, hi8, d10, d11, G3, hg3p, hgq, hg3⟩
    intro h_2_15
    refine shareH (fun a' u => ∃ (q4 : Nat), a' = { tmps := #[.pointer (some ⟨p, 0, none⟩), undef, .pointer (some ⟨q1, 0, none⟩), undef, .slice ((some ⟨q4, 0, none⟩)) 13 13, .pointer (some ⟨p, 0, none⟩), undef, undef, undef, .pointer (some ⟨p, 0, none⟩), undef, undef, .pointer (some ⟨p, 0, none⟩), undef, undef, .pointer (some ⟨p, 0, none⟩), undef, undef, undef, undef, undef, undef, undef, undef, undef, undef, undef, undef, undef, undef, undef, undef, undef, undef, undef, undef, undef, undef, undef, undef, undef, undef, undef, undef, undef, undef, undef, undef, undef, undef, undef, undef, undef, undef, undef, undef, undef, undef, undef, undef], defers := [] } ∧ (At 29 u q1 #[.int .i64 0, .int .i64 0, .int .i64 0, .int .i64 0]) ∧ (Dz w u p a len cap) ∧ (At 2 u q4 #[.int .i64 1, .int .i64 2, .int .i64 2, .int .i64 3, .int .i64 3, .int .i64 4, .int .i64 4, .int .i64 5, .int .i64 6, .int .i64 6, .int .i64 6, .int .i64 7, .int .i64 8]) ∧ (q4 ≠ p)) 12 #[true, true, false, false, false, true, false, false, true, false, false, true, false, false, false, false, false] ?_ ?_
    · intro a' u hHeld hF
      obtain ⟨q4, rfl, A1, R, b4, hq4p⟩ := hF
      refine wpAnyH_ready (rs := [2, 15]) (by kernel_rfl) (by simp) ?_
      refine AllReadyH.cons rfl (fun KK hK' => ?_) (AllReadyH.cons rfl (fun KK hK' => ?_) AllReadyH.nil)
      · go_simp
        refine (below_dr R.st 13 (by omega) (by omega)).mono ?_
        rintro e u1 ⟨x9, rfl, x90, x91, hd⟩
        replace A1 := A1.keptP hd.1 hqp
        replace b4 := b4.keptP hd.1 hq4p
        replace R := R.draw hd
        clear hd
        obtain ⟨i9, rfl⟩ : ∃ i9 : Nat, x9 = (i9 : Int) := ⟨x9.toNat, by omega⟩
        have hi9 : i9 < 13 := by omega
        have hi8 : (i9 : Int) < 13 := by omega
        try go_wp2_with fail
        clear hHeld
        refine hK'.out _ _ (trivial) (fun hHeld => ?_)
        clear hK' KK
        try simp only [List.setIfInBounds_toArray, List.set_cons_zero, List.set_cons_succ]
        refine wpAnyH_take (i := 3) (v := .pointer (some ⟨q4, i9, none⟩)) rfl (by kernel_rfl) (by kernel_rfl) (by kernel_rfl) (fun _ _ _ h => h) (Or.inl ⟨by kernel_rfl, ?_⟩) hHeld ?_
        · intro w' hSw; go_simp
        try simp only [Act.put, List.setIfInBounds_toArray, List.set_cons_zero, List.set_cons_succ, List.getElem_toArray, List.getElem_cons_succ, List.getElem_cons_zero]
        exact h_0_2 _ _ hHeld ⟨q4, i9, rfl, A1, R, b4, hq4p, hi9, hi8⟩
      · go_simp
        obtain ⟨u1, h6, G3, bb, -⟩ := boxed u 29 #[.int .i64 0, .int .i64 0, .int .i64 0, .int .i64 0]
        rw [h6]
        clear h6
        obtain ⟨g3, hg3e⟩ : ∃ q, u.heap.size = q := ⟨_, rfl⟩
        have hg3p : g3 ≠ p := by have := R.cur.lt; omega
        have hgq : g3 ≠ q1 := by have := A1.lt; omega
        have hg3 : w.heap.size ≤ g3 := by have := R.kp.size; omega
        rw [hg3e] at G3 ⊢
        clear hg3e
        replace A1 := A1.below bb
        replace R := R.below bb
        replace b4 := b4.below bb
        clear bb
        clear hHeld
        refine hK'.out _ _ (trivial) (fun hHeld => ?_)
        clear hK' KK
        try simp only [List.setIfInBounds_toArray, List.set_cons_zero, List.set_cons_succ]
        exact h_0_15 _ _ hHeld ⟨q4, g3, rfl, A1, R, b4, hq4p, G3, hg3p, hgq, hg3⟩
    intro h_0
    refine shareH (fun a' u => ∃ (i9 : Nat), a' = { tmps := #[.pointer (some ⟨p, 0, none⟩), undef, .pointer (some ⟨q1, 0, none⟩), undef, undef, .pointer (some ⟨p, 0, none⟩), .int .i64 ((i9 : Int)), undef, undef, .pointer (some ⟨p, 0, none⟩), undef, undef, .pointer (some ⟨p, 0, none⟩), undef, undef, .pointer (some ⟨p, 0, none⟩), undef, undef, undef, undef, undef, undef, undef, undef, undef, undef, undef, undef, undef, undef, undef, undef, undef, undef, undef, undef, undef, undef, undef, undef, undef, undef, undef, undef, undef, undef, undef, undef, undef, undef, undef, undef, undef, undef, undef, undef, undef, undef, undef, undef], defers := [] } ∧ (At 29 u q1 #[.int .i64 0, .int .i64 0, .int .i64 0, .int .i64 0]) ∧ (Dz w u p a len cap) ∧ (i9 < 13) ∧ ((i9 : Int) < 13)) 12 #[false, true, true, false, false, true, false, false, true, false, false, true, false, false, false, false, false] ?_ ?_
    · intro a' u hHeld hF
      obtain ⟨i9, rfl, A1, R, hi9, hi8⟩ := hF
      refine wpAnyH_ready (rs := [0, 6, 15]) (by kernel_rfl) (by simp) ?_
      refine AllReadyH.cons rfl (fun KK hK' => ?_) (AllReadyH.cons rfl (fun KK hK' => ?_) (AllReadyH.cons rfl (fun KK hK' => ?_) AllReadyH.nil))
      · go_simp
        obtain ⟨u1, h6, b4, bb, -⟩ := boxed u 2 #[.int .i64 1, .int .i64 2, .int .i64 2, .int .i64 3, .int .i64 3, .int .i64 4, .int .i64 4, .int .i64 5, .int .i64 6, .int .i64 6, .int .i64 6, .int .i64 7, .int .i64 8]
        rw [h6]
        clear h6
        obtain ⟨q4, hq4⟩ : ∃ q, u.heap.size = q := ⟨_, rfl⟩
        have hq4p : q4 ≠ p := by have := R.cur.lt; omega
        rw [hq4] at b4 ⊢
        clear hq4
        replace A1 := A1.below bb
        replace R := R.below bb
        clear bb
        clear hHeld
        refine hK'.out _ _ (trivial) (fun hHeld => ?_)
        clear hK' KK
        try simp only [List.setIfInBounds_toArray, List.set_cons_zero]
        refine wpAnyH_take (i := 3) (v := .pointer (some ⟨q4, i9, none⟩)) rfl (by kernel_rfl) (by kernel_rfl) (by kernel_rfl) (fun _ _ _ h => h) (Or.inl ⟨by kernel_rfl, ?_⟩) hHeld ?_
        · intro w' hSw; go_simp
        try simp only [Act.put, List.setIfInBounds_toArray, List.set_cons_zero, List.set_cons_succ, List.getElem_toArray, List.getElem_cons_succ, List.getElem_cons_zero]
        exact h_0_2 _ _ hHeld ⟨q4, i9, rfl, A1, R, b4, hq4p, hi9, hi8⟩
      · go_simp
        refine (below_dr R.st 3 (by omega) (by omega)).mono ?_
        rintro e u1 ⟨d1, rfl, d10, d11, hd⟩
        replace A1 := A1.keptP hd.1 hqp
        replace R := R.draw hd
        clear hd
        have hw_d1 : IntKind.i64.wrap (1 + d1) = 1 + d1 := IntWalk.i64_in (1 + d1) (by omega)
        try go_wp2_with fail
        clear hHeld
        refine hK'.out _ _ (trivial) (fun hHeld => ?_)
        clear hK' KK
        try simp only [List.setIfInBounds_toArray, List.set_cons_zero, List.set_cons_succ]
        refine wpAnyH_take (i := 7) (v := .int .i64 ((1 + d1))) rfl (by kernel_rfl) (by kernel_rfl) (by kernel_rfl) (fun _ _ _ h => h) (Or.inl ⟨by kernel_rfl, ?_⟩) hHeld ?_
        · intro w' hSw; go_simp
        try simp only [Act.put, List.setIfInBounds_toArray, List.set_cons_zero, List.set_cons_succ, List.getElem_toArray, List.getElem_cons_succ, List.getElem_cons_zero]
        exact h_2_6 _ _ hHeld ⟨i9, d1, rfl, A1, R, hi9, hi8, d10, d11⟩
      · go_simp
        obtain ⟨u1, h6, G3, bb, -⟩ := boxed u 29 #[.int .i64 0, .int .i64 0, .int .i64 0, .int .i64 0]
        rw [h6]
        clear h6
        obtain ⟨g3, hg3e⟩ : ∃ q, u.heap.size = q := ⟨_, rfl⟩
        have hg3p : g3 ≠ p := by have := R.cur.lt; omega
        have hgq : g3 ≠ q1 := by have := A1.lt; omega
        have hg3 : w.heap.size ≤ g3 := by have := R.kp.size; omega
        rw [hg3e] at G3 ⊢
        clear hg3e
        replace A1 := A1.below bb
        replace R := R.below bb
        clear bb
        clear hHeld
        refine hK'.out _ _ (trivial) (fun hHeld => ?_)
        clear hK' KK
        try simp only [List.setIfInBounds_toArray, List.set_cons_zero, List.set_cons_succ]
        exact h_2_15 _ _ hHeld ⟨i9, g3, rfl, A1, R, hi9, hi8, G3, hg3p, hgq, hg3⟩
    intro h_2
    refine shareH (fun a' u => ∃ (g3 : Nat), a' = { tmps := #[.pointer (some ⟨p, 0, none⟩), undef, .pointer (some ⟨q1, 0, none⟩), .pointer (some ⟨g3, 0, none⟩), undef, .pointer (some ⟨p, 0, none⟩), undef, undef, undef, .pointer (some ⟨p, 0, none⟩), undef, undef, .pointer (some ⟨p, 0, none⟩), undef, undef, .pointer (some ⟨p, 0, none⟩), undef, undef, undef, undef, undef, undef, undef, undef, undef, undef, undef, undef, undef, undef, undef, undef, undef, undef, undef, undef, undef, undef, undef, undef, undef, undef, undef, undef, undef, undef, undef, undef, undef, undef, undef, undef, undef, undef, undef, undef, undef, undef, undef, undef], defers := [] } ∧ (At 29 u q1 #[.int .i64 0, .int .i64 0, .int .i64 0, .int .i64 0]) ∧ (Dz w u p a len cap) ∧ (At 29 u g3 #[.int .i64 0, .int .i64 0, .int .i64 0, .int .i64 0]) ∧ (g3 ≠ p) ∧ (g3 ≠ q1) ∧ (w.heap.size ≤ g3)) 12 #[false, true, false, false, false, true, false, false, true, false, false, true, false, false, false, true, false] ?_ ?_
    · intro a' u hHeld hF
      obtain ⟨g3, rfl, A1, R, G3, hg3p, hgq, hg3⟩ := hF
      refine wpAnyH_ready (rs := [0, 2]) (by kernel_rfl) (by simp) ?_
      refine AllReadyH.cons rfl (fun KK hK' => ?_) (AllReadyH.cons rfl (fun KK hK' => ?_) AllReadyH.nil)
      · go_simp
        obtain ⟨u1, h6, b4, bb, -⟩ := boxed u 2 #[.int .i64 1, .int .i64 2, .int .i64 2, .int .i64 3, .int .i64 3, .int .i64 4, .int .i64 4, .int .i64 5, .int .i64 6, .int .i64 6, .int .i64 6, .int .i64 7, .int .i64 8]
        rw [h6]
        clear h6
        obtain ⟨q4, hq4⟩ : ∃ q, u.heap.size = q := ⟨_, rfl⟩
        have hq4p : q4 ≠ p := by have := R.cur.lt; omega
        rw [hq4] at b4 ⊢
        clear hq4
        replace A1 := A1.below bb
        replace R := R.below bb
        replace G3 := G3.below bb
        clear bb
        clear hHeld
        refine hK'.out _ _ (trivial) (fun hHeld => ?_)
        clear hK' KK
        try simp only [List.setIfInBounds_toArray, List.set_cons_zero]
        exact h_0_15 _ _ hHeld ⟨q4, g3, rfl, A1, R, b4, hq4p, G3, hg3p, hgq, hg3⟩
      · go_simp
        refine (below_dr R.st 13 (by omega) (by omega)).mono ?_
        rintro e u1 ⟨x9, rfl, x90, x91, hd⟩
        replace A1 := A1.keptP hd.1 hqp
        replace G3 := G3.keptP hd.1 hg3p
        replace R := R.draw hd
        clear hd
        obtain ⟨i9, rfl⟩ : ∃ i9 : Nat, x9 = (i9 : Int) := ⟨x9.toNat, by omega⟩
        have hi9 : i9 < 13 := by omega
        have hi8 : (i9 : Int) < 13 := by omega
        try go_wp2_with fail
        clear hHeld
        refine hK'.out _ _ (trivial) (fun hHeld => ?_)
        clear hK' KK
        try simp only [List.setIfInBounds_toArray, List.set_cons_zero, List.set_cons_succ]
        exact h_2_15 _ _ hHeld ⟨i9, g3, rfl, A1, R, hi9, hi8, G3, hg3p, hgq, hg3⟩
    intro h_15
    refine wpAnyH_ready (rs := [0, 2, 15]) (by kernel_rfl) (by simp) ?_
    refine AllReadyH.cons rfl (fun KK hK' => ?_) (AllReadyH.cons rfl (fun KK hK' => ?_) (AllReadyH.cons rfl (fun KK hK' => ?_) AllReadyH.nil))
    · go_simp
      obtain ⟨u1, h6, b4, bb, -⟩ := boxed u 2 #[.int .i64 1, .int .i64 2, .int .i64 2, .int .i64 3, .int .i64 3, .int .i64 4, .int .i64 4, .int .i64 5, .int .i64 6, .int .i64 6, .int .i64 6, .int .i64 7, .int .i64 8]
      rw [h6]
      clear h6
      obtain ⟨q4, hq4⟩ : ∃ q, u.heap.size = q := ⟨_, rfl⟩
      have hq4p : q4 ≠ p := by have := R.cur.lt; omega
      rw [hq4] at b4 ⊢
      clear hq4
      replace A1 := A1.below bb
      replace R := R.below bb
      clear bb
      clear hHeld
      refine hK'.out _ _ (trivial) (fun hHeld => ?_)
      clear hK' KK
      try simp only [List.setIfInBounds_toArray, List.set_cons_zero]
      exact h_0 _ _ hHeld ⟨q4, rfl, A1, R, b4, hq4p⟩
    · go_simp
      refine (below_dr R.st 13 (by omega) (by omega)).mono ?_
      rintro e u1 ⟨x9, rfl, x90, x91, hd⟩
      replace A1 := A1.keptP hd.1 hqp
      replace R := R.draw hd
      clear hd
      obtain ⟨i9, rfl⟩ : ∃ i9 : Nat, x9 = (i9 : Int) := ⟨x9.toNat, by omega⟩
      have hi9 : i9 < 13 := by omega
      have hi8 : (i9 : Int) < 13 := by omega
      try go_wp2_with fail
      clear hHeld
      refine hK'.out _ _ (trivial) (fun hHeld => ?_)
      clear hK' KK
      try simp only [List.setIfInBounds_toArray, List.set_cons_zero, List.set_cons_succ]
      exact h_2 _ _ hHeld ⟨i9, rfl, A1, R, hi9, hi8⟩
    · go_simp
      obtain ⟨u1, h6, G3, bb, -⟩ := boxed u 29 #[.int .i64 0, .int .i64 0, .int .i64 0, .int .i64 0]
      rw [h6]
      clear h6
      obtain ⟨g3, hg3e⟩ : ∃ q, u.heap.size = q := ⟨_, rfl⟩
      have hg3p : g3 ≠ p := by have := R.cur.lt; omega
      have hgq : g3 ≠ q1 := by have := A1.lt; omega
      have hg3 : w.heap.size ≤ g3 := by have := R.kp.size; omega
      rw [hg3e] at G3 ⊢
      clear hg3e
      replace A1 := A1.below bb
      replace R := R.below bb
      clear bb
      clear hHeld
      refine hK'.out _ _ (trivial) (fun hHeld => ?_)
      clear hK' KK
      try simp only [List.setIfInBounds_toArray, List.set_cons_zero, List.set_cons_succ]
      exact h_15 _ _ hHeld ⟨g3, rfl, A1, R, G3, hg3p, hgq, hg3⟩
  case rest =>
    obtain ⟨g3, x0, x1, x2, x3, rfl, A3, hg3, hgq, hx3, A1, R⟩ := hcut
    rename World => w4
    have hg3p : g3 ≠ p := by omega
    have hqg : q1 ≠ g3 := Ne.symm hgq
    obtain ⟨c0, c1, c2, c3, -⟩ := Deed.box A3
    obtain ⟨f0, f1, f2, f3⟩ := Deed.boxF A3
    by_cases h1 : x0 = 1
    · subst h1
      replace R := R.setO (i := 3) (v := .int .i64 (10 * x3)) hg3
      replace A1 := A1.setOther hqg (i := 3) (.int .i64 (10 * x3))
      have a5 := A3.set 3 (.int .i64 (10 * x3))
      obtain ⟨w5, hw5⟩ : ∃ W, w4.setCell ⟨g3, 3, none⟩ (.int .i64 (10 * x3)) = W := ⟨_, rfl⟩
      rw [hw5] at R a5 A1
      simp only [List.setIfInBounds_toArray, List.set_cons_zero, List.set_cons_succ] at a5
      replace A3 := a5
      clear a5
      obtain ⟨c0, c1, c2, c3, -⟩ := Deed.box A3
      obtain ⟨f0, f1, f2, f3⟩ := Deed.boxF A3
      go_wp2_with fail
      refine (once_dr R.st 24 (by omega) (by omega)).mono ?_
      rintro e w6 ⟨b, rfl, hd⟩
      replace A3 := A3.keptP hd.1 hg3p
      replace A1 := A1.keptP hd.1 hqp
      replace R := R.draw hd
      clear hd
      obtain ⟨c0, c1, c2, c3, -⟩ := Deed.box A3
      obtain ⟨f0, f1, f2, f3⟩ := Deed.boxF A3
      cases b
      · skip
        obtain ⟨m0, m1, m2, m3⟩ := Deed.boxF A1
        obtain ⟨n0, n1, n2, n3, -⟩ := Deed.box A1
        go_wp2
        have a7 := Deed.putBox A1 (.int .i64 (1)) (.int .i64 (x1)) (.int .i64 (x2)) (.int .i64 (10 * x3))
        obtain ⟨p0, p1, p2, p3, -⟩ := Deed.box a7
        have R7 := (((R.setO (i := 0) (v := .int .i64 (1)) hq1w).setO (i := 1) (v := .int .i64 (x1)) hq1w).setO (i := 2) (v := .int .i64 (x2)) hq1w).setO (i := 3) (v := .int .i64 (10 * x3)) hq1w
        refine bodyPost_ret (v := deedV (1) (x1) (x2) (10 * x3)) (by simp [results, Try.results36, go_sem, p0, p1, p2, p3]) rfl ?_
        exact ⟨_, _, _, _, rfl, hdr.1.trans R7.kp, R7.cur⟩
      · skip
        go_wp2_with fail
        refine (below_dr R.st 4 (by omega) (by omega)).mono ?_
        rintro e w7 ⟨k, rfl, k0, k1, hd⟩
        replace A3 := A3.keptP hd.1 hg3p
        replace A1 := A1.keptP hd.1 hqp
        replace R := R.draw hd
        clear hd
        obtain ⟨c0, c1, c2, c3, -⟩ := Deed.box A3
        obtain ⟨f0, f1, f2, f3⟩ := Deed.boxF A3
        rcases (by omega : k = 0 ∨ k = 1 ∨ k = 2 ∨ k = 3) with rfl | rfl | rfl | rfl
        · skip
          go_wp2_with fail
          refine (from_dr R.st (-1) 10 (by omega) (by omega) (by omega) (by omega)).mono ?_
          rintro e w8 ⟨y, rfl, yy0, yy1, hd⟩
          replace A3 := A3.keptP hd.1 hg3p
          replace A1 := A1.keptP hd.1 hqp
          replace R := R.draw hd
          clear hd
          obtain ⟨c0, c1, c2, c3, -⟩ := Deed.box A3
          obtain ⟨f0, f1, f2, f3⟩ := Deed.boxF A3
          replace R := R.setO (i := 0) (v := .int .i64 (y)) hg3
          replace A1 := A1.setOther hqg (i := 0) (.int .i64 (y))
          have a5 := A3.set 0 (.int .i64 (y))
          obtain ⟨w9, hw9⟩ : ∃ W, w8.setCell ⟨g3, 0, none⟩ (.int .i64 (y)) = W := ⟨_, rfl⟩
          rw [hw9] at R a5 A1
          simp only [List.setIfInBounds_toArray, List.set_cons_zero] at a5
          replace A3 := a5
          clear a5
          obtain ⟨c0, c1, c2, c3, -⟩ := Deed.box A3
          obtain ⟨f0, f1, f2, f3⟩ := Deed.boxF A3
          obtain ⟨m0, m1, m2, m3⟩ := Deed.boxF A1
          obtain ⟨n0, n1, n2, n3, -⟩ := Deed.box A1
          go_wp2
          have a7 := Deed.putBox A1 (.int .i64 (y)) (.int .i64 (x1)) (.int .i64 (x2)) (.int .i64 (10 * x3))
          obtain ⟨p0, p1, p2, p3, -⟩ := Deed.box a7
          have R7 := (((R.setO (i := 0) (v := .int .i64 (y)) hq1w).setO (i := 1) (v := .int .i64 (x1)) hq1w).setO (i := 2) (v := .int .i64 (x2)) hq1w).setO (i := 3) (v := .int .i64 (10 * x3)) hq1w
          refine bodyPost_ret (v := deedV (y) (x1) (x2) (10 * x3)) (by simp [results, Try.results36, go_sem, p0, p1, p2, p3]) rfl ?_
          exact ⟨_, _, _, _, rfl, hdr.1.trans R7.kp, R7.cur⟩
        · skip
          have hb5 : ∀ w, (Instr.buildSlice 42 4 #[(0, .int .i64 0), (1, .int .i64 (-1)), (2, .int .i64 1000000), (3, .int .i64 1000001)]).run Try.prog w = .ok (.slice (some ⟨w.heap.size, 0, none⟩) 4 4) (w.alloc (.cells #[.int .i64 0, .int .i64 (-1), .int .i64 1000000, .int .i64 1000001] 2)) := fun _ => by kernel_rfl
          obtain ⟨V8, hV8, b4, bb4, -⟩ := boxed w7 2 #[.int .i64 0, .int .i64 (-1), .int .i64 1000000, .int .i64 1000001]
          have hp4 : p < w7.heap.size := R.cur.lt
          replace R := R.below bb4
          replace A3 := A3.below bb4
          replace A1 := A1.below bb4
          obtain ⟨q4, hq4⟩ : ∃ r, w7.heap.size = r := ⟨_, rfl⟩
          rw [hq4] at b4 hp4
          have hq4p : q4 ≠ p := by omega
          clear bb4
          go_wp2_with fail
          refine (below_dr R.st 4 (by omega) (by omega)).mono ?_
          rintro e w8 ⟨x9, rfl, x90, x91, hd⟩
          replace A3 := A3.keptP hd.1 hg3p
          replace A1 := A1.keptP hd.1 hqp
          replace b4 := b4.keptP hd.1 hq4p
          replace R := R.draw hd
          clear hd
          obtain ⟨c0, c1, c2, c3, -⟩ := Deed.box A3
          obtain ⟨f0, f1, f2, f3⟩ := Deed.boxF A3
          obtain ⟨i9, rfl⟩ : ∃ i9 : Nat, x9 = (i9 : Int) := ⟨x9.toNat, by omega⟩
          have c9 := lit_at (l := [0, -1, 1000000, 1000001]) b4 (i := i9) (by simp; omega)
          obtain ⟨y9, hy9⟩ : ∃ y, ([0, -1, 1000000, 1000001] : List Int).getD i9 0 = y := ⟨_, rfl⟩
          rw [hy9] at c9
          clear hy9
          replace R := R.setO (i := 1) (v := .int .i64 (y9)) hg3
          replace A1 := A1.setOther hqg (i := 1) (.int .i64 (y9))
          have a5 := A3.set 1 (.int .i64 (y9))
          obtain ⟨w9, hw9⟩ : ∃ W, w8.setCell ⟨g3, 1, none⟩ (.int .i64 (y9)) = W := ⟨_, rfl⟩
          rw [hw9] at R a5 A1
          simp only [List.setIfInBounds_toArray, List.set_cons_zero, List.set_cons_succ] at a5
          replace A3 := a5
          clear a5
          obtain ⟨c0, c1, c2, c3, -⟩ := Deed.box A3
          obtain ⟨f0, f1, f2, f3⟩ := Deed.boxF A3
          obtain ⟨m0, m1, m2, m3⟩ := Deed.boxF A1
          obtain ⟨n0, n1, n2, n3, -⟩ := Deed.box A1
          go_wp2
          have a7 := Deed.putBox A1 (.int .i64 (1)) (.int .i64 (y9)) (.int .i64 (x2)) (.int .i64 (10 * x3))
          obtain ⟨p0, p1, p2, p3, -⟩ := Deed.box a7
          have R7 := (((R.setO (i := 0) (v := .int .i64 (1)) hq1w).setO (i := 1) (v := .int .i64 (y9)) hq1w).setO (i := 2) (v := .int .i64 (x2)) hq1w).setO (i := 3) (v := .int .i64 (10 * x3)) hq1w
          refine bodyPost_ret (v := deedV (1) (y9) (x2) (10 * x3)) (by simp [results, Try.results36, go_sem, p0, p1, p2, p3]) rfl ?_
          exact ⟨_, _, _, _, rfl, hdr.1.trans R7.kp, R7.cur⟩
        · skip
          have hb5 : ∀ w, (Instr.buildSlice 42 3 #[(0, .int .i64 0), (1, .int .i64 1000000), (2, .int .i64 1000001)]).run Try.prog w = .ok (.slice (some ⟨w.heap.size, 0, none⟩) 3 3) (w.alloc (.cells #[.int .i64 0, .int .i64 1000000, .int .i64 1000001] 2)) := fun _ => by kernel_rfl
          obtain ⟨V8, hV8, b4, bb4, -⟩ := boxed w7 2 #[.int .i64 0, .int .i64 1000000, .int .i64 1000001]
          have hp4 : p < w7.heap.size := R.cur.lt
          replace R := R.below bb4
          replace A3 := A3.below bb4
          replace A1 := A1.below bb4
          obtain ⟨q4, hq4⟩ : ∃ r, w7.heap.size = r := ⟨_, rfl⟩
          rw [hq4] at b4 hp4
          have hq4p : q4 ≠ p := by omega
          clear bb4
          go_wp2_with fail
          refine (below_dr R.st 3 (by omega) (by omega)).mono ?_
          rintro e w8 ⟨x9, rfl, x90, x91, hd⟩
          replace A3 := A3.keptP hd.1 hg3p
          replace A1 := A1.keptP hd.1 hqp
          replace b4 := b4.keptP hd.1 hq4p
          replace R := R.draw hd
          clear hd
          obtain ⟨c0, c1, c2, c3, -⟩ := Deed.box A3
          obtain ⟨f0, f1, f2, f3⟩ := Deed.boxF A3
          obtain ⟨i9, rfl⟩ : ∃ i9 : Nat, x9 = (i9 : Int) := ⟨x9.toNat, by omega⟩
          have c9 := lit_at (l := [0, 1000000, 1000001]) b4 (i := i9) (by simp; omega)
          obtain ⟨y9, hy9⟩ : ∃ y, ([0, 1000000, 1000001] : List Int).getD i9 0 = y := ⟨_, rfl⟩
          rw [hy9] at c9
          clear hy9
          replace R := R.setO (i := 2) (v := .int .i64 (y9)) hg3
          replace A1 := A1.setOther hqg (i := 2) (.int .i64 (y9))
          have a5 := A3.set 2 (.int .i64 (y9))
          obtain ⟨w9, hw9⟩ : ∃ W, w8.setCell ⟨g3, 2, none⟩ (.int .i64 (y9)) = W := ⟨_, rfl⟩
          rw [hw9] at R a5 A1
          simp only [List.setIfInBounds_toArray, List.set_cons_zero, List.set_cons_succ] at a5
          replace A3 := a5
          clear a5
          obtain ⟨c0, c1, c2, c3, -⟩ := Deed.box A3
          obtain ⟨f0, f1, f2, f3⟩ := Deed.boxF A3
          obtain ⟨m0, m1, m2, m3⟩ := Deed.boxF A1
          obtain ⟨n0, n1, n2, n3, -⟩ := Deed.box A1
          go_wp2
          have a7 := Deed.putBox A1 (.int .i64 (1)) (.int .i64 (x1)) (.int .i64 (y9)) (.int .i64 (10 * x3))
          obtain ⟨p0, p1, p2, p3, -⟩ := Deed.box a7
          have R7 := (((R.setO (i := 0) (v := .int .i64 (1)) hq1w).setO (i := 1) (v := .int .i64 (x1)) hq1w).setO (i := 2) (v := .int .i64 (y9)) hq1w).setO (i := 3) (v := .int .i64 (10 * x3)) hq1w
          refine bodyPost_ret (v := deedV (1) (x1) (y9) (10 * x3)) (by simp [results, Try.results36, go_sem, p0, p1, p2, p3]) rfl ?_
          exact ⟨_, _, _, _, rfl, hdr.1.trans R7.kp, R7.cur⟩
        · skip
          have hb5 : ∀ w, (Instr.buildSlice 42 4 #[(0, .int .i64 0), (1, .int .i64 (-1)), (2, .int .i64 1000), (3, .int .i64 1001)]).run Try.prog w = .ok (.slice (some ⟨w.heap.size, 0, none⟩) 4 4) (w.alloc (.cells #[.int .i64 0, .int .i64 (-1), .int .i64 1000, .int .i64 1001] 2)) := fun _ => by kernel_rfl
          obtain ⟨V8, hV8, b4, bb4, -⟩ := boxed w7 2 #[.int .i64 0, .int .i64 (-1), .int .i64 1000, .int .i64 1001]
          have hp4 : p < w7.heap.size := R.cur.lt
          replace R := R.below bb4
          replace A3 := A3.below bb4
          replace A1 := A1.below bb4
          obtain ⟨q4, hq4⟩ : ∃ r, w7.heap.size = r := ⟨_, rfl⟩
          rw [hq4] at b4 hp4
          have hq4p : q4 ≠ p := by omega
          clear bb4
          go_wp2_with fail
          refine (below_dr R.st 4 (by omega) (by omega)).mono ?_
          rintro e w8 ⟨x9, rfl, x90, x91, hd⟩
          replace A3 := A3.keptP hd.1 hg3p
          replace A1 := A1.keptP hd.1 hqp
          replace b4 := b4.keptP hd.1 hq4p
          replace R := R.draw hd
          clear hd
          obtain ⟨c0, c1, c2, c3, -⟩ := Deed.box A3
          obtain ⟨f0, f1, f2, f3⟩ := Deed.boxF A3
          obtain ⟨i9, rfl⟩ : ∃ i9 : Nat, x9 = (i9 : Int) := ⟨x9.toNat, by omega⟩
          have c9 := lit_at (l := [0, -1, 1000, 1001]) b4 (i := i9) (by simp; omega)
          obtain ⟨y9, hy9⟩ : ∃ y, ([0, -1, 1000, 1001] : List Int).getD i9 0 = y := ⟨_, rfl⟩
          rw [hy9] at c9
          clear hy9
          replace R := R.setO (i := 3) (v := .int .i64 (y9)) hg3
          replace A1 := A1.setOther hqg (i := 3) (.int .i64 (y9))
          have a5 := A3.set 3 (.int .i64 (y9))
          obtain ⟨w9, hw9⟩ : ∃ W, w8.setCell ⟨g3, 3, none⟩ (.int .i64 (y9)) = W := ⟨_, rfl⟩
          rw [hw9] at R a5 A1
          simp only [List.setIfInBounds_toArray, List.set_cons_zero, List.set_cons_succ] at a5
          replace A3 := a5
          clear a5
          obtain ⟨c0, c1, c2, c3, -⟩ := Deed.box A3
          obtain ⟨f0, f1, f2, f3⟩ := Deed.boxF A3
          obtain ⟨m0, m1, m2, m3⟩ := Deed.boxF A1
          obtain ⟨n0, n1, n2, n3, -⟩ := Deed.box A1
          go_wp2
          have a7 := Deed.putBox A1 (.int .i64 (1)) (.int .i64 (x1)) (.int .i64 (x2)) (.int .i64 (y9))
          obtain ⟨p0, p1, p2, p3, -⟩ := Deed.box a7
          have R7 := (((R.setO (i := 0) (v := .int .i64 (1)) hq1w).setO (i := 1) (v := .int .i64 (x1)) hq1w).setO (i := 2) (v := .int .i64 (x2)) hq1w).setO (i := 3) (v := .int .i64 (y9)) hq1w
          refine bodyPost_ret (v := deedV (1) (x1) (x2) (y9)) (by simp [results, Try.results36, go_sem, p0, p1, p2, p3]) rfl ?_
          exact ⟨_, _, _, _, rfl, hdr.1.trans R7.kp, R7.cur⟩
    · have h1' : (x0 == 1) = false := by simp; omega
      go_wp2_with fail
      refine (once_dr R.st 24 (by omega) (by omega)).mono ?_
      rintro e w6 ⟨b, rfl, hd⟩
      replace A3 := A3.keptP hd.1 hg3p
      replace A1 := A1.keptP hd.1 hqp
      replace R := R.draw hd
      clear hd
      obtain ⟨c0, c1, c2, c3, -⟩ := Deed.box A3
      obtain ⟨f0, f1, f2, f3⟩ := Deed.boxF A3
      cases b
      · skip
        obtain ⟨m0, m1, m2, m3⟩ := Deed.boxF A1
        obtain ⟨n0, n1, n2, n3, -⟩ := Deed.box A1
        go_wp2
        have a7 := Deed.putBox A1 (.int .i64 (x0)) (.int .i64 (x1)) (.int .i64 (x2)) (.int .i64 (x3))
        obtain ⟨p0, p1, p2, p3, -⟩ := Deed.box a7
        have R7 := (((R.setO (i := 0) (v := .int .i64 (x0)) hq1w).setO (i := 1) (v := .int .i64 (x1)) hq1w).setO (i := 2) (v := .int .i64 (x2)) hq1w).setO (i := 3) (v := .int .i64 (x3)) hq1w
        refine bodyPost_ret (v := deedV (x0) (x1) (x2) (x3)) (by simp [results, Try.results36, go_sem, p0, p1, p2, p3]) rfl ?_
        exact ⟨_, _, _, _, rfl, hdr.1.trans R7.kp, R7.cur⟩
      · skip
        go_wp2_with fail
        refine (below_dr R.st 4 (by omega) (by omega)).mono ?_
        rintro e w7 ⟨k, rfl, k0, k1, hd⟩
        replace A3 := A3.keptP hd.1 hg3p
        replace A1 := A1.keptP hd.1 hqp
        replace R := R.draw hd
        clear hd
        obtain ⟨c0, c1, c2, c3, -⟩ := Deed.box A3
        obtain ⟨f0, f1, f2, f3⟩ := Deed.boxF A3
        rcases (by omega : k = 0 ∨ k = 1 ∨ k = 2 ∨ k = 3) with rfl | rfl | rfl | rfl
        · skip
          go_wp2_with fail
          refine (from_dr R.st (-1) 10 (by omega) (by omega) (by omega) (by omega)).mono ?_
          rintro e w8 ⟨y, rfl, yy0, yy1, hd⟩
          replace A3 := A3.keptP hd.1 hg3p
          replace A1 := A1.keptP hd.1 hqp
          replace R := R.draw hd
          clear hd
          obtain ⟨c0, c1, c2, c3, -⟩ := Deed.box A3
          obtain ⟨f0, f1, f2, f3⟩ := Deed.boxF A3
          replace R := R.setO (i := 0) (v := .int .i64 (y)) hg3
          replace A1 := A1.setOther hqg (i := 0) (.int .i64 (y))
          have a5 := A3.set 0 (.int .i64 (y))
          obtain ⟨w9, hw9⟩ : ∃ W, w8.setCell ⟨g3, 0, none⟩ (.int .i64 (y)) = W := ⟨_, rfl⟩
          rw [hw9] at R a5 A1
          simp only [List.setIfInBounds_toArray, List.set_cons_zero] at a5
          replace A3 := a5
          clear a5
          obtain ⟨c0, c1, c2, c3, -⟩ := Deed.box A3
          obtain ⟨f0, f1, f2, f3⟩ := Deed.boxF A3
          obtain ⟨m0, m1, m2, m3⟩ := Deed.boxF A1
          obtain ⟨n0, n1, n2, n3, -⟩ := Deed.box A1
          go_wp2
          have a7 := Deed.putBox A1 (.int .i64 (y)) (.int .i64 (x1)) (.int .i64 (x2)) (.int .i64 (x3))
          obtain ⟨p0, p1, p2, p3, -⟩ := Deed.box a7
          have R7 := (((R.setO (i := 0) (v := .int .i64 (y)) hq1w).setO (i := 1) (v := .int .i64 (x1)) hq1w).setO (i := 2) (v := .int .i64 (x2)) hq1w).setO (i := 3) (v := .int .i64 (x3)) hq1w
          refine bodyPost_ret (v := deedV (y) (x1) (x2) (x3)) (by simp [results, Try.results36, go_sem, p0, p1, p2, p3]) rfl ?_
          exact ⟨_, _, _, _, rfl, hdr.1.trans R7.kp, R7.cur⟩
        · skip
          have hb5 : ∀ w, (Instr.buildSlice 42 4 #[(0, .int .i64 0), (1, .int .i64 (-1)), (2, .int .i64 1000000), (3, .int .i64 1000001)]).run Try.prog w = .ok (.slice (some ⟨w.heap.size, 0, none⟩) 4 4) (w.alloc (.cells #[.int .i64 0, .int .i64 (-1), .int .i64 1000000, .int .i64 1000001] 2)) := fun _ => by kernel_rfl
          obtain ⟨V8, hV8, b4, bb4, -⟩ := boxed w7 2 #[.int .i64 0, .int .i64 (-1), .int .i64 1000000, .int .i64 1000001]
          have hp4 : p < w7.heap.size := R.cur.lt
          replace R := R.below bb4
          replace A3 := A3.below bb4
          replace A1 := A1.below bb4
          obtain ⟨q4, hq4⟩ : ∃ r, w7.heap.size = r := ⟨_, rfl⟩
          rw [hq4] at b4 hp4
          have hq4p : q4 ≠ p := by omega
          clear bb4
          go_wp2_with fail
          refine (below_dr R.st 4 (by omega) (by omega)).mono ?_
          rintro e w8 ⟨x9, rfl, x90, x91, hd⟩
          replace A3 := A3.keptP hd.1 hg3p
          replace A1 := A1.keptP hd.1 hqp
          replace b4 := b4.keptP hd.1 hq4p
          replace R := R.draw hd
          clear hd
          obtain ⟨c0, c1, c2, c3, -⟩ := Deed.box A3
          obtain ⟨f0, f1, f2, f3⟩ := Deed.boxF A3
          obtain ⟨i9, rfl⟩ : ∃ i9 : Nat, x9 = (i9 : Int) := ⟨x9.toNat, by omega⟩
          have c9 := lit_at (l := [0, -1, 1000000, 1000001]) b4 (i := i9) (by simp; omega)
          obtain ⟨y9, hy9⟩ : ∃ y, ([0, -1, 1000000, 1000001] : List Int).getD i9 0 = y := ⟨_, rfl⟩
          rw [hy9] at c9
          clear hy9
          replace R := R.setO (i := 1) (v := .int .i64 (y9)) hg3
          replace A1 := A1.setOther hqg (i := 1) (.int .i64 (y9))
          have a5 := A3.set 1 (.int .i64 (y9))
          obtain ⟨w9, hw9⟩ : ∃ W, w8.setCell ⟨g3, 1, none⟩ (.int .i64 (y9)) = W := ⟨_, rfl⟩
          rw [hw9] at R a5 A1
          simp only [List.setIfInBounds_toArray, List.set_cons_zero, List.set_cons_succ] at a5
          replace A3 := a5
          clear a5
          obtain ⟨c0, c1, c2, c3, -⟩ := Deed.box A3
          obtain ⟨f0, f1, f2, f3⟩ := Deed.boxF A3
          obtain ⟨m0, m1, m2, m3⟩ := Deed.boxF A1
          obtain ⟨n0, n1, n2, n3, -⟩ := Deed.box A1
          go_wp2
          have a7 := Deed.putBox A1 (.int .i64 (x0)) (.int .i64 (y9)) (.int .i64 (x2)) (.int .i64 (x3))
          obtain ⟨p0, p1, p2, p3, -⟩ := Deed.box a7
          have R7 := (((R.setO (i := 0) (v := .int .i64 (x0)) hq1w).setO (i := 1) (v := .int .i64 (y9)) hq1w).setO (i := 2) (v := .int .i64 (x2)) hq1w).setO (i := 3) (v := .int .i64 (x3)) hq1w
          refine bodyPost_ret (v := deedV (x0) (y9) (x2) (x3)) (by simp [results, Try.results36, go_sem, p0, p1, p2, p3]) rfl ?_
          exact ⟨_, _, _, _, rfl, hdr.1.trans R7.kp, R7.cur⟩
        · skip
          have hb5 : ∀ w, (Instr.buildSlice 42 3 #[(0, .int .i64 0), (1, .int .i64 1000000), (2, .int .i64 1000001)]).run Try.prog w = .ok (.slice (some ⟨w.heap.size, 0, none⟩) 3 3) (w.alloc (.cells #[.int .i64 0, .int .i64 1000000, .int .i64 1000001] 2)) := fun _ => by kernel_rfl
          obtain ⟨V8, hV8, b4, bb4, -⟩ := boxed w7 2 #[.int .i64 0, .int .i64 1000000, .int .i64 1000001]
          have hp4 : p < w7.heap.size := R.cur.lt
          replace R := R.below bb4
          replace A3 := A3.below bb4
          replace A1 := A1.below bb4
          obtain ⟨q4, hq4⟩ : ∃ r, w7.heap.size = r := ⟨_, rfl⟩
          rw [hq4] at b4 hp4
          have hq4p : q4 ≠ p := by omega
          clear bb4
          go_wp2_with fail
          refine (below_dr R.st 3 (by omega) (by omega)).mono ?_
          rintro e w8 ⟨x9, rfl, x90, x91, hd⟩
          replace A3 := A3.keptP hd.1 hg3p
          replace A1 := A1.keptP hd.1 hqp
          replace b4 := b4.keptP hd.1 hq4p
          replace R := R.draw hd
          clear hd
          obtain ⟨c0, c1, c2, c3, -⟩ := Deed.box A3
          obtain ⟨f0, f1, f2, f3⟩ := Deed.boxF A3
          obtain ⟨i9, rfl⟩ : ∃ i9 : Nat, x9 = (i9 : Int) := ⟨x9.toNat, by omega⟩
          have c9 := lit_at (l := [0, 1000000, 1000001]) b4 (i := i9) (by simp; omega)
          obtain ⟨y9, hy9⟩ : ∃ y, ([0, 1000000, 1000001] : List Int).getD i9 0 = y := ⟨_, rfl⟩
          rw [hy9] at c9
          clear hy9
          replace R := R.setO (i := 2) (v := .int .i64 (y9)) hg3
          replace A1 := A1.setOther hqg (i := 2) (.int .i64 (y9))
          have a5 := A3.set 2 (.int .i64 (y9))
          obtain ⟨w9, hw9⟩ : ∃ W, w8.setCell ⟨g3, 2, none⟩ (.int .i64 (y9)) = W := ⟨_, rfl⟩
          rw [hw9] at R a5 A1
          simp only [List.setIfInBounds_toArray, List.set_cons_zero, List.set_cons_succ] at a5
          replace A3 := a5
          clear a5
          obtain ⟨c0, c1, c2, c3, -⟩ := Deed.box A3
          obtain ⟨f0, f1, f2, f3⟩ := Deed.boxF A3
          obtain ⟨m0, m1, m2, m3⟩ := Deed.boxF A1
          obtain ⟨n0, n1, n2, n3, -⟩ := Deed.box A1
          go_wp2
          have a7 := Deed.putBox A1 (.int .i64 (x0)) (.int .i64 (x1)) (.int .i64 (y9)) (.int .i64 (x3))
          obtain ⟨p0, p1, p2, p3, -⟩ := Deed.box a7
          have R7 := (((R.setO (i := 0) (v := .int .i64 (x0)) hq1w).setO (i := 1) (v := .int .i64 (x1)) hq1w).setO (i := 2) (v := .int .i64 (y9)) hq1w).setO (i := 3) (v := .int .i64 (x3)) hq1w
          refine bodyPost_ret (v := deedV (x0) (x1) (y9) (x3)) (by simp [results, Try.results36, go_sem, p0, p1, p2, p3]) rfl ?_
          exact ⟨_, _, _, _, rfl, hdr.1.trans R7.kp, R7.cur⟩
        · skip
          have hb5 : ∀ w, (Instr.buildSlice 42 4 #[(0, .int .i64 0), (1, .int .i64 (-1)), (2, .int .i64 1000), (3, .int .i64 1001)]).run Try.prog w = .ok (.slice (some ⟨w.heap.size, 0, none⟩) 4 4) (w.alloc (.cells #[.int .i64 0, .int .i64 (-1), .int .i64 1000, .int .i64 1001] 2)) := fun _ => by kernel_rfl
          obtain ⟨V8, hV8, b4, bb4, -⟩ := boxed w7 2 #[.int .i64 0, .int .i64 (-1), .int .i64 1000, .int .i64 1001]
          have hp4 : p < w7.heap.size := R.cur.lt
          replace R := R.below bb4
          replace A3 := A3.below bb4
          replace A1 := A1.below bb4
          obtain ⟨q4, hq4⟩ : ∃ r, w7.heap.size = r := ⟨_, rfl⟩
          rw [hq4] at b4 hp4
          have hq4p : q4 ≠ p := by omega
          clear bb4
          go_wp2_with fail
          refine (below_dr R.st 4 (by omega) (by omega)).mono ?_
          rintro e w8 ⟨x9, rfl, x90, x91, hd⟩
          replace A3 := A3.keptP hd.1 hg3p
          replace A1 := A1.keptP hd.1 hqp
          replace b4 := b4.keptP hd.1 hq4p
          replace R := R.draw hd
          clear hd
          obtain ⟨c0, c1, c2, c3, -⟩ := Deed.box A3
          obtain ⟨f0, f1, f2, f3⟩ := Deed.boxF A3
          obtain ⟨i9, rfl⟩ : ∃ i9 : Nat, x9 = (i9 : Int) := ⟨x9.toNat, by omega⟩
          have c9 := lit_at (l := [0, -1, 1000, 1001]) b4 (i := i9) (by simp; omega)
          obtain ⟨y9, hy9⟩ : ∃ y, ([0, -1, 1000, 1001] : List Int).getD i9 0 = y := ⟨_, rfl⟩
          rw [hy9] at c9
          clear hy9
          replace R := R.setO (i := 3) (v := .int .i64 (y9)) hg3
          replace A1 := A1.setOther hqg (i := 3) (.int .i64 (y9))
          have a5 := A3.set 3 (.int .i64 (y9))
          obtain ⟨w9, hw9⟩ : ∃ W, w8.setCell ⟨g3, 3, none⟩ (.int .i64 (y9)) = W := ⟨_, rfl⟩
          rw [hw9] at R a5 A1
          simp only [List.setIfInBounds_toArray, List.set_cons_zero, List.set_cons_succ] at a5
          replace A3 := a5
          clear a5
          obtain ⟨c0, c1, c2, c3, -⟩ := Deed.box A3
          obtain ⟨f0, f1, f2, f3⟩ := Deed.boxF A3
          obtain ⟨m0, m1, m2, m3⟩ := Deed.boxF A1
          obtain ⟨n0, n1, n2, n3, -⟩ := Deed.box A1
          go_wp2
          have a7 := Deed.putBox A1 (.int .i64 (x0)) (.int .i64 (x1)) (.int .i64 (x2)) (.int .i64 (y9))
          obtain ⟨p0, p1, p2, p3, -⟩ := Deed.box a7
          have R7 := (((R.setO (i := 0) (v := .int .i64 (x0)) hq1w).setO (i := 1) (v := .int .i64 (x1)) hq1w).setO (i := 2) (v := .int .i64 (x2)) hq1w).setO (i := 3) (v := .int .i64 (y9)) hq1w
          refine bodyPost_ret (v := deedV (x0) (x1) (x2) (y9)) (by simp [results, Try.results36, go_sem, p0, p1, p2, p3]) rfl ?_
          exact ⟨_, _, _, _, rfl, hdr.1.trans R7.kp, R7.cur⟩
end Go.Proofs.Ytnjnffemidaopaa
