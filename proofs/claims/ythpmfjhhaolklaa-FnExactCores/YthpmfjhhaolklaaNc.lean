/-
  The law on which nets are right, walked.
-/
import Derived.Test.YthpmfjhhaolklaaNb
namespace Go.Proofs.Ythpmfjhhaolklaa
open Go.RowKit

/-- What a region reads of two boxes of nets. -/
def Two4 (q1 q2 : Nat) (W H : Int) (a b c d : Value) (w : World) : Prop := (w.cell? ⟨q1, 0, none⟩ = some (.int .i64 W) ∧ w.cell? ⟨q1, 1, none⟩ = some (.int .i64 H) ∧ w.cell? ⟨q1, 2, none⟩ = some a ∧ w.cell? ⟨q1, 3, none⟩ = some b) ∧ w.cell? ⟨q2, 0, none⟩ = some (.int .i64 W) ∧ w.cell? ⟨q2, 1, none⟩ = some (.int .i64 H) ∧ w.cell? ⟨q2, 2, none⟩ = some c ∧ w.cell? ⟨q2, 3, none⟩ = some d
theorem two4_mk {s t : TypeId} {w : World} {q1 q2 : Nat} {W H : Int} {a b c d : Value} (h1 : At s w q1 #[.int .i64 W, .int .i64 H, a, b]) (h2 : At t w q2 #[.int .i64 W, .int .i64 H, c, d]) : Two4 q1 q2 W H a b c d w := ⟨⟨h1.cell 0 rfl, h1.cell 1 rfl, h1.cell 2 rfl, h1.cell 3 rfl⟩, h2.cell 0 rfl, h2.cell 1 rfl, h2.cell 2 rfl, h2.cell 3 rfl⟩
theorem exactNetOk_walk {w : World} {a a' : Option Addr} {lr lu cr cu : Nat} {r u : Nat → Int} (W H : Int) (hr : Src w a lr r) (hu : Src w a' lu u) (hlr : lr ≤ maxLen) (hlu : lu ≤ maxLen) :
    Calls Try.prog 3 #[nV W H (.slice a lr cr) (.slice a' lu cu)] w fun e w' => e = .returned (.bool true) ∧ Below w.heap.size w w' := by
  go_enter Try.func3, Try.ntmps3
  go_wp2_with fail
  obtain ⟨V, hV, b0, bW, -⟩ := boxed w 24 #[.int .i64 W, .int .i64 H, .slice a lr cr, .slice a' lu cu]
  rw [hV]
  refine (szNet_any W H a a' lr lu cr cu V hlr hlu).mono ?_
  rintro e w1 ⟨z, rfl, hz, b1⟩
  replace b0 := b0.below b1
  replace bW := bW.trans (b1.mono bW.size)
  clear b1 hV
  rcases hz with rfl | ⟨hz1, hz⟩
  · go_wp2
    go_ret
    exact ⟨rfl, bW⟩
  · obtain ⟨c0, c1, c2, c3, -⟩ := b0.open4
    have hz' : ¬ z < 0 := by omega
    have h1 : lr ≤ 1048576 := by omega
    have h2 : lu ≤ 1048576 := by omega
    clear hz1
    go_wp2_with fail
    refine (toNet_any W H (hr.below bW) (hu.below bW) h1 h2).mono ?_
    rintro e w2 ⟨m, rfl, M, b2⟩
    replace b0 := b0.below b2
    replace bW := bW.trans (b2.mono bW.size)
    clear b2 c0 c1 c2 c3
    obtain ⟨v, v', rfl, A, A', -⟩ := M
    obtain ⟨x, c, rfl, s1⟩ := A.src
    obtain ⟨x', c', rfl, s1'⟩ := A'.src
    go_wp2_with fail
    refine (specNetOk_any W H s1 s1' h1 h2).mono ?_
    rintro e w3 ⟨rfl, b3⟩
    replace b0 := b0.below b3
    replace bW := bW.trans (b3.mono bW.size)
    clear b3 s1 s1' A A'
    obtain ⟨D, hD⟩ : ∃ D, netOk W H lr r lu u = D := ⟨_, rfl⟩
    have hDD : (D != D) = false := bne_self_eq_false D
    rw [hD]
    obtain ⟨c0, c1, c2, c3, -⟩ := b0.open4
    go_wp2_with fail
    refine (toNet_any W H (hr.below bW) (hu.below bW) h1 h2).mono ?_
    rintro e w4 ⟨m, rfl, M, b4⟩
    replace b0 := b0.below b4
    replace bW := bW.trans (b4.mono bW.size)
    clear b4 c0 c1 c2 c3
    obtain ⟨v, v', rfl, A, A', hAp⟩ := M
    obtain ⟨x, c, rfl, s1⟩ := A.src
    obtain ⟨x', c', rfl, s1'⟩ := A'.src
    obtain ⟨c0, c1, c2, c3, -⟩ := b0.open4
    go_wp2_with fail
    obtain ⟨V4, hV4, x0, bV4, -⟩ := boxed w4 27 #[.int .i64 W, .int .i64 H, .slice x lr c, .slice x' lu c']
    rw [hV4]
    have M2 : NetAt V4 _ _ (nV W H (.slice x lr c) (.slice x' lu c')) W H lr r lu u := ⟨_, _, rfl, A.below bV4, A'.below bV4, hAp⟩
    replace b0 := b0.below bV4
    replace bW := bW.trans (bV4.mono bW.size)
    clear hV4 c0 c1 c2 c3 A A'
    refine (implNetOk_any W H (s1.below bV4) (s1'.below bV4) h1 h2).mono ?_
    rintro e w5 ⟨rfl, b5⟩
    rw [hD]
    replace b0 := b0.below b5
    replace x0 := x0.below b5
    replace M2 := M2.below b5
    replace bW := bW.trans (b5.mono bW.size)
    clear b5 bV4 s1 s1'
    go_wp2_with fail
    obtain ⟨u0, hu0, bb⟩ : ∃ u0, w5.drew = u0 ∧ Below w5.heap.size w5 u0 := ⟨_, rfl, (Below.refl _ _).drew⟩
    replace b0 := b0.below bb
    replace x0 := x0.below bb
    replace M2 := M2.below bb
    replace bW := bW.trans (bb.mono bW.size)
    clear bb
    refine wp_region_held_drew (S := Two4 w4.heap.size w.heap.size W H (.slice x lr c) (.slice x' lu c') (.slice a lr cr) (.slice a' lu cu)) (by kernel_rfl) (by rw [hu0]; exact two4_mk x0 b0) (fun hHeld => ?_)
    rw [hu0] at hHeld ⊢
    clear hu0
    change wpAnyH _ _ _ _ _ 5 #[false, false, false, false, false] _ _
    refine wpAnyH_take (i := 0) (v := nV W H (.slice x lr c) (.slice x' lu c')) rfl (by kernel_rfl) (by kernel_rfl) (by kernel_rfl) (fun _ _ _ h => h) (Or.inl ⟨by kernel_rfl, ?_⟩) hHeld ?_
    · intro w' hSw; obtain ⟨⟨z0, z1, z2, z3⟩, z4, z5, z6, z7⟩ := hSw; go_simp
    try simp only [Act.put, List.setIfInBounds_toArray, List.set_cons_zero, List.set_cons_succ, List.getElem_toArray, List.getElem_cons_zero]
    refine wpAnyH_take (i := 1) (v := nV W H (.slice a lr cr) (.slice a' lu cu)) rfl (by kernel_rfl) (by kernel_rfl) (by kernel_rfl) (fun _ _ _ h => h) (Or.inl ⟨by kernel_rfl, ?_⟩) hHeld ?_
    · intro w' hSw; obtain ⟨⟨z0, z1, z2, z3⟩, z4, z5, z6, z7⟩ := hSw; go_simp
    try simp only [Act.put, List.setIfInBounds_toArray, List.set_cons_zero, List.set_cons_succ, List.getElem_toArray, List.getElem_cons_succ, List.getElem_cons_zero]
    refine wpAnyH_ready (rs := [2]) (by kernel_rfl) (by simp) ?_
    refine AllReadyH.cons rfl (fun KK hK' => ?_) AllReadyH.nil
    go_simp
    refine (toNet_any W H (hr.below bW) (hu.below bW) h1 h2).mono ?_
    rintro e w6 ⟨m, rfl, M, b6⟩
    replace b0 := b0.below b6
    replace x0 := x0.below b6
    replace M2 := M2.below b6
    replace bW := bW.trans (b6.mono bW.size)
    clear b6
    try go_wp2_with fail
    clear hHeld
    refine hK'.out _ _ (two4_mk x0 b0) (fun hHeld => ?_)
    clear hK' KK
    try simp only [List.setIfInBounds_toArray, List.set_cons_zero, List.set_cons_succ]
    refine wpAnyH_ready (rs := [3]) (by kernel_rfl) (by simp) ?_
    refine AllReadyH.cons rfl (fun KK hK' => ?_) AllReadyH.nil
    go_simp
    refine (eqNet_true M2 M h1 h2).mono ?_
    rintro e w7 ⟨rfl, b7⟩
    replace b0 := b0.below b7
    replace x0 := x0.below b7
    replace bW := bW.trans (b7.mono bW.size)
    clear b7
    try go_wp2_with fail
    clear hHeld
    refine hK'.out _ _ (two4_mk x0 b0) (fun hHeld => ?_)
    clear hK' KK
    try simp only [List.setIfInBounds_toArray, List.set_cons_zero, List.set_cons_succ]
    refine wpAnyH_take (i := 4) (v := .bool false) rfl (by kernel_rfl) (by kernel_rfl) (by kernel_rfl) (fun _ _ _ h => h) (Or.inl ⟨by kernel_rfl, ?_⟩) hHeld ?_
    · intro w' hSw; go_simp
    try simp only [Act.put, List.setIfInBounds_toArray, List.set_cons_zero, List.set_cons_succ, List.getElem_toArray, List.getElem_cons_succ, List.getElem_cons_zero]
    refine wpAnyH_done (by kernel_rfl) ?_ _
    clear hHeld
    go_wp2
    go_ret
    exact ⟨rfl, bW⟩
theorem netOk_of {w : World} {a a' : Option Addr} {lr cr lu cu : Nat} {zs zs' : List Int} (W H : Int) (h1 : IsRow .i64 w a lr cr zs) (h2 : IsRow .i64 w a' lu cu zs') :
    Calls Try.prog 3 #[nV W H (.slice a lr cr) (.slice a' lu cu)] w fun e w' => e = .returned (.bool true) ∧ Below w.heap.size w w' := by
  obtain ⟨f, hs, hl, -⟩ := src_of h1
  obtain ⟨f', hs', hl', -⟩ := src_of h2
  exact exactNetOk_walk W H hs hs' hl hl'
end Go.Proofs.Ythpmfjhhaolklaa
