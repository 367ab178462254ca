/-
  The law on Indexed, walked.
-/
import Derived.Test.YtjlmiadmobbibaaBc
namespace Go.Proofs.Ytjlmiadmobbibaa
open Go.RowKit

theorem put4_at {t : TypeId} {w : World} {q : Nat} {x0 x1 x2 x3 : Value} (h : At t w q #[x0, x1, x2, x3]) (v0 v1 v2 v3 : Value) : At t ((((w.setCell ⟨q, 0, none⟩ v0).setCell ⟨q, 1, none⟩ v1).setCell ⟨q, 2, none⟩ v2).setCell ⟨q, 3, none⟩ v3) q #[v0, v1, v2, v3] := by
  simpa using (((h.set 0 v0).set 1 v1).set 2 v2).set 3 v3
theorem below_put4 {N q : Nat} {w0 w : World} (h : Below N w0 w) (hq : N ≤ q) (v0 v1 v2 v3 : Value) : Below N w0 ((((w.setCell ⟨q, 0, none⟩ v0).setCell ⟨q, 1, none⟩ v1).setCell ⟨q, 2, none⟩ v2).setCell ⟨q, 3, none⟩ v3) :=
  (((h.setCell (p := ⟨q, 0, none⟩) hq v0).setCell (p := ⟨q, 1, none⟩) hq v1).setCell (p := ⟨q, 2, none⟩) hq v2).setCell (p := ⟨q, 3, none⟩) hq v3
set_option maxHeartbeats 4000000 in
theorem toBasis_any (a b c d : Int) (w : World) : Calls Try.prog 16 #[bV a b c d] w fun e w' => e = .returned (bV a b c d) ∧ Below w.heap.size w w' := by
  obtain ⟨V1, hV1, a1, b1, -⟩ := boxed w 38 #[.int .i64 a, .int .i64 b, .int .i64 c, .int .i64 d]
  obtain ⟨V2, hV2, a2, b2, -⟩ := boxed V1 27 #[.int .i64 0, .int .i64 0, .int .i64 0, .int .i64 0]
  obtain ⟨V3, hV3, a3, b3, -⟩ := boxed V2 27 #[.int .i64 0, .int .i64 0, .int .i64 0, .int .i64 0]
  have l2 := a2.lt
  have l1 := a1.lt
  replace a1 := (a1.below b2).below b3
  replace a2 := a2.below b3
  have bW := (b1.trans (b2.mono b1.size)).trans (b3.mono (Nat.le_trans b1.size b2.size))
  have s1 := b1.size
  have s2 := b2.size
  clear b1 b2 b3
  obtain ⟨c0, c1, c2, c3, -⟩ := a1.open4
  obtain ⟨e0, e1, e2, e3, q0, q1, q2, q3⟩ := a3.open4
  have A9 := put4_at a3 (.int .i64 a) (.int .i64 b) (.int .i64 c) (.int .i64 d)
  have B9 := below_put4 bW (show w.heap.size ≤ V2.heap.size by omega) (.int .i64 a) (.int .i64 b) (.int .i64 c) (.int .i64 d)
  have a22 : At 27 ((((V3.setCell ⟨V2.heap.size, 0, none⟩ (.int .i64 a)).setCell ⟨V2.heap.size, 1, none⟩ (.int .i64 b)).setCell ⟨V2.heap.size, 2, none⟩ (.int .i64 c)).setCell ⟨V2.heap.size, 3, none⟩ (.int .i64 d)) V1.heap.size #[.int .i64 0, .int .i64 0, .int .i64 0, .int .i64 0] :=
    (((a2.setOther (by omega) _).setOther (by omega) _).setOther (by omega) _).setOther (by omega) _
  obtain ⟨V4, hV4⟩ : ∃ V, ((((V3.setCell ⟨V2.heap.size, 0, none⟩ (.int .i64 a)).setCell ⟨V2.heap.size, 1, none⟩ (.int .i64 b)).setCell ⟨V2.heap.size, 2, none⟩ (.int .i64 c)).setCell ⟨V2.heap.size, 3, none⟩ (.int .i64 d)) = V := ⟨_, rfl⟩
  rw [hV4] at A9 B9 a22
  obtain ⟨r0, r1, r2, r3, -⟩ := A9.open4
  obtain ⟨y0, y1, y2, y3, z0, z1, z2, z3⟩ := a22.open4
  have A10 := put4_at a22 (.int .i64 a) (.int .i64 b) (.int .i64 c) (.int .i64 d)
  have B10 := below_put4 B9 (show w.heap.size ≤ V1.heap.size by omega) (.int .i64 a) (.int .i64 b) (.int .i64 c) (.int .i64 d)
  clear a1 a2 a3 a22 A9 B9 bW
  obtain ⟨V5, hV5⟩ : ∃ V, ((((V4.setCell ⟨V1.heap.size, 0, none⟩ (.int .i64 a)).setCell ⟨V1.heap.size, 1, none⟩ (.int .i64 b)).setCell ⟨V1.heap.size, 2, none⟩ (.int .i64 c)).setCell ⟨V1.heap.size, 3, none⟩ (.int .i64 d)) = V := ⟨_, rfl⟩
  rw [hV5] at A10 B10
  go_enter Try.func16, Try.ntmps16
  go_wp2
  obtain ⟨k0, k1, k2, k3, -⟩ := A10.open4
  exact bodyPost_ret (v := bV a b c d) (by simp [results, Try.results16, go_sem, k0, k1, k2, k3]) rfl ⟨rfl, B10⟩
set_option maxRecDepth 100000 in
set_option maxHeartbeats 4000000 in
theorem exactIndexed_walk {w : World} {p : Option Addr} {n cap : Nat} {f : Nat → Int} {a b c d : Int} (hS : Src w p (n * 3) f) (hn0 : n ≤ maxLen) :
    Calls Try.prog 4 #[.slice p n cap, bV a b c d] w fun e w' => e = .returned (.bool true) ∧ Below w.heap.size w w' := by
  obtain ⟨V, hV, b0, bW, -⟩ := boxed w 38 #[.int .i64 a, .int .i64 b, .int .i64 c, .int .i64 d]
  go_enter Try.func4, Try.ntmps4
  go_wp2_with fail
  refine (sz_any _ hn0).mono ?_
  rintro e w1 ⟨⟨r, rfl, hr⟩, rfl⟩
  rcases hr with rfl | ⟨h0, hsh⟩
  · go_wp2
    go_ret
    exact ⟨rfl, bW⟩
  have h1 : ¬ r < 0 := by omega
  clear hV
  have HT := hS.below bW
  go_upto_region 5 with (fail)
  obtain ⟨u0, hu0, bb⟩ : ∃ uu, V.drew = uu ∧ Below V.heap.size V uu := ⟨_, rfl, (Below.refl _ _).drew⟩
  replace b0 := b0.below bb
  replace HT := HT.below bb
  replace bW := bW.trans (bb.mono bW.size)
  clear bb
  refine wp_region_held_drew (S := Kb u0) (by kernel_rfl) (by rw [hu0]; exact Below.refl _ _) (fun hHeld => ?_)
  rw [hu0] at hHeld ⊢
  clear hu0
  have bu : Kb u0 u0 := Below.refl _ _
  change wpAnyH _ _ _ _ _ 6 #[false, false, false, false, false, false] _ _
  refine wpAnyH_take (i := 0) (v := .slice p n cap) rfl (by kernel_rfl) (by kernel_rfl) (by kernel_rfl) (fun _ _ _ h => h) (Or.inl ⟨by kernel_rfl, ?_⟩) hHeld ?_
  · intro w' hSw; go_simp
  try simp only [Act.put, List.setIfInBounds_toArray, List.set_cons_zero, List.set_cons_succ, List.getElem_toArray, List.getElem_cons_zero]
  refine wpAnyH_take (i := 2) (v := .agg #[.int .i64 (a), .int .i64 (b), .int .i64 (c), .int .i64 (d)]) rfl (by kernel_rfl) (by kernel_rfl) (by kernel_rfl) (fun _ _ _ h => h) (Or.inl ⟨by kernel_rfl, ?_⟩) hHeld ?_
  · intro w' hSw; obtain ⟨z0, z1, z2, z3, -⟩ := (b0.below hSw).open4; go_simp
  try simp only [Act.put, List.setIfInBounds_toArray, List.set_cons_zero, List.set_cons_succ, List.getElem_toArray, List.getElem_cons_succ, List.getElem_cons_zero]
  refine wpAnyH_ready (rs := [1]) (by kernel_rfl) (by simp) ?_
  refine AllReadyH.cons rfl (fun KK hK' => ?_) AllReadyH.nil
  go_simp
  refine (toSpotS_any HT hsh).mono ?_
  rintro e u1 ⟨g1, rfl, hg1, LT, bb⟩
  replace bu : Kb u0 u1 := bu.trans (bb.mono bu.size)
  clear bb
  try go_wp2_with fail
  clear hHeld
  refine hK'.out _ _ (bu) (fun hHeld => ?_)
  clear hK' KK
  try simp only [List.setIfInBounds_toArray, List.set_cons_zero, List.set_cons_succ]
  refine wpAnyH_ready (rs := [3]) (by kernel_rfl) (by simp) ?_
  refine AllReadyH.cons rfl (fun KK hK' => ?_) AllReadyH.nil
  go_simp
  refine (toBasis_any a b c d _).mono ?_
  rintro e u2 ⟨rfl, bb⟩
  replace LT := LT.below bb
  replace bu : Kb u0 u2 := bu.trans (bb.mono bu.size)
  clear bb
  try go_wp2_with fail
  clear hHeld
  refine hK'.out _ _ (bu) (fun hHeld => ?_)
  clear hK' KK
  try simp only [List.setIfInBounds_toArray, List.set_cons_zero, List.set_cons_succ]
  refine wpAnyH_ready (rs := [4]) (by kernel_rfl) (by simp) ?_
  refine AllReadyH.cons rfl (fun KK hK' => ?_) AllReadyH.nil
  go_simp
  refine (specIndexed_any LT.trips hsh).mono ?_
  rintro e u3 ⟨rfl, bb⟩
  replace bu : Kb u0 u3 := bu.trans (bb.mono bu.size)
  clear bb
  try go_wp2_with fail
  clear hHeld
  refine hK'.out _ _ (bu) (fun hHeld => ?_)
  clear hK' KK
  try simp only [List.setIfInBounds_toArray, List.set_cons_zero, List.set_cons_succ]
  refine wpAnyH_take (i := 5) (v := .int .i64 ((ixT n f a b c d : Int))) rfl (by kernel_rfl) (by kernel_rfl) (by kernel_rfl) (fun _ _ _ h => h) (Or.inl ⟨by kernel_rfl, ?_⟩) hHeld ?_
  · intro w' hSw; go_simp
  try simp only [Act.put, List.setIfInBounds_toArray, List.set_cons_zero, List.set_cons_succ, List.getElem_toArray, List.getElem_cons_succ, List.getElem_cons_zero]
  refine wpAnyH_done (by kernel_rfl) ?_ _
  clear hHeld
  replace b0 := b0.below bu
  replace bW := bW.trans (bu.mono bW.size)
  clear bu HT LT
  obtain ⟨R, hR⟩ : ∃ R : Nat, ixT n f a b c d = R := ⟨_, rfl⟩
  rw [hR]
  go_wp2_with fail
  refine (toSpotS_any (hS.below bW) hsh).mono ?_
  rintro e w5 ⟨g2, rfl, hg2, L2, bb⟩
  replace b0 := b0.below bb
  replace bW := bW.trans (bb.mono bW.size)
  clear bb
  obtain ⟨c0, c1, c2, c3, -⟩ := b0.open4
  go_wp2_with fail
  refine (toBasis_any a b c d _).mono ?_
  rintro e w6 ⟨rfl, bb⟩
  clear c0 c1 c2 c3
  replace L2 := L2.below bb
  replace bW := bW.trans (bb.mono bW.size)
  clear bb
  go_wp2_with fail
  refine (implIndexed_any L2.trips hsh).mono ?_
  rintro e w7 ⟨rfl, bb⟩
  replace L2 := L2.below bb
  replace bW := bW.trans (bb.mono bW.size)
  clear bb
  rw [hR]
  go_wp2_with fail
  refine (toSpotS_any (hS.below bW) hsh).mono ?_
  rintro e w8 ⟨g3, rfl, hg3, L3, bb⟩
  replace L2 := L2.below bb
  replace bW := bW.trans (bb.mono bW.size)
  clear bb
  go_wp2_with fail
  refine (eqSpotS_true L2.trips L3.trips hsh).mono ?_
  rintro e w9 ⟨rfl, bb⟩
  replace bW := bW.trans (bb.mono bW.size)
  clear bb
  go_wp2
  go_ret
  exact ⟨rfl, bW⟩
end Go.Proofs.Ytjlmiadmobbibaa
