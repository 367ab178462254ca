/-
  The law on Cores, walked.
-/
import Derived.Test.YthpmfjhhaolklaaCa3
import Derived.Test.YthpmfjhhaolklaaCb3
import Derived.Test.YthpmfjhhaolklaaNc
namespace Go.Proofs.Ythpmfjhhaolklaa
open Go.RowKit

theorem coreT_tri {w : World} {lo : Nat} {v : Value} {l : List Int} {n : Nat} (h : CoreT w lo v l) (hn : l.length = n * 3) : ∃ g c, v = .slice (some ⟨g, 0, none⟩) n c ∧ (lo ≤ g ∧ n ≤ c) ∧ Tri w g c n (fun i => l.getD i 0) := by
  obtain ⟨m, hm, ho, hv⟩ := h
  obtain rfl : m = n := by omega
  rcases ho.2 with ⟨h1, _⟩ | ⟨g, c, cur, rfl, hb, hh, hc1, hc2, hsz, ht⟩
  · exact absurd h1 hv
  · refine ⟨g, c, rfl, ⟨hb, hc1⟩, cur, hh, by simpa using hsz, fun i hi => ?_⟩
    have a1 : (lCells l)[i]? = some (.int .i64 (l.getD i 0)) := by
      have hi' : i < l.length := by omega
      simp [lCells, hi']
    rw [← ht] at a1
    rw [List.getElem?_take_of_lt (by omega)] at a1
    simpa using a1
theorem bothCores (W H : Int) (lr lu : Nat) (r u : Nat → Int) (hlr : lr ≤ 1048576) (hlu : lu ≤ 1048576) : ∃ (n : Nat) (f : Nat → Int), n ≤ 1048576 ∧ (∀ {w : World} {lo hi : Nat} {m : Value}, NetAt w lo hi m W H lr r lu u → Calls Try.prog 27 #[m] w fun e w' => ∃ g c, e = .returned (.slice (some ⟨g, 0, none⟩) n c) ∧ (w.heap.size ≤ g ∧ n ≤ c) ∧ Tri w' g c n f ∧ Below w.heap.size w w') ∧ (∀ {w : World} {lo hi : Nat} {m : Value}, NetAt w lo hi m W H lr r lu u → Calls Try.prog 28 #[m] w fun e w' => ∃ g c, e = .returned (.slice (some ⟨g, 0, none⟩) n c) ∧ (w.heap.size ≤ g ∧ n ≤ c) ∧ Tri w' g c n f ∧ Below w.heap.size w w') := by
  rcases hok : netOk W H lr r lu u with _ | _
  · refine ⟨0, fun i => ([] : List Int).getD i 0, by omega, fun hN => ?_, fun hN => ?_⟩
    · obtain ⟨a, c, a', c', rfl, s1, s2⟩ := hN.open
      refine (specCores_no W H s1 s2 hlr hlu hok).mono ?_
      rintro e w' ⟨v, rfl, hv, hb⟩
      obtain ⟨g, c, rfl, h1, h2⟩ := coreT_tri (n := 0) hv rfl
      exact ⟨g, c, rfl, h1, h2, hb⟩
    · obtain ⟨a, c, a', c', rfl, s1, s2⟩ := hN.open
      refine (implCores_no W H s1 s2 hlr hlu hok).mono ?_
      rintro e w' ⟨v, rfl, hv, hb⟩
      obtain ⟨g, c, rfl, h1, h2⟩ := coreT_tri (n := 0) hv rfl
      exact ⟨g, c, rfl, h1, h2, hb⟩
  · obtain ⟨hW, hH, -⟩ := netOk_of_true hok
    obtain ⟨n, hn, hn'⟩ := coA_len W hW.2 r u (H - 1).toNat
    refine ⟨n, fun i => (coA W r u (H - 1).toNat).getD i 0, by omega, fun hN => ?_, fun hN => ?_⟩
    · obtain ⟨a, c, a', c', rfl, s1, s2⟩ := hN.open
      refine (specCores_yes W H s1 s2 hlr hlu hok).mono ?_
      rintro e w' ⟨v, rfl, hv, hb⟩
      obtain ⟨g, c, rfl, h1, h2⟩ := coreT_tri hv hn
      exact ⟨g, c, rfl, h1, h2, hb⟩
    · obtain ⟨a, c, a', c', rfl, s1, s2⟩ := hN.open
      refine (implCores_yes W H s1 s2 hlr hlu hok).mono ?_
      rintro e w' ⟨v, rfl, hv, hb⟩
      obtain ⟨g, c, rfl, h1, h2⟩ := coreT_tri hv hn
      exact ⟨g, c, rfl, h1, h2, hb⟩
theorem Turn.of_kept {w w' : World} {p lo hi : Nat} (h : Kept p w w') (h1 : lo ≤ p) (h2 : p < hi) : Turn lo hi w w' := ⟨h.os, h.tape, h.output, h.size, fun k hk hd => h.block k hk (by omega)⟩
set_option maxRecDepth 100000 in
set_option maxHeartbeats 3200000 in
theorem exactCores_walk {w : World} {a a' : Option Addr} {lr lu cr cu : Nat} {r u : Nat → Int} (W H : Int) (hr : Src w a lr r) (hu : Src w a' lu u) (hlr : lr ≤ maxLen) (hlu : lu ≤ maxLen) :
    Calls Try.prog 8 #[nV W H (.slice a lr cr) (.slice a' lu cu)] w fun e w' => e = .returned (.bool true) ∧ Below w.heap.size w w' := by
  go_enter Try.func8, Try.ntmps8
  go_wp2_with fail
  obtain ⟨V, hV, b0, bW, -⟩ := boxed w 24 #[.int .i64 W, .int .i64 H, .slice a lr cr, .slice a' lu cu]
  rw [hV]
  refine (szNet_any W H a a' lr lu cr cu V hlr hlu).mono ?_
  rintro e w1 ⟨z, rfl, hz, b1⟩
  replace b0 := b0.below b1
  replace bW := bW.trans (b1.mono bW.size)
  clear b1 hV
  rcases hz with rfl | ⟨hz1, hz⟩
  · go_wp2
    go_ret
    exact ⟨rfl, bW⟩
  · obtain ⟨c0, c1, c2, c3, -⟩ := b0.open4
    have hz' : ¬ z < 0 := by omega
    have h1 : lr ≤ 1048576 := by omega
    have h2 : lu ≤ 1048576 := by omega
    obtain ⟨n, f, hn, SP, IM⟩ := bothCores W H lr lu r u h1 h2
    clear hz1
    go_wp2_with fail
    refine (toNet_any W H (hr.below bW) (hu.below bW) h1 h2).mono ?_
    rintro e w2 ⟨m0, rfl, M0, b⟩
    clear c0 c1 c2 c3
    replace b0 := b0.below b
    replace bW := bW.trans (b.mono bW.size)
    clear b
    go_wp2_with fail
    refine (SP M0).mono ?_
    rintro e w3 ⟨g0, e0, rfl, ⟨k0, t0⟩, T0, b⟩
    clear M0
    replace b0 := b0.below b
    replace bW := bW.trans (b.mono bW.size)
    clear b
    have s2 : w.heap.size < w3.heap.size := b0.lt
    have l0 := T0.lt
    obtain ⟨c0, c1, c2, c3, -⟩ := b0.open4
    go_wp2_with fail
    refine (toNet_any W H (hr.below bW) (hu.below bW) h1 h2).mono ?_
    rintro e w4 ⟨mx, rfl, NX, b⟩
    clear c0 c1 c2 c3
    have s35 := b.size
    replace b0 := b0.below b
    replace T0 := T0.below b
    replace bW := bW.trans (b.mono bW.size)
    clear b
    obtain ⟨x1, x1', rfl, AX, BX, apx⟩ := NX
    obtain ⟨ax, dx, rfl, -⟩ := AX.src
    obtain ⟨ax', dx', rfl, -⟩ := BX.src
    obtain ⟨V4, hV4, bx, b, -⟩ := boxed w4 27 #[.int .i64 W, .int .i64 H, .slice ax lr dx, .slice ax' lu dx']
    have s4 : w4.heap.size < V4.heap.size := bx.lt
    have NX : NetAt w4 _ _ _ W H lr r lu u := ⟨_, _, rfl, AX, BX, apx⟩
    clear AX BX apx
    replace b0 := b0.below b
    replace T0 := T0.below b
    replace NX := NX.below b
    replace bW := bW.trans (b.mono bW.size)
    clear b
    obtain ⟨c0, c1, c2, c3, -⟩ := bx.open4
    go_wp2_with fail
    refine (IM NX).mono ?_
    rintro e w5 ⟨g1, e1, rfl, ⟨k1, t1⟩, T1, b⟩
    clear c0 c1 c2 c3
    have s5 := b.size
    replace b0 := b0.below b
    replace T0 := T0.below b
    replace NX := NX.below b
    replace bx := bx.below b
    replace bW := bW.trans (b.mono bW.size)
    clear b
    obtain ⟨qx, hqx⟩ : ∃ q, w4.heap.size = q := ⟨_, rfl⟩
    obtain ⟨l4, hl4⟩ : ∃ q, V4.heap.size = q := ⟨_, rfl⟩
    obtain ⟨l3, hl3⟩ : ∃ q, w3.heap.size = q := ⟨_, rfl⟩
    go_wp2_with fail
    rw [hqx] at NX bx s4 s35
    rw [hl4] at s4 s5 k1
    rw [hl3] at NX s35 s2 l0
    clear hV4
    refine (eqCoreS_true T1 T0 hn).mono ?_
    rintro e w6 ⟨rfl, b⟩
    replace b0 := b0.below b
    replace T0 := T0.below b
    replace NX := NX.below b
    replace bx := bx.below b
    replace T1 := T1.below b
    replace bW := bW.trans (b.mono bW.size)
    clear b
    go_wp2_with fail
    obtain ⟨u0, hu0, bb⟩ : ∃ u0, w6.drew = u0 ∧ Below w6.heap.size w6 u0 := ⟨_, rfl, (Below.refl _ _).drew⟩
    replace b0 := b0.below bb
    replace T0 := T0.below bb
    replace NX := NX.below bb
    replace bx := bx.below bb
    replace T1 := T1.below bb
    replace bW := bW.trans (bb.mono bW.size)
    clear bb
    refine wp_region_held_drew (S := Two4 qx w.heap.size W H (.slice ax lr dx) (.slice ax' lu dx') (.slice a lr cr) (.slice a' lu cu)) (by kernel_rfl) (by rw [hu0]; exact two4_mk bx b0) (fun hHeld => ?_)
    rw [hu0] at hHeld ⊢
    clear hu0
    change wpAnyH _ _ _ _ _ 5 #[false, false, false, false, false] _ _
    refine wpAnyH_take (i := 0) (v := nV W H (.slice ax lr dx) (.slice ax' lu dx')) rfl (by kernel_rfl) (by kernel_rfl) (by kernel_rfl) (fun _ _ _ h => h) (Or.inl ⟨by kernel_rfl, ?_⟩) hHeld ?_
    · intro w' hSw; obtain ⟨⟨z0, z1, z2, z3⟩, z4, z5, z6, z7⟩ := hSw; go_simp
    try simp only [Act.put, List.setIfInBounds_toArray, List.set_cons_zero, List.set_cons_succ, List.getElem_toArray, List.getElem_cons_zero]
    refine wpAnyH_take (i := 1) (v := nV W H (.slice a lr cr) (.slice a' lu cu)) rfl (by kernel_rfl) (by kernel_rfl) (by kernel_rfl) (fun _ _ _ h => h) (Or.inl ⟨by kernel_rfl, ?_⟩) hHeld ?_
    · intro w' hSw; obtain ⟨⟨z0, z1, z2, z3⟩, z4, z5, z6, z7⟩ := hSw; go_simp
    try simp only [Act.put, List.setIfInBounds_toArray, List.set_cons_zero, List.set_cons_succ, List.getElem_toArray, List.getElem_cons_succ, List.getElem_cons_zero]
    refine wpAnyH_ready (rs := [2]) (by kernel_rfl) (by simp) ?_
    refine AllReadyH.cons rfl (fun KK hK' => ?_) AllReadyH.nil
    go_simp
    refine (toNet_any W H (hr.below bW) (hu.below bW) h1 h2).mono ?_
    rintro e w7 ⟨m7, rfl, M7, bb⟩
    replace b0 := b0.below bb
    replace T0 := T0.below bb
    replace NX := NX.below bb
    replace bx := bx.below bb
    replace T1 := T1.below bb
    replace bW := bW.trans (bb.mono bW.size)
    clear bb
    try go_wp2_with fail
    clear hHeld
    refine hK'.out _ _ (two4_mk bx b0) (fun hHeld => ?_)
    clear hK' KK
    try simp only [List.setIfInBounds_toArray, List.set_cons_zero, List.set_cons_succ]
    refine wpAnyH_ready (rs := [3]) (by kernel_rfl) (by simp) ?_
    refine AllReadyH.cons rfl (fun KK hK' => ?_) AllReadyH.nil
    go_simp
    refine (eqNet_true NX M7 h1 h2).mono ?_
    rintro e w8 ⟨rfl, bb⟩
    replace b0 := b0.below bb
    replace T0 := T0.below bb
    replace NX := NX.below bb
    replace bx := bx.below bb
    replace T1 := T1.below bb
    replace bW := bW.trans (bb.mono bW.size)
    clear bb
    clear M7
    try go_wp2_with fail
    clear hHeld
    refine hK'.out _ _ (two4_mk bx b0) (fun hHeld => ?_)
    clear hK' KK
    try simp only [List.setIfInBounds_toArray, List.set_cons_zero, List.set_cons_succ]
    refine wpAnyH_take (i := 4) (v := .bool false) rfl (by kernel_rfl) (by kernel_rfl) (by kernel_rfl) (fun _ _ _ h => h) (Or.inl ⟨by kernel_rfl, ?_⟩) hHeld ?_
    · intro w' hSw; go_simp
    try simp only [Act.put, List.setIfInBounds_toArray, List.set_cons_zero, List.set_cons_succ, List.getElem_toArray, List.getElem_cons_succ, List.getElem_cons_zero]
    refine wpAnyH_done (by kernel_rfl) ?_ _
    clear hHeld
    obtain ⟨c0, c1, c2, c3, -⟩ := bx.open4
    go_wp2_with fail
    refine (markNet_any NX h1 h2 1 (by omega)).mono ?_
    rintro e w9 ⟨rfl, -, t9⟩
    clear c0 c1 c2 c3
    obtain ⟨K9, hK9⟩ : ∃ K : Int, ((1 + lr + lu : Nat) : Int) = K := ⟨_, rfl⟩
    have hK9' : ¬ K9 < 0 := by omega
    rw [hK9]
    replace b0 := b0.turn t9 (.inl (by omega))
    replace T0 := T0.turn t9 (.inl (by omega))
    replace bx := bx.turn t9 (.inr (by omega))
    replace T1 := T1.turn t9 (.inr (by omega))
    replace bW := t9.below bW (by omega) bW.size
    clear NX t9
    go_wp2_with fail
    refine (eqCoreS_true T1 T0 hn).mono ?_
    rintro e w10 ⟨rfl, b⟩
    replace b0 := b0.below b
    replace T0 := T0.below b
    replace bx := bx.below b
    replace T1 := T1.below b
    replace bW := bW.trans (b.mono bW.size)
    clear b
    go_wp2_with fail
    refine (markCoreS_any T1 t1 hn).mono ?_
    rintro e w11 ⟨rfl, T1', t11⟩
    have t12 : Turn l4 (g1 + 1) _ _ := Turn.of_kept t11 (by omega) (by omega)
    replace b0 := b0.turn t12 (.inl (by omega))
    replace T0 := T0.turn t12 (.inl (by omega))
    replace bx := bx.turn t12 (.inl (by omega))
    replace bW := t12.below bW (by omega) bW.size
    clear T1 t11 t12
    obtain ⟨Kq, hKq⟩ : ∃ K : Int, ((1 + n * 3 : Nat) : Int) = K := ⟨_, rfl⟩
    have hK0 : ¬ Kq < 0 := by omega
    have hK1 : (Kq != Kq) = false := by simp
    rw [hKq]
    go_wp2_with fail
    refine (heldCoreS_any T1' hn).mono ?_
    rintro e w12 ⟨rfl, rfl⟩
    rw [hKq]
    obtain ⟨c0, c1, c2, c3, -⟩ := b0.open4
    go_wp2_with fail
    refine (toNet_any W H (hr.below bW) (hu.below bW) h1 h2).mono ?_
    rintro e w13 ⟨m13, rfl, M13, b⟩
    clear c0 c1 c2 c3
    replace b0 := b0.below b
    replace T0 := T0.below b
    replace bx := bx.below b
    replace T1' := T1'.below b
    replace bW := bW.trans (b.mono bW.size)
    clear b
    go_wp2_with fail
    refine (IM M13).mono ?_
    rintro e w14 ⟨g2, e2, rfl, -, T2, b⟩
    clear M13
    replace b0 := b0.below b
    replace T0 := T0.below b
    replace bx := bx.below b
    replace T1' := T1'.below b
    replace bW := bW.trans (b.mono bW.size)
    clear b
    go_wp2_with fail
    refine (eqCoreS_true T2 T0 hn).mono ?_
    rintro e w15 ⟨rfl, b⟩
    replace b0 := b0.below b
    replace T0 := T0.below b
    replace bx := bx.below b
    replace T1' := T1'.below b
    replace T2 := T2.below b
    replace bW := bW.trans (b.mono bW.size)
    clear b
    go_wp2_with fail
    refine (heldCoreS_any T1' hn).mono ?_
    rintro e w16 ⟨rfl, rfl⟩
    rw [hKq]
    go_wp2
    go_ret
    exact ⟨rfl, bW⟩
theorem exactCores_of {w : World} {a a' : Option Addr} {lr cr lu cu : Nat} {zs zs' : List Int} (W H : Int) (h1 : IsRow .i64 w a lr cr zs) (h2 : IsRow .i64 w a' lu cu zs') :
    Calls Try.prog 8 #[nV W H (.slice a lr cr) (.slice a' lu cu)] w fun e w' => e = .returned (.bool true) ∧ Below w.heap.size w w' := by
  obtain ⟨f, hs, hl, -⟩ := src_of h1
  obtain ⟨f', hs', hl', -⟩ := src_of h2
  exact exactCores_walk W H hs hs' hl hl'
end Go.Proofs.Ythpmfjhhaolklaa
