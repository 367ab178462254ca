/-
  Shifted by the program, walked.
-/
import Derived.Test.YtlmgdcoknpakcaaNo
import Derived.Deep.CutRange
namespace Go.Proofs.Ytlmgdcoknpakcaa
open Go.RowKit

/-- Two numbers of a list. -/
def Fl2 (b o j1 j2 : Nat) (p1 p2 : Int) (w : World) : Prop := w.cell? ⟨b, o + j1, none⟩ = some (.int .i64 p1) ∧ w.cell? ⟨b, o + j2, none⟩ = some (.int .i64 p2)
theorem fl2_mk {w0 w : World} {b o n j1 j2 : Nat} {F : Nat → Int} {p1 p2 : Int} (h : Ints w0 b o n F) (l : b < w0.heap.size) (hb : Below w0.heap.size w0 w) (h1 : j1 < n) (h2 : j2 < n) (e1 : F j1 = p1) (e2 : F j2 = p2) : Fl2 b o j1 j2 p1 p2 w := by
  have := h.below l hb
  exact ⟨e1 ▸ this j1 h1, e2 ▸ this j2 h2⟩
set_option maxRecDepth 100000 in
set_option maxHeartbeats 3200000 in
theorem implShifted_yes {w : World} {b1 o1 b2 o2 lr lu c1 c2 : Nat} {r u : Nat → Int} {af : Option Addr} {lf cf : Nat} {F : Nat → Int} (W H : Int) (hF : Src w af lf F) (hlf : lf ≤ 1048576) (i1 : Ints w b1 o1 lr r) (i2 : Ints w b2 o2 lu u) (l1 : b1 < w.heap.size) (l2 : b2 < w.heap.size) (hlr : lr ≤ 1048576) (hlu : lu ≤ 1048576) (hok : netOk W H lr r lu u = true) (hs : slipsB lf F (W * H) = true) :
    Calls Try.prog 26 #[nV W H (.slice (some ⟨b1, o1, none⟩) lr c1) (.slice (some ⟨b2, o2, none⟩) lu c2), .slice af lf cf] w fun e w' => ∃ v k, e = .returned (.tuple #[v, .bool k]) ∧ NetT w' w.heap.size v k W H lr (allR W F r H.toNat) lu (allU W H F u H.toNat) ∧ Below w.heap.size w w' := by
  obtain ⟨hW, hH, ⟨-, hr1⟩, -, hu1⟩ := netOk_of_true hok
  have p0 : 1 * 1 ≤ W * H := Int.mul_le_mul (by omega) (by omega) (by omega) (by omega)
  have hlf0 := (slipsB_of hs).1
  rcases hF with h0 | ⟨b3, o3, rfl, l3, hF⟩
  · omega
  clear hlf0
  obtain ⟨V, hV, A1, B1, -⟩ := boxed w 32 #[.int .i64 W, .int .i64 H, .slice (some ⟨b1, o1, none⟩) lr c1, .slice (some ⟨b2, o2, none⟩) lu c2]
  obtain ⟨V2, hV2, A2, B2, -⟩ := boxed V 32 #[.int .i64 0, .int .i64 0, .slice none 0 0, .slice none 0 0]
  have s1 := A1.lt
  have s2 := A2.lt
  replace A1 := A1.below B2
  replace B1 := B1.trans (B2.mono B1.size)
  replace i1 := i1.below l1 B1
  replace i2 := i2.below l2 B1
  have F0 : Src w (some ⟨b3, o3, none⟩) lf F := .inr ⟨_, _, rfl, l3, hF⟩
  have FV := F0.below B1
  replace l1 := Nat.lt_of_lt_of_le l1 B1.size
  replace l2 := Nat.lt_of_lt_of_le l2 B1.size
  obtain ⟨c0, c1', c2', c3, -⟩ := A1.open4
  have p1 := mul_in (a := W) (b := H) (x := 30) (y := 30) (by omega) (by omega)
  go_enter Try.func26, Try.ntmps26
  go_wp2_with fail
  refine (implNetOk_any W H (.inr ⟨_, _, rfl, l1, i1⟩) (.inr ⟨_, _, rfl, l2, i2⟩) hlr hlu).mono ?_
  rintro e w1 ⟨rfl, b1'⟩
  rw [hok]
  clear c0 c1' c2' c3
  replace A1 := A1.below b1'
  replace A2 := A2.below b1'
  replace i1 := i1.below l1 b1'
  replace i2 := i2.below l2 b1'
  replace FV := FV.below b1'
  replace l1 := Nat.lt_of_lt_of_le l1 b1'.size
  replace l2 := Nat.lt_of_lt_of_le l2 b1'.size
  replace B1 := B1.trans (b1'.mono B1.size)
  obtain ⟨c0, c1', c2', c3, -⟩ := A1.open4
  clear b1' hV hV2
  go_wp2_with fail
  refine (implSlips_any (W * H) FV hlf).mono ?_
  rintro e w3 ⟨rfl, rfl⟩
  rw [hs]
  go_wp2_with fail
  have z1 := A2.lt
  refine (copied_any W H _ _ i1 i2 l1 l2 hlr hlu).mono ?_
  rintro e w4 ⟨g1, e1, g2, e2, rfl, T, b4⟩
  clear c0 c1' c2' c3
  replace A1 := A1.below b4
  replace A2 := A2.below b4
  replace B1 := B1.trans (b4.mono B1.size)
  have z2 := A2.lt
  have z3 := b4.size
  clear b4
  obtain ⟨q1, hq1⟩ : ∃ q, w.heap.size = q := ⟨_, rfl⟩
  obtain ⟨q2, hq2⟩ : ∃ q, V.heap.size = q := ⟨_, rfl⟩
  obtain ⟨q3, hq3⟩ : ∃ q, w4.heap.size = q := ⟨_, rfl⟩
  obtain ⟨V5, hV5, A3, b5, -⟩ := boxed w4 32 #[.int .i64 W, .int .i64 H, .slice (some ⟨g1, 0, none⟩) lr e1, .slice (some ⟨g2, 0, none⟩) lu e2]
  have R0 : SlW w V5 q1 q2 q3 #[.int .i64 W, .int .i64 H, .slice (some ⟨b1, o1, none⟩) lr c1, .slice (some ⟨b2, o2, none⟩) lu c2] #[.int .i64 0, .int .i64 0, .slice none 0 0, .slice none 0 0] W H g1 e1 lr r g2 e2 lu u := by
    have k1 := T.m1.lt
    have k2 := T.m2.lt
    have k3 := T.lo1
    have k4 := T.lo2
    exact ⟨hq1 ▸ A1.below b5, hq2 ▸ A2.below b5, hq3 ▸ A3, ⟨T.ne, by omega, by omega, T.c1, T.c2, T.m1.bel b5, T.m2.bel b5⟩, B1.trans (b5.mono B1.size), by omega, by omega, by omega, by omega, by omega, hq1⟩
  clear A1 A2 A3 T B1 b5 z1 z2 z3 FV F0
  obtain ⟨c0, c1', c2', c3, -⟩ := R0.a1.open4
  have lq0 := R0.a1.lt
  go_wp2_with fail
  clear hV5 c0 c1' c2' c3 lq0
  go_loopw [28] (fun s wr => ∃ Y : Nat, (Y : Int) ≤ H ∧ s = .int .i64 (Y : Int) ∧ SlW w wr q1 q2 q3 #[.int .i64 W, .int .i64 H, .slice (some ⟨b1, o1, none⟩) lr c1, .slice (some ⟨b2, o2, none⟩) lu c2] #[.int .i64 0, .int .i64 0, .slice none 0 0, .slice none 0 0] W H g1 e1 lr (allR W F r Y) g2 e2 lu (allU W H F u Y)) (fun s _ => (H - intOf s).toNat)
  case atStart => exact ⟨0, by omega, rfl, R0⟩
  case round =>
    clear R0
    obtain ⟨Y, hY, rfl, R⟩ := hrel
    obtain ⟨aR, -⟩ := all_in hW hH hs (R := r) hr1 Y hY
    obtain ⟨-, aU⟩ := all_in hW hH hs (R := u) hu1 Y hY
    have lq1 := R.a1.lt
    obtain ⟨c0, c1', c2', c3, -⟩ := R.a1.open4
    by_cases hlt : (Y : Int) < H
    · go_wp2
      clear c0 c1' c2' c3 lq1
      go_loopw [33] (fun s wr => ∃ X : Nat, (X : Int) ≤ W ∧ s = .int .i64 (X : Int) ∧ SlW w wr q1 q2 q3 #[.int .i64 W, .int .i64 H, .slice (some ⟨b1, o1, none⟩) lr c1, .slice (some ⟨b2, o2, none⟩) lu c2] #[.int .i64 0, .int .i64 0, .slice none 0 0, .slice none 0 0] W H g1 e1 lr (rowR W F Y (allR W F r Y) X) g2 e2 lu (rowU W H F Y (allU W H F u Y) X)) (fun s _ => (W - intOf s).toNat)
      case atStart => exact ⟨0, by omega, rfl, R⟩
      case round =>
        clear R
        obtain ⟨X, hX, rfl, R⟩ := hrel
        obtain ⟨bR, -⟩ := row_in hW hH hs (y := Y) (by omega) aR X hX
        obtain ⟨-, bU⟩ := row_in hW hH hs (y := Y) (by omega) aU X hX
        have lq1 := R.a1.lt
        have lq3 := R.a3.lt
        obtain ⟨c0, c1', c2', c3, -⟩ := R.a1.open4
        by_cases hltX : (X : Int) < W
        · obtain ⟨jb, hjb, lb, eb, pbb⟩ := field_at hW hH hs (x := X) (y := Y) (by omega) (by omega)
          go_wp2_with fail
          refine (site_any W H X Y hW ⟨by omega, by omega⟩ ⟨by omega, by omega⟩).mono ?_
          rintro e w9 ⟨rfl, b9⟩
          replace R := R.below b9
          rw [hjb]
          clear b9 c0 c1' c2' c3 lq1 lq3
          have lq1 := R.a1.lt
          have lq3 := R.a3.lt
          obtain ⟨c0, c1', c2', c3, -⟩ := R.a1.open4
          clear c0 c1' c2' c3
          obtain ⟨pb, hpb⟩ : ∃ p, F jb = p := ⟨_, rfl⟩
          rw [hpb] at pbb eb
          obtain ⟨RR, hRR⟩ : ∃ RR, rowR W F Y (allR W F r Y) X = RR := ⟨_, rfl⟩
          obtain ⟨UU, hUU⟩ : ∃ UU, rowU W H F Y (allU W H F u Y) X = UU := ⟨_, rfl⟩
          rw [hRR] at R bR
          rw [hUU] at R bU
          obtain ⟨c0, c1', c2', c3, -⟩ := R.a1.open4
          go_upto_if 44 with (fail)
          go_cut [] from 40 to 67 (fun wc => SlW w wc q1 q2 q3 #[.int .i64 W, .int .i64 H, .slice (some ⟨b1, o1, none⟩) lr c1, .slice (some ⟨b2, o2, none⟩) lu c2] #[.int .i64 0, .int .i64 0, .slice none 0 0, .slice none 0 0] W H g1 e1 lr (stR W F Y X RR) g2 e2 lu (UU))
          case first =>
            by_cases hX1 : (X : Int) + 1 < W
            · obtain ⟨j0, hj0, l0, -, -⟩ := right_at hok (x := X) (y := Y) (by omega) (by omega)
              obtain ⟨j1, hj1, l1j, ej1, p1b⟩ := field_at hW hH hs (x := (X : Int) + 1) (y := Y) (by omega) (by omega)
              have hp := bR j0 l0
              obtain ⟨p0, hp0⟩ : ∃ p, RR j0 = p := ⟨_, rfl⟩
              obtain ⟨p1, hp1⟩ : ∃ p, F j1 = p := ⟨_, rfl⟩
              rw [hp1] at p1b ej1
              rw [hp0] at hp
              have hnR : ∀ i, i < lr → (if i = j0 then p0 + (p1 - pb) else RR i) = stR W F Y X RR i := by
                intro i _
                unfold stR
                rw [if_pos hX1]
                show _ = ite _ _ _
                rw [hj0, ej1, eb]
                by_cases e : i = j0
                · subst e; rw [if_pos rfl, if_pos rfl, hp0]
                · rw [if_neg e, if_neg (by omega)]
              have w0' : IntKind.i64.wrap ((X : Int) + 1) = (X : Int) + 1 := IntWalk.i64_in _ (by omega)
              have w1' : IntKind.i64.wrap (p1 - pb) = p1 - pb := IntWalk.i64_in _ (by omega)
              have w2' : IntKind.i64.wrap (p0 + (p1 - pb)) = p0 + (p1 - pb) := IntWalk.i64_in _ (by omega)
              have l0' : (j0 : Int) < lr := by omega
              have l1' : (j1 : Int) < lf := by omega
              have lb' : (jb : Int) < lf := by omega
              go_wp2_with fail
              obtain ⟨u0, hu0, bb⟩ : ∃ u0, w9.drew = u0 ∧ Below w9.heap.size w9 u0 := ⟨_, rfl, (Below.refl _ _).drew⟩
              replace R := R.below bb
              clear bb
              refine wp_region_held_drew (S := fun w => Two4 q1 q3 W H (.slice (some ⟨b1, o1, none⟩) lr c1) (.slice (some ⟨b2, o2, none⟩) lu c2) (.slice (some ⟨g1, 0, none⟩) lr e1) (.slice (some ⟨g2, 0, none⟩) lu e2) w ∧ Fl2 b3 o3 j1 jb p1 pb w) (by kernel_rfl) (by rw [hu0]; exact ⟨two4_mk R.a1 R.a3, fl2_mk hF l3 R.b l1j lb hp1 hpb⟩) (fun hHeld => ?_)
              rw [hu0] at hHeld ⊢
              clear hu0
              change wpAnyH _ _ _ _ _ 24 #[false, false, false, false, false, false, false, false, false, false, false, false, false, false, false, false, false, false, false, false, false, false, false, false] _ _
              refine wpAnyH_take (i := 0) (v := .pointer (some ⟨q3, 2, none⟩)) rfl (by kernel_rfl) (by kernel_rfl) (by kernel_rfl) (fun _ _ _ h => h) (Or.inl ⟨by kernel_rfl, ?_⟩) hHeld ?_
              · intro w' hSw; go_simp
              try simp only [Act.put, List.setIfInBounds_toArray, List.set_cons_zero, List.set_cons_succ, List.getElem_toArray, List.getElem_cons_zero]
              refine wpAnyH_take (i := 1) (v := .slice (some ⟨g1, 0, none⟩) lr e1) rfl (by kernel_rfl) (by kernel_rfl) (by kernel_rfl) (fun _ _ _ h => h) (Or.inl ⟨by kernel_rfl, ?_⟩) hHeld ?_
              · intro w' hSw; obtain ⟨⟨⟨z0, z1, z2, z3⟩, z4, z5, z6, z7⟩, y1, y2⟩ := hSw; go_simp
              try simp only [Act.put, List.setIfInBounds_toArray, List.set_cons_zero, List.set_cons_succ, List.getElem_toArray, List.getElem_cons_succ, List.getElem_cons_zero]
              refine wpAnyH_take (i := 2) (v := nV W H (.slice (some ⟨b1, o1, none⟩) lr c1) (.slice (some ⟨b2, o2, none⟩) lu c2)) rfl (by kernel_rfl) (by kernel_rfl) (by kernel_rfl) (fun _ _ _ h => h) (Or.inl ⟨by kernel_rfl, ?_⟩) hHeld ?_
              · intro w' hSw; obtain ⟨⟨⟨z0, z1, z2, z3⟩, z4, z5, z6, z7⟩, y1, y2⟩ := hSw; go_simp
              try simp only [Act.put, List.setIfInBounds_toArray, List.set_cons_zero, List.set_cons_succ, List.getElem_toArray, List.getElem_cons_succ, List.getElem_cons_zero]
              refine wpAnyH_take (i := 3) (v := .int .i64 (X : Int)) rfl (by kernel_rfl) (by kernel_rfl) (by kernel_rfl) (fun _ _ _ h => h) (Or.inl ⟨by kernel_rfl, ?_⟩) hHeld ?_
              · intro w' hSw; go_simp
              try simp only [Act.put, List.setIfInBounds_toArray, List.set_cons_zero, List.set_cons_succ, List.getElem_toArray, List.getElem_cons_succ, List.getElem_cons_zero]
              refine wpAnyH_take (i := 4) (v := .int .i64 (Y : Int)) rfl (by kernel_rfl) (by kernel_rfl) (by kernel_rfl) (fun _ _ _ h => h) (Or.inl ⟨by kernel_rfl, ?_⟩) hHeld ?_
              · intro w' hSw; go_simp
              try simp only [Act.put, List.setIfInBounds_toArray, List.set_cons_zero, List.set_cons_succ, List.getElem_toArray, List.getElem_cons_succ, List.getElem_cons_zero]
              refine wpAnyH_take (i := 8) (v := .slice (some ⟨b3, o3, none⟩) lf cf) rfl (by kernel_rfl) (by kernel_rfl) (by kernel_rfl) (fun _ _ _ h => h) (Or.inl ⟨by kernel_rfl, ?_⟩) hHeld ?_
              · intro w' hSw; go_simp
              try simp only [Act.put, List.setIfInBounds_toArray, List.set_cons_zero, List.set_cons_succ, List.getElem_toArray, List.getElem_cons_succ, List.getElem_cons_zero]
              refine wpAnyH_take (i := 9) (v := nV W H (.slice (some ⟨b1, o1, none⟩) lr c1) (.slice (some ⟨b2, o2, none⟩) lu c2)) rfl (by kernel_rfl) (by kernel_rfl) (by kernel_rfl) (fun _ _ _ h => h) (Or.inl ⟨by kernel_rfl, ?_⟩) hHeld ?_
              · intro w' hSw; obtain ⟨⟨⟨z0, z1, z2, z3⟩, z4, z5, z6, z7⟩, y1, y2⟩ := hSw; go_simp
              try simp only [Act.put, List.setIfInBounds_toArray, List.set_cons_zero, List.set_cons_succ, List.getElem_toArray, List.getElem_cons_succ, List.getElem_cons_zero]
              refine wpAnyH_take (i := 10) (v := .int .i64 (X : Int)) rfl (by kernel_rfl) (by kernel_rfl) (by kernel_rfl) (fun _ _ _ h => h) (Or.inl ⟨by kernel_rfl, ?_⟩) hHeld ?_
              · intro w' hSw; go_simp
              try simp only [Act.put, List.setIfInBounds_toArray, List.set_cons_zero, List.set_cons_succ, List.getElem_toArray, List.getElem_cons_succ, List.getElem_cons_zero]
              refine wpAnyH_take (i := 11) (v := .int .i64 ((X : Int) + 1)) rfl (by kernel_rfl) (by kernel_rfl) (by kernel_rfl) (fun _ _ _ h => h) (Or.inl ⟨by kernel_rfl, ?_⟩) hHeld ?_
              · intro w' hSw; go_simp
              try simp only [Act.put, List.setIfInBounds_toArray, List.set_cons_zero, List.set_cons_succ, List.getElem_toArray, List.getElem_cons_succ, List.getElem_cons_zero]
              refine wpAnyH_take (i := 12) (v := .int .i64 (Y : Int)) rfl (by kernel_rfl) (by kernel_rfl) (by kernel_rfl) (fun _ _ _ h => h) (Or.inl ⟨by kernel_rfl, ?_⟩) hHeld ?_
              · intro w' hSw; go_simp
              try simp only [Act.put, List.setIfInBounds_toArray, List.set_cons_zero, List.set_cons_succ, List.getElem_toArray, List.getElem_cons_succ, List.getElem_cons_zero]
              refine wpAnyH_take (i := 16) (v := .slice (some ⟨b3, o3, none⟩) lf cf) rfl (by kernel_rfl) (by kernel_rfl) (by kernel_rfl) (fun _ _ _ h => h) (Or.inl ⟨by kernel_rfl, ?_⟩) hHeld ?_
              · intro w' hSw; go_simp
              try simp only [Act.put, List.setIfInBounds_toArray, List.set_cons_zero, List.set_cons_succ, List.getElem_toArray, List.getElem_cons_succ, List.getElem_cons_zero]
              refine wpAnyH_take (i := 17) (v := .int .i64 (jb : Int)) rfl (by kernel_rfl) (by kernel_rfl) (by kernel_rfl) (fun _ _ _ h => h) (Or.inl ⟨by kernel_rfl, ?_⟩) hHeld ?_
              · intro w' hSw; go_simp
              try simp only [Act.put, List.setIfInBounds_toArray, List.set_cons_zero, List.set_cons_succ, List.getElem_toArray, List.getElem_cons_succ, List.getElem_cons_zero]
              refine wpAnyH_take (i := 18) (v := .pointer (some ⟨b3, o3 + jb, none⟩)) rfl (by kernel_rfl) (by kernel_rfl) (by kernel_rfl) (fun _ _ _ h => h) (Or.inl ⟨by kernel_rfl, ?_⟩) hHeld ?_
              · intro w' hSw; go_simp
              try simp only [Act.put, List.setIfInBounds_toArray, List.set_cons_zero, List.set_cons_succ, List.getElem_toArray, List.getElem_cons_succ, List.getElem_cons_zero]
              refine wpAnyH_take (i := 19) (v := .int .i64 pb) rfl (by kernel_rfl) (by kernel_rfl) (by kernel_rfl) (fun _ _ _ h => h) (Or.inl ⟨by kernel_rfl, ?_⟩) hHeld ?_
              · intro w' hSw; obtain ⟨⟨⟨z0, z1, z2, z3⟩, z4, z5, z6, z7⟩, y1, y2⟩ := hSw; go_simp
              try simp only [Act.put, List.setIfInBounds_toArray, List.set_cons_zero, List.set_cons_succ, List.getElem_toArray, List.getElem_cons_succ, List.getElem_cons_zero]
              refine wpAnyH_ready (rs := [5]) (by kernel_rfl) (by simp) ?_
              refine AllReadyH.cons rfl (fun KK hK' => ?_) AllReadyH.nil
              go_simp
              refine (right_any W H X Y hW ⟨by omega, by omega⟩ ⟨by omega, by omega⟩).mono ?_
              rintro e u1 ⟨rfl, bb⟩
              replace R := R.below bb
              rw [hj0]
              clear bb
              try go_wp2_with fail
              clear hHeld
              refine hK'.out _ _ (⟨two4_mk R.a1 R.a3, fl2_mk hF l3 R.b l1j lb hp1 hpb⟩) (fun hHeld => ?_)
              clear hK' KK
              try simp only [List.setIfInBounds_toArray, List.set_cons_zero, List.set_cons_succ]
              refine wpAnyH_take (i := 6) (v := .pointer (some ⟨g1, j0, none⟩)) rfl (by kernel_rfl) (by kernel_rfl) (by kernel_rfl) (fun _ _ _ h => h) (Or.inl ⟨by kernel_rfl, ?_⟩) hHeld ?_
              · intro w' hSw; go_simp
              try simp only [Act.put, List.setIfInBounds_toArray, List.set_cons_zero, List.set_cons_succ, List.getElem_toArray, List.getElem_cons_succ, List.getElem_cons_zero]
              refine wpAnyH_ready (rs := [7, 13]) (by kernel_rfl) (by simp) ?_
              refine AllReadyH.cons rfl (fun KK hK' => ?_) (AllReadyH.cons rfl (fun KK hK' => ?_) AllReadyH.nil)
              · have cj := R.two.m1.get l0
                rw [hp0] at cj
                go_simp
                clear cj
                clear hHeld
                refine hK'.out _ _ (⟨two4_mk R.a1 R.a3, fl2_mk hF l3 R.b l1j lb hp1 hpb⟩) (fun hHeld => ?_)
                clear hK' KK
                try simp only [List.setIfInBounds_toArray, List.set_cons_zero, List.set_cons_succ]
                refine wpAnyH_ready (rs := [13]) (by kernel_rfl) (by simp) ?_
                refine AllReadyH.cons rfl (fun KK hK' => ?_) AllReadyH.nil
                go_simp
                refine (site_any W H (X + 1) Y hW ⟨by omega, by omega⟩ ⟨by omega, by omega⟩).mono ?_
                rintro e u2 ⟨rfl, bb⟩
                replace R := R.below bb
                rw [hj1]
                clear bb
                try go_wp2_with fail
                clear hHeld
                refine hK'.out _ _ (⟨two4_mk R.a1 R.a3, fl2_mk hF l3 R.b l1j lb hp1 hpb⟩) (fun hHeld => ?_)
                clear hK' KK
                try simp only [List.setIfInBounds_toArray, List.set_cons_zero, List.set_cons_succ]
                refine wpAnyH_take (i := 14) (v := .pointer (some ⟨b3, o3 + j1, none⟩)) rfl (by kernel_rfl) (by kernel_rfl) (by kernel_rfl) (fun _ _ _ h => h) (Or.inl ⟨by kernel_rfl, ?_⟩) hHeld ?_
                · intro w' hSw; go_simp
                try simp only [Act.put, List.setIfInBounds_toArray, List.set_cons_zero, List.set_cons_succ, List.getElem_toArray, List.getElem_cons_succ, List.getElem_cons_zero]
                refine wpAnyH_take (i := 15) (v := .int .i64 p1) rfl (by kernel_rfl) (by kernel_rfl) (by kernel_rfl) (fun _ _ _ h => h) (Or.inl ⟨by kernel_rfl, ?_⟩) hHeld ?_
                · intro w' hSw; obtain ⟨⟨⟨z0, z1, z2, z3⟩, z4, z5, z6, z7⟩, y1, y2⟩ := hSw; go_simp
                try simp only [Act.put, List.setIfInBounds_toArray, List.set_cons_zero, List.set_cons_succ, List.getElem_toArray, List.getElem_cons_succ, List.getElem_cons_zero]
                refine wpAnyH_take (i := 20) (v := .int .i64 (p1 - pb)) rfl (by kernel_rfl) (by kernel_rfl) (by kernel_rfl) (fun _ _ _ h => h) (Or.inl ⟨by kernel_rfl, ?_⟩) hHeld ?_
                · intro w' hSw; go_simp
                try simp only [Act.put, List.setIfInBounds_toArray, List.set_cons_zero, List.set_cons_succ, List.getElem_toArray, List.getElem_cons_succ, List.getElem_cons_zero]
                refine wpAnyH_take (i := 21) (v := .int .i64 (p0 + (p1 - pb))) rfl (by kernel_rfl) (by kernel_rfl) (by kernel_rfl) (fun _ _ _ h => h) (Or.inl ⟨by kernel_rfl, ?_⟩) hHeld ?_
                · intro w' hSw; go_simp
                try simp only [Act.put, List.setIfInBounds_toArray, List.set_cons_zero, List.set_cons_succ, List.getElem_toArray, List.getElem_cons_succ, List.getElem_cons_zero]
                refine wpAnyH_take (i := 22) (v := .pointer (some ⟨g1, j0, none⟩)) rfl (by kernel_rfl) (by kernel_rfl) (by kernel_rfl) (fun _ _ _ h => h) (Or.inl ⟨by kernel_rfl, ?_⟩) hHeld ?_
                · intro w' hSw; go_simp
                try simp only [Act.put, List.setIfInBounds_toArray, List.set_cons_zero, List.set_cons_succ, List.getElem_toArray, List.getElem_cons_succ, List.getElem_cons_zero]
                have cj := R.two.m1.get l0
                rw [hp0] at cj
                have fj := R.two.m1.free j0
                refine wpAnyH_ready (rs := [23]) (by kernel_rfl) (by simp) ?_
                refine AllReadyH.cons rfl (fun KK hK' => ?_) AllReadyH.nil
                go_simp
                replace R := R.set1 l0 (p0 + (p1 - pb))
                obtain ⟨u3, hu3⟩ : ∃ u3, u2.setCell ⟨g1, j0, none⟩ (.int .i64 (p0 + (p1 - pb))) = u3 := ⟨_, rfl⟩
                rw [hu3] at R ⊢
                clear hu3 cj fj
                clear hHeld
                refine hK'.out _ _ (⟨two4_mk R.a1 R.a3, fl2_mk hF l3 R.b l1j lb hp1 hpb⟩) (fun hHeld => ?_)
                clear hK' KK
                try simp only [List.setIfInBounds_toArray, List.set_cons_zero, List.set_cons_succ]
                refine wpAnyH_done (by kernel_rfl) ?_ _
                clear hHeld
                go_wp2_with fail
                go_meet
                case rel => exact R.cong hnR (fun _ _ => rfl)
              · go_simp
                refine (site_any W H (X + 1) Y hW ⟨by omega, by omega⟩ ⟨by omega, by omega⟩).mono ?_
                rintro e u2 ⟨rfl, bb⟩
                replace R := R.below bb
                rw [hj1]
                clear bb
                try go_wp2_with fail
                clear hHeld
                refine hK'.out _ _ (⟨two4_mk R.a1 R.a3, fl2_mk hF l3 R.b l1j lb hp1 hpb⟩) (fun hHeld => ?_)
                clear hK' KK
                try simp only [List.setIfInBounds_toArray, List.set_cons_zero, List.set_cons_succ]
                refine wpAnyH_take (i := 14) (v := .pointer (some ⟨b3, o3 + j1, none⟩)) rfl (by kernel_rfl) (by kernel_rfl) (by kernel_rfl) (fun _ _ _ h => h) (Or.inl ⟨by kernel_rfl, ?_⟩) hHeld ?_
                · intro w' hSw; go_simp
                try simp only [Act.put, List.setIfInBounds_toArray, List.set_cons_zero, List.set_cons_succ, List.getElem_toArray, List.getElem_cons_succ, List.getElem_cons_zero]
                refine wpAnyH_take (i := 15) (v := .int .i64 p1) rfl (by kernel_rfl) (by kernel_rfl) (by kernel_rfl) (fun _ _ _ h => h) (Or.inl ⟨by kernel_rfl, ?_⟩) hHeld ?_
                · intro w' hSw; obtain ⟨⟨⟨z0, z1, z2, z3⟩, z4, z5, z6, z7⟩, y1, y2⟩ := hSw; go_simp
                try simp only [Act.put, List.setIfInBounds_toArray, List.set_cons_zero, List.set_cons_succ, List.getElem_toArray, List.getElem_cons_succ, List.getElem_cons_zero]
                refine wpAnyH_take (i := 20) (v := .int .i64 (p1 - pb)) rfl (by kernel_rfl) (by kernel_rfl) (by kernel_rfl) (fun _ _ _ h => h) (Or.inl ⟨by kernel_rfl, ?_⟩) hHeld ?_
                · intro w' hSw; go_simp
                try simp only [Act.put, List.setIfInBounds_toArray, List.set_cons_zero, List.set_cons_succ, List.getElem_toArray, List.getElem_cons_succ, List.getElem_cons_zero]
                have cj := R.two.m1.get l0
                rw [hp0] at cj
                refine wpAnyH_ready (rs := [7]) (by kernel_rfl) (by simp) ?_
                refine AllReadyH.cons rfl (fun KK hK' => ?_) AllReadyH.nil
                go_simp
                clear cj
                clear hHeld
                refine hK'.out _ _ (⟨two4_mk R.a1 R.a3, fl2_mk hF l3 R.b l1j lb hp1 hpb⟩) (fun hHeld => ?_)
                clear hK' KK
                try simp only [List.setIfInBounds_toArray, List.set_cons_zero, List.set_cons_succ]
                refine wpAnyH_take (i := 21) (v := .int .i64 (p0 + (p1 - pb))) rfl (by kernel_rfl) (by kernel_rfl) (by kernel_rfl) (fun _ _ _ h => h) (Or.inl ⟨by kernel_rfl, ?_⟩) hHeld ?_
                · intro w' hSw; go_simp
                try simp only [Act.put, List.setIfInBounds_toArray, List.set_cons_zero, List.set_cons_succ, List.getElem_toArray, List.getElem_cons_succ, List.getElem_cons_zero]
                refine wpAnyH_take (i := 22) (v := .pointer (some ⟨g1, j0, none⟩)) rfl (by kernel_rfl) (by kernel_rfl) (by kernel_rfl) (fun _ _ _ h => h) (Or.inl ⟨by kernel_rfl, ?_⟩) hHeld ?_
                · intro w' hSw; go_simp
                try simp only [Act.put, List.setIfInBounds_toArray, List.set_cons_zero, List.set_cons_succ, List.getElem_toArray, List.getElem_cons_succ, List.getElem_cons_zero]
                have cj := R.two.m1.get l0
                rw [hp0] at cj
                have fj := R.two.m1.free j0
                refine wpAnyH_ready (rs := [23]) (by kernel_rfl) (by simp) ?_
                refine AllReadyH.cons rfl (fun KK hK' => ?_) AllReadyH.nil
                go_simp
                replace R := R.set1 l0 (p0 + (p1 - pb))
                obtain ⟨u3, hu3⟩ : ∃ u3, u2.setCell ⟨g1, j0, none⟩ (.int .i64 (p0 + (p1 - pb))) = u3 := ⟨_, rfl⟩
                rw [hu3] at R ⊢
                clear hu3 cj fj
                clear hHeld
                refine hK'.out _ _ (⟨two4_mk R.a1 R.a3, fl2_mk hF l3 R.b l1j lb hp1 hpb⟩) (fun hHeld => ?_)
                clear hK' KK
                try simp only [List.setIfInBounds_toArray, List.set_cons_zero, List.set_cons_succ]
                refine wpAnyH_done (by kernel_rfl) ?_ _
                clear hHeld
                go_wp2_with fail
                go_meet
                case rel => exact R.cong hnR (fun _ _ => rfl)
            · go_wp2_with fail
              go_meet
              case rel =>
                have e : stR W F Y X RR = RR := by unfold stR; rw [if_neg (by omega)]
                rw [e]
                exact R
          case rest =>
            clear R c0 c1' c2' c3 lq1 lq3
            have R := hcut
            clear hcut
            have lq1 := R.a1.lt
            have lq3 := R.a3.lt
            obtain ⟨c0, c1', c2', c3, -⟩ := R.a1.open4
            have eR : rowR W F Y (allR W F r Y) (X + 1) = stR W F Y X RR := by rw [← hRR]; rfl
            have eU : rowU W H F Y (allU W H F u Y) (X + 1) = stU W H F Y X UU := by rw [← hUU]; rfl
            by_cases hY1 : (Y : Int) + 1 < H
            · obtain ⟨ju, hju, lbu, -, -⟩ := up_at hok (x := X) (y := Y) (by omega) (by omega)
              have hjj : jb = ju := by omega
              subst hjj
              obtain ⟨j1, hj1, l1j, ej1, p1b⟩ := field_at hW hH hs (x := X) (y := (Y : Int) + 1) (by omega) (by omega)
              have hp := bU jb lbu
              obtain ⟨p0, hp0⟩ : ∃ p, UU jb = p := ⟨_, rfl⟩
              obtain ⟨p1, hp1⟩ : ∃ p, F j1 = p := ⟨_, rfl⟩
              rw [hp1] at p1b ej1
              rw [hp0] at hp
              have hnU : ∀ i, i < lu → (if i = jb then p0 + (p1 - pb) else UU i) = stU W H F Y X UU i := by
                intro i _
                unfold stU
                rw [if_pos hY1]
                show _ = ite _ _ _
                rw [hju, ej1, eb]
                by_cases e : i = jb
                · subst e; rw [if_pos rfl, if_pos rfl, hp0]
                · rw [if_neg e, if_neg (by omega)]
              have w0' : IntKind.i64.wrap ((Y : Int) + 1) = (Y : Int) + 1 := IntWalk.i64_in _ (by omega)
              have w1' : IntKind.i64.wrap (p1 - pb) = p1 - pb := IntWalk.i64_in _ (by omega)
              have w2' : IntKind.i64.wrap (p0 + (p1 - pb)) = p0 + (p1 - pb) := IntWalk.i64_in _ (by omega)
              have l0' : (jb : Int) < lu := by omega
              have l1' : (j1 : Int) < lf := by omega
              have lb' : (jb : Int) < lf := by omega
              go_wp2_with fail
              obtain ⟨u0, hu0, bb⟩ : ∃ u0, wc.drew = u0 ∧ Below wc.heap.size wc u0 := ⟨_, rfl, (Below.refl _ _).drew⟩
              replace R := R.below bb
              clear bb
              refine wp_region_held_drew (S := fun w => Two4 q1 q3 W H (.slice (some ⟨b1, o1, none⟩) lr c1) (.slice (some ⟨b2, o2, none⟩) lu c2) (.slice (some ⟨g1, 0, none⟩) lr e1) (.slice (some ⟨g2, 0, none⟩) lu e2) w ∧ Fl2 b3 o3 j1 jb p1 pb w) (by kernel_rfl) (by rw [hu0]; exact ⟨two4_mk R.a1 R.a3, fl2_mk hF l3 R.b l1j lb hp1 hpb⟩) (fun hHeld => ?_)
              rw [hu0] at hHeld ⊢
              clear hu0
              change wpAnyH _ _ _ _ _ 21 #[false, false, false, false, false, false, false, false, false, false, false, false, false, false, false, false, false, false, false, false, false] _ _
              refine wpAnyH_take (i := 0) (v := .pointer (some ⟨q3, 3, none⟩)) rfl (by kernel_rfl) (by kernel_rfl) (by kernel_rfl) (fun _ _ _ h => h) (Or.inl ⟨by kernel_rfl, ?_⟩) hHeld ?_
              · intro w' hSw; go_simp
              try simp only [Act.put, List.setIfInBounds_toArray, List.set_cons_zero, List.set_cons_succ, List.getElem_toArray, List.getElem_cons_zero]
              refine wpAnyH_take (i := 1) (v := .slice (some ⟨g2, 0, none⟩) lu e2) rfl (by kernel_rfl) (by kernel_rfl) (by kernel_rfl) (fun _ _ _ h => h) (Or.inl ⟨by kernel_rfl, ?_⟩) hHeld ?_
              · intro w' hSw; obtain ⟨⟨⟨z0, z1, z2, z3⟩, z4, z5, z6, z7⟩, y1, y2⟩ := hSw; go_simp
              try simp only [Act.put, List.setIfInBounds_toArray, List.set_cons_zero, List.set_cons_succ, List.getElem_toArray, List.getElem_cons_succ, List.getElem_cons_zero]
              refine wpAnyH_take (i := 2) (v := .int .i64 (jb : Int)) rfl (by kernel_rfl) (by kernel_rfl) (by kernel_rfl) (fun _ _ _ h => h) (Or.inl ⟨by kernel_rfl, ?_⟩) hHeld ?_
              · intro w' hSw; go_simp
              try simp only [Act.put, List.setIfInBounds_toArray, List.set_cons_zero, List.set_cons_succ, List.getElem_toArray, List.getElem_cons_succ, List.getElem_cons_zero]
              refine wpAnyH_take (i := 3) (v := .pointer (some ⟨g2, jb, none⟩)) rfl (by kernel_rfl) (by kernel_rfl) (by kernel_rfl) (fun _ _ _ h => h) (Or.inl ⟨by kernel_rfl, ?_⟩) hHeld ?_
              · intro w' hSw; go_simp
              try simp only [Act.put, List.setIfInBounds_toArray, List.set_cons_zero, List.set_cons_succ, List.getElem_toArray, List.getElem_cons_succ, List.getElem_cons_zero]
              refine wpAnyH_take (i := 5) (v := .slice (some ⟨b3, o3, none⟩) lf cf) rfl (by kernel_rfl) (by kernel_rfl) (by kernel_rfl) (fun _ _ _ h => h) (Or.inl ⟨by kernel_rfl, ?_⟩) hHeld ?_
              · intro w' hSw; go_simp
              try simp only [Act.put, List.setIfInBounds_toArray, List.set_cons_zero, List.set_cons_succ, List.getElem_toArray, List.getElem_cons_succ, List.getElem_cons_zero]
              refine wpAnyH_take (i := 6) (v := nV W H (.slice (some ⟨b1, o1, none⟩) lr c1) (.slice (some ⟨b2, o2, none⟩) lu c2)) rfl (by kernel_rfl) (by kernel_rfl) (by kernel_rfl) (fun _ _ _ h => h) (Or.inl ⟨by kernel_rfl, ?_⟩) hHeld ?_
              · intro w' hSw; obtain ⟨⟨⟨z0, z1, z2, z3⟩, z4, z5, z6, z7⟩, y1, y2⟩ := hSw; go_simp
              try simp only [Act.put, List.setIfInBounds_toArray, List.set_cons_zero, List.set_cons_succ, List.getElem_toArray, List.getElem_cons_succ, List.getElem_cons_zero]
              refine wpAnyH_take (i := 7) (v := .int .i64 (X : Int)) rfl (by kernel_rfl) (by kernel_rfl) (by kernel_rfl) (fun _ _ _ h => h) (Or.inl ⟨by kernel_rfl, ?_⟩) hHeld ?_
              · intro w' hSw; go_simp
              try simp only [Act.put, List.setIfInBounds_toArray, List.set_cons_zero, List.set_cons_succ, List.getElem_toArray, List.getElem_cons_succ, List.getElem_cons_zero]
              refine wpAnyH_take (i := 8) (v := .int .i64 (Y : Int)) rfl (by kernel_rfl) (by kernel_rfl) (by kernel_rfl) (fun _ _ _ h => h) (Or.inl ⟨by kernel_rfl, ?_⟩) hHeld ?_
              · intro w' hSw; go_simp
              try simp only [Act.put, List.setIfInBounds_toArray, List.set_cons_zero, List.set_cons_succ, List.getElem_toArray, List.getElem_cons_succ, List.getElem_cons_zero]
              refine wpAnyH_take (i := 9) (v := .int .i64 ((Y : Int) + 1)) rfl (by kernel_rfl) (by kernel_rfl) (by kernel_rfl) (fun _ _ _ h => h) (Or.inl ⟨by kernel_rfl, ?_⟩) hHeld ?_
              · intro w' hSw; go_simp
              try simp only [Act.put, List.setIfInBounds_toArray, List.set_cons_zero, List.set_cons_succ, List.getElem_toArray, List.getElem_cons_succ, List.getElem_cons_zero]
              refine wpAnyH_take (i := 13) (v := .slice (some ⟨b3, o3, none⟩) lf cf) rfl (by kernel_rfl) (by kernel_rfl) (by kernel_rfl) (fun _ _ _ h => h) (Or.inl ⟨by kernel_rfl, ?_⟩) hHeld ?_
              · intro w' hSw; go_simp
              try simp only [Act.put, List.setIfInBounds_toArray, List.set_cons_zero, List.set_cons_succ, List.getElem_toArray, List.getElem_cons_succ, List.getElem_cons_zero]
              refine wpAnyH_take (i := 14) (v := .int .i64 (jb : Int)) rfl (by kernel_rfl) (by kernel_rfl) (by kernel_rfl) (fun _ _ _ h => h) (Or.inl ⟨by kernel_rfl, ?_⟩) hHeld ?_
              · intro w' hSw; go_simp
              try simp only [Act.put, List.setIfInBounds_toArray, List.set_cons_zero, List.set_cons_succ, List.getElem_toArray, List.getElem_cons_succ, List.getElem_cons_zero]
              refine wpAnyH_take (i := 15) (v := .pointer (some ⟨b3, o3 + jb, none⟩)) rfl (by kernel_rfl) (by kernel_rfl) (by kernel_rfl) (fun _ _ _ h => h) (Or.inl ⟨by kernel_rfl, ?_⟩) hHeld ?_
              · intro w' hSw; go_simp
              try simp only [Act.put, List.setIfInBounds_toArray, List.set_cons_zero, List.set_cons_succ, List.getElem_toArray, List.getElem_cons_succ, List.getElem_cons_zero]
              refine wpAnyH_take (i := 16) (v := .int .i64 pb) rfl (by kernel_rfl) (by kernel_rfl) (by kernel_rfl) (fun _ _ _ h => h) (Or.inl ⟨by kernel_rfl, ?_⟩) hHeld ?_
              · intro w' hSw; obtain ⟨⟨⟨z0, z1, z2, z3⟩, z4, z5, z6, z7⟩, y1, y2⟩ := hSw; go_simp
              try simp only [Act.put, List.setIfInBounds_toArray, List.set_cons_zero, List.set_cons_succ, List.getElem_toArray, List.getElem_cons_succ, List.getElem_cons_zero]
              refine wpAnyH_ready (rs := [4, 10]) (by kernel_rfl) (by simp) ?_
              refine AllReadyH.cons rfl (fun KK hK' => ?_) (AllReadyH.cons rfl (fun KK hK' => ?_) AllReadyH.nil)
              · have cj := R.two.m2.get lbu
                rw [hp0] at cj
                go_simp
                clear cj
                clear hHeld
                refine hK'.out _ _ (⟨two4_mk R.a1 R.a3, fl2_mk hF l3 R.b l1j lb hp1 hpb⟩) (fun hHeld => ?_)
                clear hK' KK
                try simp only [List.setIfInBounds_toArray, List.set_cons_zero, List.set_cons_succ]
                refine wpAnyH_ready (rs := [10]) (by kernel_rfl) (by simp) ?_
                refine AllReadyH.cons rfl (fun KK hK' => ?_) AllReadyH.nil
                go_simp
                refine (site_any W H X (Y + 1) hW ⟨by omega, by omega⟩ ⟨by omega, by omega⟩).mono ?_
                rintro e u2 ⟨rfl, bb⟩
                replace R := R.below bb
                rw [hj1]
                clear bb
                try go_wp2_with fail
                clear hHeld
                refine hK'.out _ _ (⟨two4_mk R.a1 R.a3, fl2_mk hF l3 R.b l1j lb hp1 hpb⟩) (fun hHeld => ?_)
                clear hK' KK
                try simp only [List.setIfInBounds_toArray, List.set_cons_zero, List.set_cons_succ]
                refine wpAnyH_take (i := 11) (v := .pointer (some ⟨b3, o3 + j1, none⟩)) rfl (by kernel_rfl) (by kernel_rfl) (by kernel_rfl) (fun _ _ _ h => h) (Or.inl ⟨by kernel_rfl, ?_⟩) hHeld ?_
                · intro w' hSw; go_simp
                try simp only [Act.put, List.setIfInBounds_toArray, List.set_cons_zero, List.set_cons_succ, List.getElem_toArray, List.getElem_cons_succ, List.getElem_cons_zero]
                refine wpAnyH_take (i := 12) (v := .int .i64 p1) rfl (by kernel_rfl) (by kernel_rfl) (by kernel_rfl) (fun _ _ _ h => h) (Or.inl ⟨by kernel_rfl, ?_⟩) hHeld ?_
                · intro w' hSw; obtain ⟨⟨⟨z0, z1, z2, z3⟩, z4, z5, z6, z7⟩, y1, y2⟩ := hSw; go_simp
                try simp only [Act.put, List.setIfInBounds_toArray, List.set_cons_zero, List.set_cons_succ, List.getElem_toArray, List.getElem_cons_succ, List.getElem_cons_zero]
                refine wpAnyH_take (i := 17) (v := .int .i64 (p1 - pb)) rfl (by kernel_rfl) (by kernel_rfl) (by kernel_rfl) (fun _ _ _ h => h) (Or.inl ⟨by kernel_rfl, ?_⟩) hHeld ?_
                · intro w' hSw; go_simp
                try simp only [Act.put, List.setIfInBounds_toArray, List.set_cons_zero, List.set_cons_succ, List.getElem_toArray, List.getElem_cons_succ, List.getElem_cons_zero]
                refine wpAnyH_take (i := 18) (v := .int .i64 (p0 + (p1 - pb))) rfl (by kernel_rfl) (by kernel_rfl) (by kernel_rfl) (fun _ _ _ h => h) (Or.inl ⟨by kernel_rfl, ?_⟩) hHeld ?_
                · intro w' hSw; go_simp
                try simp only [Act.put, List.setIfInBounds_toArray, List.set_cons_zero, List.set_cons_succ, List.getElem_toArray, List.getElem_cons_succ, List.getElem_cons_zero]
                refine wpAnyH_take (i := 19) (v := .pointer (some ⟨g2, jb, none⟩)) rfl (by kernel_rfl) (by kernel_rfl) (by kernel_rfl) (fun _ _ _ h => h) (Or.inl ⟨by kernel_rfl, ?_⟩) hHeld ?_
                · intro w' hSw; go_simp
                try simp only [Act.put, List.setIfInBounds_toArray, List.set_cons_zero, List.set_cons_succ, List.getElem_toArray, List.getElem_cons_succ, List.getElem_cons_zero]
                have cj := R.two.m2.get lbu
                rw [hp0] at cj
                have fj := R.two.m2.free jb
                refine wpAnyH_ready (rs := [20]) (by kernel_rfl) (by simp) ?_
                refine AllReadyH.cons rfl (fun KK hK' => ?_) AllReadyH.nil
                go_simp
                replace R := R.set2 lbu (p0 + (p1 - pb))
                obtain ⟨u3, hu3⟩ : ∃ u3, u2.setCell ⟨g2, jb, none⟩ (.int .i64 (p0 + (p1 - pb))) = u3 := ⟨_, rfl⟩
                rw [hu3] at R ⊢
                clear hu3 cj fj
                clear hHeld
                refine hK'.out _ _ (⟨two4_mk R.a1 R.a3, fl2_mk hF l3 R.b l1j lb hp1 hpb⟩) (fun hHeld => ?_)
                clear hK' KK
                try simp only [List.setIfInBounds_toArray, List.set_cons_zero, List.set_cons_succ]
                refine wpAnyH_done (by kernel_rfl) ?_ _
                clear hHeld
                go_wp2
                refine ⟨⟨X + 1, by omega, by go_num, ?_⟩, by simp [intOf]; omega⟩
                rw [eR, eU]
                exact R.cong (fun _ _ => rfl) hnU
              · go_simp
                refine (site_any W H X (Y + 1) hW ⟨by omega, by omega⟩ ⟨by omega, by omega⟩).mono ?_
                rintro e u2 ⟨rfl, bb⟩
                replace R := R.below bb
                rw [hj1]
                clear bb
                try go_wp2_with fail
                clear hHeld
                refine hK'.out _ _ (⟨two4_mk R.a1 R.a3, fl2_mk hF l3 R.b l1j lb hp1 hpb⟩) (fun hHeld => ?_)
                clear hK' KK
                try simp only [List.setIfInBounds_toArray, List.set_cons_zero, List.set_cons_succ]
                refine wpAnyH_take (i := 11) (v := .pointer (some ⟨b3, o3 + j1, none⟩)) rfl (by kernel_rfl) (by kernel_rfl) (by kernel_rfl) (fun _ _ _ h => h) (Or.inl ⟨by kernel_rfl, ?_⟩) hHeld ?_
                · intro w' hSw; go_simp
                try simp only [Act.put, List.setIfInBounds_toArray, List.set_cons_zero, List.set_cons_succ, List.getElem_toArray, List.getElem_cons_succ, List.getElem_cons_zero]
                refine wpAnyH_take (i := 12) (v := .int .i64 p1) rfl (by kernel_rfl) (by kernel_rfl) (by kernel_rfl) (fun _ _ _ h => h) (Or.inl ⟨by kernel_rfl, ?_⟩) hHeld ?_
                · intro w' hSw; obtain ⟨⟨⟨z0, z1, z2, z3⟩, z4, z5, z6, z7⟩, y1, y2⟩ := hSw; go_simp
                try simp only [Act.put, List.setIfInBounds_toArray, List.set_cons_zero, List.set_cons_succ, List.getElem_toArray, List.getElem_cons_succ, List.getElem_cons_zero]
                refine wpAnyH_take (i := 17) (v := .int .i64 (p1 - pb)) rfl (by kernel_rfl) (by kernel_rfl) (by kernel_rfl) (fun _ _ _ h => h) (Or.inl ⟨by kernel_rfl, ?_⟩) hHeld ?_
                · intro w' hSw; go_simp
                try simp only [Act.put, List.setIfInBounds_toArray, List.set_cons_zero, List.set_cons_succ, List.getElem_toArray, List.getElem_cons_succ, List.getElem_cons_zero]
                have cj := R.two.m2.get lbu
                rw [hp0] at cj
                refine wpAnyH_ready (rs := [4]) (by kernel_rfl) (by simp) ?_
                refine AllReadyH.cons rfl (fun KK hK' => ?_) AllReadyH.nil
                go_simp
                clear cj
                clear hHeld
                refine hK'.out _ _ (⟨two4_mk R.a1 R.a3, fl2_mk hF l3 R.b l1j lb hp1 hpb⟩) (fun hHeld => ?_)
                clear hK' KK
                try simp only [List.setIfInBounds_toArray, List.set_cons_zero, List.set_cons_succ]
                refine wpAnyH_take (i := 18) (v := .int .i64 (p0 + (p1 - pb))) rfl (by kernel_rfl) (by kernel_rfl) (by kernel_rfl) (fun _ _ _ h => h) (Or.inl ⟨by kernel_rfl, ?_⟩) hHeld ?_
                · intro w' hSw; go_simp
                try simp only [Act.put, List.setIfInBounds_toArray, List.set_cons_zero, List.set_cons_succ, List.getElem_toArray, List.getElem_cons_succ, List.getElem_cons_zero]
                refine wpAnyH_take (i := 19) (v := .pointer (some ⟨g2, jb, none⟩)) rfl (by kernel_rfl) (by kernel_rfl) (by kernel_rfl) (fun _ _ _ h => h) (Or.inl ⟨by kernel_rfl, ?_⟩) hHeld ?_
                · intro w' hSw; go_simp
                try simp only [Act.put, List.setIfInBounds_toArray, List.set_cons_zero, List.set_cons_succ, List.getElem_toArray, List.getElem_cons_succ, List.getElem_cons_zero]
                have cj := R.two.m2.get lbu
                rw [hp0] at cj
                have fj := R.two.m2.free jb
                refine wpAnyH_ready (rs := [20]) (by kernel_rfl) (by simp) ?_
                refine AllReadyH.cons rfl (fun KK hK' => ?_) AllReadyH.nil
                go_simp
                replace R := R.set2 lbu (p0 + (p1 - pb))
                obtain ⟨u3, hu3⟩ : ∃ u3, u2.setCell ⟨g2, jb, none⟩ (.int .i64 (p0 + (p1 - pb))) = u3 := ⟨_, rfl⟩
                rw [hu3] at R ⊢
                clear hu3 cj fj
                clear hHeld
                refine hK'.out _ _ (⟨two4_mk R.a1 R.a3, fl2_mk hF l3 R.b l1j lb hp1 hpb⟩) (fun hHeld => ?_)
                clear hK' KK
                try simp only [List.setIfInBounds_toArray, List.set_cons_zero, List.set_cons_succ]
                refine wpAnyH_done (by kernel_rfl) ?_ _
                clear hHeld
                go_wp2
                refine ⟨⟨X + 1, by omega, by go_num, ?_⟩, by simp [intOf]; omega⟩
                rw [eR, eU]
                exact R.cong (fun _ _ => rfl) hnU
            · go_wp2
              refine ⟨⟨X + 1, by omega, by go_num, ?_⟩, by simp [intOf]; omega⟩
              have e : stU W H F Y X UU = UU := by unfold stU; rw [if_neg (by omega)]
              rw [eR, eU, e]
              exact R
        · have hXW : X = W.toNat := by omega
          go_wp2
          refine ⟨⟨Y + 1, by omega, by go_num, ?_⟩, by simp [intOf]; omega⟩
          rw [show allR W F r (Y + 1) = rowR W F Y (allR W F r Y) X by rw [hXW]; rfl, show allU W H F u (Y + 1) = rowU W H F Y (allU W H F u Y) X by rw [hXW]; rfl]
          exact R
    · have hYH : Y = H.toNat := by omega
      have lq3 := R.a3.lt
      obtain ⟨d0, d1, d2, d3, -⟩ := R.a3.open4
      go_wp2_with fail
      refine (told_any W H (.inr ⟨_, _, rfl, Nat.lt_trans R.o4 lq3, R.two.m1.ints⟩) (.inr ⟨_, _, rfl, Nat.lt_trans R.o5 lq3, R.two.m2.ints⟩) hlr hlu).mono ?_
      rintro e w6 ⟨rfl, b6⟩
      replace R := R.below b6
      clear c0 c1' c2' c3 d0 d1 d2 d3 b6
      obtain ⟨d0, d1, d2, d3, f0, f1, f2, f3⟩ := R.a2.open4
      rcases hK : netOk W H lr (allR W F r Y) lu (allU W H F u Y) with _ | _
      · go_wp2_with fail
        obtain ⟨A8, B8, -⟩ := R.fin (.int .i64 0) (.int .i64 0) (.slice none 0 0) (.slice none 0 0)
        obtain ⟨r0, r1, r2, r3, -⟩ := A8.open4
        refine bodyPost_ret (v := .tuple #[nV 0 0 (.slice none 0 0) (.slice none 0 0), .bool false]) (by simp [results, Try.results26, go_sem, r0, r1, r2, r3]) rfl ⟨_, _, rfl, ?_, B8⟩
        rw [← hYH]
        exact ⟨hK, .inr ⟨rfl, rfl⟩⟩
      · go_wp2_with fail
        obtain ⟨A8, B8, N8⟩ := R.fin (.int .i64 W) (.int .i64 H) (.slice (some ⟨g1, 0, none⟩) lr e1) (.slice (some ⟨g2, 0, none⟩) lu e2)
        obtain ⟨r0, r1, r2, r3, -⟩ := A8.open4
        refine bodyPost_ret (v := .tuple #[nV W H (.slice (some ⟨g1, 0, none⟩) lr e1) (.slice (some ⟨g2, 0, none⟩) lu e2), .bool true]) (by simp [results, Try.results26, go_sem, r0, r1, r2, r3]) rfl ⟨_, _, rfl, ?_, B8⟩
        rw [← hYH]
        exact ⟨hK, .inl ⟨rfl, N8⟩⟩
end Go.Proofs.Ytlmgdcoknpakcaa
