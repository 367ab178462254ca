/-
  Slip by the program and by the specification, walked.
-/
import Derived.Test.YtlmgdcoknpakcaaNk
import Derived.Test.YtlmgdcoknpakcaaNc
namespace Go.Proofs.Ytlmgdcoknpakcaa
open Go.RowKit

/-- What stands in the rounds of a slip: the net that came, the answer's box, the copy and its lists. -/
structure SlW (w0 w : World) (q1 q2 q3 : Nat) (p1 p2 : Array Value) (W H : Int) (g1 e1 lr : Nat) (f : Nat → Int) (g2 e2 lu : Nat) (h : Nat → Int) : Prop where
  a1 : At 32 w q1 p1
  a2 : At 32 w q2 p2
  a3 : At 32 w q3 #[.int .i64 W, .int .i64 H, .slice (some ⟨g1, 0, none⟩) lr e1, .slice (some ⟨g2, 0, none⟩) lu e2]
  two : Two w0.heap.size w g1 e1 lr f g2 e2 lu h
  b : Below w0.heap.size w0 w
  o1 : q1 < q2
  o2 : q2 < g1
  o3 : q2 < g2
  o4 : g1 < q3
  o5 : g2 < q3
  o6 : w0.heap.size = q1
theorem SlW.below {w0 w w' : World} {q1 q2 q3 : Nat} {p1 p2 : Array Value} {W H : Int} {g1 e1 lr : Nat} {f : Nat → Int} {g2 e2 lu : Nat} {h : Nat → Int} (s : SlW w0 w q1 q2 q3 p1 p2 W H g1 e1 lr f g2 e2 lu h) (hb : Below w.heap.size w w') : SlW w0 w' q1 q2 q3 p1 p2 W H g1 e1 lr f g2 e2 lu h :=
  ⟨s.a1.below hb, s.a2.below hb, s.a3.below hb, ⟨s.two.ne, s.two.lo1, s.two.lo2, s.two.c1, s.two.c2, s.two.m1.bel hb, s.two.m2.bel hb⟩, s.b.trans (hb.mono s.b.size), s.o1, s.o2, s.o3, s.o4, s.o5, s.o6⟩
theorem SlW.set1 {w0 w : World} {q1 q2 q3 : Nat} {p1 p2 : Array Value} {W H : Int} {g1 e1 lr : Nat} {f : Nat → Int} {g2 e2 lu : Nat} {h : Nat → Int} (s : SlW w0 w q1 q2 q3 p1 p2 W H g1 e1 lr f g2 e2 lu h) {j : Nat} (hj : j < lr) (x : Int) : SlW w0 (w.setCell ⟨g1, j, none⟩ (.int .i64 x)) q1 q2 q3 p1 p2 W H g1 e1 lr (fun i => if i = j then x else f i) g2 e2 lu h := by
  have h1 := s.o1; have h2 := s.o2; have h3 := s.o3; have h4 := s.o4; have h5 := s.o5; have h6 := s.o6; have h7 := s.two.ne
  exact ⟨s.a1.setOther (by omega) _, s.a2.setOther (by omega) _, s.a3.setOther (by omega) _, ⟨s.two.ne, s.two.lo1, s.two.lo2, s.two.c1, s.two.c2, s.two.m1.upd s.two.c1 x hj, s.two.m2.setOther (by omega) _⟩, s.b.setCell (by simp; omega) _, h1, h2, h3, h4, h5, h6⟩
theorem SlW.set2 {w0 w : World} {q1 q2 q3 : Nat} {p1 p2 : Array Value} {W H : Int} {g1 e1 lr : Nat} {f : Nat → Int} {g2 e2 lu : Nat} {h : Nat → Int} (s : SlW w0 w q1 q2 q3 p1 p2 W H g1 e1 lr f g2 e2 lu h) {j : Nat} (hj : j < lu) (x : Int) : SlW w0 (w.setCell ⟨g2, j, none⟩ (.int .i64 x)) q1 q2 q3 p1 p2 W H g1 e1 lr f g2 e2 lu (fun i => if i = j then x else h i) := by
  have h1 := s.o1; have h2 := s.o2; have h3 := s.o3; have h4 := s.o4; have h5 := s.o5; have h6 := s.o6; have h7 := s.two.ne
  exact ⟨s.a1.setOther (by omega) _, s.a2.setOther (by omega) _, s.a3.setOther (by omega) _, ⟨s.two.ne, s.two.lo1, s.two.lo2, s.two.c1, s.two.c2, s.two.m1.setOther (by omega) _, s.two.m2.upd s.two.c2 x hj⟩, s.b.setCell (by simp; omega) _, h1, h2, h3, h4, h5, h6⟩
theorem Made.ints {w : World} {g c n : Nat} {f : Nat → Int} (h : Made w g c n f) : Ints w g 0 n f := by
  intro i hi
  rw [Nat.zero_add]
  exact h.get hi
theorem SlW.cong {w0 w : World} {q1 q2 q3 : Nat} {p1 p2 : Array Value} {W H : Int} {g1 e1 lr : Nat} {f f' : Nat → Int} {g2 e2 lu : Nat} {h h' : Nat → Int} (s : SlW w0 w q1 q2 q3 p1 p2 W H g1 e1 lr f g2 e2 lu h) (e1' : ∀ i, i < lr → f i = f' i) (e2' : ∀ i, i < lu → h i = h' i) : SlW w0 w q1 q2 q3 p1 p2 W H g1 e1 lr f' g2 e2 lu h' :=
  ⟨s.a1, s.a2, s.a3, ⟨s.two.ne, s.two.lo1, s.two.lo2, s.two.c1, s.two.c2, s.two.m1.cong e1', s.two.m2.cong e2'⟩, s.b, s.o1, s.o2, s.o3, s.o4, s.o5, s.o6⟩
/-- What is told of a net that was made: it, or nothing where it is not right. -/
def NetT (w : World) (lo : Nat) (v : Value) (k : Bool) (W H : Int) (lr : Nat) (r : Nat → Int) (lu : Nat) (u : Nat → Int) : Prop :=
  netOk W H lr r lu u = k ∧ ((k = true ∧ NetAt w lo w.heap.size v W H lr r lu u) ∨ (k = false ∧ v = nV 0 0 (.slice none 0 0) (.slice none 0 0)))
/-- A box of four is filled. -/
abbrev put4 (w : World) (q : Nat) (v0 v1 v2 v3 : Value) : World := (((w.setCell ⟨q, 0, none⟩ v0).setCell ⟨q, 1, none⟩ v1).setCell ⟨q, 2, none⟩ v2).setCell ⟨q, 3, none⟩ v3
theorem SlW.fin {w0 w : World} {q1 q2 q3 : Nat} {p1 : Array Value} {u0 u1 u2 u3 : Value} {W H : Int} {g1 e1 lr : Nat} {f : Nat → Int} {g2 e2 lu : Nat} {h : Nat → Int} (s : SlW w0 w q1 q2 q3 p1 #[u0, u1, u2, u3] W H g1 e1 lr f g2 e2 lu h) (v0 v1 v2 v3 : Value) :
    At 32 (put4 w q2 v0 v1 v2 v3) q2 #[v0, v1, v2, v3] ∧ Below w0.heap.size w0 (put4 w q2 v0 v1 v2 v3) ∧ NetAt (put4 w q2 v0 v1 v2 v3) w0.heap.size (put4 w q2 v0 v1 v2 v3).heap.size (nV W H (.slice (some ⟨g1, 0, none⟩) lr e1) (.slice (some ⟨g2, 0, none⟩) lu e2)) W H lr f lu h := by
  have h1 := s.o1; have h2 := s.o2; have h3 := s.o3; have h6 := s.o6; have h7 := s.two.ne
  have m1 : Made (put4 w q2 v0 v1 v2 v3) g1 e1 lr f := (((s.two.m1.setOther (by omega) _).setOther (by omega) _).setOther (by omega) _).setOther (by omega) _
  have m2 : Made (put4 w q2 v0 v1 v2 v3) g2 e2 lu h := (((s.two.m2.setOther (by omega) _).setOther (by omega) _).setOther (by omega) _).setOther (by omega) _
  refine ⟨put4_at s.a2 v0 v1 v2 v3, below_put4 s.b (by omega) _ _ _ _, _, _, rfl, arr_of_made m1 s.two.c1 s.two.lo1, arr_of_made m2 s.two.c2 s.two.lo2, ?_⟩
  intro x e1 e2
  simp only [Value.ownBlock, Option.some.injEq] at e1 e2
  omega
set_option maxRecDepth 100000 in
set_option maxHeartbeats 3200000 in
theorem implSlip_yes {w : World} {b1 o1 b2 o2 lr lu c1 c2 : Nat} {r u : Nat → Int} (W H x y b : Int) (i1 : Ints w b1 o1 lr r) (i2 : Ints w b2 o2 lu u) (l1 : b1 < w.heap.size) (l2 : b2 < w.heap.size) (hlr : lr ≤ 1048576) (hlu : lu ≤ 1048576) (hok : netOk W H lr r lu u = true) (hs : sq W H x y = true) (hb : -2000000 ≤ b ∧ b ≤ 2000000) :
    Calls Try.prog 23 #[nV W H (.slice (some ⟨b1, o1, none⟩) lr c1) (.slice (some ⟨b2, o2, none⟩) lu c2), .int .i64 x, .int .i64 y, .int .i64 b] w fun e w' => ∃ v k, e = .returned (.tuple #[v, .bool k]) ∧ NetT w' w.heap.size v k W H lr (slF W x y b r (H - 1 - y).toNat) lu u ∧ Below w.heap.size w w' := by
  obtain ⟨V, hV, A1, B1, -⟩ := boxed w 32 #[.int .i64 W, .int .i64 H, .slice (some ⟨b1, o1, none⟩) lr c1, .slice (some ⟨b2, o2, none⟩) lu c2]
  obtain ⟨V2, hV2, A2, B2, -⟩ := boxed V 32 #[.int .i64 0, .int .i64 0, .slice none 0 0, .slice none 0 0]
  have s1 := A1.lt
  have s2 := A2.lt
  replace A1 := A1.below B2
  replace B1 := B1.trans (B2.mono B1.size)
  replace i1 := i1.below l1 B1
  replace i2 := i2.below l2 B1
  replace l1 := Nat.lt_of_lt_of_le l1 B1.size
  replace l2 := Nat.lt_of_lt_of_le l2 B1.size
  obtain ⟨c0, c1', c2', c3, -⟩ := A1.open4
  obtain ⟨hW, hH, ⟨-, hr1⟩, -⟩ := netOk_of_true hok
  have db : decide (-2000000 ≤ b ∧ b ≤ 2000000) = true := decide_eq_true hb
  go_enter Try.func23, Try.ntmps23
  go_wp2_with fail
  refine (implNetOk_any W H (.inr ⟨_, _, rfl, l1, i1⟩) (.inr ⟨_, _, rfl, l2, i2⟩) hlr hlu).mono ?_
  rintro e w1 ⟨rfl, b1'⟩
  rw [hok]
  clear c0 c1' c2' c3
  replace A1 := A1.below b1'
  replace A2 := A2.below b1'
  replace i1 := i1.below l1 b1'
  replace i2 := i2.below l2 b1'
  replace l1 := Nat.lt_of_lt_of_le l1 b1'.size
  replace l2 := Nat.lt_of_lt_of_le l2 b1'.size
  replace B1 := B1.trans (b1'.mono B1.size)
  obtain ⟨c0, c1', c2', c3, -⟩ := A1.open4
  clear b1' hV hV2
  go_wp2_with fail
  refine (hasSquare_any W H x y hW hH).mono ?_
  rintro e w2 ⟨rfl, b2'⟩
  rw [hs]
  clear c0 c1' c2' c3
  replace A1 := A1.below b2'
  replace A2 := A2.below b2'
  replace i1 := i1.below l1 b2'
  replace i2 := i2.below l2 b2'
  replace l1 := Nat.lt_of_lt_of_le l1 b2'.size
  replace l2 := Nat.lt_of_lt_of_le l2 b2'.size
  replace B1 := B1.trans (b2'.mono B1.size)
  obtain ⟨c0, c1', c2', c3, -⟩ := A1.open4
  clear b2'
  go_wp2_with fail
  refine (within_any b 2000000 _ (by decide) (by decide)).mono ?_
  rintro e w3 ⟨rfl, rfl⟩
  rw [db]
  go_wp2_with fail
  have z1 := A2.lt
  refine (copied_any W H _ _ i1 i2 l1 l2 hlr hlu).mono ?_
  rintro e w4 ⟨g1, e1, g2, e2, rfl, T, b4⟩
  clear c0 c1' c2' c3
  replace A1 := A1.below b4
  replace A2 := A2.below b4
  replace B1 := B1.trans (b4.mono B1.size)
  have z2 := A2.lt
  have z3 := b4.size
  clear b4
  obtain ⟨q1, hq1⟩ : ∃ q, w.heap.size = q := ⟨_, rfl⟩
  obtain ⟨q2, hq2⟩ : ∃ q, V.heap.size = q := ⟨_, rfl⟩
  obtain ⟨q3, hq3⟩ : ∃ q, w4.heap.size = q := ⟨_, rfl⟩
  obtain ⟨V5, hV5, A3, b5, -⟩ := boxed w4 32 #[.int .i64 W, .int .i64 H, .slice (some ⟨g1, 0, none⟩) lr e1, .slice (some ⟨g2, 0, none⟩) lu e2]
  have R0 : SlW w V5 q1 q2 q3 #[.int .i64 W, .int .i64 H, .slice (some ⟨b1, o1, none⟩) lr c1, .slice (some ⟨b2, o2, none⟩) lu c2] #[.int .i64 0, .int .i64 0, .slice none 0 0, .slice none 0 0] W H g1 e1 lr (slF W x y b r 0) g2 e2 lu u := by
    have k1 := T.m1.lt
    have k2 := T.m2.lt
    have k3 := T.lo1
    have k4 := T.lo2
    exact ⟨hq1 ▸ A1.below b5, hq2 ▸ A2.below b5, hq3 ▸ A3, ⟨T.ne, by omega, by omega, T.c1, T.c2, T.m1.bel b5, T.m2.bel b5⟩, B1.trans (b5.mono B1.size), by omega, by omega, by omega, by omega, by omega, hq1⟩
  have hsb := hs
  simp only [sq, Bool.and_eq_true, decide_eq_true_eq] at hsb
  obtain ⟨⟨hx0, hx1⟩, hy0, hy1⟩ := hsb
  clear A1 A2 A3 T B1 b5 z1 z2 z3
  go_wp2_with fail
  clear hV5
  go_loopw [11] (fun s wr => ∃ k : Nat, y + 1 + k ≤ H ∧ s = .int .i64 (y + 1 + k) ∧ SlW w wr q1 q2 q3 #[.int .i64 W, .int .i64 H, .slice (some ⟨b1, o1, none⟩) lr c1, .slice (some ⟨b2, o2, none⟩) lu c2] #[.int .i64 0, .int .i64 0, .slice none 0 0, .slice none 0 0] W H g1 e1 lr (slF W x y b r k) g2 e2 lu u) (fun s _ => (H - intOf s).toNat)
  case atStart => exact ⟨0, by omega, by simp, R0⟩
  case round =>
    clear R0
    obtain ⟨k, hk, rfl, R⟩ := hrel
    obtain ⟨Y, hY⟩ : ∃ Y, y + 1 + (k : Int) = Y := ⟨_, rfl⟩
    have hin := slF_in (W := W) (x := x) (y := y) hb hr1 k
    rw [hY]
    have lq1 := R.a1.lt
    have lq3 := R.a3.lt
    obtain ⟨c0, c1', c2', c3, -⟩ := R.a1.open4
    by_cases hlt : Y < H
    · obtain ⟨j0, hj0, l0, -, -⟩ := right_at hok (x := x) (y := Y) (by omega) (by omega)
      have hp := hin j0 l0
      have hnext : ∀ i, i < lr → (if i = j0 then slF W x y b r k j0 + b else slF W x y b r k i) = slF W x y b r (k + 1) i := by
        intro i _
        simp only [slF]
        rw [hY, hj0]
        by_cases e : i = j0
        · subst e; simp
        · rw [if_neg e, if_neg (by omega)]
      obtain ⟨p0, hp0⟩ : ∃ p, slF W x y b r k j0 = p := ⟨_, rfl⟩
      rw [hp0] at hp hnext
      have w1' : IntKind.i64.wrap (p0 + b) = p0 + b := IntWalk.i64_in _ (by omega)
      have l0' : (j0 : Int) < lr := by omega
      go_wp2_with fail
      obtain ⟨u0, hu0, bb⟩ : ∃ u0, wr.drew = u0 ∧ Below wr.heap.size wr u0 := ⟨_, rfl, (Below.refl _ _).drew⟩
      replace R := R.below bb
      clear bb
      refine wp_region_held_drew (S := Two4 q1 q3 W H (.slice (some ⟨b1, o1, none⟩) lr c1) (.slice (some ⟨b2, o2, none⟩) lu c2) (.slice (some ⟨g1, 0, none⟩) lr e1) (.slice (some ⟨g2, 0, none⟩) lu e2)) (by kernel_rfl) (by rw [hu0]; exact two4_mk R.a1 R.a3) (fun hHeld => ?_)
      rw [hu0] at hHeld ⊢
      clear hu0
      change wpAnyH _ _ _ _ _ 12 #[false, false, false, false, false, false, false, false, false, false, false, false] _ _
      refine wpAnyH_take (i := 0) (v := .pointer (some ⟨q3, 2, none⟩)) rfl (by kernel_rfl) (by kernel_rfl) (by kernel_rfl) (fun _ _ _ h => h) (Or.inl ⟨by kernel_rfl, ?_⟩) hHeld ?_
      · intro w' hSw; go_simp
      try simp only [Act.put, List.setIfInBounds_toArray, List.set_cons_zero, List.set_cons_succ, List.getElem_toArray, List.getElem_cons_zero]
      refine wpAnyH_take (i := 1) (v := .slice (some ⟨g1, 0, none⟩) lr e1) rfl (by kernel_rfl) (by kernel_rfl) (by kernel_rfl) (fun _ _ _ h => h) (Or.inl ⟨by kernel_rfl, ?_⟩) hHeld ?_
      · intro w' hSw; obtain ⟨⟨z0, z1, z2, z3⟩, z4, z5, z6, z7⟩ := hSw; go_simp
      try simp only [Act.put, List.setIfInBounds_toArray, List.set_cons_zero, List.set_cons_succ, List.getElem_toArray, List.getElem_cons_succ, List.getElem_cons_zero]
      refine wpAnyH_take (i := 2) (v := nV W H (.slice (some ⟨b1, o1, none⟩) lr c1) (.slice (some ⟨b2, o2, none⟩) lu c2)) rfl (by kernel_rfl) (by kernel_rfl) (by kernel_rfl) (fun _ _ _ h => h) (Or.inl ⟨by kernel_rfl, ?_⟩) hHeld ?_
      · intro w' hSw; obtain ⟨⟨z0, z1, z2, z3⟩, z4, z5, z6, z7⟩ := hSw; go_simp
      try simp only [Act.put, List.setIfInBounds_toArray, List.set_cons_zero, List.set_cons_succ, List.getElem_toArray, List.getElem_cons_succ, List.getElem_cons_zero]
      refine wpAnyH_take (i := 3) (v := .int .i64 x) rfl (by kernel_rfl) (by kernel_rfl) (by kernel_rfl) (fun _ _ _ h => h) (Or.inl ⟨by kernel_rfl, ?_⟩) hHeld ?_
      · intro w' hSw; go_simp
      try simp only [Act.put, List.setIfInBounds_toArray, List.set_cons_zero, List.set_cons_succ, List.getElem_toArray, List.getElem_cons_succ, List.getElem_cons_zero]
      refine wpAnyH_take (i := 4) (v := .int .i64 Y) rfl (by kernel_rfl) (by kernel_rfl) (by kernel_rfl) (fun _ _ _ h => h) (Or.inl ⟨by kernel_rfl, ?_⟩) hHeld ?_
      · intro w' hSw; go_simp
      try simp only [Act.put, List.setIfInBounds_toArray, List.set_cons_zero, List.set_cons_succ, List.getElem_toArray, List.getElem_cons_succ, List.getElem_cons_zero]
      refine wpAnyH_take (i := 8) (v := .int .i64 b) rfl (by kernel_rfl) (by kernel_rfl) (by kernel_rfl) (fun _ _ _ h => h) (Or.inl ⟨by kernel_rfl, ?_⟩) hHeld ?_
      · intro w' hSw; go_simp
      try simp only [Act.put, List.setIfInBounds_toArray, List.set_cons_zero, List.set_cons_succ, List.getElem_toArray, List.getElem_cons_succ, List.getElem_cons_zero]
      refine wpAnyH_ready (rs := [5]) (by kernel_rfl) (by simp) ?_
      refine AllReadyH.cons rfl (fun KK hK' => ?_) AllReadyH.nil
      go_simp
      refine (right_any W H x Y hW ⟨by omega, by omega⟩ ⟨by omega, by omega⟩).mono ?_
      rintro e u1 ⟨rfl, bb⟩
      replace R := R.below bb
      rw [hj0]
      clear bb
      try go_wp2_with fail
      clear hHeld
      refine hK'.out _ _ (two4_mk R.a1 R.a3) (fun hHeld => ?_)
      clear hK' KK
      try simp only [List.setIfInBounds_toArray, List.set_cons_zero, List.set_cons_succ]
      refine wpAnyH_take (i := 6) (v := .pointer (some ⟨g1, j0, none⟩)) rfl (by kernel_rfl) (by kernel_rfl) (by kernel_rfl) (fun _ _ _ h => h) (Or.inl ⟨by kernel_rfl, ?_⟩) hHeld ?_
      · intro w' hSw; go_simp
      try simp only [Act.put, List.setIfInBounds_toArray, List.set_cons_zero, List.set_cons_succ, List.getElem_toArray, List.getElem_cons_succ, List.getElem_cons_zero]
      have cj := R.two.m1.get l0
      rw [hp0] at cj
      refine wpAnyH_ready (rs := [7]) (by kernel_rfl) (by simp) ?_
      refine AllReadyH.cons rfl (fun KK hK' => ?_) AllReadyH.nil
      go_simp
      clear cj
      clear hHeld
      refine hK'.out _ _ (two4_mk R.a1 R.a3) (fun hHeld => ?_)
      clear hK' KK
      try simp only [List.setIfInBounds_toArray, List.set_cons_zero, List.set_cons_succ]
      refine wpAnyH_take (i := 9) (v := .int .i64 (p0 + b)) rfl (by kernel_rfl) (by kernel_rfl) (by kernel_rfl) (fun _ _ _ h => h) (Or.inl ⟨by kernel_rfl, ?_⟩) hHeld ?_
      · intro w' hSw; go_simp
      try simp only [Act.put, List.setIfInBounds_toArray, List.set_cons_zero, List.set_cons_succ, List.getElem_toArray, List.getElem_cons_succ, List.getElem_cons_zero]
      refine wpAnyH_take (i := 10) (v := .pointer (some ⟨g1, j0, none⟩)) rfl (by kernel_rfl) (by kernel_rfl) (by kernel_rfl) (fun _ _ _ h => h) (Or.inl ⟨by kernel_rfl, ?_⟩) hHeld ?_
      · intro w' hSw; go_simp
      try simp only [Act.put, List.setIfInBounds_toArray, List.set_cons_zero, List.set_cons_succ, List.getElem_toArray, List.getElem_cons_succ, List.getElem_cons_zero]
      have cj := R.two.m1.get l0
      rw [hp0] at cj
      have fj := R.two.m1.free j0
      refine wpAnyH_ready (rs := [11]) (by kernel_rfl) (by simp) ?_
      refine AllReadyH.cons rfl (fun KK hK' => ?_) AllReadyH.nil
      go_simp
      replace R := R.set1 l0 (p0 + b)
      obtain ⟨u2, hu2⟩ : ∃ u2, u1.setCell ⟨g1, j0, none⟩ (.int .i64 (p0 + b)) = u2 := ⟨_, rfl⟩
      rw [hu2] at R ⊢
      clear hu2 cj fj
      clear hHeld
      refine hK'.out _ _ (two4_mk R.a1 R.a3) (fun hHeld => ?_)
      clear hK' KK
      try simp only [List.setIfInBounds_toArray, List.set_cons_zero, List.set_cons_succ]
      refine wpAnyH_done (by kernel_rfl) ?_ _
      clear hHeld
      go_wp2
      refine ⟨⟨k + 1, by omega, by go_num, R.cong hnext (fun _ _ => rfl)⟩, by simp [intOf]; omega⟩
    · have hYe : Y = H := by omega
      have hkH : k = (H - 1 - y).toNat := by omega
      obtain ⟨d0, d1, d2, d3, -⟩ := R.a3.open4
      go_wp2_with fail
      refine (told_any W H (.inr ⟨_, _, rfl, Nat.lt_trans R.o4 lq3, R.two.m1.ints⟩) (.inr ⟨_, _, rfl, Nat.lt_trans R.o5 lq3, R.two.m2.ints⟩) hlr hlu).mono ?_
      rintro e w6 ⟨rfl, b6⟩
      replace R := R.below b6
      clear c0 c1' c2' c3 d0 d1 d2 d3 b6
      obtain ⟨d0, d1, d2, d3, f0, f1, f2, f3⟩ := R.a2.open4
      rcases hK : netOk W H lr (slF W x y b r k) lu u with _ | _
      · go_wp2_with fail
        obtain ⟨A8, B8, -⟩ := R.fin (.int .i64 0) (.int .i64 0) (.slice none 0 0) (.slice none 0 0)
        obtain ⟨r0, r1, r2, r3, -⟩ := A8.open4
        refine bodyPost_ret (v := .tuple #[nV 0 0 (.slice none 0 0) (.slice none 0 0), .bool false]) (by simp [results, Try.results23, go_sem, r0, r1, r2, r3]) rfl ⟨_, _, rfl, ?_, B8⟩
        rw [← hkH]
        exact ⟨hK, .inr ⟨rfl, rfl⟩⟩
      · go_wp2_with fail
        obtain ⟨A8, B8, N8⟩ := R.fin (.int .i64 W) (.int .i64 H) (.slice (some ⟨g1, 0, none⟩) lr e1) (.slice (some ⟨g2, 0, none⟩) lu e2)
        obtain ⟨r0, r1, r2, r3, -⟩ := A8.open4
        refine bodyPost_ret (v := .tuple #[nV W H (.slice (some ⟨g1, 0, none⟩) lr e1) (.slice (some ⟨g2, 0, none⟩) lu e2), .bool true]) (by simp [results, Try.results23, go_sem, r0, r1, r2, r3]) rfl ⟨_, _, rfl, ?_, B8⟩
        rw [← hkH]
        exact ⟨hK, .inl ⟨rfl, N8⟩⟩
end Go.Proofs.Ytlmgdcoknpakcaa
