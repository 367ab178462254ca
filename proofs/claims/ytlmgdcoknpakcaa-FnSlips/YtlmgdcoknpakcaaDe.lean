/-
  Any nets are drawn: walked.
-/
import Derived.Test.YtlmgdcoknpakcaaDd
import Derived.Lib.JoinLaws
namespace Go.Proofs.Ytlmgdcoknpakcaa
open Go.RowKit

/-- Some net stands in the box. -/
def Any9 (_ : World) : Prop := True
def DAny (w0 : World) (p : Nat) (a : Option Addr) (len cap r q : Nat) (us : Array Value) (w : World) : Prop := ∃ (W H : Int) (v1 v2 : Value) (n1 : Nat) (f1 : Nat → Int) (n2 : Nat) (f2 : Nat → Int), Dm w0 p a len cap r q us W H v1 v2 n1 f1 n2 f2 w ∧ n1 ≤ 100 ∧ n2 ≤ 100
def NetE (w : World) (lo : Nat) (v : Value) : Prop := ∃ (W H : Int) (lr : Nat) (r : Nat → Int) (lu : Nat) (u : Nat → Int), NetAt w lo w.heap.size v W H lr r lu u ∧ lr ≤ 100 ∧ lu ≤ 100
theorem Dm.set0 {w0 w : World} {p : Nat} {a : Option Addr} {len cap r q : Nat} {us : Array Value} {W H : Int} {v1 v2 : Value} {n1 n2 : Nat} {f1 f2 : Nat → Int} (h : Dm w0 p a len cap r q us W H v1 v2 n1 f1 n2 f2 w) (x : Int) : Dm w0 p a len cap r q us x H v1 v2 n1 f1 n2 f2 (w.setCell ⟨q, 0, none⟩ (.int .i64 x)) := by
  have x1 := h.x1; have x2 := h.x2; have x3 := h.x3
  exact ⟨h.d.setNew (by omega) (by omega) _, h.ar.setOther (by omega) _, by simpa using h.aq.set 0 (.int .i64 x), h.o1.setOther h.q1 _, h.o2.setOther h.q2 _, h.ap, h.q1, h.q2, x1, x2, x3⟩
theorem Dm.put0 {w0 w : World} {p : Nat} {a : Option Addr} {len cap r q : Nat} {us : Array Value} {W H : Int} {g c : Nat} {v2 : Value} {n1 n2 : Nat} {f1 f2 : Nat → Int} (h : Dm w0 p a len cap r q us W H (.slice (some ⟨g, 0, none⟩) n1 c) v2 n1 f1 n2 f2 w) (h0 : 0 < n1) (x : Int) : Dm w0 p a len cap r q us W H (.slice (some ⟨g, 0, none⟩) n1 c) v2 n1 (fun i => if i = 0 then x else f1 i) n2 f2 (w.setCell ⟨g, 0, none⟩ (.int .i64 x)) := by
  have x1 := h.x1; have x2 := h.x2; have x3 := h.x3
  have hg := (h.o1.lt (b := g) rfl).1
  have hq : q ≠ g := fun e => h.q1 (by rw [e]; rfl)
  have h2 : v2.ownBlock ≠ some g := fun e => h.ap g rfl e
  refine ⟨h.d.setNew (by omega) (by omega) _, h.ar.setOther (by omega) _, h.aq.setOther hq _, ?_, h.o2.setOther h2 _, h.ap, h.q1, h.q2, x1, x2, x3⟩
  rcases h.o1 with ⟨e, -⟩ | ⟨g', c', e, k1, k2, k3⟩
  · cases e
  · simp only [Value.slice.injEq, Option.some.injEq, Addr.mk.injEq] at e
    obtain ⟨⟨rfl, -, -⟩, -, rfl⟩ := e
    exact .inr ⟨g, c, rfl, k1, k2, k3.upd k2 x h0⟩
theorem tabI (l : List Int) {m : Nat} (hm : m < l.length) : ∃ v : Int, ((l.map (Value.int .i64)).toArray)[m]? = some (.int .i64 v) := ⟨l[m], by simp [hm]⟩
theorem Rw.far {w w' : World} {B : Nat} {v : Value} {n : Nat} {f : Nat → Int} {row : Option Nat} (h : Rw w B v n f) (hg : w.grownBy w' row) (hne : ∀ b, v.ownBlock = some b → row ≠ some b) : Rw w' B v n f := by
  rcases h with h | ⟨g, c, rfl, h1, h2, cur, h3, h4⟩
  · exact .inl h
  · exact .inr ⟨g, c, rfl, h1, h2, cur, (hg.block g h3.lt (fun e => hne g rfl e.symm)).trans h3, h4⟩
theorem Dm.app2 {w0 w w' : World} {p : Nat} {a : Option Addr} {len cap r q : Nat} {us : Array Value} {W H : Int} {v1 v2 v' : Value} {n1 n2 : Nat} {f1 f2 : Nat → Int} (h : Dm w0 p a len cap r q us W H v1 v2 n1 f1 n2 f2 w) (hl : Lst w (r + 1) v2 n2 f2) (x : Int)
    (ho : w'.ownsRow (r + 1) 2 1 v' (n2 + 1) (iCells f2 n2 ++ [.int .i64 x])) (hg : w.grownBy w' v2.ownBlock) (hat : v'.ownBlock = v2.ownBlock ∨ v'.ownBlock = some w.heap.size) :
    At 32 w' q #[.int .i64 W, .int .i64 H, v1, v2] ∧ Dm w0 p a len cap r q us W H v1 v' n1 f1 (n2 + 1) (fun i => if i = n2 then x else f2 i) (w'.setCell ⟨q, 3, none⟩ v') := by
  have x1 := h.x1; have x2 := h.x2; have x3 := h.x3
  have lq := h.aq.lt
  have Bg : Below (r + 1) w w' := Below.grown (Below.refl _ _) hg (by omega) (fun k hk => (own_lt hl hk).1)
  have aq : At 32 w' q #[.int .i64 W, .int .i64 H, v1, v2] := (hg.block q lq (fun e => h.q2 e.symm)).trans h.aq
  have nq : v'.ownBlock ≠ some q := by
    rcases hat with e | e <;> rw [e]
    · exact h.q2
    · intro e; simp only [Option.some.injEq] at e; omega
  have o1 : Rw w' (r + 1) v1 n1 f1 := h.o1.far hg (fun b hb e => h.ap b hb e)
  have o2 : Rw w' (r + 1) v' (n2 + 1) (fun i => if i = n2 then x else f2 i) := .of_lst (by rw [iCells_snoc] at ho; exact ho)
  refine ⟨aq, (h.d.grown Bg (by omega) (by omega)).setNew (by omega) (by omega) _, (h.ar.belowN Bg (by omega)).setOther (by omega) _, by simpa using aq.set 3 v', o1.setOther h.q1 _, o2.setOther nq _, ?_, h.q1, nq, x1, x2, x3⟩
  intro k e1 e2
  rcases hat with e | e
  · exact h.ap k e1 (e ▸ e2)
  · rw [e] at e2
    simp only [Option.some.injEq] at e2
    have := (h.o1.lt e1).2
    omega
/-- Room for one more: the number is laid behind, and the list stored. -/
theorem Dm.room2 {w0 w : World} {p : Nat} {a : Option Addr} {len cap r q : Nat} {us : Array Value} {W H : Int} {v1 : Value} {g c : Nat} {n1 n2 : Nat} {f1 f2 : Nat → Int} (h : Dm w0 p a len cap r q us W H v1 (.slice (some ⟨g, 0, none⟩) n2 c) n1 f1 n2 f2 w) (hc : n2 < c) (x : Int) :
    At 32 (w.setCell ⟨g, n2, none⟩ (.int .i64 x)) q #[.int .i64 W, .int .i64 H, v1, .slice (some ⟨g, 0, none⟩) n2 c] ∧ Dm w0 p a len cap r q us W H v1 (.slice (some ⟨g, 0, none⟩) (n2 + 1) c) n1 f1 (n2 + 1) (fun i => if i = n2 then x else f2 i) ((w.setCell ⟨g, n2, none⟩ (.int .i64 x)).setCell ⟨q, 3, none⟩ (.slice (some ⟨g, 0, none⟩) (n2 + 1) c)) := by
  have x1 := h.x1; have x2 := h.x2; have x3 := h.x3
  have hg := (h.o2.lt (b := g) rfl).1
  have hq : q ≠ g := fun e => h.q2 (by rw [e]; rfl)
  have h1 : v1.ownBlock ≠ some g := fun e => h.ap g e rfl
  have aq := h.aq.setOther (i := n2) hq (.int .i64 x)
  refine ⟨aq, (h.d.setNew (by omega) (by omega) _).setNew (by omega) (by omega) _, (h.ar.setOther (by omega) _).setOther (by omega) _, by simpa using aq.set 3 (.slice (some ⟨g, 0, none⟩) (n2 + 1) c), (h.o1.setOther h1 _).setOther h.q1 _, ?_, h.ap, h.q1, fun e => hq (by simp only [Value.ownBlock, Option.some.injEq] at e; exact e.symm), x1, x2, x3⟩
  rcases h.o2 with ⟨e, -⟩ | ⟨g', c', e, k1, k2, k3⟩
  · cases e
  · simp only [Value.slice.injEq, Option.some.injEq, Addr.mk.injEq] at e
    obtain ⟨⟨rfl, -, -⟩, -, rfl⟩ := e
    refine Rw.setOther (.inr ⟨g, c, rfl, k1, hc, ?_⟩) (fun e => hq (by simp only [Value.ownBlock, Option.some.injEq] at e; exact e.symm)) _
    obtain ⟨cur, m1, m2, m3⟩ := k3
    refine ⟨_, m1.set n2 _, by simpa using m2, fun i hi => ?_⟩
    by_cases e : i = n2
    · subst e
      have l0 : i < cur.size := by omega
      simp [l0]
    · have := m3 i (by omega)
      rw [Array.getElem?_setIfInBounds, if_neg (by omega), this]
      simp [e]
theorem room_cell {w : World} {B g c n : Nat} {f : Nat → Int} (h : Rw w B (.slice (some ⟨g, 0, none⟩) n c) n f) (h0 : n < c) : w.cell? ⟨g, n, none⟩ = some (cv w g n) ∧ w.frozen? ⟨g, n, none⟩ = false := by
  rcases h with ⟨e, -⟩ | ⟨g', c', e, k1, k2, k3⟩
  · cases e
  · simp only [Value.slice.injEq, Option.some.injEq, Addr.mk.injEq] at e
    obtain ⟨⟨rfl, -, -⟩, -, rfl⟩ := e
    obtain ⟨cur, m1, m2, -⟩ := k3
    have l0 : n < cur.size := by omega
    have := m1.cell n (Array.getElem?_eq_getElem l0)
    exact ⟨by simp [cv, this], m1.frozen n⟩
theorem Rw.lst {w : World} {B g n : Nat} {f : Nat → Int} (h : Rw w B (.slice (some ⟨g, 0, none⟩) n n) n f) (hn : n ≤ 100) : Lst w B (.slice (some ⟨g, 0, none⟩) n n) n f := by
  rcases h with ⟨e, -⟩ | ⟨g', c', e, k1, k2, k3⟩
  · cases e
  · simp only [Value.slice.injEq, Option.some.injEq, Addr.mk.injEq] at e
    obtain ⟨⟨rfl, -, -⟩, -, rfl⟩ := e
    obtain ⟨cur, m1, m2, m3⟩ := k3
    refine ⟨by rw [iCells_len]; omega, .inr ⟨g, n, cur, rfl, k1, m1, Nat.le_refl _, by unfold maxLen; omega, by omega, ?_⟩⟩
    apply List.ext_getElem?
    intro i
    by_cases hi : i < n
    · rw [List.getElem?_take_of_lt (by omega), iCells_at f hi]
      have := m3 i hi
      simpa using this
    · rw [List.getElem?_eq_none (by rw [List.length_take]; omega), List.getElem?_eq_none (by rw [iCells_len]; omega)]
theorem first_cell {w : World} {B g c n : Nat} {f : Nat → Int} (h : Rw w B (.slice (some ⟨g, 0, none⟩) n c) n f) (h0 : 0 < n) : w.cell? ⟨g, 0, none⟩ = some (.int .i64 (f 0)) ∧ w.frozen? ⟨g, 0, none⟩ = false := by
  rcases h with ⟨e, -⟩ | ⟨g', c', e, k1, k2, k3⟩
  · cases e
  · simp only [Value.slice.injEq, Option.some.injEq, Addr.mk.injEq] at e
    obtain ⟨⟨rfl, -, -⟩, -, rfl⟩ := e
    exact ⟨k3.get h0, k3.free 0⟩
set_option maxRecDepth 100000 in
set_option maxHeartbeats 3200000 in
theorem drawAny_any {w0 w : World} {p : Nat} {a : Option Addr} {len cap : Nat} (hc : Dr w0 p a len cap w) :
    Calls Try.prog 47 #[.pointer (some ⟨p, 0, none⟩)] w fun e w' => ∃ v, e = .returned v ∧ NetE w' w.heap.size v ∧ Dr w0 p a len cap w' := by
  obtain ⟨V, hV, a0, bV, -⟩ := boxed w 32 #[.int .i64 0, .int .i64 0, .slice none 0 0, .slice none 0 0]
  have hp : p < w.heap.size := hc.2.lt
  have hs := hc.1.size
  replace hc := hc.below bV
  go_enter Try.func47, Try.ntmps47
  go_wp2_with fail
  refine (drawNet_any (Dr.start hc.2)).mono ?_
  rintro e w1 ⟨v, rfl, ⟨W, H, n1, f1, n2, f2, N, hn1, hn2⟩, k1⟩
  have lV : w.heap.size < V.heap.size := a0.lt
  replace a0 := a0.kept k1.1 (by omega)
  replace hc := k1.from hc.1
  clear k1
  obtain ⟨v1, v2, rfl, A1, A2, ap⟩ := N
  have R1 := Rw.of_arr (B := w.heap.size + 1) A1 (by omega)
  have R2 := Rw.of_arr (B := w.heap.size + 1) A2 (by omega)
  clear A1 A2
  obtain ⟨za1, zc1, hz1⟩ := R1.shape
  obtain ⟨za2, zc2, hz2⟩ := R2.shape
  subst hz1 hz2
  go_wp2_with fail
  obtain ⟨V3, hV3, aq, b3, -⟩ := boxed w1 32 #[.int .i64 W, .int .i64 H, .slice za1 n1 zc1, .slice za2 n2 zc2]
  have h1q : (Value.slice za1 n1 zc1).ownBlock ≠ some w1.heap.size := fun e => Nat.lt_irrefl _ (R1.lt e).2
  have h2q : (Value.slice za2 n2 zc2).ownBlock ≠ some w1.heap.size := fun e => Nat.lt_irrefl _ (R2.lt e).2
  have lrq := a0.lt
  obtain ⟨r, hr⟩ : ∃ q, w.heap.size = q := ⟨_, rfl⟩
  obtain ⟨q, hq⟩ : ∃ q, w1.heap.size = q := ⟨_, rfl⟩
  rw [hr] at a0 lrq hs hp R1 R2
  rw [hq] at aq lrq h1q h2q
  have D : Dm w0 p a len cap r q #[.int .i64 0, .int .i64 0, .slice none 0 0, .slice none 0 0] W H (.slice za1 n1 zc1) (.slice za2 n2 zc2) n1 f1 n2 f2 V3 :=
    ⟨hc.below b3, a0.below b3, aq, R1.below b3, R2.below b3, ap, h1q, h2q, hp, lrq, hs⟩
  rw [hV3]
  clear hV hV3 a0 aq b3 hc bV R1 R2 ap h1q h2q lrq
  refine (once_dm D 14 (by decide) (by decide)).mono ?_
  rintro e w4 ⟨bo, rfl, k4⟩
  replace D := k4
  clear k4
  rw [hr, hq]
  go_upto_if 7 with (fail)
  go_cut [] from 8 to 44 (fun wc => DAny w0 p a len cap r q #[.int .i64 0, .int .i64 0, .slice none 0 0, .slice none 0 0] wc)
  case first =>
    rcases bo with _ | _
    · go_wp2_with fail
      go_meet
      case rel => exact ⟨_, _, _, _, _, _, _, _, D, by omega, by omega⟩
    · go_wp2_with fail
      refine (below_dm D 4 (by decide) (by decide)).mono ?_
      rintro e w5 ⟨kk, rfl, kk0, kk1, k5⟩
      replace D := k5
      clear k5
      rcases (by omega : kk = 0 ∨ kk = 1 ∨ kk = 2 ∨ kk = 3) with rfl | rfl | rfl | rfl
      · obtain ⟨X, hX⟩ : ∃ X, IntKind.i64.wrap (W + 1) = X := ⟨_, rfl⟩
        have lq := D.aq.lt
        go_wp2_with fail
        clear lq
        obtain ⟨y0, hu0, bb⟩ : ∃ u0, w5.drew = u0 ∧ Below w5.heap.size w5 u0 := ⟨_, rfl, (Below.refl _ _).drew⟩
        replace D := D.below bb
        clear bb
        refine wp_region_held_drew (S := Any9) (by kernel_rfl) (by rw [hu0]; exact trivial) (fun hHeld => ?_)
        rw [hu0] at hHeld ⊢
        clear hu0
        change wpAnyH _ _ _ _ _ 10 #[false, false, false, false, false, false, false, false, false, false] _ _
        refine wpAnyH_take (i := 0) (v := .pointer (some ⟨q, 0, none⟩)) rfl (by kernel_rfl) (by kernel_rfl) (by kernel_rfl) (fun _ _ _ h => h) (Or.inl ⟨by kernel_rfl, ?_⟩) hHeld ?_
        · intro w' hSw; go_simp
        try simp only [Act.put, List.setIfInBounds_toArray, List.set_cons_zero, List.set_cons_succ, List.getElem_toArray, List.getElem_cons_zero]
        refine wpAnyH_take (i := 4) (v := .pointer (some ⟨p, 0, none⟩)) rfl (by kernel_rfl) (by kernel_rfl) (by kernel_rfl) (fun _ _ _ h => h) (Or.inl ⟨by kernel_rfl, ?_⟩) hHeld ?_
        · intro w' hSw; go_simp
        try simp only [Act.put, List.setIfInBounds_toArray, List.set_cons_zero, List.set_cons_succ, List.getElem_toArray, List.getElem_cons_succ, List.getElem_cons_zero]
        refine wpAnyH_ready (rs := [1, 5]) (by kernel_rfl) (by simp) ?_
        refine AllReadyH.cons rfl (fun KK hK' => ?_) (AllReadyH.cons rfl (fun KK hK' => ?_) AllReadyH.nil)
        · have cW := D.aq.cell 0 rfl
          go_simp
          clear cW
          clear hHeld
          refine hK'.out _ _ (trivial) (fun hHeld => ?_)
          clear hK' KK
          try simp only [List.setIfInBounds_toArray, List.set_cons_zero, List.set_cons_succ]
          refine wpAnyH_take (i := 2) (v := .int .i64 X) rfl (by kernel_rfl) (by kernel_rfl) (by kernel_rfl) (fun _ _ _ h => h) (Or.inl ⟨by kernel_rfl, ?_⟩) hHeld ?_
          · intro w' hSw; go_simp
          try simp only [Act.put, List.setIfInBounds_toArray, List.set_cons_zero, List.set_cons_succ, List.getElem_toArray, List.getElem_cons_succ, List.getElem_cons_zero]
          refine wpAnyH_ready (rs := [3, 5]) (by kernel_rfl) (by simp) ?_
          refine AllReadyH.cons rfl (fun KK hK' => ?_) (AllReadyH.cons rfl (fun KK hK' => ?_) AllReadyH.nil)
          · go_simp
            obtain ⟨y2, hV9, at9, b9, -⟩ := boxed y0 2 #[.int .i64 0, .int .i64 (-1), .int .i64 31, .int .i64 X, .int .i64 1099511627776]
            rw [hV9]
            have hpt : p < y0.heap.size := D.d.2.lt
            obtain ⟨tb, htb⟩ : ∃ s, y0.heap.size = s := ⟨_, rfl⟩
            rw [htb] at at9 hpt ⊢
            replace D := D.below b9
            clear b9 hV9 htb
            clear hHeld
            refine hK'.out _ _ (trivial) (fun hHeld => ?_)
            clear hK' KK
            try simp only [List.setIfInBounds_toArray, List.set_cons_zero, List.set_cons_succ]
            refine wpAnyH_ready (rs := [5]) (by kernel_rfl) (by simp) ?_
            refine AllReadyH.cons rfl (fun KK hK' => ?_) AllReadyH.nil
            go_simp
            refine (below_dr (Dr.start D.d.2) 5 (by decide) (by decide)).mono ?_
            rintro e y3 ⟨i9, rfl, i0, i1, k9⟩
            obtain ⟨m, rfl⟩ : ∃ m : Nat, i9 = m := ⟨i9.toNat, by omega⟩
            replace at9 := at9.kept k9.1 (by omega)
            replace D := D.kept k9
            clear k9
            try go_wp2_with fail
            clear hHeld
            refine hK'.out _ _ (trivial) (fun hHeld => ?_)
            clear hK' KK
            try simp only [List.setIfInBounds_toArray, List.set_cons_zero, List.set_cons_succ]
            refine wpAnyH_take (i := 6) (v := .pointer (some ⟨tb, m, none⟩)) rfl (by kernel_rfl) (by kernel_rfl) (by kernel_rfl) (fun _ _ _ h => h) (Or.inl ⟨by kernel_rfl, ?_⟩) hHeld ?_
            · intro w' hSw; go_simp
            try simp only [Act.put, List.setIfInBounds_toArray, List.set_cons_zero, List.set_cons_succ, List.getElem_toArray, List.getElem_cons_succ, List.getElem_cons_zero]
            refine wpAnyH_ready (rs := [7]) (by kernel_rfl) (by simp) ?_
            refine AllReadyH.cons rfl (fun KK hK' => ?_) AllReadyH.nil
            obtain ⟨V9, hV9⟩ := tabI [0, -1, 31, X, 1099511627776] (m := m) (by simp; omega)
            have cV := at9.cell m hV9
            go_simp
            clear cV
            clear hHeld
            refine hK'.out _ _ (trivial) (fun hHeld => ?_)
            clear hK' KK
            try simp only [List.setIfInBounds_toArray, List.set_cons_zero, List.set_cons_succ]
            refine wpAnyH_take (i := 8) (v := .pointer (some ⟨q, 0, none⟩)) rfl (by kernel_rfl) (by kernel_rfl) (by kernel_rfl) (fun _ _ _ h => h) (Or.inl ⟨by kernel_rfl, ?_⟩) hHeld ?_
            · intro w' hSw; go_simp
            try simp only [Act.put, List.setIfInBounds_toArray, List.set_cons_zero, List.set_cons_succ, List.getElem_toArray, List.getElem_cons_succ, List.getElem_cons_zero]
            refine wpAnyH_ready (rs := [9]) (by kernel_rfl) (by simp) ?_
            refine AllReadyH.cons rfl (fun KK hK' => ?_) AllReadyH.nil
            obtain ⟨c0, c1, c2, c3, g0, g1, g2, g3⟩ := D.aq.open4
            go_simp
            replace D := D.set0 V9
            obtain ⟨y5, hx9⟩ : ∃ u, y3.setCell ⟨q, 0, none⟩ (.int .i64 V9) = u := ⟨_, rfl⟩
            rw [hx9] at D ⊢
            clear hx9 c0 c1 c2 c3 g0 g1 g2 g3
            clear hHeld
            refine hK'.out _ _ (trivial) (fun hHeld => ?_)
            clear hK' KK
            try simp only [List.setIfInBounds_toArray, List.set_cons_zero, List.set_cons_succ]
            refine wpAnyH_done (by kernel_rfl) ?_ _
            clear hHeld
            go_wp2_with fail
            go_meet
            case rel => exact ⟨_, _, _, _, _, _, _, _, D, by omega, by omega⟩
          · go_simp
            refine (below_dr (Dr.start D.d.2) 5 (by decide) (by decide)).mono ?_
            rintro e y2 ⟨i9, rfl, i0, i1, k9⟩
            obtain ⟨m, rfl⟩ : ∃ m : Nat, i9 = m := ⟨i9.toNat, by omega⟩
            replace D := D.kept k9
            clear k9
            try go_wp2_with fail
            clear hHeld
            refine hK'.out _ _ (trivial) (fun hHeld => ?_)
            clear hK' KK
            try simp only [List.setIfInBounds_toArray, List.set_cons_zero, List.set_cons_succ]
            refine wpAnyH_ready (rs := [3]) (by kernel_rfl) (by simp) ?_
            refine AllReadyH.cons rfl (fun KK hK' => ?_) AllReadyH.nil
            go_simp
            obtain ⟨y3, hV9, at9, b9, -⟩ := boxed y2 2 #[.int .i64 0, .int .i64 (-1), .int .i64 31, .int .i64 X, .int .i64 1099511627776]
            rw [hV9]
            have hpt : p < y2.heap.size := D.d.2.lt
            obtain ⟨tb, htb⟩ : ∃ s, y2.heap.size = s := ⟨_, rfl⟩
            rw [htb] at at9 hpt ⊢
            replace D := D.below b9
            clear b9 hV9 htb
            clear hHeld
            refine hK'.out _ _ (trivial) (fun hHeld => ?_)
            clear hK' KK
            try simp only [List.setIfInBounds_toArray, List.set_cons_zero, List.set_cons_succ]
            refine wpAnyH_take (i := 6) (v := .pointer (some ⟨tb, m, none⟩)) rfl (by kernel_rfl) (by kernel_rfl) (by kernel_rfl) (fun _ _ _ h => h) (Or.inl ⟨by kernel_rfl, ?_⟩) hHeld ?_
            · intro w' hSw; go_simp
            try simp only [Act.put, List.setIfInBounds_toArray, List.set_cons_zero, List.set_cons_succ, List.getElem_toArray, List.getElem_cons_succ, List.getElem_cons_zero]
            refine wpAnyH_ready (rs := [7]) (by kernel_rfl) (by simp) ?_
            refine AllReadyH.cons rfl (fun KK hK' => ?_) AllReadyH.nil
            obtain ⟨V9, hV9⟩ := tabI [0, -1, 31, X, 1099511627776] (m := m) (by simp; omega)
            have cV := at9.cell m hV9
            go_simp
            clear cV
            clear hHeld
            refine hK'.out _ _ (trivial) (fun hHeld => ?_)
            clear hK' KK
            try simp only [List.setIfInBounds_toArray, List.set_cons_zero, List.set_cons_succ]
            refine wpAnyH_take (i := 8) (v := .pointer (some ⟨q, 0, none⟩)) rfl (by kernel_rfl) (by kernel_rfl) (by kernel_rfl) (fun _ _ _ h => h) (Or.inl ⟨by kernel_rfl, ?_⟩) hHeld ?_
            · intro w' hSw; go_simp
            try simp only [Act.put, List.setIfInBounds_toArray, List.set_cons_zero, List.set_cons_succ, List.getElem_toArray, List.getElem_cons_succ, List.getElem_cons_zero]
            refine wpAnyH_ready (rs := [9]) (by kernel_rfl) (by simp) ?_
            refine AllReadyH.cons rfl (fun KK hK' => ?_) AllReadyH.nil
            obtain ⟨c0, c1, c2, c3, g0, g1, g2, g3⟩ := D.aq.open4
            go_simp
            replace D := D.set0 V9
            obtain ⟨y5, hx9⟩ : ∃ u, y3.setCell ⟨q, 0, none⟩ (.int .i64 V9) = u := ⟨_, rfl⟩
            rw [hx9] at D ⊢
            clear hx9 c0 c1 c2 c3 g0 g1 g2 g3
            clear hHeld
            refine hK'.out _ _ (trivial) (fun hHeld => ?_)
            clear hK' KK
            try simp only [List.setIfInBounds_toArray, List.set_cons_zero, List.set_cons_succ]
            refine wpAnyH_done (by kernel_rfl) ?_ _
            clear hHeld
            go_wp2_with fail
            go_meet
            case rel => exact ⟨_, _, _, _, _, _, _, _, D, by omega, by omega⟩
        · go_simp
          refine (below_dr (Dr.start D.d.2) 5 (by decide) (by decide)).mono ?_
          rintro e y1 ⟨i9, rfl, i0, i1, k9⟩
          obtain ⟨m, rfl⟩ : ∃ m : Nat, i9 = m := ⟨i9.toNat, by omega⟩
          replace D := D.kept k9
          clear k9
          try go_wp2_with fail
          clear hHeld
          refine hK'.out _ _ (trivial) (fun hHeld => ?_)
          clear hK' KK
          try simp only [List.setIfInBounds_toArray, List.set_cons_zero, List.set_cons_succ]
          refine wpAnyH_ready (rs := [1]) (by kernel_rfl) (by simp) ?_
          refine AllReadyH.cons rfl (fun KK hK' => ?_) AllReadyH.nil
          have cW := D.aq.cell 0 rfl
          go_simp
          clear cW
          clear hHeld
          refine hK'.out _ _ (trivial) (fun hHeld => ?_)
          clear hK' KK
          try simp only [List.setIfInBounds_toArray, List.set_cons_zero, List.set_cons_succ]
          refine wpAnyH_take (i := 2) (v := .int .i64 X) rfl (by kernel_rfl) (by kernel_rfl) (by kernel_rfl) (fun _ _ _ h => h) (Or.inl ⟨by kernel_rfl, ?_⟩) hHeld ?_
          · intro w' hSw; go_simp
          try simp only [Act.put, List.setIfInBounds_toArray, List.set_cons_zero, List.set_cons_succ, List.getElem_toArray, List.getElem_cons_succ, List.getElem_cons_zero]
          refine wpAnyH_ready (rs := [3]) (by kernel_rfl) (by simp) ?_
          refine AllReadyH.cons rfl (fun KK hK' => ?_) AllReadyH.nil
          go_simp
          obtain ⟨y3, hV9, at9, b9, -⟩ := boxed y1 2 #[.int .i64 0, .int .i64 (-1), .int .i64 31, .int .i64 X, .int .i64 1099511627776]
          rw [hV9]
          have hpt : p < y1.heap.size := D.d.2.lt
          obtain ⟨tb, htb⟩ : ∃ s, y1.heap.size = s := ⟨_, rfl⟩
          rw [htb] at at9 hpt ⊢
          replace D := D.below b9
          clear b9 hV9 htb
          clear hHeld
          refine hK'.out _ _ (trivial) (fun hHeld => ?_)
          clear hK' KK
          try simp only [List.setIfInBounds_toArray, List.set_cons_zero, List.set_cons_succ]
          refine wpAnyH_take (i := 6) (v := .pointer (some ⟨tb, m, none⟩)) rfl (by kernel_rfl) (by kernel_rfl) (by kernel_rfl) (fun _ _ _ h => h) (Or.inl ⟨by kernel_rfl, ?_⟩) hHeld ?_
          · intro w' hSw; go_simp
          try simp only [Act.put, List.setIfInBounds_toArray, List.set_cons_zero, List.set_cons_succ, List.getElem_toArray, List.getElem_cons_succ, List.getElem_cons_zero]
          refine wpAnyH_ready (rs := [7]) (by kernel_rfl) (by simp) ?_
          refine AllReadyH.cons rfl (fun KK hK' => ?_) AllReadyH.nil
          obtain ⟨V9, hV9⟩ := tabI [0, -1, 31, X, 1099511627776] (m := m) (by simp; omega)
          have cV := at9.cell m hV9
          go_simp
          clear cV
          clear hHeld
          refine hK'.out _ _ (trivial) (fun hHeld => ?_)
          clear hK' KK
          try simp only [List.setIfInBounds_toArray, List.set_cons_zero, List.set_cons_succ]
          refine wpAnyH_take (i := 8) (v := .pointer (some ⟨q, 0, none⟩)) rfl (by kernel_rfl) (by kernel_rfl) (by kernel_rfl) (fun _ _ _ h => h) (Or.inl ⟨by kernel_rfl, ?_⟩) hHeld ?_
          · intro w' hSw; go_simp
          try simp only [Act.put, List.setIfInBounds_toArray, List.set_cons_zero, List.set_cons_succ, List.getElem_toArray, List.getElem_cons_succ, List.getElem_cons_zero]
          refine wpAnyH_ready (rs := [9]) (by kernel_rfl) (by simp) ?_
          refine AllReadyH.cons rfl (fun KK hK' => ?_) AllReadyH.nil
          obtain ⟨c0, c1, c2, c3, g0, g1, g2, g3⟩ := D.aq.open4
          go_simp
          replace D := D.set0 V9
          obtain ⟨y5, hx9⟩ : ∃ u, y3.setCell ⟨q, 0, none⟩ (.int .i64 V9) = u := ⟨_, rfl⟩
          rw [hx9] at D ⊢
          clear hx9 c0 c1 c2 c3 g0 g1 g2 g3
          clear hHeld
          refine hK'.out _ _ (trivial) (fun hHeld => ?_)
          clear hK' KK
          try simp only [List.setIfInBounds_toArray, List.set_cons_zero, List.set_cons_succ]
          refine wpAnyH_done (by kernel_rfl) ?_ _
          clear hHeld
          go_wp2_with fail
          go_meet
          case rel => exact ⟨_, _, _, _, _, _, _, _, D, by omega, by omega⟩
      · skip
        obtain ⟨V6, hV6, A6, b6, -⟩ := boxed w5 2 #[.int .i64 0]
        have lq := D.aq.lt
        obtain ⟨c0, c1, c2, c3, -⟩ := D.aq.open4
        replace D := D.below b6
        have l6 := D.aq.lt
        have l7 := D.x2
        have hb2 : ∀ w, (Instr.buildSlice 30 1 #[(0, .int .i64 0)]).run Try.prog w = .ok (.slice (some ⟨w.heap.size, 0, none⟩) 1 1) (w.alloc (.cells #[.int .i64 0] 2)) := fun _ => by kernel_rfl
        have hnw : ∀ j u, [Value.int .i64 0][j]? = some u → V6.cell? ((⟨w5.heap.size, 0, none⟩ : Addr).add j) = some u := by rw [← hV6]; exact cell_one_new _ _ _
        obtain ⟨j0, hj0, hjz0, hjz1, hjz2⟩ := info_parts infoI
        clear b6
        by_cases hfull : Lst V6 (r + 1) (.slice za2 n2 zc2) n2 f2
        · clear A6
          go_wp2_with (at_builtin; refine Hid.out (?_ : Hid _))
          refine (?_ : wpList _ _ _ _ _ _)
          refine wpList_append_own_at _ rfl _ _ _ rfl (r + 1) 2 j0 _ 1 8 Try.underlying30 hj0 hjz0 hjz1 hjz2 rfl (by omega) (.slice za2 n2 zc2) n2 (iCells f2 n2) rfl hfull ⟨w5.heap.size, 0, none⟩ 1 1 [.int .i64 0] rfl rfl hnw (by intro u hu; simp at hu; subst hu; rfl) (by unfold maxLen; omega) (by omega) (by omega) ?_
          intro v' w6 hown hgrow hne hat
          obtain ⟨g', c', rfl⟩ := own_shape hown
          obtain ⟨A7, D7⟩ := D.app2 hfull 0 hown hgrow hat
          clear c0 c1 c2 c3 D hV6
          obtain ⟨c0, c1, c2, c3, g0, g1, g2, g3⟩ := A7.open4
          go_wp2_with fail
          go_meet
          case rel => exact ⟨_, _, _, _, _, _, _, _, D7, by omega, by omega⟩
        · obtain ⟨gl, hgl, hroom⟩ : ∃ gl, za2 = some ⟨gl, 0, none⟩ ∧ n2 < zc2 := by
            rcases D.o2 with ⟨e, e'⟩ | ⟨g, c, e, k1, k2, k3⟩
            · exfalso
              apply hfull
              rw [e, e']
              exact lst_nil _ _ _
            · simp only [Value.slice.injEq] at e
              obtain ⟨e1, -, e3⟩ := e
              refine ⟨g, e1, Nat.lt_of_not_le fun hle => hfull ?_⟩
              have e4 : zc2 = n2 := by omega
              have ho := D.o2
              rw [e1, e4] at ho ⊢
              exact ho.lst (by omega)
          subst hgl
          clear hfull
          obtain ⟨A7, D7⟩ := D.room2 hroom 0
          obtain ⟨rc, rf⟩ := room_cell D.o2 hroom
          have hroom' : (n2 : Int) + 1 ≤ zc2 := by omega
          have z6 := A6.cell 0 rfl
          obtain ⟨e0', e1', e2', e3', g0, g1, g2, g3⟩ := A7.open4
          have hgq := A7.lt
          go_wp2_with fail
          go_meet
          case rel => exact ⟨_, _, _, _, _, _, _, _, D7, by omega, by omega⟩
      · have lq := D.aq.lt
        obtain ⟨c0, c1, c2, c3, -⟩ := D.aq.open4
        by_cases hpos : 0 < n1
        · have hpos' : 0 < (n1 : Int) := by omega
          have hn1' : (n1 : Int) ≤ 30 := by omega
          obtain ⟨gl, hgl⟩ : ∃ gl, za1 = some ⟨gl, 0, none⟩ := by
            rcases D.o1 with ⟨e, e'⟩ | ⟨g, c, e, -⟩
            · omega
            · simp only [Value.slice.injEq] at e
              exact ⟨g, e.1⟩
          subst hgl
          go_wp2_with fail
          clear c0 c1 c2 c3 lq
          obtain ⟨y0, hu0, bb⟩ : ∃ u0, w5.drew = u0 ∧ Below w5.heap.size w5 u0 := ⟨_, rfl, (Below.refl _ _).drew⟩
          replace D := D.below bb
          clear bb
          refine wp_region_held_drew (S := fun w => w.cell? ⟨q, 2, none⟩ = some (.slice (some ⟨gl, 0, none⟩) n1 zc1)) (by kernel_rfl) (by rw [hu0]; exact D.aq.cell 2 rfl) (fun hHeld => ?_)
          rw [hu0] at hHeld ⊢
          clear hu0
          change wpAnyH _ _ _ _ _ 9 #[false, false, false, false, false, false, false, false, false] _ _
          refine wpAnyH_take (i := 0) (v := .pointer (some ⟨q, 2, none⟩)) rfl (by kernel_rfl) (by kernel_rfl) (by kernel_rfl) (fun _ _ _ h => h) (Or.inl ⟨by kernel_rfl, ?_⟩) hHeld ?_
          · intro w' hSw; go_simp
          try simp only [Act.put, List.setIfInBounds_toArray, List.set_cons_zero, List.set_cons_succ, List.getElem_toArray, List.getElem_cons_zero]
          refine wpAnyH_take (i := 1) (v := .slice (some ⟨gl, 0, none⟩) n1 zc1) rfl (by kernel_rfl) (by kernel_rfl) (by kernel_rfl) (fun _ _ _ h => h) (Or.inl ⟨by kernel_rfl, ?_⟩) hHeld ?_
          · intro w' hSw; go_simp
          try simp only [Act.put, List.setIfInBounds_toArray, List.set_cons_zero, List.set_cons_succ, List.getElem_toArray, List.getElem_cons_succ, List.getElem_cons_zero]
          refine wpAnyH_take (i := 3) (v := .pointer (some ⟨p, 0, none⟩)) rfl (by kernel_rfl) (by kernel_rfl) (by kernel_rfl) (fun _ _ _ h => h) (Or.inl ⟨by kernel_rfl, ?_⟩) hHeld ?_
          · intro w' hSw; go_simp
          try simp only [Act.put, List.setIfInBounds_toArray, List.set_cons_zero, List.set_cons_succ, List.getElem_toArray, List.getElem_cons_succ, List.getElem_cons_zero]
          refine wpAnyH_ready (rs := [2, 4]) (by kernel_rfl) (by simp) ?_
          refine AllReadyH.cons rfl (fun KK hK' => ?_) (AllReadyH.cons rfl (fun KK hK' => ?_) AllReadyH.nil)
          · go_simp
            obtain ⟨y1, hV9, at9, b9, -⟩ := boxed y0 2 #[.int .i64 1000000, .int .i64 1000001, .int .i64 (-1000000), .int .i64 (-1000001)]
            rw [hV9]
            have hpt : p < y0.heap.size := D.d.2.lt
            obtain ⟨tb, htb⟩ : ∃ s, y0.heap.size = s := ⟨_, rfl⟩
            rw [htb] at at9 hpt ⊢
            replace D := D.below b9
            clear b9 hV9 htb
            clear hHeld
            refine hK'.out _ _ (D.aq.cell 2 rfl) (fun hHeld => ?_)
            clear hK' KK
            try simp only [List.setIfInBounds_toArray, List.set_cons_zero, List.set_cons_succ]
            refine wpAnyH_ready (rs := [4]) (by kernel_rfl) (by simp) ?_
            refine AllReadyH.cons rfl (fun KK hK' => ?_) AllReadyH.nil
            go_simp
            refine (below_dr (Dr.start D.d.2) 4 (by decide) (by decide)).mono ?_
            rintro e y2 ⟨i9, rfl, i0, i1, k9⟩
            obtain ⟨m, rfl⟩ : ∃ m : Nat, i9 = m := ⟨i9.toNat, by omega⟩
            replace at9 := at9.kept k9.1 (by omega)
            replace D := D.kept k9
            clear k9
            try go_wp2_with fail
            clear hHeld
            refine hK'.out _ _ (D.aq.cell 2 rfl) (fun hHeld => ?_)
            clear hK' KK
            try simp only [List.setIfInBounds_toArray, List.set_cons_zero, List.set_cons_succ]
            refine wpAnyH_take (i := 5) (v := .pointer (some ⟨tb, m, none⟩)) rfl (by kernel_rfl) (by kernel_rfl) (by kernel_rfl) (fun _ _ _ h => h) (Or.inl ⟨by kernel_rfl, ?_⟩) hHeld ?_
            · intro w' hSw; go_simp
            try simp only [Act.put, List.setIfInBounds_toArray, List.set_cons_zero, List.set_cons_succ, List.getElem_toArray, List.getElem_cons_succ, List.getElem_cons_zero]
            refine wpAnyH_ready (rs := [6]) (by kernel_rfl) (by simp) ?_
            refine AllReadyH.cons rfl (fun KK hK' => ?_) AllReadyH.nil
            obtain ⟨V9, hV9⟩ := tabI [1000000, 1000001, -1000000, -1000001] (m := m) (by simp; omega)
            have cV := at9.cell m hV9
            go_simp
            clear cV
            clear hHeld
            refine hK'.out _ _ (D.aq.cell 2 rfl) (fun hHeld => ?_)
            clear hK' KK
            try simp only [List.setIfInBounds_toArray, List.set_cons_zero, List.set_cons_succ]
            refine wpAnyH_take (i := 7) (v := .pointer (some ⟨gl, 0, none⟩)) rfl (by kernel_rfl) (by kernel_rfl) (by kernel_rfl) (fun _ _ _ h => h) (Or.inl ⟨by kernel_rfl, ?_⟩) hHeld ?_
            · intro w' hSw; go_simp
            try simp only [Act.put, List.setIfInBounds_toArray, List.set_cons_zero, List.set_cons_succ, List.getElem_toArray, List.getElem_cons_succ, List.getElem_cons_zero]
            refine wpAnyH_ready (rs := [8]) (by kernel_rfl) (by simp) ?_
            refine AllReadyH.cons rfl (fun KK hK' => ?_) AllReadyH.nil
            obtain ⟨cl, fl⟩ := first_cell D.o1 hpos
            go_simp
            replace D := D.put0 hpos V9
            obtain ⟨y4, hx9⟩ : ∃ u, y2.setCell ⟨gl, 0, none⟩ (.int .i64 V9) = u := ⟨_, rfl⟩
            rw [hx9] at D ⊢
            clear hx9 cl fl
            clear hHeld
            refine hK'.out _ _ (D.aq.cell 2 rfl) (fun hHeld => ?_)
            clear hK' KK
            try simp only [List.setIfInBounds_toArray, List.set_cons_zero, List.set_cons_succ]
            refine wpAnyH_done (by kernel_rfl) ?_ _
            clear hHeld
            go_wp2_with fail
            go_meet
            case rel => exact ⟨_, _, _, _, _, _, _, _, D, by omega, by omega⟩
          · go_simp
            refine (below_dr (Dr.start D.d.2) 4 (by decide) (by decide)).mono ?_
            rintro e y1 ⟨i9, rfl, i0, i1, k9⟩
            obtain ⟨m, rfl⟩ : ∃ m : Nat, i9 = m := ⟨i9.toNat, by omega⟩
            replace D := D.kept k9
            clear k9
            try go_wp2_with fail
            clear hHeld
            refine hK'.out _ _ (D.aq.cell 2 rfl) (fun hHeld => ?_)
            clear hK' KK
            try simp only [List.setIfInBounds_toArray, List.set_cons_zero, List.set_cons_succ]
            refine wpAnyH_ready (rs := [2]) (by kernel_rfl) (by simp) ?_
            refine AllReadyH.cons rfl (fun KK hK' => ?_) AllReadyH.nil
            go_simp
            obtain ⟨y2, hV9, at9, b9, -⟩ := boxed y1 2 #[.int .i64 1000000, .int .i64 1000001, .int .i64 (-1000000), .int .i64 (-1000001)]
            rw [hV9]
            have hpt : p < y1.heap.size := D.d.2.lt
            obtain ⟨tb, htb⟩ : ∃ s, y1.heap.size = s := ⟨_, rfl⟩
            rw [htb] at at9 hpt ⊢
            replace D := D.below b9
            clear b9 hV9 htb
            clear hHeld
            refine hK'.out _ _ (D.aq.cell 2 rfl) (fun hHeld => ?_)
            clear hK' KK
            try simp only [List.setIfInBounds_toArray, List.set_cons_zero, List.set_cons_succ]
            refine wpAnyH_take (i := 5) (v := .pointer (some ⟨tb, m, none⟩)) rfl (by kernel_rfl) (by kernel_rfl) (by kernel_rfl) (fun _ _ _ h => h) (Or.inl ⟨by kernel_rfl, ?_⟩) hHeld ?_
            · intro w' hSw; go_simp
            try simp only [Act.put, List.setIfInBounds_toArray, List.set_cons_zero, List.set_cons_succ, List.getElem_toArray, List.getElem_cons_succ, List.getElem_cons_zero]
            refine wpAnyH_ready (rs := [6]) (by kernel_rfl) (by simp) ?_
            refine AllReadyH.cons rfl (fun KK hK' => ?_) AllReadyH.nil
            obtain ⟨V9, hV9⟩ := tabI [1000000, 1000001, -1000000, -1000001] (m := m) (by simp; omega)
            have cV := at9.cell m hV9
            go_simp
            clear cV
            clear hHeld
            refine hK'.out _ _ (D.aq.cell 2 rfl) (fun hHeld => ?_)
            clear hK' KK
            try simp only [List.setIfInBounds_toArray, List.set_cons_zero, List.set_cons_succ]
            refine wpAnyH_take (i := 7) (v := .pointer (some ⟨gl, 0, none⟩)) rfl (by kernel_rfl) (by kernel_rfl) (by kernel_rfl) (fun _ _ _ h => h) (Or.inl ⟨by kernel_rfl, ?_⟩) hHeld ?_
            · intro w' hSw; go_simp
            try simp only [Act.put, List.setIfInBounds_toArray, List.set_cons_zero, List.set_cons_succ, List.getElem_toArray, List.getElem_cons_succ, List.getElem_cons_zero]
            refine wpAnyH_ready (rs := [8]) (by kernel_rfl) (by simp) ?_
            refine AllReadyH.cons rfl (fun KK hK' => ?_) AllReadyH.nil
            obtain ⟨cl, fl⟩ := first_cell D.o1 hpos
            go_simp
            replace D := D.put0 hpos V9
            obtain ⟨y4, hx9⟩ : ∃ u, y2.setCell ⟨gl, 0, none⟩ (.int .i64 V9) = u := ⟨_, rfl⟩
            rw [hx9] at D ⊢
            clear hx9 cl fl
            clear hHeld
            refine hK'.out _ _ (D.aq.cell 2 rfl) (fun hHeld => ?_)
            clear hK' KK
            try simp only [List.setIfInBounds_toArray, List.set_cons_zero, List.set_cons_succ]
            refine wpAnyH_done (by kernel_rfl) ?_ _
            clear hHeld
            go_wp2_with fail
            go_meet
            case rel => exact ⟨_, _, _, _, _, _, _, _, D, by omega, by omega⟩
        · have hpos' : ¬ 0 < (n1 : Int) := by omega
          have hn1' : (n1 : Int) ≤ 30 := by omega
          go_wp2_with fail
          go_meet
          case rel => exact ⟨_, _, _, _, _, _, _, _, D, by omega, by omega⟩
      · have lq := D.aq.lt
        obtain ⟨c0, c1, c2, c3, g0, g1, g2, g3⟩ := D.aq.open4
        have D2 := D.fill (W' := 0) (H' := 0) (.inl ⟨rfl, rfl⟩ : Rw _ _ (.slice none 0 0) 0 (fun _ => 0)) (.inl ⟨rfl, rfl⟩ : Rw _ _ (.slice none 0 0) 0 (fun _ => 0)) (fun _ e => by cases e) (fun e => by cases e) (fun e => by cases e)
        go_wp2_with fail
        go_meet
        case rel => exact ⟨_, _, _, _, _, _, _, _, D2, by omega, by omega⟩
  case rest =>
    clear D
    obtain ⟨W, H, v1, v2, n1, f1, n2, f2, D, hn1, hn2⟩ := hcut
    have lq := D.aq.lt
    obtain ⟨c0, c1, c2, c3, -⟩ := D.aq.open4
    obtain ⟨d0, d1, d2, d3, g0, g1, g2, g3⟩ := D.ar.open4
    obtain ⟨za1, zc1, rfl⟩ := D.o1.shape
    obtain ⟨za2, zc2, rfl⟩ := D.o2.shape
    go_wp2
    have hr1 : (Value.slice za1 n1 zc1).ownBlock ≠ some r := fun e => by have := (D.o1.lt e).1; omega
    have hr2 : (Value.slice za2 n2 zc2).ownBlock ≠ some r := fun e => by have := (D.o2.lt e).1; omega
    have ar8 := put4_at D.ar (.int .i64 W) (.int .i64 H) (.slice za1 n1 zc1) (.slice za2 n2 zc2)
    obtain ⟨r0, r1, r2, r3, -⟩ := ar8.open4
    refine bodyPost_ret (v := nV W H (.slice za1 n1 zc1) (.slice za2 n2 zc2)) (by simp [results, Try.results47, go_sem, r0, r1, r2, r3]) rfl ⟨_, rfl, ⟨W, H, n1, f1, n2, f2, ⟨_, _, rfl, ?_, ?_, D.ap⟩, by omega, by omega⟩, (((D.d.setNew hp hs _).setNew hp hs _).setNew hp hs _).setNew hp hs _⟩
    · exact ((((D.o1.setOther hr1 _).setOther hr1 _).setOther hr1 _).setOther hr1 _).arr.wide (by omega) (Nat.le_refl _)
    · exact ((((D.o2.setOther hr2 _).setOther hr2 _).setOther hr2 _).setOther hr2 _).arr.wide (by omega) (Nat.le_refl _)
end Go.Proofs.Ytlmgdcoknpakcaa
