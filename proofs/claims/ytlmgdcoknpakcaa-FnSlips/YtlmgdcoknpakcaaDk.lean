/-
  A net and a field are drawn: walked.
-/
import Derived.Test.YtlmgdcoknpakcaaDj
namespace Go.Proofs.Ytlmgdcoknpakcaa
open Go.RowKit

theorem iCells_set0 (F : Nat → Int) (x : Int) {n : Nat} (h : 0 < n) : (iCells F n).set 0 (.int .i64 x) = iCells (fun i => if i = 0 then x else F i) n := by
  refine List.ext_getElem? fun i => ?_
  by_cases hi : i < n
  · rw [iCells_at _ hi, List.getElem?_set]
    by_cases h0 : i = 0
    · subst h0; simp [iCells_len, h]
    · rw [if_neg (fun e => h0 e.symm), iCells_at _ hi, if_neg h0]
  · rw [List.getElem?_eq_none (by simp [iCells_len]; omega), List.getElem?_eq_none (by simp [iCells_len]; omega)]
theorem Rw.belowN {w w' : World} {B N : Nat} {v : Value} {n : Nat} {f : Nat → Int} (h : Rw w B v n f) (hb : Below N w w') (hN : ∀ b, v.ownBlock = some b → b < N) : Rw w' B v n f := by
  rcases h with h | ⟨g, c, rfl, h1, h2, cur, h3, h4⟩
  · exact .inl h
  · exact .inr ⟨g, c, rfl, h1, h2, cur, (hb.block g (hN g rfl)).trans h3, h4⟩
/-- A drawn net, and a list of one's own that grows. -/
structure Ds (w1 : World) (p : Nat) (a : Option Addr) (len cap r q : Nat) (us : Array Value) (W H : Int) (v1 v2 : Value) (n1 : Nat) (f1 : Nat → Int) (n2 : Nat) (f2 : Nat → Int) (v : Value) (n : Nat) (F : Nat → Int) (w : World) : Prop where
  D : Dq w1 p a len cap r q us W H v1 v2 n1 f1 n2 f2 w
  o : Lst w (q + 1) v n F
  y1 : ∀ b, v1.ownBlock = some b → b < q
  y2 : ∀ b, v2.ownBlock = some b → b < q
  x3 : w1.heap.size ≤ q
theorem Ds.below {w1 w w' : World} {p : Nat} {a : Option Addr} {len cap r q : Nat} {us : Array Value} {W H : Int} {v1 v2 : Value} {n1 n2 : Nat} {f1 f2 : Nat → Int} {v : Value} {n : Nat} {F : Nat → Int} (h : Ds w1 p a len cap r q us W H v1 v2 n1 f1 n2 f2 v n F w) (hb : Below w.heap.size w w') : Ds w1 p a len cap r q us W H v1 v2 n1 f1 n2 f2 v n F w' := ⟨h.D.below hb, own_below h.o hb, h.y1, h.y2, h.x3⟩
theorem Ds.kept {w1 w w' : World} {p : Nat} {a : Option Addr} {len cap r q : Nat} {us : Array Value} {W H : Int} {v1 v2 : Value} {n1 n2 : Nat} {f1 f2 : Nat → Int} {v : Value} {n : Nat} {F : Nat → Int} (h : Ds w1 p a len cap r q us W H v1 v2 n1 f1 n2 f2 v n F w) (hk : Dr w p a len cap w') : Ds w1 p a len cap r q us W H v1 v2 n1 f1 n2 f2 v n F w' := ⟨h.D.kept hk, own_kept h.o hk.1 (by have := h.D.x2; omega), h.y1, h.y2, h.x3⟩
theorem from_ds {w1 w : World} {p : Nat} {a : Option Addr} {len cap r q : Nat} {us : Array Value} {W H : Int} {v1 v2 : Value} {n1 n2 : Nat} {f1 f2 : Nat → Int} {v : Value} {n : Nat} {F : Nat → Int} (h : Ds w1 p a len cap r q us W H v1 v2 n1 f1 n2 f2 v n F w) (lo hi : Int) (h0 : lo ≤ hi) (h1 : -1000000000 ≤ lo) (h2 : hi ≤ 1000000000) (h3 : hi - lo < 1073741824) :
    Calls Try.prog 57 #[.pointer (some ⟨p, 0, none⟩), .int .i64 lo, .int .i64 hi] w fun e w' => ∃ x : Int, e = .returned (.int .i64 x) ∧ Ds w1 p a len cap r q us W H v1 v2 n1 f1 n2 f2 v n F w' :=
  (from_dr (Dr.start h.D.d.2) lo hi h0 h1 h2 h3).mono fun _ _ ⟨x, e, _, _, k⟩ => ⟨x, e, h.kept k⟩
theorem once_ds {w1 w : World} {p : Nat} {a : Option Addr} {len cap r q : Nat} {us : Array Value} {W H : Int} {v1 v2 : Value} {n1 n2 : Nat} {f1 f2 : Nat → Int} {v : Value} {n : Nat} {F : Nat → Int} (h : Ds w1 p a len cap r q us W H v1 v2 n1 f1 n2 f2 v n F w) (m : Int) (hn0 : 0 < m) (hn : m ≤ 1073741824) :
    Calls Try.prog 39 #[.pointer (some ⟨p, 0, none⟩), .int .i64 m] w fun e w' => ∃ b : Bool, e = .returned (.bool b) ∧ Ds w1 p a len cap r q us W H v1 v2 n1 f1 n2 f2 v n F w' :=
  (once_dr (Dr.start h.D.d.2) m hn0 hn).mono fun _ _ ⟨x, e, k⟩ => ⟨x, e, h.kept k⟩
theorem Ds.app {w1 w w' : World} {p : Nat} {a : Option Addr} {len cap r q : Nat} {us : Array Value} {W H : Int} {v1 v2 : Value} {n1 n2 : Nat} {f1 f2 : Nat → Int} {v : Value} {n : Nat} {F : Nat → Int} {v' : Value} (h : Ds w1 p a len cap r q us W H v1 v2 n1 f1 n2 f2 v n F w) (x : Int) (ho : w'.ownsRow (q + 1) 2 1 v' (n + 1) (iCells F n ++ [.int .i64 x])) (hg : w.grownBy w' v.ownBlock) : Ds w1 p a len cap r q us W H v1 v2 n1 f1 n2 f2 v' (n + 1) (fun i => if i = n then x else F i) w' := by
  have x1 := h.D.x1; have x2 := h.D.x2; have x3 := h.x3
  have lq := h.D.aq.lt
  have Bg : Below (q + 1) w w' := Below.grown (Below.refl _ _) hg (by omega) (fun k hk => (own_lt h.o hk).1)
  refine ⟨⟨h.D.d.grown Bg (by omega) (by omega), h.D.ar.belowN Bg (by omega), h.D.aq.belowN Bg (by omega), h.D.o1.belowN Bg (fun b hb => by have := h.y1 b hb; omega), h.D.o2.belowN Bg (fun b hb => by have := h.y2 b hb; omega), h.D.ap, x1, x2⟩, ?_, h.y1, h.y2, x3⟩
  rw [iCells_snoc] at ho
  exact ho
theorem Ds.set0 {w1 w : World} {p : Nat} {a : Option Addr} {len cap r q : Nat} {us : Array Value} {W H : Int} {v1 v2 : Value} {n1 n2 : Nat} {f1 f2 : Nat → Int} {n : Nat} {F : Nat → Int} {g c : Nat} (h : Ds w1 p a len cap r q us W H v1 v2 n1 f1 n2 f2 (.slice (some ⟨g, 0, none⟩) n c) n F w) (x : Int) (hn : 0 < n) : Ds w1 p a len cap r q us W H v1 v2 n1 f1 n2 f2 (.slice (some ⟨g, 0, none⟩) n c) n (fun i => if i = 0 then x else F i) (w.setCell ⟨g, 0, none⟩ (.int .i64 x)) := by
  have x1 := h.D.x1; have x2 := h.D.x2; have x3 := h.x3
  have lg := (own_lt h.o (b := g) rfl).1
  refine ⟨⟨h.D.d.setNew (by omega) (by omega) _, h.D.ar.setOther (by omega) _, h.D.aq.setOther (by omega) _, h.D.o1.setOther (fun e => by have := h.y1 g e; omega) _, h.D.o2.setOther (fun e => by have := h.y2 g e; omega) _, h.D.ap, x1, x2⟩, ?_, h.y1, h.y2, x3⟩
  refine ⟨by simp [iCells_len], .inr ?_⟩
  rcases h.o.2 with ⟨e, _⟩ | ⟨g', c', cur, e, hb, hh, hc1, hc2, hsz, ht⟩
  · cases e
  · simp only [Value.slice.injEq, Option.some.injEq, Addr.mk.injEq] at e
    obtain ⟨⟨rfl, -, -⟩, -, rfl⟩ := e
    refine ⟨g, c, cur.setIfInBounds 0 (.int .i64 x), rfl, hb, At.set (t := 2) hh 0 (.int .i64 x), hc1, hc2, by simpa using hsz, ?_⟩
    rw [Array.toList_setIfInBounds, List.take_set, ht, iCells_set0 _ _ hn]
theorem Ds.cells0 {w1 w : World} {p : Nat} {a : Option Addr} {len cap r q : Nat} {us : Array Value} {W H : Int} {v1 v2 : Value} {n1 n2 : Nat} {f1 f2 : Nat → Int} {n : Nat} {F : Nat → Int} {g c : Nat} (h : Ds w1 p a len cap r q us W H v1 v2 n1 f1 n2 f2 (.slice (some ⟨g, 0, none⟩) n c) n F w) (hn : 0 < n) : w.cell? ⟨g, 0, none⟩ = some (.int .i64 (F 0)) ∧ n ≤ c ∧ w.frozen? ⟨g, 0, none⟩ = false := by
  rcases h.o.2 with ⟨e, _⟩ | ⟨g', c', cur, e, hb, hh, hc1, hc2, hsz, ht⟩
  · cases e
  · simp only [Value.slice.injEq, Option.some.injEq, Addr.mk.injEq] at e
    obtain ⟨⟨rfl, -, -⟩, -, rfl⟩ := e
    have a1 := iCells_at F hn
    rw [← ht, List.getElem?_take_of_lt (by omega)] at a1
    exact ⟨At.cell (t := 2) hh 0 (by simpa using a1), hc1, At.frozen (t := 2) hh 0⟩
theorem Ds.fin {w0 w1 w : World} {p : Nat} {a : Option Addr} {len cap r q : Nat} {u0 u1 u2 u3 : Value} {W H : Int} {v1 v2 : Value} {n1 n2 : Nat} {f1 f2 : Nat → Int} {v : Value} {n : Nat} {F : Nat → Int} (h : Ds w1 p a len cap r q #[u0, u1, u2, u3] W H v1 v2 n1 f1 n2 f2 v n F w) (hw : Below w0.heap.size w0 w1) (hr : w0.heap.size = r) (hn1 : n1 ≤ 100) (hn2 : n2 ≤ 100) :
    (At 32 (put4 w r (.int .i64 W) (.int .i64 H) v1 v2) r #[.int .i64 W, .int .i64 H, v1, v2] ∧ NetE (put4 w r (.int .i64 W) (.int .i64 H) v1 v2) w0.heap.size (nV W H v1 v2) ∧ Below w0.heap.size w0 (put4 w r (.int .i64 W) (.int .i64 H) v1 v2)) ∧ Rw (put4 w r (.int .i64 W) (.int .i64 H) v1 v2) w0.heap.size v n F := by
  have x1 := h.D.x1; have x2 := h.D.x2
  have R := Rw.of_lst h.o
  have e : v.ownBlock ≠ some r := fun e => by have := (R.lt e).1; omega
  exact ⟨h.D.fin hw hr hn1 hn2, ((((R.setOther e _).setOther e _).setOther e _).setOther e _).wide (by omega)⟩
theorem min_any (x y : Int) (w : World) : Calls Try.prog 64 #[.int .i64 x, .int .i64 y] w fun e w' => e = .returned (.int .i64 (if x < y then x else y)) ∧ w = w' := by
  go_enter Try.func64, Try.ntmps64
  by_cases h : x < y
  · go_wp2; go_ret; simp
  · go_wp2; go_ret; simp
theorem max_any (x y : Int) (w : World) : Calls Try.prog 63 #[.int .i64 x, .int .i64 y] w fun e w' => e = .returned (.int .i64 (if y < x then x else y)) ∧ w = w' := by
  go_enter Try.func63, Try.ntmps63
  by_cases h : y < x
  · go_wp2; go_ret; simp
  · go_wp2; go_ret; simp
set_option maxRecDepth 100000 in
set_option maxHeartbeats 3200000 in
theorem drawShifted_any {w : World} {a : Option Addr} {len cap : Nat} (hr : Row w w.heap.size a len) :
    Calls Try.prog 24 #[.slice a len cap] w fun e w' => ∃ (v vf : Value) (lf : Nat) (F : Nat → Int), e = .returned (.tuple #[v, vf]) ∧ NetE w' w.heap.size v ∧ Rw w' w.heap.size vf lf F ∧ lf ≤ 41 ∧ Below w.heap.size w w' := by
  obtain ⟨V, hV, a0, bV, -⟩ := boxed w 32 #[.int .i64 0, .int .i64 0, .slice none 0 0, .slice none 0 0]
  obtain ⟨r, hrr⟩ : ∃ r, w.heap.size = r := ⟨_, rfl⟩
  have lV : w.heap.size < V.heap.size := a0.lt
  go_enter Try.func24, Try.ntmps24
  go_wp2_with fail
  refine (new_any (hr.below bV)).mono ?_
  rintro e w1 ⟨rfl, b1, hcur⟩
  obtain ⟨p, hp⟩ : ∃ p, V.heap.size = p := ⟨_, rfl⟩
  replace a0 := a0.below b1
  have B1 : Below w.heap.size w w1 := bV.trans (b1.mono bV.size)
  rw [hp] at hcur lV ⊢
  rw [hrr] at a0 lV
  clear hV b1 bV hp
  have lp := hcur.lt
  go_wp2_with fail
  refine (drawAny_any (Dr.start hcur)).mono ?_
  rintro e w2 ⟨v, rfl, ⟨W, H, n1, f1, n2, f2, N, hn1, hn2⟩, hc⟩
  replace a0 := a0.kept hc.1 (by omega)
  obtain ⟨v1, v2, rfl, A1, A2, ap⟩ := N
  have R1 := Rw.of_arr (B := p + 1) A1 (by omega)
  have R2 := Rw.of_arr (B := p + 1) A2 (by omega)
  clear A1 A2 hcur
  obtain ⟨za1, zc1, hz1⟩ := R1.shape
  obtain ⟨za2, zc2, hz2⟩ := R2.shape
  subst hz1 hz2
  have lp2 := hc.2.lt
  have hY1 : ∀ b, (Value.slice za1 n1 zc1).ownBlock = some b → b < w2.heap.size := fun b hb => (R1.lt hb).2
  have hY2 : ∀ b, (Value.slice za2 n2 zc2).ownBlock = some b → b < w2.heap.size := fun b hb => (R2.lt hb).2
  have hX3 : w1.heap.size ≤ w2.heap.size := hc.1.size
  obtain ⟨V3, hV3, aq, b3, -⟩ := boxed w2 32 #[.int .i64 W, .int .i64 H, .slice za1 n1 zc1, .slice za2 n2 zc2]
  obtain ⟨q, hq⟩ : ∃ q, w2.heap.size = q := ⟨_, rfl⟩
  rw [hq] at aq lp2 hY1 hY2 hX3
  have D : Dq w1 p a len cap r q #[.int .i64 0, .int .i64 0, .slice none 0 0, .slice none 0 0] W H (.slice za1 n1 zc1) (.slice za2 n2 zc2) n1 f1 n2 f2 V3 := ⟨hc.below b3, a0.below b3, aq, R1.below b3, R2.below b3, ap, lV, lp2⟩
  have lq := aq.lt
  clear a0 aq b3 hc R1 R2 ap
  obtain ⟨V4, hV4, at4, b4, -⟩ := boxed V3 2 #[]
  have E : Ds w1 p a len cap r q #[.int .i64 0, .int .i64 0, .slice none 0 0, .slice none 0 0] W H (.slice za1 n1 zc1) (.slice za2 n2 zc2) n1 f1 n2 f2 (.slice (some ⟨V3.heap.size, 0, none⟩) 0 0) 0 (fun _ => 0) V4 := ⟨D.below b4, ⟨rfl, .inr ⟨_, 0, #[], rfl, lq, at4, Nat.le_refl _, Nat.zero_le _, rfl, rfl⟩⟩, hY1, hY2, hX3⟩
  obtain ⟨c0, c1, c2, c3, -⟩ := E.D.aq.open4
  clear D lq
  have lq := E.D.aq.lt
  obtain ⟨g, hg⟩ : ∃ g, V3.heap.size = g := ⟨_, rfl⟩
  rw [hg] at E
  clear b4 at4
  go_wp2_with fail
  clear c0 c1 c2 c3 lq hV3 hV4 hq hg
  refine (min_any _ _ _).mono ?_
  rintro e w5 ⟨rfl, rfl⟩
  obtain ⟨m, hm⟩ : ∃ m, (if wrap64 (W * H) < 40 then wrap64 (W * H) else 40) = m := ⟨_, rfl⟩
  have hm4 : m ≤ 40 := by rw [← hm]; split <;> omega
  rw [hm]
  clear hm
  go_wp2_with fail
  refine (max_any _ _ _).mono ?_
  rintro e w5 ⟨rfl, rfl⟩
  obtain ⟨k0, hk⟩ : ∃ k, (if m < 0 then 0 else m) = k := ⟨_, rfl⟩
  have hk0 : 0 ≤ k0 ∧ k0 ≤ 40 := by rw [← hk]; split <;> omega
  rw [hk]
  clear hk hm4
  go_wp2_with fail
  obtain ⟨i0, hi0, hz0, hz1, hz2⟩ := info_parts infoI
  go_loopw [6, 7] (fun s t wr => ∃ (k : Int) (n : Nat) (F : Nat → Int), (0 ≤ k ∧ k ≤ 40) ∧ (n : Int) + k ≤ 40 ∧ t = .int .i64 k ∧ Ds w1 p a len cap r q #[.int .i64 0, .int .i64 0, .slice none 0 0, .slice none 0 0] W H (.slice za1 n1 zc1) (.slice za2 n2 zc2) n1 f1 n2 f2 s n F wr) (fun _ t _ => (intOf t).toNat)
  case atStart => exact ⟨_, 0, _, hk0, by omega, rfl, E⟩
  case round =>
    clear E hk0
    obtain ⟨k, n, F, ⟨hk0, hk1⟩, hnk, rfl, E⟩ := hrel
    by_cases hlt : 0 < k
    · go_wp2_with fail
      refine (from_ds E (-5) 5 (by decide) (by decide) (by decide) (by decide)).mono ?_
      rintro e w5 ⟨X, rfl, k5⟩
      replace E := k5
      clear k5
      obtain ⟨V6, hV6, A6, b6, -⟩ := boxed w5 2 #[.int .i64 X]
      replace E := E.below b6
      clear b6
      have hb2 : ∀ w, (Instr.buildSlice 30 1 #[(0, .int .i64 X)]).run Try.prog w = .ok (.slice (some ⟨w.heap.size, 0, none⟩) 1 1) (w.alloc (.cells #[.int .i64 X] 2)) := fun _ => by kernel_rfl
      have hnw : ∀ j u, [Value.int .i64 X][j]? = some u → V6.cell? ((⟨w5.heap.size, 0, none⟩ : Addr).add j) = some u := by rw [← hV6]; exact cell_one_new _ _ _
      clear A6
      have l6 := E.D.aq.lt
      go_wp2_with (at_builtin; refine Hid.out (?_ : Hid _))
      refine (?_ : wpList _ _ _ _ _ _)
      refine wpList_append_own_at _ rfl _ _ _ rfl (q + 1) 2 i0 _ 1 8 Try.underlying30 hi0 hz0 hz1 hz2 rfl (by omega) _ n (iCells F n) rfl E.o ⟨w5.heap.size, 0, none⟩ 1 1 [.int .i64 X] rfl rfl hnw (by intro u hu; simp at hu; subst hu; rfl) (by unfold maxLen; omega) (by omega) (by omega) ?_
      intro v' w6 hown hgrow hne hat
      have E7 := E.app X hown hgrow
      clear E hV6
      go_wp2
      exact ⟨⟨k - 1, n + 1, _, ⟨by omega, by omega⟩, by omega, rfl, E7⟩, by simp [intOf]; omega⟩
    · obtain ⟨af, cf, hu⟩ := (Rw.of_lst E.o).shape
      subst hu
      go_wp2_with fail
      refine (once_ds E 12 (by decide) (by decide)).mono ?_
      rintro e w6 ⟨bo, rfl, k5⟩
      replace E := k5
      clear k5
      rcases bo with _ | _
      · go_wp2_with fail
        refine (once_ds E 20 (by decide) (by decide)).mono ?_
        rintro e w7 ⟨bb, rfl, k5⟩
        replace E := k5
        clear k5
        rcases bb with _ | _
        · skip
          have lq := E.D.aq.lt
          obtain ⟨c0, c1, c2, c3, -⟩ := E.D.aq.open4
          obtain ⟨d0, d1, d2, d3, g0, g1, g2, g3⟩ := E.D.ar.open4
          have hF := E.fin B1 hrr hn1 hn2
          go_wp2
          obtain ⟨⟨A8, N8, B8⟩, R8⟩ := hF
          obtain ⟨r0, r1, r2, r3, -⟩ := A8.open4
          exact bodyPost_ret (v := .tuple #[nV W H (.slice za1 n1 zc1) (.slice za2 n2 zc2), .slice af n cf]) (by simp [results, Try.results24, go_sem, r0, r1, r2, r3]) rfl ⟨_, _, _, _, rfl, N8, R8, by omega, B8⟩
        · obtain ⟨V6, hV6, A6, b6, -⟩ := boxed w7 2 #[.int .i64 0]
          replace E := E.below b6
          clear b6
          have hb2 : ∀ w, (Instr.buildSlice 30 1 #[(0, .int .i64 0)]).run Try.prog w = .ok (.slice (some ⟨w.heap.size, 0, none⟩) 1 1) (w.alloc (.cells #[.int .i64 0] 2)) := fun _ => by kernel_rfl
          have hnw : ∀ j u, [Value.int .i64 0][j]? = some u → V6.cell? ((⟨w7.heap.size, 0, none⟩ : Addr).add j) = some u := by rw [← hV6]; exact cell_one_new _ _ _
          clear A6
          have l6 := E.D.aq.lt
          go_wp2_with (at_builtin; refine Hid.out (?_ : Hid _))
          refine (?_ : wpList _ _ _ _ _ _)
          refine wpList_append_own_at _ rfl _ _ _ rfl (q + 1) 2 i0 _ 1 8 Try.underlying30 hi0 hz0 hz1 hz2 rfl (by omega) _ _ (iCells _ _) rfl E.o ⟨w7.heap.size, 0, none⟩ 1 1 [.int .i64 0] rfl rfl hnw (by intro u hu; simp at hu; subst hu; rfl) (by unfold maxLen; omega) (by omega) (by omega) ?_
          intro v' w8 hown hgrow hne hat
          have E7 := E.app 0 hown hgrow
          clear E hV6
          have E := E7
          clear E7
          have lq := E.D.aq.lt
          obtain ⟨c0, c1, c2, c3, -⟩ := E.D.aq.open4
          obtain ⟨d0, d1, d2, d3, g0, g1, g2, g3⟩ := E.D.ar.open4
          have hF := E.fin B1 hrr hn1 hn2
          go_wp2
          obtain ⟨⟨A8, N8, B8⟩, R8⟩ := hF
          obtain ⟨r0, r1, r2, r3, -⟩ := A8.open4
          exact bodyPost_ret (v := .tuple #[nV W H (.slice za1 n1 zc1) (.slice za2 n2 zc2), v']) (by simp [results, Try.results24, go_sem, r0, r1, r2, r3]) rfl ⟨_, _, _, _, rfl, N8, R8, by omega, B8⟩
      · rcases n with _ | n
        · go_wp2_with fail
          refine (once_ds E 20 (by decide) (by decide)).mono ?_
          rintro e w7 ⟨bb, rfl, k5⟩
          replace E := k5
          clear k5
          rcases bb with _ | _
          · skip
            have lq := E.D.aq.lt
            obtain ⟨c0, c1, c2, c3, -⟩ := E.D.aq.open4
            obtain ⟨d0, d1, d2, d3, g0, g1, g2, g3⟩ := E.D.ar.open4
            have hF := E.fin B1 hrr hn1 hn2
            go_wp2
            obtain ⟨⟨A8, N8, B8⟩, R8⟩ := hF
            obtain ⟨r0, r1, r2, r3, -⟩ := A8.open4
            exact bodyPost_ret (v := .tuple #[nV W H (.slice za1 n1 zc1) (.slice za2 n2 zc2), .slice af 0 cf]) (by simp [results, Try.results24, go_sem, r0, r1, r2, r3]) rfl ⟨_, _, _, _, rfl, N8, R8, by omega, B8⟩
          · obtain ⟨V6, hV6, A6, b6, -⟩ := boxed w7 2 #[.int .i64 0]
            replace E := E.below b6
            clear b6
            have hb2 : ∀ w, (Instr.buildSlice 30 1 #[(0, .int .i64 0)]).run Try.prog w = .ok (.slice (some ⟨w.heap.size, 0, none⟩) 1 1) (w.alloc (.cells #[.int .i64 0] 2)) := fun _ => by kernel_rfl
            have hnw : ∀ j u, [Value.int .i64 0][j]? = some u → V6.cell? ((⟨w7.heap.size, 0, none⟩ : Addr).add j) = some u := by rw [← hV6]; exact cell_one_new _ _ _
            clear A6
            have l6 := E.D.aq.lt
            go_wp2_with (at_builtin; refine Hid.out (?_ : Hid _))
            refine (?_ : wpList _ _ _ _ _ _)
            refine wpList_append_own_at _ rfl _ _ _ rfl (q + 1) 2 i0 _ 1 8 Try.underlying30 hi0 hz0 hz1 hz2 rfl (by omega) _ _ (iCells _ _) rfl E.o ⟨w7.heap.size, 0, none⟩ 1 1 [.int .i64 0] rfl rfl hnw (by intro u hu; simp at hu; subst hu; rfl) (by unfold maxLen; omega) (by omega) (by omega) ?_
            intro v' w8 hown hgrow hne hat
            have E7 := E.app 0 hown hgrow
            clear E hV6
            have E := E7
            clear E7
            have lq := E.D.aq.lt
            obtain ⟨c0, c1, c2, c3, -⟩ := E.D.aq.open4
            obtain ⟨d0, d1, d2, d3, g0, g1, g2, g3⟩ := E.D.ar.open4
            have hF := E.fin B1 hrr hn1 hn2
            go_wp2
            obtain ⟨⟨A8, N8, B8⟩, R8⟩ := hF
            obtain ⟨r0, r1, r2, r3, -⟩ := A8.open4
            exact bodyPost_ret (v := .tuple #[nV W H (.slice za1 n1 zc1) (.slice za2 n2 zc2), v']) (by simp [results, Try.results24, go_sem, r0, r1, r2, r3]) rfl ⟨_, _, _, _, rfl, N8, R8, by omega, B8⟩
        · obtain ⟨gf, cf', hu⟩ := own_shape E.o
          simp only [Value.slice.injEq, true_and] at hu
          obtain ⟨rfl, rfl⟩ := hu
          have hd : decide (0 < ((n + 1 : Nat) : Int)) = true := decide_eq_true (by omega)
          go_wp2_with fail
          obtain ⟨V9, hV9, at9, b9, -⟩ := boxed w6 2 #[.int .i64 1000000, .int .i64 1000001, .int .i64 (-1000000)]
          rw [hV9]
          have hpt : p < w6.heap.size := E.D.d.2.lt
          replace E := E.below b9
          obtain ⟨tb, htb⟩ : ∃ s, w6.heap.size = s := ⟨_, rfl⟩
          rw [htb] at at9 hpt ⊢
          clear b9 hV9 htb
          refine (below_dr (Dr.start E.D.d.2) 3 (by decide) (by decide)).mono ?_
          rintro e w9 ⟨i9, rfl, i0', i1', k9⟩
          obtain ⟨mm, rfl⟩ : ∃ m : Nat, i9 = m := ⟨i9.toNat, by omega⟩
          replace at9 := at9.kept k9.1 (by omega)
          replace E := E.kept k9
          obtain ⟨X9, hX9⟩ := tabI [1000000, 1000001, -1000000] (m := mm) (by simp; omega)
          have cV := at9.cell mm hX9
          obtain ⟨cF, hcF, fF⟩ := E.cells0 (by omega)
          have E8 := E.set0 X9 (by omega)
          go_wp2_with fail
          clear E cF fF
          have E := E8
          clear E8
          refine (once_ds E 20 (by decide) (by decide)).mono ?_
          rintro e w7 ⟨bb, rfl, k5⟩
          replace E := k5
          clear k5
          rcases bb with _ | _
          · skip
            have lq := E.D.aq.lt
            obtain ⟨c0, c1, c2, c3, -⟩ := E.D.aq.open4
            obtain ⟨d0, d1, d2, d3, g0, g1, g2, g3⟩ := E.D.ar.open4
            have hF := E.fin B1 hrr hn1 hn2
            go_wp2
            obtain ⟨⟨A8, N8, B8⟩, R8⟩ := hF
            obtain ⟨r0, r1, r2, r3, -⟩ := A8.open4
            exact bodyPost_ret (v := .tuple #[nV W H (.slice za1 n1 zc1) (.slice za2 n2 zc2), .slice (some ⟨gf, 0, none⟩) (n + 1) cf]) (by simp [results, Try.results24, go_sem, r0, r1, r2, r3]) rfl ⟨_, _, _, _, rfl, N8, R8, by omega, B8⟩
          · obtain ⟨V6, hV6, A6, b6, -⟩ := boxed w7 2 #[.int .i64 0]
            replace E := E.below b6
            clear b6
            have hb2 : ∀ w, (Instr.buildSlice 30 1 #[(0, .int .i64 0)]).run Try.prog w = .ok (.slice (some ⟨w.heap.size, 0, none⟩) 1 1) (w.alloc (.cells #[.int .i64 0] 2)) := fun _ => by kernel_rfl
            have hnw : ∀ j u, [Value.int .i64 0][j]? = some u → V6.cell? ((⟨w7.heap.size, 0, none⟩ : Addr).add j) = some u := by rw [← hV6]; exact cell_one_new _ _ _
            clear A6
            have l6 := E.D.aq.lt
            go_wp2_with (at_builtin; refine Hid.out (?_ : Hid _))
            refine (?_ : wpList _ _ _ _ _ _)
            refine wpList_append_own_at _ rfl _ _ _ rfl (q + 1) 2 i0 _ 1 8 Try.underlying30 hi0 hz0 hz1 hz2 rfl (by omega) _ _ (iCells _ _) rfl E.o ⟨w7.heap.size, 0, none⟩ 1 1 [.int .i64 0] rfl rfl hnw (by intro u hu; simp at hu; subst hu; rfl) (by unfold maxLen; omega) (by omega) (by omega) ?_
            intro v' w8 hown hgrow hne hat
            have E7 := E.app 0 hown hgrow
            clear E hV6
            have E := E7
            clear E7
            have lq := E.D.aq.lt
            obtain ⟨c0, c1, c2, c3, -⟩ := E.D.aq.open4
            obtain ⟨d0, d1, d2, d3, g0, g1, g2, g3⟩ := E.D.ar.open4
            have hF := E.fin B1 hrr hn1 hn2
            go_wp2
            obtain ⟨⟨A8, N8, B8⟩, R8⟩ := hF
            obtain ⟨r0, r1, r2, r3, -⟩ := A8.open4
            exact bodyPost_ret (v := .tuple #[nV W H (.slice za1 n1 zc1) (.slice za2 n2 zc2), v']) (by simp [results, Try.results24, go_sem, r0, r1, r2, r3]) rfl ⟨_, _, _, _, rfl, N8, R8, by omega, B8⟩

end Go.Proofs.Ytlmgdcoknpakcaa
