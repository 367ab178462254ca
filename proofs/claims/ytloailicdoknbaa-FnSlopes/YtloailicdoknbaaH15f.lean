/-
  Slopes back by the program: walked.
-/
import Derived.Test.YtloailicdoknbaaH15c
import Derived.Test.YtloailicdoknbaaH15e
import Derived.Test.YtloailicdoknbaaS15n
namespace Go.Proofs.Ytloailicdoknbaa
open Go.RowKit Go.Shelf
attribute [local go_sem] Oper.semAt_some

theorem At.open1 {t : TypeId} {w : World} {q : Nat} {v : Value} (h : At t w q #[v]) : w.cell? ⟨q, 0, none⟩ = some v ∧ w.frozen? ⟨q, 0, none⟩ = false := ⟨h.cell 0 rfl, h.frozen 0⟩
/-- The nodes of a list, one by one. -/
def bkl (n inp : Nat) (f v : Nat → Int) (l : List { x : Nat // x < n }) : Nat → Int :=
  l.foldl (fun D x => bst (spF (inp : Int) (f (x.1 * 3)) (f (x.1 * 3 + 1)) (f (x.1 * 3 + 2)) v) (D (inp + x.1)) D (spM (f (x.1 * 3)))) (un (inp + n - 1))
theorem bkl_snoc {n inp : Nat} {f v : Nat → Int} (l : List { x : Nat // x < n }) (x : { x : Nat // x < n }) : bkl n inp f v (l ++ [x]) = bst (spF (inp : Int) (f (x.1 * 3)) (f (x.1 * 3 + 1)) (f (x.1 * 3 + 2)) v) (bkl n inp f v l (inp + x.1)) (bkl n inp f v l) (spM (f (x.1 * 3))) := by
  unfold bkl
  rw [List.foldl_append]
  rfl
theorem bkl_in {n inp : Nat} {f v : Nat → Int} (l : List { x : Nat // x < n }) : ∀ i, 0 ≤ bkl n inp f v l i ∧ bkl n inp f v l i < 12289 := by
  unfold bkl
  generalize hD : un (inp + n - 1) = D
  have h : ∀ i, 0 ≤ D i ∧ D i < 12289 := fun i => by rw [← hD]; unfold un; split <;> omega
  clear hD
  induction l generalizing D with
  | nil => exact h
  | cons x l ih => exact ih _ (bst_in h _)
theorem bkl_dn {n inp : Nat} {f v : Nat → Int} (hn : 0 < n) : ∀ t, bkl n inp f v (dn n hn t) = bk n inp f v t
  | 0 => rfl
  | t + 1 => by rw [dn, bkl_snoc, bkl_dn hn t]; rfl
theorem at_kept {t : TypeId} {W W' : World} {q : Nat} {vs : Array Value} {row : Option Nat} (h : At t W q vs) (hg : W.grownBy W' row) (hr : ∀ r, row = some r → ∃ o : Obj, W.heap[r]? = some o ∧ o.isCells = false) : At t W' q vs := (grownBy_keeps_cells hg hr h rfl).trans h
/-- How the program's lists stand between two rounds. -/
structure Bi (W : World) (q1 q4 q6 q7 gv M : Nat) (xv vv : Value) (F D : Nat → Int) : Prop where
  x1 : At 23 W q1 #[xv]
  v4 : At 23 W q4 #[vv]
  s7 : At 23 W q7 #[.slice (some ⟨q6, 0, none⟩) M M]
  mo : Made W q6 M M D
  vi : Ints W gv 0 M F
  gl : gv < W.heap.size
theorem Bi.below {W W' : World} {q1 q4 q6 q7 gv M : Nat} {xv vv : Value} {F D : Nat → Int} (h : Bi W q1 q4 q6 q7 gv M xv vv F D) (hb : Below W.heap.size W W') : Bi W' q1 q4 q6 q7 gv M xv vv F D := ⟨h.x1.below hb, h.v4.below hb, h.s7.below hb, made_below h.mo hb, h.vi.below h.gl hb, Nat.lt_of_lt_of_le h.gl hb.size⟩
theorem Bi.kept {W W' : World} {q1 q4 q6 q7 gv M : Nat} {xv vv : Value} {F D : Nat → Int} {row : Option Nat} (h : Bi W q1 q4 q6 q7 gv M xv vv F D) (hg : W.grownBy W' row) (hr : ∀ r, row = some r → ∃ o : Obj, W.heap[r]? = some o ∧ o.isCells = false) : Bi W' q1 q4 q6 q7 gv M xv vv F D := by
  refine ⟨at_kept h.x1 hg hr, at_kept h.v4 hg hr, at_kept h.s7 hg hr, ?_, fun i hi => cell_kept (h.vi i hi) hg hr, Nat.lt_of_lt_of_le h.gl hg.size⟩
  obtain ⟨cur, h1, h2, h3⟩ := h.mo
  exact ⟨cur, at_kept h1 hg hr, h2, h3⟩
theorem Bi.put {W : World} {q1 q4 q6 q7 gv M : Nat} {xv vv : Value} {F D : Nat → Int} (h : Bi W q1 q4 q6 q7 gv M xv vv F D) (P : Nat) (z : Int) (n1 : q1 ≠ q6) (n4 : q4 ≠ q6) (n7 : q7 ≠ q6) (ng : gv ≠ q6) : Bi (W.setCell ⟨q6, P, none⟩ (.int .i64 z)) q1 q4 q6 q7 gv M xv vv F (upd D P z) :=
  ⟨h.x1.setOther n1 _, h.v4.setOther n4 _, h.s7.setOther n7 _, made_upd h.mo P z (Nat.le_refl _), fun i hi => by rw [World.cell?_of_block (w := W) (Below.heap_setCell _ _ _ _ ng)]; exact h.vi i hi, by simpa [World.setCell] using h.gl⟩
theorem atK {t : TypeId} {w w' : World} {q b : Nat} {vs : Array Value} (h : At t w q vs) (hk : Kept b w w') (hne : q ≠ b) : At t w' q vs := (hk.block q h.lt hne).trans h
theorem recsK {k : Nat} {w w' : World} {g b m : Nat} {pf : Nat → Int} (h : Recs k w g m pf) (hk : Kept b w w') (hne : g ≠ b) : Recs k w' g m pf := ⟨Nat.lt_of_lt_of_le h.1 hk.size, fun i hi => (hk.cell hne h.1).trans (h.2 i hi)⟩
theorem Kp2.below {b g : Nat} {W W' : World} (hb : Below W.heap.size W W') (h1 : b < W.heap.size) (h2 : g < W.heap.size) : Kp2 b g W W' := ⟨hb.block b h1, hb.block g h2⟩
theorem Kp2.put {b g q P : Nat} {W : World} {z : Value} (h1 : b ≠ q) (h2 : g ≠ q) : Kp2 b g W (W.setCell ⟨q, P, none⟩ z) := ⟨Below.heap_setCell _ _ _ _ h1, Below.heap_setCell _ _ _ _ h2⟩
set_option maxRecDepth 100000 in
set_option maxHeartbeats 6400000 in
theorem implBack_in (n0 : Nat) (h10 : 1 ≤ n0) {w : World} {g n cap b o c inp : Nat} {f x : Nat → Int} (h : Recs 3 w g n f) (hx : Ints w b o inp x) (hb : b < w.heap.size) (hx64 : ∀ i, i < inp → is64 (x i)) (hf64 : ∀ i, i < n * 3 → is64 (f i)) (ok : TpN n inp f) :
    CallsIn Fence.wide n0 Try.prog 19 #[.slice (some ⟨g, 0, none⟩) n cap, .slice (some ⟨b, o, none⟩) inp c] w fun e w' => ∃ v, e = .returned (.tuple #[v, .bool true]) ∧ Arr w' w.heap.size w'.heap.size v inp (bk n inp f (tv mp f x) n) ∧ Below w.heap.size w w' := by
  have hwf : ∀ f, Fence.wide.fn f := fun _ => trivial
  have hwd : Fence.wide.depth.isSome = false := rfl
  have hn0 := ok.2
  have hn200 := ok.1.1
  have hi20 := ok.1.2.1.2
  have hn' : (n : Int) ≤ 200 := by omega
  have hi' : (inp : Int) ≤ 20 := by omega
  have HO : Hid (TpN n inp f) := ok
  refine callsIn_of_wp_marks Try.func19 rfl trivial ?_ rfl
  simp only [Try.ntmps19, List.size_toArray, List.length_cons, List.length_nil, Nat.reduceAdd, Nat.reduceSub, Array.replicate_succ, Array.replicate_zero, List.push_toArray, List.append_toArray, List.nil_append, List.cons_append]
  obtain ⟨W1, hW1, a1, b1, -⟩ := boxed w 23 #[.slice (some ⟨b, o, none⟩) inp c]
  obtain ⟨q1, hq1⟩ : ∃ q, w.heap.size = q := ⟨_, rfl⟩
  rw [hq1] at a1
  have k1 := a1.cell 0 rfl
  gi_wp2_with fail
  refine (callsIn_wide.2 (elementsFor_any (h.below b1) (by omega) (by omega))).mono ?_
  rintro e w2 ⟨hh, bb⟩
  rcases hh with ⟨ho, -⟩ | ⟨-, ge, ce, rfl, p1, p2, E2⟩
  · exact absurd ok ho
  clear ok k1
  replace a1 := a1.below bb
  have B2 := b1.trans (bb.mono b1.size)
  have hb2 : b < w2.heap.size := Nat.lt_of_lt_of_le hb B2.size
  have x2 := hx.below hb B2
  have q1l : q1 < w2.heap.size := a1.lt
  have gel := E2.1
  have k2 := a1.cell 0 rfl
  clear bb b1 hW1 h hx
  gi_wp2_with fail
  refine (callsIn_wide.2 (residues_any E2 x2 hb2 HO.out.1 hx64 hf64)).mono ?_
  rintro e w3 ⟨v, rfl, G⟩
  obtain ⟨gv, cv, rfl, p3, p4, p5, I3⟩ := G.ints
  replace E2 := E2.below (G.b.mono (Nat.le_refl _))
  replace a1 := a1.below (G.b.mono (Nat.le_refl _))
  have B3 := B2.trans (G.b.mono B2.size)
  clear G x2 hb2 B2 k2 q1l gel
  obtain ⟨k2, -⟩ := a1.open1
  obtain ⟨M, hM⟩ : ∃ M, inp + n = M := ⟨_, rfl⟩
  have HM : Hid (inp + n = M) := hM
  have hMi : (M : Int) = (inp : Int) + n := by omega
  have hM' : (M : Int) ≤ 220 := by omega
  have hM0 : (0 : Int) < (M : Int) := by omega
  have hmz := makeZ M (by omega)
  rw [hM] at I3 ⊢
  obtain ⟨N, hN⟩ : ∃ N, M - 1 = N := ⟨_, rfl⟩
  have hN' : (M : Int) - 1 = (N : Int) := by omega
  have hN2 : (N : Int) < (M : Int) := by omega
  have hNM : N < M := by omega
  have HN : Hid (inp + n - 1 = N) := by show _ = _; rw [hM, hN]
  clear hM hMi hN
  obtain ⟨W4, hW4, a4, b4, -⟩ := boxed w3 23 #[.slice none 0 0]
  obtain ⟨q4, hq4⟩ : ∃ q, w3.heap.size = q := ⟨_, rfl⟩
  rw [hq4] at a4
  obtain ⟨W5, hW5⟩ : ∃ W, W4.setCell ⟨q4, 0, none⟩ (.slice (some ⟨gv, 0, none⟩) M cv) = W := ⟨_, rfl⟩
  obtain ⟨W6, hW6, a6, b6, -⟩ := boxed W5 2 (madeCells #[.int .i64 0] M)
  obtain ⟨q6, hq6⟩ : ∃ q, W5.heap.size = q := ⟨_, rfl⟩
  rw [hq6] at a6
  obtain ⟨W7, hW7, a7, b7, -⟩ := boxed W6 23 #[.slice none 0 0]
  obtain ⟨q7, hq7⟩ : ∃ q, W6.heap.size = q := ⟨_, rfl⟩
  rw [hq7] at a7
  obtain ⟨d4, f4⟩ := a4.open1
  have a5 : At 23 W5 q4 #[.slice (some ⟨gv, 0, none⟩) M cv] := by rw [← hW5]; exact a4.set 0 _
  obtain ⟨d5, -⟩ := a5.open1
  obtain ⟨d7, f7⟩ := a7.open1
  obtain ⟨W8, hW8⟩ : ∃ W, W7.setCell ⟨q7, 0, none⟩ (.slice (some ⟨q6, 0, none⟩) M M) = W := ⟨_, rfl⟩
  have a8 : At 23 W8 q7 #[.slice (some ⟨q6, 0, none⟩) M M] := by rw [← hW8]; exact a7.set 0 _
  obtain ⟨d8, -⟩ := a8.open1
  have l76 : q6 < q7 := by rw [← hq7]; exact a6.lt
  have l64 : q4 < q6 := by rw [← hq6]; exact a5.lt
  have l41 : q1 < q4 := by rw [← hq4]; exact a1.lt
  have m8 : At 2 W8 q6 (madeCells #[.int .i64 0] M) := by rw [← hW8]; exact (a6.below b7).setOther (by omega) _
  have d9 := m8.cell N (madeAt hNM)
  have f9 := m8.frozen N
  obtain ⟨W9, hW9⟩ : ∃ W, W8.setCell ⟨q6, N, none⟩ (.int .i64 1) = W := ⟨_, rfl⟩
  gi_wp2_with fail
  refine (callsIn_wide.2 (backward_any _ _ _ _)).mono ?_
  rintro e w10 ⟨rfl, rfl⟩
  have a9 : At 23 W9 q7 #[.slice (some ⟨q6, 0, none⟩) M M] := by rw [← hW9]; exact a8.setOther (by omega) _
  have m9 : Made W9 q6 M M (un N) := by
    rw [← hW9]
    refine ⟨_, m8.set N _, by simp [madeSz], fun j hj => ?_⟩
    rw [Array.getElem?_setIfInBounds]
    by_cases e : N = j
    · subst e
      rw [if_pos rfl, if_pos (by rw [madeSz]; exact hNM), un, if_pos rfl]
    · rw [if_neg e, madeAt hj, un, if_neg (fun k => e k.symm)]
  have b35 : Below w3.heap.size w3 W5 := by rw [← hW5]; exact b4.setCell (p := ⟨q4, 0, none⟩) (by rw [hq4]; exact Nat.le_refl _) _
  have b37 := b35.trans ((b6.trans (b7.mono b6.size)).mono b35.size)
  have b38 : Below w3.heap.size w3 W8 := by rw [← hW8]; exact b37.setCell (p := ⟨q7, 0, none⟩) (by rw [hq4]; show q4 ≤ q7; omega) _
  have b39 : Below w3.heap.size w3 W9 := by rw [← hW9]; exact b38.setCell (p := ⟨q6, N, none⟩) (by rw [hq4]; show q4 ≤ q6; omega) _
  have b59 : At 23 W9 q4 #[.slice (some ⟨gv, 0, none⟩) M cv] := by
    rw [← hW9, ← hW8]
    exact (((a5.below b6).below b7).setOther (by omega) _).setOther (by omega) _
  gi_wp2
  have lg : gv < q4 := by rw [← hq4]; exact p5
  have lge : ge < q4 := by rw [← hq4]; exact E2.1
  have wq1 : w.heap.size ≤ q1 := by rw [hq1]; exact Nat.le_refl _
  have K9 : Bi W9 q1 q4 q6 q7 gv M (.slice (some ⟨b, o, none⟩) inp c) (.slice (some ⟨gv, 0, none⟩) M cv) (Fx inp x (tv mp f x)) (un N) := ⟨a1.below b39, b59, a9, m9, I3.below p5 b39, Nat.lt_of_lt_of_le p5 b39.size⟩
  have B9 := B3.trans (b39.mono B3.size)
  have E9 := E2.below b39
  clear hW4 hW5 hW6 hW7 hW8 hW9 a1 a4 a5 a6 a7 a8 a9 m8 m9 b4 b6 b7 b35 b37 b38 b39 b59 d4 f4 d5 d7 f7 d8 d9 f9 hmz k2 hq1 hq4 hq6 hq7 I3 p3 p4 p5 E2 B3
  clear W4 W5 W6 W7 W8
  obtain ⟨V, hV, aV, bV, sV⟩ := boxed W9 54 #[.slice (some ⟨ge, 0, none⟩) n ce]
  rw [hV]
  have l79 : q7 < W9.heap.size := K9.s7.lt
  have KV := K9.below bV
  have BV := B9.trans (bV.mono B9.size)
  have EV := E9.below bV
  clear hV K9 B9 E9
  refine wpIn_rangeFunc_ownF rfl h10 rfl trivial (enters_of Try.func55 (by kernel_rfl) rfl)
    (backward_stops (n0 - 1) (n := n) (w := V) (ge := ge) (ce := ce) (el := els (inp : Int) f) (bx := W9.heap.size) hn0 (by omega) aV.lt (aV.cell 0 rfl) EV) Kp2.t (fun W l oo o' hl hh _ _ => ?kb) (Below.refl _ _) (fun _ => rfl)
    (fun pre W => (Bi W q1 q4 q6 q7 gv M (.slice (some ⟨b, o, none⟩) inp c) (.slice (some ⟨gv, 0, none⟩) M cv) (Fx inp x (tv mp f x)) (bkl n inp f (tv mp f x) pre) ∧ W9.heap.size < W.heap.size) ∧ Below w.heap.size w W)
    (fun _ _ _ => False) ?hI (fun _ _ _ _ _ hs _ _ => hs) ?h0 (fun x => { tmps := #[Value.slice (some ⟨g, 0, none⟩) n cap, Value.slice (some ⟨b, o, none⟩) inp c, undef, Value.pointer (some ⟨q1, 0, none⟩), Value.slice none 0 0, Value.bool false, Value.slice (some ⟨ge, 0, none⟩) n ce, Value.bool true, Value.pointer (some ⟨q4, 0, none⟩), Value.pointer (some ⟨q7, 0, none⟩), Value.int .i64 (x.1 : Int), els (inp : Int) f x.1, undef, undef, undef, Value.tuple #[Value.slice (some ⟨ge, 0, none⟩) n ce, Value.bool true], Value.slice (some ⟨g, 0, none⟩) n cap, Value.slice (some ⟨b, o, none⟩) inp c, Value.tuple #[Value.slice (some ⟨ge, 0, none⟩) n ce, Value.bool true], Value.slice (some ⟨ge, 0, none⟩) n ce, Value.bool true, Value.bool true, Value.bool false, undef, Value.slice (some ⟨ge, 0, none⟩) n ce, Value.slice (some ⟨b, o, none⟩) inp c, Value.slice (some ⟨gv, 0, none⟩) M cv, Value.slice (some ⟨gv, 0, none⟩) M cv, Value.int .i64 (M : Int), Value.slice (some ⟨q6, 0, none⟩) M M, Value.slice (some ⟨q6, 0, none⟩) M M, Value.slice (some ⟨q6, 0, none⟩) M M, Value.int .i64 (M : Int), Value.int .i64 (N : Int), Value.pointer (some ⟨q6, N, none⟩), Value.slice (some ⟨ge, 0, none⟩) n ce, Value.func (Fn.func 55) #[] #[Value.pointer (some ⟨W9.heap.size, 0, none⟩)], Value.int .i64 (x.1 : Int), els (inp : Int) f x.1, undef, undef, undef, undef, undef, undef, undef, undef, undef, undef, undef, undef, undef, undef, undef, undef, undef, undef, undef, undef, undef, undef, undef, undef, undef, undef, undef, undef, undef, undef, undef, undef, undef, undef, undef, undef], defers := [] }) ?assign ?body ?done ?stop
  case kb => exact ⟨World.putObj_heap_other (by omega), World.putObj_heap_other (by omega)⟩
  case hI => exact OwnFrom.and (Own.from (fun s A B row hs hg hr => ⟨hs.1.kept hg hr, Nat.lt_of_lt_of_le hs.2 hg.size⟩) _) (ownFrom_below (Nat.le_refl _) (by have := BV.size; omega))
  case h0 =>
    refine ⟨⟨?_, by rw [sV]; exact Nat.lt_succ_self _⟩, BV⟩
    show Bi V q1 q4 q6 q7 gv M _ _ _ (un (inp + n - 1))
    rw [HN.out]
    exact KV
  case assign =>
    intro l y W KK hK
    gi_wp2
    exact hK
  case body =>
    clear KV BV EV aV bV
    rintro l pre ⟨i, hin⟩ W ⟨⟨K, l9W⟩, hB⟩ hlen
    dsimp only
    have HS := bkl_snoc (inp := inp) (f := f) (v := tv mp f x) pre ⟨i, hin⟩
    have DI := bkl_in (inp := inp) (f := f) (v := tv mp f x) pre
    obtain ⟨D, hD⟩ : ∃ D, bkl n inp f (tv mp f x) pre = D := ⟨_, rfl⟩
    rw [hD] at K DI HS
    clear hD
    dsimp only at HS
    obtain ⟨Q, hQ⟩ : ∃ Q, inp + i = Q := ⟨_, rfl⟩
    have hQ' : (inp : Int) + (i : Int) = (Q : Int) := by omega
    have hQM : Q < M := by have := HM.out; omega
    have hQM' : (Q : Int) < (M : Int) := by omega
    have S := slopesOf_anyN (c := cv) (n := n) (k := i) (by rw [HM.out]; exact K.vi) K.gl HO.out.1 hin
    rw [HM.out] at S
    have SI := fun j (hj : j < spM (f (i * 3))) => sp_in (v := tv mp f x) (HO.out.1.2.2 i hin) (tv_in f x) hj
    have SM := spM_le (f (i * 3))
    obtain ⟨m, hm⟩ : ∃ m, spM (f (i * 3)) = m := ⟨_, rfl⟩
    obtain ⟨pf, hpf⟩ : ∃ pf, spF (inp : Int) (f (i * 3)) (f (i * 3 + 1)) (f (i * 3 + 2)) (tv mp f x) = pf := ⟨_, rfl⟩
    rw [hm] at S SI SM HS
    rw [hpf] at S SI HS
    rw [hQ] at HS
    clear hm hpf hQ
    obtain ⟨al, hal⟩ : ∃ al, D Q = al := ⟨_, rfl⟩
    have alI := DI Q
    rw [hal] at alI HS
    have HD2 : Hid (bkl n inp f (tv mp f x) (pre ++ [⟨i, hin⟩]) = bst pf al D m) := HS
    clear HS
    obtain ⟨k1, -⟩ := K.x1.open1
    obtain ⟨k4, -⟩ := K.v4.open1
    obtain ⟨k7, -⟩ := K.s7.open1
    obtain ⟨kD, -⟩ := made_cell K.mo hQM
    rw [hal] at kD
    gi_wp2_with fail
    refine (CallsIn.inRound l (callsIn_wide.2 S)).mono ?_
    rintro e w4 ⟨⟨sv, rfl, hsl⟩, bb⟩
    have KW := K.below bb
    have BW := hB.trans (bb.mono hB.size)
    have l7W : q7 < W.heap.size := K.s7.lt
    clear S K hB k1 k4 k7 kD hal
    obtain ⟨sa, rfl, hs2⟩ : ∃ sa, sv = .slice sa m m ∧ (m = 0 ∨ ∃ g, sa = some ⟨g, 0, none⟩ ∧ Recs 2 w4 g m pf ∧ W.heap.size ≤ g) := by
      rcases hsl with ⟨rfl, rfl⟩ | ⟨g, rfl, r⟩
      · exact ⟨none, rfl, .inl rfl⟩
      · exact ⟨_, rfl, .inr ⟨g, rfl, r⟩⟩
    have SM' : (m : Int) ≤ 2 := by omega
    gi_wp2
    gi_loopw [50] (fun u wr => ∃ j : Nat, j ≤ m ∧ u = .int .i64 (j : Int) ∧ Bi wr q1 q4 q6 q7 gv M (.slice (some ⟨b, o, none⟩) inp c) (.slice (some ⟨gv, 0, none⟩) M cv) (Fx inp x (tv mp f x)) (bst pf al D j) ∧ Below w.heap.size w wr ∧ KeepsOthers W wr ∧ Kp2 W9.heap.size ge W wr ∧ W.heap.size ≤ wr.heap.size ∧ (m = 0 ∨ ∃ g, sa = some ⟨g, 0, none⟩ ∧ Recs 2 wr g m pf ∧ W.heap.size ≤ g)) (fun u _ => m - (intOf u).toNat)
    case atStart => exact ⟨0, Nat.zero_le _, rfl, KW, BW, keeps_below bb, Kp2.below bb l9W (by omega), bb.size, hs2⟩
    case round =>
      clear KW BW bb hs2 hsl
      obtain ⟨j, hj, rfl, K, hB, ko, kp, zW, hsl⟩ := hrel
      by_cases hjm : j < m
      · have hjm' : (j : Int) < (m : Int) := by omega
        rcases hsl with h0 | ⟨gs, rfl, R2, hgs⟩
        · omega
        obtain ⟨⟨P, hP, hPk⟩, y1, y2⟩ := SI j hjm
        have e0 := R2.2 (j * 2) (by omega)
        have e1 := R2.2 (j * 2 + 1) (by omega)
        have DJ := bst_in (pf := pf) (al := al) DI j P
        have ES := bst_two pf al D j
        rw [hP, Int.toNat_natCast] at ES
        rw [hP] at e0
        obtain ⟨Y, hY⟩ : ∃ Y, pf (j * 2 + 1) = Y := ⟨_, rfl⟩
        rw [hY] at e1 ES y1 y2
        clear hP hY
        have mB := mulB ⟨y1, y2⟩ ⟨alI.1, Int.le_of_lt alI.2⟩
        rw [Int.mul_comm] at mB
        obtain ⟨T, hT⟩ : ∃ T, al * Y = T := ⟨_, rfl⟩
        have hPM : P < M := by have := HM.out; omega
        have hPM' : (P : Int) < (M : Int) := by omega
        obtain ⟨DD, hDD⟩ : ∃ DD, bst pf al D j = DD := ⟨_, rfl⟩
        rw [hDD] at K ES DJ
        obtain ⟨dp, hdp⟩ : ∃ dp, DD P = dp := ⟨_, rfl⟩
        rw [hdp] at DJ ES
        rw [hT] at ES mB
        have w1 : IntKind.i64.wrap (al * Y) = T := by rw [hT, IntKind.wrap_i64]; omega
        have w2 : IntKind.i64.wrap (dp + T) = dp + T := by rw [IntKind.wrap_i64]; omega
        obtain ⟨R, hR⟩ : ∃ R, (dp + T) % 12289 = R := ⟨_, rfl⟩
        have HE : Hid (bst pf al D (j + 1) = upd DD P R) := by show _ = _; rw [ES, ← hR]; rfl
        have MO := fun w => modulo_any (dp + T) 12289 w ⟨by omega, by omega⟩ (by omega)
        rw [hR] at MO
        have HDP : Hid (DD P = dp) := hdp
        clear ES hDD hR hT mB DJ hdp y1 y2
        have n7 : q7 ≠ q6 := by omega
        have n1 : q1 ≠ q6 := by omega
        have n4 : q4 ≠ q6 := by omega
        have ng : gv ≠ q6 := by omega
        obtain ⟨V1, hV1, m1, bb1, -⟩ := boxed wr 66 #[.int .i64 (P : Int), .int .i64 Y]
        obtain ⟨r1, hr1⟩ : ∃ r, wr.heap.size = r := ⟨_, rfl⟩
        have lr1 : q7 < r1 := by rw [← hr1]; exact K.s7.lt
        rw [hr1] at m1
        have nr : r1 ≠ q6 := by omega
        replace R2 := R2.below bb1
        replace K := K.below bb1
        replace hB := hB.trans (bb1.mono hB.size)
        replace ko := ko.trans (keeps_below bb1)
        replace kp := kp.t (Kp2.below bb1 (by omega) (by omega))
        replace zW := Nat.le_trans zW bb1.size
        gi_wp2_with fail
        clear hV1 hr1 bb1 e0 e1
        obtain ⟨u0, hu0, bb⟩ : ∃ uu, V1.drew = uu ∧ Below V1.heap.size V1 uu := ⟨_, rfl, (Below.refl _ _).drew⟩
        replace m1 := m1.below bb
        replace K := K.below bb
        replace R2 := R2.below bb
        replace hB := hB.trans (bb.mono hB.size)
        replace ko := ko.trans (keeps_below bb)
        replace kp := kp.t (Kp2.below bb (by omega) (by omega))
        replace zW := Nat.le_trans zW bb.size
        obtain ⟨kD, fD⟩ := made_cell K.mo hPM
        rw [HDP.out] at kD
        have s7 := K.s7
        clear bb
        refine region_held_in (S := Kept q6 u0) (by kernel_rfl) (by rw [hu0]; exact Kept.refl _ _) (by kernel_rfl) (by rintro ⟨_, _, hf⟩; exact hf) (fun hHeld => ?_)
        rw [hu0] at hHeld ⊢
        clear hu0
        change wpAnyH _ _ _ _ _ 16 #[false, false, false, false, false, false, false, false, false, false, false, false, false, false, false, false] _ _
        refine wpAnyH_take (i := 0) (v := .slice ((some ⟨q6, 0, none⟩)) M M) rfl (by kernel_rfl) (by kernel_rfl) (by kernel_rfl) (fun _ _ _ h => h) (Or.inl ⟨by kernel_rfl, ?_⟩) hHeld ?_
        · intro w' hSw; obtain ⟨z0, -⟩ := (atK s7 hSw n7).open1; go_simp
        try simp only [Act.put, List.setIfInBounds_toArray, List.set_cons_zero, List.set_cons_succ, List.getElem_toArray, List.getElem_cons_zero]
        refine wpAnyH_take (i := 1) (v := .pointer (some ⟨r1, 0, none⟩)) rfl (by kernel_rfl) (by kernel_rfl) (by kernel_rfl) (fun _ _ _ h => h) (Or.inl ⟨by kernel_rfl, ?_⟩) hHeld ?_
        · intro w' hSw; go_simp
        try simp only [Act.put, List.setIfInBounds_toArray, List.set_cons_zero, List.set_cons_succ, List.getElem_toArray, List.getElem_cons_succ, List.getElem_cons_zero]
        refine wpAnyH_take (i := 2) (v := .int .i64 ((P : Int))) rfl (by kernel_rfl) (by kernel_rfl) (by kernel_rfl) (fun _ _ _ h => h) (Or.inl ⟨by kernel_rfl, ?_⟩) hHeld ?_
        · intro w' hSw; obtain ⟨z0, z1, -⟩ := (atK m1 hSw nr).open2; go_simp
        try simp only [Act.put, List.setIfInBounds_toArray, List.set_cons_zero, List.set_cons_succ, List.getElem_toArray, List.getElem_cons_succ, List.getElem_cons_zero]
        refine wpAnyH_take (i := 3) (v := .slice ((some ⟨q6, 0, none⟩)) M M) rfl (by kernel_rfl) (by kernel_rfl) (by kernel_rfl) (fun _ _ _ h => h) (Or.inl ⟨by kernel_rfl, ?_⟩) hHeld ?_
        · intro w' hSw; obtain ⟨z0, -⟩ := (atK s7 hSw n7).open1; go_simp
        try simp only [Act.put, List.setIfInBounds_toArray, List.set_cons_zero, List.set_cons_succ, List.getElem_toArray, List.getElem_cons_succ, List.getElem_cons_zero]
        refine wpAnyH_take (i := 4) (v := .pointer (some ⟨r1, 0, none⟩)) rfl (by kernel_rfl) (by kernel_rfl) (by kernel_rfl) (fun _ _ _ h => h) (Or.inl ⟨by kernel_rfl, ?_⟩) hHeld ?_
        · intro w' hSw; go_simp
        try simp only [Act.put, List.setIfInBounds_toArray, List.set_cons_zero, List.set_cons_succ, List.getElem_toArray, List.getElem_cons_succ, List.getElem_cons_zero]
        refine wpAnyH_take (i := 5) (v := .int .i64 ((P : Int))) rfl (by kernel_rfl) (by kernel_rfl) (by kernel_rfl) (fun _ _ _ h => h) (Or.inl ⟨by kernel_rfl, ?_⟩) hHeld ?_
        · intro w' hSw; obtain ⟨z0, z1, -⟩ := (atK m1 hSw nr).open2; go_simp
        try simp only [Act.put, List.setIfInBounds_toArray, List.set_cons_zero, List.set_cons_succ, List.getElem_toArray, List.getElem_cons_succ, List.getElem_cons_zero]
        refine wpAnyH_take (i := 6) (v := .pointer (some ⟨q6, P, none⟩)) rfl (by kernel_rfl) (by kernel_rfl) (by kernel_rfl) (fun _ _ _ h => h) (Or.inl ⟨by kernel_rfl, ?_⟩) hHeld ?_
        · intro w' hSw; go_simp
        try simp only [Act.put, List.setIfInBounds_toArray, List.set_cons_zero, List.set_cons_succ, List.getElem_toArray, List.getElem_cons_succ, List.getElem_cons_zero]
        refine wpAnyH_take (i := 8) (v := .int .i64 (al)) rfl (by kernel_rfl) (by kernel_rfl) (by kernel_rfl) (fun _ _ _ h => h) (Or.inl ⟨by kernel_rfl, ?_⟩) hHeld ?_
        · intro w' hSw; go_simp
        try simp only [Act.put, List.setIfInBounds_toArray, List.set_cons_zero, List.set_cons_succ, List.getElem_toArray, List.getElem_cons_succ, List.getElem_cons_zero]
        refine wpAnyH_take (i := 9) (v := .pointer (some ⟨r1, 1, none⟩)) rfl (by kernel_rfl) (by kernel_rfl) (by kernel_rfl) (fun _ _ _ h => h) (Or.inl ⟨by kernel_rfl, ?_⟩) hHeld ?_
        · intro w' hSw; go_simp
        try simp only [Act.put, List.setIfInBounds_toArray, List.set_cons_zero, List.set_cons_succ, List.getElem_toArray, List.getElem_cons_succ, List.getElem_cons_zero]
        refine wpAnyH_take (i := 10) (v := .int .i64 (Y)) rfl (by kernel_rfl) (by kernel_rfl) (by kernel_rfl) (fun _ _ _ h => h) (Or.inl ⟨by kernel_rfl, ?_⟩) hHeld ?_
        · intro w' hSw; obtain ⟨z0, z1, -⟩ := (atK m1 hSw nr).open2; go_simp
        try simp only [Act.put, List.setIfInBounds_toArray, List.set_cons_zero, List.set_cons_succ, List.getElem_toArray, List.getElem_cons_succ, List.getElem_cons_zero]
        refine wpAnyH_take (i := 11) (v := .int .i64 (T)) rfl (by kernel_rfl) (by kernel_rfl) (by kernel_rfl) (fun _ _ _ h => h) (Or.inl ⟨by kernel_rfl, ?_⟩) hHeld ?_
        · intro w' hSw; go_simp
        try simp only [Act.put, List.setIfInBounds_toArray, List.set_cons_zero, List.set_cons_succ, List.getElem_toArray, List.getElem_cons_succ, List.getElem_cons_zero]
        refine wpAnyH_ready (rs := [7]) (by kernel_rfl) (by simp) ?_
        refine AllReadyH.cons rfl (fun KK hK' => ?_) AllReadyH.nil
        go_simp
        clear hHeld
        refine hK'.out _ _ (Kept.refl _ _) (fun hHeld => ?_)
        clear hK' KK
        try simp only [List.setIfInBounds_toArray, List.set_cons_zero, List.set_cons_succ]
        refine wpAnyH_take (i := 12) (v := .int .i64 (dp + T)) rfl (by kernel_rfl) (by kernel_rfl) (by kernel_rfl) (fun _ _ _ h => h) (Or.inl ⟨by kernel_rfl, ?_⟩) hHeld ?_
        · intro w' hSw; go_simp
        try simp only [Act.put, List.setIfInBounds_toArray, List.set_cons_zero, List.set_cons_succ, List.getElem_toArray, List.getElem_cons_succ, List.getElem_cons_zero]
        refine wpAnyH_ready (rs := [13]) (by kernel_rfl) (by simp) ?_
        refine AllReadyH.cons rfl (fun KK hK' => ?_) AllReadyH.nil
        go_simp
        refine (MO _).mono ?_
        rintro e u1 ⟨rfl, rfl⟩
        try go_wp2_with fail
        clear hHeld
        refine hK'.out _ _ (Kept.refl _ _) (fun hHeld => ?_)
        clear hK' KK
        try simp only [List.setIfInBounds_toArray, List.set_cons_zero, List.set_cons_succ]
        refine wpAnyH_take (i := 14) (v := .pointer (some ⟨q6, P, none⟩)) rfl (by kernel_rfl) (by kernel_rfl) (by kernel_rfl) (fun _ _ _ h => h) (Or.inl ⟨by kernel_rfl, ?_⟩) hHeld ?_
        · intro w' hSw; go_simp
        try simp only [Act.put, List.setIfInBounds_toArray, List.set_cons_zero, List.set_cons_succ, List.getElem_toArray, List.getElem_cons_succ, List.getElem_cons_zero]
        refine wpAnyH_ready (rs := [15]) (by kernel_rfl) (by simp) ?_
        refine AllReadyH.cons rfl (fun KK hK' => ?_) AllReadyH.nil
        go_simp
        clear hHeld
        refine hK'.out _ _ ((Kept.refl _ _).set _) (fun hHeld => ?_)
        clear hK' KK
        try simp only [List.setIfInBounds_toArray, List.set_cons_zero, List.set_cons_succ]
        refine wpAnyH_done (by kernel_rfl) ?_ _
        clear hHeld
        obtain ⟨U, hU⟩ : ∃ U, u0.setCell ⟨q6, P, none⟩ (.int .i64 R) = U := ⟨_, rfl⟩
        have K5 := K.put P R n1 n4 n7 ng
        have kk : Kept q6 u0 U := by rw [← hU]; exact (Kept.refl _ _).set _
        have R5 := recsK R2 kk (by omega)
        have B5 : Below w.heap.size w U := by rw [← hU]; exact hB.setCell (p := ⟨q6, P, none⟩) (show w.heap.size ≤ q6 by omega) _
        have ko5 : KeepsOthers W U := by rw [← hU]; exact ko.trans (KeepsOthers.setCell _ _ _)
        have kp5 : Kp2 W9.heap.size ge W U := by rw [← hU]; exact kp.t (Kp2.put (by omega) (by omega))
        have z5 := Nat.le_trans zW kk.size
        rw [hU] at K5 ⊢
        rw [← HE.out] at K5
        clear hU K R2 hB ko kp zW kk kD fD
        gi_wp2
        exact ⟨⟨j + 1, by omega, by go_num, K5, B5, ko5, kp5, z5, .inr ⟨gs, rfl, R5, hgs⟩⟩, by simp [intOf]; omega⟩
      · have hjm' : ¬ (j : Int) < (m : Int) := by omega
        obtain rfl : j = m := by omega
        gi_wp2
        exact ⟨ko, kp, ⟨by rw [HD2.out]; exact K, by omega⟩, hB⟩
  case done =>
    clear aV bV KV BV EV
    rintro D ys W hD rfl ⟨⟨K, l9W⟩, hB⟩ hK
    rw [bkl_dn] at K
    obtain ⟨k1, -⟩ := K.x1.open1
    obtain ⟨k7, -⟩ := K.s7.open1
    have hiM : inp ≤ M := by have := HM.out; omega
    have hiM' : (inp : Int) ≤ (M : Int) := by omega
    gi_wp2_with fail
    have IK : Ints W q6 0 inp (bk n inp f (tv mp f x) n) := fun i hi => made_ints K.mo i (by omega)
    refine (callsIn_wide.2 (copyOfC_any IK K.mo.lt (by omega))).mono ?_
    rintro e w5 ⟨g', c', rfl, hg', hc', M5, b5⟩
    have hDl : D < W.heap.size := (Array.getElem?_eq_some_iff.1 hK).1
    have hK5 : w5.heap[D]? = some (.deferred (some [])) := (b5.block D hDl).trans hK
    have B5 := hB.trans (b5.mono hB.size)
    clear K k1 k7 IK hK b5
    have zB := hB.size
    gi_wp2
    refine ⟨by simp, .inl ⟨_, _, rfl, run_takeDeferred hK5, ?_⟩⟩
    have B6 := B5.trans (belowK_b (w := w) (Nat.le_refl _) w5 D _ (.deferred none) (by omega) hK5 rfl rfl)
    have M6 : Made (w5.putObj D (.deferred none)) g' c' inp (bk n inp f (tv mp f x) n) := by
      obtain ⟨cur, h1, h2, h3⟩ := M5
      exact ⟨cur, at_kept h1 (grownBy_putObj' _ D (.deferred none)) (fun r e => by cases e; exact ⟨_, hK5, rfl⟩), h2, h3⟩
    refine ⟨.tuple #[.slice (some ⟨g', 0, none⟩) inp c', .bool true], by simp [results, Try.f19, go_sem], _, rfl, .inr ⟨g', c', rfl, by omega, M6.lt, hc', M6⟩, B6⟩
  case stop =>
    rintro D cc pre W _ _ hf _
    exact hf.elim
theorem implBack_yes {w : World} {g n cap b o c inp : Nat} {f x : Nat → Int} (h : Recs 3 w g n f) (hx : Ints w b o inp x) (hb : b < w.heap.size) (hx64 : ∀ i, i < inp → is64 (x i)) (hf64 : ∀ i, i < n * 3 → is64 (f i)) (ok : TpN n inp f) :
    Calls Try.prog 19 #[.slice (some ⟨g, 0, none⟩) n cap, .slice (some ⟨b, o, none⟩) inp c] w (SbP w inp (bk n inp f (tv mp f x) n)) :=
  callsIn_wide.1 (implBack_in 1 (Nat.le_refl _) h hx hb hx64 hf64 ok)
set_option maxHeartbeats 1000000 in
theorem implBack_no {w : World} {g n cap inp c : Nat} {a : Option Addr} {f : Nat → Int} (h : Recs 3 w g n f) (hn : n ≤ 1048576) (hi : inp ≤ 1048576) (no : ¬ TpN n inp f) :
    Calls Try.prog 19 #[.slice (some ⟨g, 0, none⟩) n cap, .slice a inp c] w (SbN w) := by
  obtain ⟨W1, hW1, a1, b1, -⟩ := boxed w 23 #[.slice a inp c]
  obtain ⟨k1, -⟩ := a1.open1
  have hb1 : ∀ w, (Instr.buildSlice 23 0 #[]).run Try.prog w = .ok (.slice (some ⟨w.heap.size, 0, none⟩) 0 0) (w.alloc (.cells #[] 2)) := fun _ => by kernel_rfl
  go_enter Try.func19, Try.ntmps19
  go_wp2_with fail
  refine (elementsFor_any (h.below b1) hn hi).mono ?_
  rintro e w2 ⟨hh, bb⟩
  rcases hh with ⟨ho, v, rfl⟩ | ⟨ho, ge, ce, rfl, -⟩
  · clear ho no
    have B2 := b1.trans (bb.mono b1.size)
    obtain ⟨W3, hW3, -, b3, -⟩ := boxed w2 2 #[]
    have HA : ∀ F, Arr W3 w.heap.size W3.heap.size (.slice (some ⟨w2.heap.size, 0, none⟩) 0 0) 0 F := fun F => arr_none hW3 B2
    go_wp2
    exact bodyPost_ret (v := .tuple #[.slice (some ⟨w2.heap.size, 0, none⟩) 0 0, .bool false]) (by simp [results, Try.results19, go_sem]) rfl ⟨_, rfl, HA, B2.trans (b3.mono B2.size)⟩
  · exact absurd ho no
end Go.Proofs.Ytloailicdoknbaa
