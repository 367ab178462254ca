/-
  What an iterator gives, appended, as the library does it, at points; walked.
-/
import Derived.Test.YtehbpcoiciodhaaGreatK3pP
import Derived.Test.YtehbpcoiciodhaaGreatRPoint
import Derived.Shelf.SlIter.Collect
import Derived.Maps.OwnIn
import Derived.RangeFuncKeeps
namespace Go.Proofs.YtehbpcoiciodhaaGreat
open Go.RowKit Go.Maps Go.Sort Go.Shelf

/-- The cells of a list of triples. -/
def lc3 (l : List T3) : List Value := l.flatMap e3
theorem lc3_snoc (l : List T3) (x : T3) : lc3 (l ++ [x]) = lc3 l ++ e3 x := by simp [lc3]
theorem lc3_len (l : List T3) : (lc3 l).length = l.length * 3 := by
  induction l with
  | nil => rfl
  | cons a l ih => simp only [lc3, List.flatMap_cons, List.length_append, List.length_cons] at ih ⊢; rw [ih]; simp [e3]; omega
theorem cell3_new {t : TypeId} (W : World) (q : Nat) (x : T3) (a : At t W q #[.int .i64 x.1, .int .i64 x.2.1, .int .i64 x.2.2]) (j : Nat) (u : Value) (h : (e3 x)[j]? = some u) : W.cell? ((⟨q, 0, none⟩ : Addr).add j) = some u := by
  have h1 : (#[.int .i64 x.1, .int .i64 x.2.1, .int .i64 x.2.2] : Array Value)[j]? = some u := by
    have : (e3 x).toArray[j]? = some u := by simpa using h
    exact this
  have h2 := a.cell j h1
  by_cases e : j = 0
  · subst e; simpa [Addr.add] using h2
  · simpa [Addr.add, e] using h2
def apAssign3 : Code := (Code.region 2
                    #[{ dst := some 5, op := Op.alloc 30, type := 0, pos := "iter.go:51", after := #[], guard := none },
                      { dst := none, op := Op.store 30 (Operand.tmp 5) (Operand.tmp 7), type := 0, pos := "iter.go:51",
                        after := #[{ on := 0, ground := Ground.data }, { on := 0, ground := Ground.phase }],
                        guard := none }]
                    false)
def apBody3 : Code := (Code.block 1
                    (Code.region 3
                      #[{ dst := some 8, op := Op.load 26 (Operand.tmp 2), type := 26, pos := "iter.go:52",
                          after := #[], guard := none },
                        { dst := some 9, op := Op.load 30 (Operand.tmp 5), type := 30, pos := "iter.go:52",
                          after := #[], guard := none },
                        { dst := some 10, op := Op.buildSlice 26 1 #[(0, Operand.tmp 9)], type := 26,
                          pos := "iter.go:52", after := #[{ on := 1, ground := Ground.data }], guard := none },
                        { dst := some 11,
                          op :=
                            Op.call
                              { callee := Callee.builtin Builtin.append, args := #[Operand.tmp 8, Operand.tmp 10],
                                argTypes := #[26, 26] },
                          type := 26, pos := "iter.go:52",
                          after := #[{ on := 0, ground := Ground.data }, { on := 2, ground := Ground.data }],
                          guard := none },
                        { dst := none, op := Op.store 26 (Operand.tmp 2) (Operand.tmp 11), type := 0,
                          pos := "iter.go:52",
                          after :=
                            #[{ on := 3, ground := Ground.data }, { on := 3, ground := Ground.chain },
                              { on := 0, ground := Ground.phase }, { on := 1, ground := Ground.phase },
                              { on := 2, ground := Ground.phase }, { on := 3, ground := Ground.phase }],
                          guard := none }]
                      false))
/-- What lies below B, but for block g, stays as it is. -/
def KpB (B g : Nat) (W W' : World) : Prop := W.heap.size ≤ W'.heap.size ∧ ∀ k, k < B → k ≠ g → W'.heap[k]? = W.heap[k]?
theorem KpB.t {b g : Nat} {A B C : World} (h : KpB b g A B) (k : KpB b g B C) : KpB b g A C := ⟨Nat.le_trans h.1 k.1, fun i h1 h2 => (k.2 i h1 h2).trans (h.2 i h1 h2)⟩
def apRec3 (fn : FuncId) (a0 sv : Value) (Bs D : Nat) (st : LoopState) (pend : Option Code) : Loop :=
  { state := st, pending := pend, fn, tmps := #[a0, sv, .pointer (some ⟨Bs, 0, none⟩), undef, .slice none 0 0, undef, sv, undef, undef, undef, undef, undef, undef], params := #[7], assign := apAssign3, body := apBody3, defers := D }
structure ApAt3 (w0 : World) (B0 g0 : Nat) (fn : FuncId) (a0 sv : Value) (Bs l D : Nat) (ss : List T3) (W : World) : Prop where
  box : ∃ v, W.heap[Bs]? = some (.cells #[v] 26 (0, 0)) ∧ W.ownsRow B0 30 3 v ss.length (lc3 ss) ∧ v ≠ .slice none 0 0 ∧ (∀ k, v.ownBlock = some k → k = g0 ∨ w0.heap.size ≤ k)
  L : W.heap[l]? = some (.loop (apRec3 fn a0 sv Bs D .ready none))
  K : W.heap[D]? = some (.deferred (some []))
  kept : Kept g0 w0 W
theorem Kept.grownK {p : Nat} {w0 W W' : World} {row : Option Nat} (h : Kept p w0 W) (hg : W.grownBy W' row) (hr : ∀ k, row = some k → k = p ∨ w0.heap.size ≤ k) : Kept p w0 W' :=
  ⟨hg.os.trans h.os, hg.tape.trans h.tape, hg.output.trans h.output, Nat.le_trans h.size hg.size, fun k hk hne => (hg.block k (Nat.lt_of_lt_of_le hk h.size) (fun e => by rcases hr k e.symm with e' | e'; exact hne e'; omega)).trans (h.block k hk hne)⟩
theorem KpB.grownK {B g : Nat} {W W' : World} {row : Option Nat} (hg : W.grownBy W' row) (hB : B ≤ W.heap.size) (hr : ∀ k, row = some k → k = g ∨ B ≤ k) : KpB B g W W' := ⟨hg.size, fun k hk hne => hg.block k (by omega) (fun e => by rcases hr k e.symm with e' | e'; exact hne e'; omega)⟩
theorem ap_abides3 (w0 : World) (B0 g0 : Nat) (fn : FuncId) (a0 sv : Value) (Bs l D B : Nat) (hB : w0.heap.size ≤ B) : AbidesFrom B (ApAt3 w0 B0 g0 fn a0 sv Bs l D) := fun s W W' row h hg hrow => by
  have hrow' : ∀ r, row = some r → ∃ o : Obj, W.heap[r]? = some o ∧ o.isWalk = true := fun r e => (hrow r e).2
  obtain ⟨v, hv, hr, hn, hb⟩ := h.box
  exact ⟨⟨v, (grownBy_keeps hg hrow' hv rfl).trans hv, ownsRow_abides_a hr hg hrow', hn, hb⟩, (grownBy_keeps hg hrow' h.L rfl).trans h.L, (grownBy_keeps hg hrow' h.K rfl).trans h.K,
    h.kept.grownK hg (fun k e => .inr (Nat.le_trans hB (hrow k e).1))⟩
set_option maxRecDepth 100000 in
set_option maxHeartbeats 2000000 in
theorem apYield3 (F : Fence) (m : Nat) (w0 : World) (B0 g0 : Nat) (fn : FuncId) (hfn : F.fn fn) (a0 sv : Value) (Bs l D : Nat) (hBl : Bs ≠ l) (hDl : D ≠ l) (hDB : D ≠ Bs) (h0B : w0.heap.size ≤ Bs) (h0l : w0.heap.size ≤ l) (hB0 : B0 ≤ w0.heap.size)
    (N : Nat) (hN : N ≤ maxLen) (hNb : N * 24 ≤ 140737488355328) (ss : List T3) (x : T3) (W : World) (h : ApAt3 w0 B0 g0 fn a0 sv Bs l D ss W) (hlen : ss.length < N) :
    YieldAt F m Tryz.prog l #[tV x] W fun e W' => e = .returned (.bool true) ∧ ApAt3 w0 B0 g0 fn a0 sv Bs l D (ss ++ [x]) W' ∧ KpB w0.heap.size g0 W W' := by
  have hne : (26 : Nat) ≠ 30 := by decide
  obtain ⟨i0, hi, hz0, hz1, hz2⟩ := info_parts infoPoint
  obtain ⟨v, hv, hrow, hvn, hvb⟩ := h.box
  refine ⟨fn, #[a0, sv, .pointer (some ⟨Bs, 0, none⟩), undef, .slice none 0 0, undef, sv, tV x, undef, undef, undef, undef, undef], apAssign3, apBody3, by simpa [apRec3] using run_yield (P := Tryz.prog) (args := #[tV x]) h.L rfl, roundIn_of_wpIn hfn ?_⟩
  obtain ⟨x0, x1, x2⟩ := x
  obtain ⟨W5, hW5⟩ : ∃ W5, W.alloc (.cells #[.int .i64 x0, .int .i64 x1, .int .i64 x2] 30) = W5 := ⟨_, rfl⟩
  have hBl1 : Bs < W.heap.size := (Array.getElem?_eq_some_iff.1 hv).1
  have hl1 : l < W.heap.size := (Array.getElem?_eq_some_iff.1 h.L).1
  have hD1 : D < W.heap.size := (Array.getElem?_eq_some_iff.1 h.K).1
  have z0 : w0.heap.size ≤ W.heap.size := h.kept.size
  have hg5 : W.grownBy W5 none := by rw [← hW5]; exact World.grownBy_alloc W _ none
  have hk5 : KpB w0.heap.size g0 W W5 := KpB.grownK hg5 z0 (fun k e => by cases e)
  have hv5 : W5.heap[Bs]? = some (.cells #[v] 26 (0, 0)) := by rw [← hW5]; exact (Below.heap_alloc _ _ Bs hBl1).trans hv
  have hK5 : W5.heap[D]? = some (.deferred (some [])) := by rw [← hW5]; exact (Below.heap_alloc _ _ D hD1).trans h.K
  have hL5 : W5.heap[l]? = some (.loop (apRec3 fn a0 sv Bs D .ready none)) := by rw [← hW5]; exact (Below.heap_alloc _ _ l hl1).trans h.L
  have hrow5 : W5.ownsRow B0 30 3 v ss.length (lc3 ss) := by rw [← hW5]; exact hrow.alloc _
  have hb5 : Kept g0 w0 W5 := h.kept.grownK hg5 (fun k e => by cases e)
  have hx5 : W5.heap[W.heap.size]? = some (.cells #[.int .i64 x0, .int .i64 x1, .int .i64 x2] 30 (0, 0)) := by rw [← hW5]; exact World.alloc_heap_new W _
  obtain ⟨qx, hqx⟩ : ∃ q, W.heap.size = q := ⟨_, rfl⟩
  rw [hqx] at hx5
  have hl : l < W5.heap.size := (Array.getElem?_eq_some_iff.1 hL5).1
  have hbr := run_beginRound (P := Tryz.prog) hL5 rfl
  obtain ⟨W2, hW2⟩ : ∃ W2, W5.putObj l (.loop { apRec3 fn a0 sv Bs D .ready none with state := .busy }) = W2 := ⟨_, rfl⟩
  rw [hW2] at hbr
  have hg2 : W5.grownBy W2 (some l) := by rw [← hW2]; exact grownBy_putObj_a _ _ _
  have hk2 : KpB w0.heap.size g0 W W2 := hk5.t (KpB.grownK hg2 hb5.size (fun k e => by cases e; exact .inr h0l))
  have hv2 : W2.heap[Bs]? = some (.cells #[v] 26 (0, 0)) := by rw [← hW2]; exact (World.putObj_heap_other hBl).trans hv5
  have hK2 : W2.heap[D]? = some (.deferred (some [])) := by rw [← hW2]; exact (World.putObj_heap_other hDl).trans hK5
  have hL2 : W2.heap[l]? = some (.loop { apRec3 fn a0 sv Bs D .ready none with state := .busy }) := by rw [← hW2]; exact World.putObj_heap_same hl
  have hrow2 : W2.ownsRow B0 30 3 v ss.length (lc3 ss) := hrow5.kept hg2 (ownsRow_ne_a hrow5 hL5 (fun cur e => by first | cases e | exact hne (Obj.cells.inj e).2.1))
  have hb2 : Kept g0 w0 W2 := hb5.grownK hg2 (fun k e => by cases e; exact .inr h0l)
  have hx2 : At 30 W2 qx #[.int .i64 x0, .int .i64 x1, .int .i64 x2] := by rw [← hW2]; exact (World.putObj_heap_other (by omega)).trans hx5
  clear hW2 hg2 hv5 hK5 hL5 hrow5 hb5 hx5 hk5 hg5
  obtain ⟨hc2, hf2⟩ := cell_of_box_a hv2
  obtain ⟨d0, d1, d2, -⟩ := hx2.open3
  have hBlt : Bs < W2.heap.size := (Array.getElem?_eq_some_iff.1 hv2).1
  have hl2 : l < W2.heap.size := (Array.getElem?_eq_some_iff.1 hL2).1
  have hDlt : D < W2.heap.size := (Array.getElem?_eq_some_iff.1 hK2).1
  have ne_of : ∀ {j : Nat} {o : Obj}, W2.heap[j]? = some o → (∀ cur, o ≠ .cells cur 30 (0, 0)) → some j ≠ v.ownBlock := fun hj hno => by
    rcases ownsRow_ne_a hrow2 hj hno with e | e
    · rw [e]; simp
    · exact fun e' => e e'.symm
  obtain ⟨W6, hW6⟩ : ∃ W6, W2.alloc (.cells #[.int .i64 x0, .int .i64 x1, .int .i64 x2] 30) = W6 := ⟨_, rfl⟩
  have hg6 : W2.grownBy W6 none := by rw [← hW6]; exact World.grownBy_alloc W2 _ none
  have hx6 : At 30 W6 W2.heap.size #[.int .i64 x0, .int .i64 x1, .int .i64 x2] := by rw [← hW6]; exact World.alloc_heap_new W2 _
  have hrow6 : W6.ownsRow B0 30 3 v ss.length (lc3 ss) := by rw [← hW6]; exact hrow2.alloc _
  have hv6 : W6.heap[Bs]? = some (.cells #[v] 26 (0, 0)) := by rw [← hW6]; exact (Below.heap_alloc _ _ Bs hBlt).trans hv2
  have hK6 : W6.heap[D]? = some (.deferred (some [])) := by rw [← hW6]; exact (Below.heap_alloc _ _ D hDlt).trans hK2
  have hL6 : W6.heap[l]? = some (.loop { apRec3 fn a0 sv Bs D .ready none with state := .busy }) := by rw [← hW6]; exact (Below.heap_alloc _ _ l hl2).trans hL2
  have hs6 : W6.heap.size = W2.heap.size + 1 := by rw [← hW6]; simp
  have hb6 : Kept g0 w0 W6 := hb2.grownK hg6 (fun k e => by cases e)
  have hk6 : KpB w0.heap.size g0 W W6 := hk2.t (KpB.grownK hg6 hb2.size (fun k e => by cases e))
  have z6 : B0 ≤ W6.heap.size := Nat.le_trans hB0 hb6.size
  clear hk2 hg6
  unfold apAssign3
  gi_wp2_with (rw [Oper.semAt_eq _ _ _ (fun c h => by cases h)]; go_simp; try go_bits)
  unfold apBody3
  gi_wp2_with (first
    | (gi_at_builtin; refine wpListIn_append_own_at _ rfl _ _ 26 rfl B0 30 i0 _ 3 24 Tryz.underlying26 hi hz0 hz1 hz2 rfl (by decide) v _ _ rfl hrow6 ⟨W2.heap.size, 0, none⟩ 1 1 (e3 (x0, x1, x2)) rfl rfl (cell3_new W6 _ (x0, x1, x2) hx6) (e3_one (x0, x1, x2)) (by omega) (by omega) z6 ?_; intro v' w3 hown' hg3 hnil3 hat3
       have hv3 : w3.heap[Bs]? = some (.cells #[v] 26 (0, 0)) := (hg3.block Bs (by omega) (ne_of hv2 (fun cur e => by first | cases e | exact hne (Obj.cells.inj e).2.1))).trans hv6
       obtain ⟨hc3, hf3⟩ := cell_of_box_a hv3
       obtain ⟨g', cap', cur', rfl, hbase', hgb', hr1, hr2, hr3, hr4⟩ : ∃ g' cap' cur', v' = .slice (some ⟨g', 0, none⟩) (ss.length + 1) cap' ∧ B0 ≤ g' ∧ w3.heap[g']? = some (.cells cur' 30 (0, 0)) ∧ ss.length + 1 ≤ cap' ∧ cap' ≤ maxLen ∧ cur'.size = cap' * 3 ∧ cur'.toList.take ((ss.length + 1) * 3) = lc3 ss ++ e3 (x0, x1, x2) := by
         rcases hown'.2 with ⟨_, h0⟩ | h'
         · exact absurd h0 (by omega)
         · exact h'
       go_frame)
    | (rw [Oper.semAt_eq _ _ _ (fun c h => by cases h)]; go_simp; try go_bits))
  have hvb3 : ∀ k, some g' = some k → k = g0 ∨ w0.heap.size ≤ k := fun k e => by
    cases e
    rcases hat3 with e | e
    · exact hvb g' (by rw [← e]; rfl)
    · simp only [Value.ownBlock, Option.some.injEq] at e
      have := hb6.size
      exact .inr (by omega)
  have hL3 : w3.heap[l]? = some (.loop { apRec3 fn a0 sv Bs D .ready none with state := .busy }) := (hg3.block l (by omega) (ne_of hL2 (fun cur e => by first | cases e | exact hne (Obj.cells.inj e).2.1))).trans hL6
  have hK3 : w3.heap[D]? = some (.deferred (some [])) := (hg3.block D (by omega) (ne_of hK2 (fun cur e => by first | cases e | exact hne (Obj.cells.inj e).2.1))).trans hK6
  obtain ⟨w4, hw4⟩ : ∃ w4, w3.setCell ⟨Bs, 0, none⟩ (.slice (some ⟨g', 0, none⟩) (ss.length + 1) cap') = w4 := ⟨_, rfl⟩
  rw [hw4]
  have hg4 : w3.grownBy w4 (some Bs) := by rw [← hw4]; exact grownBy_setCell0_a _ _ _
  have hv4 : w4.heap[Bs]? = some (.cells #[.slice (some ⟨g', 0, none⟩) (ss.length + 1) cap'] 26 (0, 0)) := by rw [← hw4]; exact heap_setCell_box_a _ hv3
  have hL4 : w4.heap[l]? = some (.loop { apRec3 fn a0 sv Bs D .ready none with state := .busy }) := (hg4.block l (Array.getElem?_eq_some_iff.1 hL3).1 (fun e => hBl (by cases e; rfl))).trans hL3
  have hK4 : w4.heap[D]? = some (.deferred (some [])) := (hg4.block D (Array.getElem?_eq_some_iff.1 hK3).1 (fun e => hDB (by cases e; rfl))).trans hK3
  have hrow4 := hown'.kept hg4 (ownsRow_ne_a hown' hv3 (fun cur e => by first | cases e | exact hne (Obj.cells.inj e).2.1))
  have hl4 : l < w4.heap.size := (Array.getElem?_eq_some_iff.1 hL4).1
  have hb3 : Kept g0 w0 w3 := hb6.grownK hg3 hvb
  have hb4 : Kept g0 w0 w4 := hb3.grownK hg4 (fun k e => by cases e; exact .inr h0B)
  have hk4 : KpB w0.heap.size g0 W w4 := (hk6.t (KpB.grownK hg3 hb6.size hvb)).t (KpB.grownK hg4 hb3.size (fun k e => by cases e; exact .inr h0B))
  clear hw4
  refine ⟨_, _, run_endRound none hL4, rfl, ⟨⟨_, (World.putObj_heap_other hBl).trans hv4, ?_, ne_nil _ _ _, hvb3⟩, World.putObj_heap_same hl4, (World.putObj_heap_other hDl).trans hK4, hb4.grownK (grownBy_putObj_a _ _ _) (fun k e => by cases e; exact .inr h0l)⟩, hk4.t (KpB.grownK (grownBy_putObj_a _ _ _) hb4.size (fun k e => by cases e; exact .inr h0l))⟩
  have := hrow4.kept (grownBy_putObj_a w4 l (.loop { { apRec3 fn a0 sv Bs D .ready none with state := .busy } with state := if (none : Option Code).isNone then .ready else .done, pending := none })) (ownsRow_ne_a hrow4 hL4 (fun cur e => by first | cases e | exact hne (Obj.cells.inj e).2.1))
  rw [lc3_snoc]
  simpa using this
end Go.Proofs.YtehbpcoiciodhaaGreat
