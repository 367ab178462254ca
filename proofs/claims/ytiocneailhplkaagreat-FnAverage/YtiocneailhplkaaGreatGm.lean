/-
  What an iterator gives, appended, as the library does it, at operators; walked.
-/
import Derived.Test.YtiocneailhplkaaGreatMJ
import Derived.Shelf.SlIter.Collect
namespace Go.Proofs.YtiocneailhplkaaGreat
open Go.RowKit Go.Maps Go.Sort Go.Shelf

/-- The cells of a list of operators. -/
def lc : List (Nat → Int) → List Value
  | [] => []
  | x :: l => kc x ++ lc l
theorem lc_snoc (l : List (Nat → Int)) (x : Nat → Int) : lc (l ++ [x]) = lc l ++ kc x := by
  induction l with
  | nil => simp [lc]
  | cons a l ih => simp [lc, ih]
theorem cell12_new {t : TypeId} (W : World) (q : Nat) (x : Nat → Int) (a : At t W q #[.int .i64 (x 0), .int .i64 (x 1), .int .i64 (x 2), .int .i64 (x 3), .int .i64 (x 4), .int .i64 (x 5), .int .i64 (x 6), .int .i64 (x 7), .int .i64 (x 8), .int .i64 (x 9), .int .i64 (x 10), .int .i64 (x 11)]) (j : Nat) (u : Value) (h : (kc x)[j]? = some u) : W.cell? ((⟨q, 0, none⟩ : Addr).add j) = some u := by
  have h1 : (#[.int .i64 (x 0), .int .i64 (x 1), .int .i64 (x 2), .int .i64 (x 3), .int .i64 (x 4), .int .i64 (x 5), .int .i64 (x 6), .int .i64 (x 7), .int .i64 (x 8), .int .i64 (x 9), .int .i64 (x 10), .int .i64 (x 11)] : Array Value)[j]? = some u := by
    have : (kc x).toArray[j]? = some u := by simpa using h
    exact this
  have h2 := a.cell j h1
  by_cases e : j = 0
  · subst e; simpa [Addr.add] using h2
  · simpa [Addr.add, e] using h2
theorem At.openk {t : TypeId} {w : World} {q : Nat} {x : Nat → Int} (a : At t w q #[.int .i64 (x 0), .int .i64 (x 1), .int .i64 (x 2), .int .i64 (x 3), .int .i64 (x 4), .int .i64 (x 5), .int .i64 (x 6), .int .i64 (x 7), .int .i64 (x 8), .int .i64 (x 9), .int .i64 (x 10), .int .i64 (x 11)]) : w.cell? ⟨q, 0, none⟩ = some (.int .i64 (x 0)) ∧ w.cell? ⟨q, 1, none⟩ = some (.int .i64 (x 1)) ∧ w.cell? ⟨q, 2, none⟩ = some (.int .i64 (x 2)) ∧ w.cell? ⟨q, 3, none⟩ = some (.int .i64 (x 3)) ∧ w.cell? ⟨q, 4, none⟩ = some (.int .i64 (x 4)) ∧ w.cell? ⟨q, 5, none⟩ = some (.int .i64 (x 5)) ∧ w.cell? ⟨q, 6, none⟩ = some (.int .i64 (x 6)) ∧ w.cell? ⟨q, 7, none⟩ = some (.int .i64 (x 7)) ∧ w.cell? ⟨q, 8, none⟩ = some (.int .i64 (x 8)) ∧ w.cell? ⟨q, 9, none⟩ = some (.int .i64 (x 9)) ∧ w.cell? ⟨q, 10, none⟩ = some (.int .i64 (x 10)) ∧ w.cell? ⟨q, 11, none⟩ = some (.int .i64 (x 11)) :=
  ⟨a.cell 0 rfl, a.cell 1 rfl, a.cell 2 rfl, a.cell 3 rfl, a.cell 4 rfl, a.cell 5 rfl, a.cell 6 rfl, a.cell 7 rfl, a.cell 8 rfl, a.cell 9 rfl, a.cell 10 rfl, a.cell 11 rfl⟩
def apAssign : Code := (Code.region 2
                    #[{ dst := some 5, op := Op.alloc 90, type := 0, pos := "iter.go:51", after := #[], guard := none },
                      { dst := none, op := Op.store 90 (Operand.tmp 5) (Operand.tmp 7), type := 0, pos := "iter.go:51",
                        after := #[{ on := 0, ground := Ground.data }, { on := 0, ground := Ground.phase }],
                        guard := none }]
                    false)
def apBody : Code := (Code.block 1
                    (Code.region 3
                      #[{ dst := some 8, op := Op.load 60 (Operand.tmp 2), type := 60, pos := "iter.go:52",
                          after := #[], guard := none },
                        { dst := some 9, op := Op.load 90 (Operand.tmp 5), type := 90, pos := "iter.go:52",
                          after := #[], guard := none },
                        { dst := some 10, op := Op.buildSlice 60 1 #[(0, Operand.tmp 9)], type := 60,
                          pos := "iter.go:52", after := #[{ on := 1, ground := Ground.data }], guard := none },
                        { dst := some 11,
                          op :=
                            Op.call
                              { callee := Callee.builtin Builtin.append, args := #[Operand.tmp 8, Operand.tmp 10],
                                argTypes := #[60, 60] },
                          type := 60, pos := "iter.go:52",
                          after := #[{ on := 0, ground := Ground.data }, { on := 2, ground := Ground.data }],
                          guard := none },
                        { dst := none, op := Op.store 60 (Operand.tmp 2) (Operand.tmp 11), type := 0,
                          pos := "iter.go:52",
                          after :=
                            #[{ on := 3, ground := Ground.data }, { on := 3, ground := Ground.chain },
                              { on := 0, ground := Ground.phase }, { on := 1, ground := Ground.phase },
                              { on := 2, ground := Ground.phase }, { on := 3, ground := Ground.phase }],
                          guard := none }]
                      false))
def apRec (fn : FuncId) (sv : Value) (Bs D : Nat) (st : LoopState) (pend : Option Code) : Loop :=
  { state := st, pending := pend, fn, tmps := #[.slice none 0 0, sv, .pointer (some ⟨Bs, 0, none⟩), undef, .slice none 0 0, undef, sv, undef, undef, undef, undef, undef, undef], params := #[7], assign := apAssign, body := apBody, defers := D }
structure ApAt (w0 : World) (fn : FuncId) (sv : Value) (Bs l D : Nat) (ss : List (Nat → Int)) (W : World) : Prop where
  box : ∃ v, W.heap[Bs]? = some (.cells #[v] 60 (0, 0)) ∧ W.ownsRow w0.heap.size 90 12 v ss.length (lc ss) ∧ (v = .slice none 0 0 ↔ ss = [])
  L : W.heap[l]? = some (.loop (apRec fn sv Bs D .ready none))
  K : W.heap[D]? = some (.deferred (some []))
  below : Below w0.heap.size w0 W
theorem ap_abides (w0 : World) (fn : FuncId) (sv : Value) (Bs l D B : Nat) (hB : w0.heap.size ≤ B) : AbidesFrom B (ApAt w0 fn sv Bs l D) := fun s W W' row h hg hrow => by
  have hrow' : ∀ r, row = some r → ∃ o : Obj, W.heap[r]? = some o ∧ o.isWalk = true := fun r e => (hrow r e).2
  obtain ⟨v, hv, hr, hn⟩ := h.box
  exact ⟨⟨v, (grownBy_keeps hg hrow' hv rfl).trans hv, ownsRow_abides_a hr hg hrow', hn⟩, (grownBy_keeps hg hrow' h.L rfl).trans h.L, (grownBy_keeps hg hrow' h.K rfl).trans h.K,
    h.below.grown hg h.below.size (fun k e => Nat.le_trans hB (hrow k e).1)⟩
set_option maxRecDepth 100000 in
set_option maxHeartbeats 2000000 in
theorem apYield (F : Fence) (m : Nat) (w0 : World) (fn : FuncId) (hfn : F.fn fn) (sv : Value) (Bs l D : Nat) (hBl : Bs ≠ l) (hDl : D ≠ l) (hDB : D ≠ Bs) (h0B : w0.heap.size ≤ Bs) (h0l : w0.heap.size ≤ l)
    (N : Nat) (hN : N ≤ maxLen) (hNb : N * 96 ≤ 140737488355328) (ss : List (Nat → Int)) (x : Nat → Int) (W : World) (h : ApAt w0 fn sv Bs l D ss W) (hlen : ss.length < N) :
    YieldAt F m Tryz.prog l #[kV x] W fun e W' => e = .returned (.bool true) ∧ ApAt w0 fn sv Bs l D (ss ++ [x]) W' ∧ KeepsWalks W W' := by
  have hne : (60 : Nat) ≠ 90 := by decide
  obtain ⟨i0, hi, hz0, hz1, hz2⟩ := info_parts Tryz.info90
  obtain ⟨v, hv, hrow, _⟩ := h.box
  refine ⟨fn, #[.slice none 0 0, sv, .pointer (some ⟨Bs, 0, none⟩), undef, .slice none 0 0, undef, sv, kV x, undef, undef, undef, undef, undef], apAssign, apBody, by simpa [apRec] using run_yield (P := Tryz.prog) (args := #[kV x]) h.L rfl, roundIn_of_wpIn hfn ?_⟩
  obtain ⟨W5, hW5⟩ : ∃ W5, W.alloc (.cells #[.int .i64 (x 0), .int .i64 (x 1), .int .i64 (x 2), .int .i64 (x 3), .int .i64 (x 4), .int .i64 (x 5), .int .i64 (x 6), .int .i64 (x 7), .int .i64 (x 8), .int .i64 (x 9), .int .i64 (x 10), .int .i64 (x 11)] 90) = W5 := ⟨_, rfl⟩
  have hBl1 : Bs < W.heap.size := (Array.getElem?_eq_some_iff.1 hv).1
  have hl1 : l < W.heap.size := (Array.getElem?_eq_some_iff.1 h.L).1
  have hD1 : D < W.heap.size := (Array.getElem?_eq_some_iff.1 h.K).1
  have hk5 : KeepsWalks W W5 := by rw [← hW5]; exact KeepsWalks.alloc _ _
  have hv5 : W5.heap[Bs]? = some (.cells #[v] 60 (0, 0)) := by rw [← hW5]; exact (Below.heap_alloc _ _ Bs hBl1).trans hv
  have hK5 : W5.heap[D]? = some (.deferred (some [])) := by rw [← hW5]; exact (Below.heap_alloc _ _ D hD1).trans h.K
  have hL5 : W5.heap[l]? = some (.loop (apRec fn sv Bs D .ready none)) := by rw [← hW5]; exact (Below.heap_alloc _ _ l hl1).trans h.L
  have hrow5 : W5.ownsRow w0.heap.size 90 12 v ss.length (lc ss) := by rw [← hW5]; exact hrow.alloc _
  have hb5 : Below w0.heap.size w0 W5 := by rw [← hW5]; exact h.below.alloc h.below.size _
  have hx5 : W5.heap[W.heap.size]? = some (.cells #[.int .i64 (x 0), .int .i64 (x 1), .int .i64 (x 2), .int .i64 (x 3), .int .i64 (x 4), .int .i64 (x 5), .int .i64 (x 6), .int .i64 (x 7), .int .i64 (x 8), .int .i64 (x 9), .int .i64 (x 10), .int .i64 (x 11)] 90 (0, 0)) := by rw [← hW5]; exact World.alloc_heap_new W _
  obtain ⟨qx, hqx⟩ : ∃ q, W.heap.size = q := ⟨_, rfl⟩
  rw [hqx] at hx5
  have hl : l < W5.heap.size := (Array.getElem?_eq_some_iff.1 hL5).1
  have hbr := run_beginRound (P := Tryz.prog) hL5 rfl
  obtain ⟨W2, hW2⟩ : ∃ W2, W5.putObj l (.loop { apRec fn sv Bs D .ready none with state := .busy }) = W2 := ⟨_, rfl⟩
  rw [hW2] at hbr
  have hg2 : W5.grownBy W2 (some l) := by rw [← hW2]; exact grownBy_putObj_a _ _ _
  have hk2 : KeepsWalks W W2 := by rw [← hW2]; exact hk5.trans (KeepsWalks.putObj _ hL5 rfl)
  have hv2 : W2.heap[Bs]? = some (.cells #[v] 60 (0, 0)) := by rw [← hW2]; exact (World.putObj_heap_other hBl).trans hv5
  have hK2 : W2.heap[D]? = some (.deferred (some [])) := by rw [← hW2]; exact (World.putObj_heap_other hDl).trans hK5
  have hL2 : W2.heap[l]? = some (.loop { apRec fn sv Bs D .ready none with state := .busy }) := by rw [← hW2]; exact World.putObj_heap_same hl
  have hrow2 : W2.ownsRow w0.heap.size 90 12 v ss.length (lc ss) := hrow5.kept hg2 (ownsRow_ne_a hrow5 hL5 (fun cur e => by first | cases e | exact hne (Obj.cells.inj e).2.1))
  have hb2 : Below w0.heap.size w0 W2 := hb5.grown hg2 hb5.size (fun k e => by cases e; exact h0l)
  have hx2 : At 90 W2 qx #[.int .i64 (x 0), .int .i64 (x 1), .int .i64 (x 2), .int .i64 (x 3), .int .i64 (x 4), .int .i64 (x 5), .int .i64 (x 6), .int .i64 (x 7), .int .i64 (x 8), .int .i64 (x 9), .int .i64 (x 10), .int .i64 (x 11)] := by rw [← hW2]; exact (World.putObj_heap_other (by omega)).trans hx5
  clear hW2 hg2 hv5 hK5 hL5 hrow5 hb5 hx5 hk5
  obtain ⟨hc2, hf2⟩ := cell_of_box_a hv2
  obtain ⟨d0, d1, d2, d3, d4, d5, d6, d7, d8, d9, d10, d11⟩ := hx2.openk
  have hBlt : Bs < W2.heap.size := (Array.getElem?_eq_some_iff.1 hv2).1
  have hl2 : l < W2.heap.size := (Array.getElem?_eq_some_iff.1 hL2).1
  have hDlt : D < W2.heap.size := (Array.getElem?_eq_some_iff.1 hK2).1
  have ne_of : ∀ {j : Nat} {o : Obj}, W2.heap[j]? = some o → (∀ cur, o ≠ .cells cur 90 (0, 0)) → some j ≠ v.ownBlock := fun hj hno => by
    rcases ownsRow_ne_a hrow2 hj hno with e | e
    · rw [e]; simp
    · exact fun e' => e e'.symm
  obtain ⟨W6, hW6⟩ : ∃ W6, W2.alloc (.cells #[.int .i64 (x 0), .int .i64 (x 1), .int .i64 (x 2), .int .i64 (x 3), .int .i64 (x 4), .int .i64 (x 5), .int .i64 (x 6), .int .i64 (x 7), .int .i64 (x 8), .int .i64 (x 9), .int .i64 (x 10), .int .i64 (x 11)] 90) = W6 := ⟨_, rfl⟩
  have hx6 : At 90 W6 W2.heap.size #[.int .i64 (x 0), .int .i64 (x 1), .int .i64 (x 2), .int .i64 (x 3), .int .i64 (x 4), .int .i64 (x 5), .int .i64 (x 6), .int .i64 (x 7), .int .i64 (x 8), .int .i64 (x 9), .int .i64 (x 10), .int .i64 (x 11)] := by rw [← hW6]; exact World.alloc_heap_new W2 _
  have hrow6 : W6.ownsRow w0.heap.size 90 12 v ss.length (lc ss) := by rw [← hW6]; exact hrow2.alloc _
  have hv6 : W6.heap[Bs]? = some (.cells #[v] 60 (0, 0)) := by rw [← hW6]; exact (Below.heap_alloc _ _ Bs hBlt).trans hv2
  have hK6 : W6.heap[D]? = some (.deferred (some [])) := by rw [← hW6]; exact (Below.heap_alloc _ _ D hDlt).trans hK2
  have hL6 : W6.heap[l]? = some (.loop { apRec fn sv Bs D .ready none with state := .busy }) := by rw [← hW6]; exact (Below.heap_alloc _ _ l hl2).trans hL2
  have hs6 : W6.heap.size = W2.heap.size + 1 := by rw [← hW6]; simp
  have hb6 : Below w0.heap.size w0 W6 := by rw [← hW6]; exact hb2.alloc hb2.size _
  have hk6 : KeepsWalks W W6 := by rw [← hW6]; exact hk2.trans (KeepsWalks.alloc _ _)
  clear hk2
  unfold apAssign kV kc
  gi_wp2_with (rw [Oper.semAt_eq _ _ _ (fun c h => by cases h)]; go_simp; try go_bits)
  unfold apBody
  gi_wp2_with (first
    | (gi_at_builtin; refine wpListIn_append_own _ rfl _ _ 60 rfl w0.heap.size 90 i0 _ 12 96 Tryz.underlying60 hi hz0 hz1 hz2 rfl (by decide) v _ _ rfl hrow6 ⟨W2.heap.size, 0, none⟩ 1 1 (kc x) rfl rfl (cell12_new W6 _ x hx6) (kc_one x) (by omega) (by omega) (by have := hb6.size; omega) ?_; intro v' w3 hown' hg3 hnil3
       have hv3 : w3.heap[Bs]? = some (.cells #[v] 60 (0, 0)) := (hg3.block Bs (by omega) (ne_of hv2 (fun cur e => by first | cases e | exact hne (Obj.cells.inj e).2.1))).trans hv6
       obtain ⟨hc3, hf3⟩ := cell_of_box_a hv3
       obtain ⟨g', cap', cur', rfl, hbase', hgb', hr1, hr2, hr3, hr4⟩ : ∃ g' cap' cur', v' = .slice (some ⟨g', 0, none⟩) (ss.length + 1) cap' ∧ w0.heap.size ≤ g' ∧ w3.heap[g']? = some (.cells cur' 90 (0, 0)) ∧ ss.length + 1 ≤ cap' ∧ cap' ≤ maxLen ∧ cur'.size = cap' * 12 ∧ cur'.toList.take ((ss.length + 1) * 12) = lc ss ++ kc x := by
         rcases hown'.2 with ⟨_, h0⟩ | h'
         · exact absurd h0 (by omega)
         · exact h'
       go_frame)
    | (rw [Oper.semAt_eq _ _ _ (fun c h => by cases h)]; go_simp; try go_bits))
  have hL3 : w3.heap[l]? = some (.loop { apRec fn sv Bs D .ready none with state := .busy }) := (hg3.block l (by omega) (ne_of hL2 (fun cur e => by first | cases e | exact hne (Obj.cells.inj e).2.1))).trans hL6
  have hK3 : w3.heap[D]? = some (.deferred (some [])) := (hg3.block D (by omega) (ne_of hK2 (fun cur e => by first | cases e | exact hne (Obj.cells.inj e).2.1))).trans hK6
  obtain ⟨w4, hw4⟩ : ∃ w4, w3.setCell ⟨Bs, 0, none⟩ (.slice (some ⟨g', 0, none⟩) (ss.length + 1) cap') = w4 := ⟨_, rfl⟩
  rw [hw4]
  have hg4 : w3.grownBy w4 (some Bs) := by rw [← hw4]; exact grownBy_setCell0_a _ _ _
  have hv4 : w4.heap[Bs]? = some (.cells #[.slice (some ⟨g', 0, none⟩) (ss.length + 1) cap'] 60 (0, 0)) := by rw [← hw4]; exact heap_setCell_box_a _ hv3
  have hL4 : w4.heap[l]? = some (.loop { apRec fn sv Bs D .ready none with state := .busy }) := (hg4.block l (Array.getElem?_eq_some_iff.1 hL3).1 (fun e => hBl (by cases e; rfl))).trans hL3
  have hK4 : w4.heap[D]? = some (.deferred (some [])) := (hg4.block D (Array.getElem?_eq_some_iff.1 hK3).1 (fun e => hDB (by cases e; rfl))).trans hK3
  have hrow4 := hown'.kept hg4 (ownsRow_ne_a hown' hv3 (fun cur e => by first | cases e | exact hne (Obj.cells.inj e).2.1))
  have hl4 : l < w4.heap.size := (Array.getElem?_eq_some_iff.1 hL4).1
  have hb3 : Below w0.heap.size w0 w3 := hb6.grown hg3 hb6.size (fun k e => (hrow6.lt k e).1)
  have hb4 : Below w0.heap.size w0 w4 := hb3.grown hg4 hb3.size (fun k e => by cases e; exact h0B)
  have hk4 : KeepsWalks W w4 := (hk6.trans (KeepsWalks.of_grownBy hg3 (ownsRow_not_walk_a hrow6))).trans (by rw [← hw4]; exact KeepsWalks.setCell _ _ _)
  clear hw4
  refine ⟨_, _, run_endRound none hL4, rfl, ⟨⟨_, (World.putObj_heap_other hBl).trans hv4, ?_, by simp⟩, World.putObj_heap_same hl4, (World.putObj_heap_other hDl).trans hK4, hb4.grown (grownBy_putObj_a _ _ _) hb4.size (fun k e => by cases e; exact h0l)⟩, hk4.trans (KeepsWalks.putObj _ hL4 rfl)⟩
  have := hrow4.kept (grownBy_putObj_a w4 l (.loop { { apRec fn sv Bs D .ready none with state := .busy } with state := if (none : Option Code).isNone then .ready else .done, pending := none })) (ownsRow_ne_a hrow4 hL4 (fun cur e => by first | cases e | exact hne (Obj.cells.inj e).2.1))
  rw [lc_snoc]
  simpa using this
end Go.Proofs.YtiocneailhplkaaGreat
