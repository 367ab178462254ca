/-
  Heaps of plans: which of two is better, and two exchanged, walked.
-/
import Derived.Test.YtcpeaenophaphaaAq
import Derived.Laws.EntriesVeiled
namespace Go.Proofs.Ytcpeaenophaphaa
open Go.RowKit

/-- A plan: where its list lies, the list, the mask. -/
structure Pl where
  g : Nat
  c : Nat
  l : List Nat
  s : Int
abbrev pV (x : Pl) : Value := .agg #[.slice (some ⟨x.g, 0, none⟩) x.l.length x.c, .int .u64 x.s]
def qlt (x y : Pl) : Prop := plt x.l y.l
theorem qlt_swo : Swo qlt := ⟨fun x => plt_irr x.l, fun _ _ _ => plt_tr, fun x y z => plt_swo.neg x.l y.l z.l⟩
/-- A plan's list lies where it says. -/
def Ok (w : World) (x : Pl) : Prop := w.ownsRow 0 2 1 (.slice (some ⟨x.g, 0, none⟩) x.l.length x.c) x.l.length (lCells (toI x.l)) ∧ x.l.length ≤ 1000
theorem Ok.below {w w' : World} {x : Pl} (h : Ok w x) (hb : Below w.heap.size w w') : Ok w' x := ⟨own_below h.1 hb, h.2⟩
theorem Ok.at {w : World} {x : Pl} (h : Ok w x) : ∃ cur, At 2 w x.g cur := by
  rcases h.1.2 with ⟨e, _⟩ | ⟨g, c, cur, e, hb, hh, hc1, hc2, hsz, ht⟩
  · cases e
  · simp only [Value.slice.injEq, Option.some.injEq, Addr.mk.injEq] at e
    obtain ⟨⟨rfl, -, -⟩, -, rfl⟩ := e
    exact ⟨cur, hh⟩
theorem Ok.ints {w : World} {x : Pl} (h : Ok w x) : x.g < w.heap.size ∧ Ints w x.g 0 x.l.length (fun i => (toI x.l).getD i 0) := by
  have G : Gat w w 0 2 1 (.slice (some ⟨x.g, 0, none⟩) x.l.length x.c) x.l.length (toI x.l) → False ∨ True := fun _ => .inr trivial
  clear G
  rcases h.1.2 with ⟨e, _⟩ | ⟨g, c, cur, e, hb, hh, hc1, hc2, hsz, ht⟩
  · cases e
  · simp only [Value.slice.injEq, Option.some.injEq, Addr.mk.injEq] at e
    obtain ⟨⟨rfl, -, -⟩, -, rfl⟩ := e
    refine ⟨(Array.getElem?_eq_some_iff.1 hh).1, fun i hi => ?_⟩
    have a1 : (lCells (toI x.l))[i]? = some (.int .i64 ((toI x.l).getD i 0)) := by
      have : i < (toI x.l).length := by rw [toI_len]; exact hi
      simp [lCells, this]
    rw [← ht, List.getElem?_take_of_lt (by omega)] at a1
    rw [Nat.zero_add]
    simpa [World.cell?, hh] using a1
theorem pBef {w : World} {x y : Pl} (hx : Ok w x) (hy : Ok w y) : Calls Try.prog 39 #[pV x, pV y] w fun e w' => e = .returned (.bool (pd (qlt x y))) ∧ Below w.heap.size w w' :=
  pBefore_any x.s y.s hx.ints.2 hy.ints.2 hx.ints.1 hy.ints.1 hx.2 hy.2
theorem own_at {w : World} {B g n c : Nat} {e : TypeId} {k : Nat} {xs : List Value} (h : w.ownsRow B e k (.slice (some ⟨g, 0, none⟩) n c) n xs) : ∃ cur, At e w g cur := by
  rcases h.2 with ⟨e1, _⟩ | ⟨g', c', cur, e1, hb, hh, hc1, hc2, hsz, ht⟩
  · cases e1
  · simp only [Value.slice.injEq, Option.some.injEq, Addr.mk.injEq] at e1
    obtain ⟨⟨rfl, -, -⟩, -, rfl⟩ := e1
    exact ⟨cur, hh⟩
theorem at_ne {w : World} {t u : TypeId} {p q : Nat} {xs ys : Array Value} (h : At t w p xs) (h' : At u w q ys) (ht : t ≠ u) : p ≠ q := by
  rintro rfl
  have e := h.symm.trans h'
  simp only [Option.some.injEq, Obj.cells.injEq] at e
  exact ht e.2.1
/-- Where the heap's two blocks alone turn, the lists stay. -/
theorem ok_mv {w w' : World} {q g n : Nat} {f : Nat → Pl} {hs : Array Value} (h : ∀ i, i < n → Ok w (f i)) (hd : At 59 w q hs) (hg : ∃ cur, At 56 w g cur) (hb : ∀ k, k < w.heap.size → k ≠ q → some g ≠ some k → w'.heap[k]? = w.heap[k]?) : ∀ i, i < n → Ok w' (f i) := by
  intro i hi
  obtain ⟨cur, hc⟩ := (h i hi).at
  obtain ⟨cg, hcg⟩ := hg
  refine ⟨own_keepA (h i hi).1 (fun j hj => ?_), (h i hi).2⟩
  obtain rfl : (f i).g = j := by simpa [Value.ownBlock] using hj
  exact hb _ hc.lt (at_ne hc hd (by decide)) (fun e => at_ne hcg hc (by decide) (Option.some.inj e))
theorem ok_sw {w : World} {n i j : Nat} {f : Nat → Pl} (h : ∀ k, k < n → Ok w (f k)) (hi : i < n) (hj : j < n) : ∀ k, k < n → Ok w (sw f i j k) := by
  intro k hk
  unfold sw
  split
  · exact h j hj
  · split
    · exact h i hi
    · exact h k hk
/-- The cells of one. -/
def pE (x : Pl) : List Value := [.slice (some ⟨(x).g, 0, none⟩) (x).l.length (x).c, .int .u64 (x).s]
theorem pE_len (x : Pl) : (pE x).length = 2 := rfl
theorem pE_one (x : Pl) : ∀ u ∈ pE x, u.oneCell' = true := by intro u hu; simp [pE] at hu; rcases hu with rfl | rfl <;> rfl
/-- A heap at q: its list is its own, from B on. -/
structure HvP (w : World) (B q : Nat) (v : Value) (n : Nat) (f : Nat → Pl) : Prop where
  own : w.ownsRow B 56 2 v n (hC pE f n)
  hd : At 59 w q #[v, .func (.func 39) #[] #[]]
  qB : q < B
  ok : ∀ i, i < n → Ok w (f i)
theorem HvP.below {w w' : World} {B q : Nat} {v : Value} {n : Nat} {f : Nat → Pl} (h : HvP w B q v n f) (hb : Below w.heap.size w w') : HvP w' B q v n f := ⟨own_bel h.own hb, h.hd.below hb, h.qB, fun i hi => (h.ok i hi).below hb⟩
theorem own_readP {w : World} {B g n c : Nat} {f : Nat → Pl} (h : w.ownsRow B 56 2 (.slice (some ⟨g, 0, none⟩) n c) n (hC pE f n)) {i : Nat} (hi : i < n) : w.cell? ⟨g, i * 2, none⟩ = some (.slice (some ⟨(f i).g, 0, none⟩) (f i).l.length (f i).c) ∧ w.cell? ⟨g, i * 2 + 1, none⟩ = some (.int .u64 (f i).s) ∧ w.frozen? ⟨g, i * 2, none⟩ = false ∧ w.frozen? ⟨g, i * 2 + 1, none⟩ = false := by
  refine ⟨(own_cell pE_len h (j := 0) hi rfl).1, (own_cell pE_len h (j := 1) hi rfl).1, (own_cell pE_len h (j := 0) hi (u := .slice (some ⟨(f i).g, 0, none⟩) (f i).l.length (f i).c) rfl).2, (own_cell pE_len h (j := 1) hi (u := .int .u64 (f i).s) rfl).2⟩
theorem own_putP {w : World} {B g n c k : Nat} {f : Nat → Pl} (h : w.ownsRow B 56 2 (.slice (some ⟨g, 0, none⟩) n c) n (hC pE f n)) (hk : k < n) (x : Pl) : (((w).setCell ⟨g, k * 2, none⟩ (.slice (some ⟨(x).g, 0, none⟩) (x).l.length (x).c)).setCell ⟨g, k * 2 + 1, none⟩ (.int .u64 (x).s)).ownsRow B 56 2 (.slice (some ⟨g, 0, none⟩) n c) n (hC pE (upd f k x) n) := by
  have h1 := own_set (own_set (h) (k * 2) (.slice (some ⟨(x).g, 0, none⟩) (x).l.length (x).c)) (k * 2 + 1) (.int .u64 (x).s)
  rw [← hC_put pE_len f x _ h1.1]
  · exact h1
  · intro i j hi hj
    have hl := hC_len pE_len f n
    have hkb : k * 2 + 2 ≤ n * 2 := by omega
    by_cases e : i = k
    · subst e
      rw [if_pos rfl]
      rcases (by omega : j = 0 ∨ j = 1) with rfl | rfl
      · simp only [Nat.add_zero]; rw [List.getElem?_set_ne (by omega), List.getElem?_set_self (by (try simp only [List.length_set]); omega)]; rfl
      · rw [List.getElem?_set_self (by (try simp only [List.length_set]); omega)]; rfl
    · rw [if_neg e, List.getElem?_set_ne (by omega), List.getElem?_set_ne (by omega), hC_at pE_len f hi hj]
/-- Block q and one more may have turned. -/
structure MvP (q : Nat) (o : Option Nat) (w w' : World) : Prop where
  os : w'.os = w.os
  tape : w'.tape = w.tape
  output : w'.output = w.output
  size : w.heap.size ≤ w'.heap.size
  block : ∀ k, k < w.heap.size → k ≠ q → o ≠ some k → w'.heap[k]? = w.heap[k]?
theorem MvP.trans {q : Nat} {o : Option Nat} {a b c : World} (h : MvP q o a b) (k : MvP q o b c) : MvP q o a c :=
  ⟨k.os.trans h.os, k.tape.trans h.tape, k.output.trans h.output, Nat.le_trans h.size k.size, fun i hi h1 h2 => (k.block i (Nat.lt_of_lt_of_le hi h.size) h1 h2).trans (h.block i hi h1 h2)⟩
theorem MvP.of_below {q : Nat} {o : Option Nat} {w w' : World} (h : Below w.heap.size w w') : MvP q o w w' := ⟨h.os, h.tape, h.output, h.size, fun k hk _ _ => h.block k hk⟩
theorem MvP.set {q i : Nat} {o : Option Nat} {w w' : World} (h : MvP q o w w') (v : Value) : MvP q o w (w'.setCell ⟨q, i, none⟩ v) :=
  h.trans ⟨rfl, rfl, rfl, by simp [World.setCell], fun k _ hk _ => Below.heap_setCell _ _ _ _ hk⟩
theorem MvP.setO {q i g : Nat} {w w' : World} (h : MvP q (some g) w w') (v : Value) : MvP q (some g) w (w'.setCell ⟨g, i, none⟩ v) :=
  h.trans ⟨rfl, rfl, rfl, by simp [World.setCell], fun k _ _ hk => Below.heap_setCell _ _ _ _ (fun e => hk (by rw [e]))⟩
theorem MvP.below {N q : Nat} {o : Option Nat} {w0 w w' : World} (h : MvP q o w w') (hb : Below N w0 w) (hq : N ≤ q) (ho : ∀ k, o = some k → N ≤ k) (hs : N ≤ w.heap.size) : Below N w0 w' :=
  hb.trans ⟨h.os, h.tape, h.output, h.size, fun k hk => h.block k (by omega) (by omega) (fun e => by have := ho k e; omega)⟩
theorem MvP.at {q p : Nat} {o : Option Nat} {w w' : World} {t : TypeId} {vs : Array Value} (h : MvP q o w w') (ha : At t w p vs) (hq : p ≠ q) (ho : o ≠ some p) : At t w' p vs := (h.block p ha.lt hq ho).trans ha
set_option maxRecDepth 100000 in
set_option maxHeartbeats 4000000 in
theorem betterP_any {w : World} {B q n i j : Nat} {v : Value} {f : Nat → Pl} (h : HvP w B q v n f) (hi : i < n) (hj : j < n) (hn : n ≤ 1000000) :
    Calls Try.prog 57 #[.pointer (some ⟨q, 0, none⟩), .int .i64 (i : Int), .int .i64 (j : Int)] w fun e w' => ((¬ qlt (f j) (f i) ∧ e = .returned (.int .i64 (i : Int))) ∨ (qlt (f j) (f i) ∧ e = .returned (.int .i64 (j : Int)))) ∧ Below w.heap.size w w' := by
  obtain ⟨g, c, rfl⟩ : ∃ g c, v = .slice (some ⟨g, 0, none⟩) n c := by
    rcases h.own.2 with ⟨_, h2⟩ | ⟨g, c, cur, e, _⟩
    · omega
    · exact ⟨g, c, e⟩
  have hi' : (0 : Int) ≤ (i : Int) ∧ (i : Int) < (n : Int) := by omega
  have hj' : (0 : Int) ≤ (j : Int) ∧ (j : Int) < (n : Int) := by omega
  have hn' : (n : Int) ≤ 1000000 := by omega
  have bW : Below w.heap.size w w := Below.refl _ _
  go_enter Try.func57, Try.ntmps57
  go_upto_region 1 with (fail)
  obtain ⟨u0, hu0, bb⟩ : ∃ uu, w.drew = uu ∧ Below w.heap.size w uu := ⟨_, rfl, (Below.refl _ _).drew⟩
  replace h := h.below bb
  replace bW := bW.trans (bb.mono bW.size)
  have hd0 := h.hd
  have hown0 := h.own
  have ok0 := h.ok
  clear bb
  refine wp_region_held_drew (S := Kb u0) (by kernel_rfl) (by rw [hu0]; exact Below.refl _ _) (fun hHeld => ?_)
  rw [hu0] at hHeld ⊢
  clear hu0
  have bu : Kb u0 u0 := Below.refl _ _
  change wpAnyH _ _ _ _ _ 19 #[false, false, false, false, false, false, false, false, false, false, false, false, false, false, false, false, false, false, false] _ _
  refine wpAnyH_take (i := 0) (v := .pointer (some ⟨q, 0, none⟩)) rfl (by kernel_rfl) (by kernel_rfl) (by kernel_rfl) (fun _ _ _ h => h) (Or.inl ⟨by kernel_rfl, ?_⟩) hHeld ?_
  · intro w' hSw; go_simp
  try simp only [Act.put, List.setIfInBounds_toArray, List.set_cons_zero, List.set_cons_succ, List.getElem_toArray, List.getElem_cons_zero]
  refine wpAnyH_take (i := 1) (v := .pointer (some ⟨q, 0, none⟩)) rfl (by kernel_rfl) (by kernel_rfl) (by kernel_rfl) (fun _ _ _ h => h) (Or.inl ⟨by kernel_rfl, ?_⟩) hHeld ?_
  · intro w' hSw; go_simp
  try simp only [Act.put, List.setIfInBounds_toArray, List.set_cons_zero, List.set_cons_succ, List.getElem_toArray, List.getElem_cons_succ, List.getElem_cons_zero]
  refine wpAnyH_take (i := 2) (v := .pointer (some ⟨q, 1, none⟩)) rfl (by kernel_rfl) (by kernel_rfl) (by kernel_rfl) (fun _ _ _ h => h) (Or.inl ⟨by kernel_rfl, ?_⟩) hHeld ?_
  · intro w' hSw; go_simp
  try simp only [Act.put, List.setIfInBounds_toArray, List.set_cons_zero, List.set_cons_succ, List.getElem_toArray, List.getElem_cons_succ, List.getElem_cons_zero]
  refine wpAnyH_take (i := 3) (v := .func (.func 39) #[] #[]) rfl (by kernel_rfl) (by kernel_rfl) (by kernel_rfl) (fun _ _ _ h => h) (Or.inl ⟨by kernel_rfl, ?_⟩) hHeld ?_
  · intro w' hSw; obtain ⟨z0, z1, -⟩ := (hd0.below hSw).open2; go_simp
  try simp only [Act.put, List.setIfInBounds_toArray, List.set_cons_zero, List.set_cons_succ, List.getElem_toArray, List.getElem_cons_succ, List.getElem_cons_zero]
  refine wpAnyH_take (i := 4) (v := .pointer (some ⟨q, 0, none⟩)) rfl (by kernel_rfl) (by kernel_rfl) (by kernel_rfl) (fun _ _ _ h => h) (Or.inl ⟨by kernel_rfl, ?_⟩) hHeld ?_
  · intro w' hSw; go_simp
  try simp only [Act.put, List.setIfInBounds_toArray, List.set_cons_zero, List.set_cons_succ, List.getElem_toArray, List.getElem_cons_succ, List.getElem_cons_zero]
  refine wpAnyH_take (i := 5) (v := .pointer (some ⟨q, 0, none⟩)) rfl (by kernel_rfl) (by kernel_rfl) (by kernel_rfl) (fun _ _ _ h => h) (Or.inl ⟨by kernel_rfl, ?_⟩) hHeld ?_
  · intro w' hSw; go_simp
  try simp only [Act.put, List.setIfInBounds_toArray, List.set_cons_zero, List.set_cons_succ, List.getElem_toArray, List.getElem_cons_succ, List.getElem_cons_zero]
  refine wpAnyH_take (i := 6) (v := .pointer (some ⟨q, 0, none⟩)) rfl (by kernel_rfl) (by kernel_rfl) (by kernel_rfl) (fun _ _ _ h => h) (Or.inl ⟨by kernel_rfl, ?_⟩) hHeld ?_
  · intro w' hSw; go_simp
  try simp only [Act.put, List.setIfInBounds_toArray, List.set_cons_zero, List.set_cons_succ, List.getElem_toArray, List.getElem_cons_succ, List.getElem_cons_zero]
  refine wpAnyH_take (i := 7) (v := .slice ((some ⟨g, 0, none⟩)) n c) rfl (by kernel_rfl) (by kernel_rfl) (by kernel_rfl) (fun _ _ _ h => h) (Or.inl ⟨by kernel_rfl, ?_⟩) hHeld ?_
  · intro w' hSw; obtain ⟨z0, z1, -⟩ := (hd0.below hSw).open2; go_simp
  try simp only [Act.put, List.setIfInBounds_toArray, List.set_cons_zero, List.set_cons_succ, List.getElem_toArray, List.getElem_cons_succ, List.getElem_cons_zero]
  refine wpAnyH_take (i := 8) (v := .int .i64 ((j : Int))) rfl (by kernel_rfl) (by kernel_rfl) (by kernel_rfl) (fun _ _ _ h => h) (Or.inl ⟨by kernel_rfl, ?_⟩) hHeld ?_
  · intro w' hSw; go_simp
  try simp only [Act.put, List.setIfInBounds_toArray, List.set_cons_zero, List.set_cons_succ, List.getElem_toArray, List.getElem_cons_succ, List.getElem_cons_zero]
  refine wpAnyH_take (i := 9) (v := .pointer (some ⟨g, j * 2, none⟩)) rfl (by kernel_rfl) (by kernel_rfl) (by kernel_rfl) (fun _ _ _ h => h) (Or.inl ⟨by kernel_rfl, ?_⟩) hHeld ?_
  · intro w' hSw; go_simp
  try simp only [Act.put, List.setIfInBounds_toArray, List.set_cons_zero, List.set_cons_succ, List.getElem_toArray, List.getElem_cons_succ, List.getElem_cons_zero]
  refine wpAnyH_take (i := 10) (v := pV (f j)) rfl (by kernel_rfl) (by kernel_rfl) (by kernel_rfl) (fun _ _ _ h => h) (Or.inl ⟨by kernel_rfl, ?_⟩) hHeld ?_
  · intro w' hSw; obtain ⟨z0, z1, -⟩ := own_readP (own_bel hown0 hSw) hj; go_simp
  try simp only [Act.put, List.setIfInBounds_toArray, List.set_cons_zero, List.set_cons_succ, List.getElem_toArray, List.getElem_cons_succ, List.getElem_cons_zero]
  refine wpAnyH_take (i := 11) (v := .pointer (some ⟨q, 0, none⟩)) rfl (by kernel_rfl) (by kernel_rfl) (by kernel_rfl) (fun _ _ _ h => h) (Or.inl ⟨by kernel_rfl, ?_⟩) hHeld ?_
  · intro w' hSw; go_simp
  try simp only [Act.put, List.setIfInBounds_toArray, List.set_cons_zero, List.set_cons_succ, List.getElem_toArray, List.getElem_cons_succ, List.getElem_cons_zero]
  refine wpAnyH_take (i := 12) (v := .pointer (some ⟨q, 0, none⟩)) rfl (by kernel_rfl) (by kernel_rfl) (by kernel_rfl) (fun _ _ _ h => h) (Or.inl ⟨by kernel_rfl, ?_⟩) hHeld ?_
  · intro w' hSw; go_simp
  try simp only [Act.put, List.setIfInBounds_toArray, List.set_cons_zero, List.set_cons_succ, List.getElem_toArray, List.getElem_cons_succ, List.getElem_cons_zero]
  refine wpAnyH_take (i := 13) (v := .pointer (some ⟨q, 0, none⟩)) rfl (by kernel_rfl) (by kernel_rfl) (by kernel_rfl) (fun _ _ _ h => h) (Or.inl ⟨by kernel_rfl, ?_⟩) hHeld ?_
  · intro w' hSw; go_simp
  try simp only [Act.put, List.setIfInBounds_toArray, List.set_cons_zero, List.set_cons_succ, List.getElem_toArray, List.getElem_cons_succ, List.getElem_cons_zero]
  refine wpAnyH_take (i := 14) (v := .slice ((some ⟨g, 0, none⟩)) n c) rfl (by kernel_rfl) (by kernel_rfl) (by kernel_rfl) (fun _ _ _ h => h) (Or.inl ⟨by kernel_rfl, ?_⟩) hHeld ?_
  · intro w' hSw; obtain ⟨z0, z1, -⟩ := (hd0.below hSw).open2; go_simp
  try simp only [Act.put, List.setIfInBounds_toArray, List.set_cons_zero, List.set_cons_succ, List.getElem_toArray, List.getElem_cons_succ, List.getElem_cons_zero]
  refine wpAnyH_take (i := 15) (v := .int .i64 ((i : Int))) rfl (by kernel_rfl) (by kernel_rfl) (by kernel_rfl) (fun _ _ _ h => h) (Or.inl ⟨by kernel_rfl, ?_⟩) hHeld ?_
  · intro w' hSw; go_simp
  try simp only [Act.put, List.setIfInBounds_toArray, List.set_cons_zero, List.set_cons_succ, List.getElem_toArray, List.getElem_cons_succ, List.getElem_cons_zero]
  refine wpAnyH_take (i := 16) (v := .pointer (some ⟨g, i * 2, none⟩)) rfl (by kernel_rfl) (by kernel_rfl) (by kernel_rfl) (fun _ _ _ h => h) (Or.inl ⟨by kernel_rfl, ?_⟩) hHeld ?_
  · intro w' hSw; go_simp
  try simp only [Act.put, List.setIfInBounds_toArray, List.set_cons_zero, List.set_cons_succ, List.getElem_toArray, List.getElem_cons_succ, List.getElem_cons_zero]
  refine wpAnyH_take (i := 17) (v := pV (f i)) rfl (by kernel_rfl) (by kernel_rfl) (by kernel_rfl) (fun _ _ _ h => h) (Or.inl ⟨by kernel_rfl, ?_⟩) hHeld ?_
  · intro w' hSw; obtain ⟨z0, z1, -⟩ := own_readP (own_bel hown0 hSw) hi; go_simp
  try simp only [Act.put, List.setIfInBounds_toArray, List.set_cons_zero, List.set_cons_succ, List.getElem_toArray, List.getElem_cons_succ, List.getElem_cons_zero]
  refine wpAnyH_ready (rs := [18]) (by kernel_rfl) (by simp) ?_
  refine AllReadyH.cons rfl (fun KK hK' => ?_) AllReadyH.nil
  go_simp
  refine (pBef (ok0 j hj) (ok0 i hi)).mono ?_
  rintro e u1 ⟨rfl, bb⟩
  replace bu : Kb u0 u1 := bu.trans (bb.mono bu.size)
  clear bb
  try go_wp2_with fail
  clear hHeld
  refine hK'.out _ _ (bu) (fun hHeld => ?_)
  clear hK' KK
  try simp only [List.setIfInBounds_toArray, List.set_cons_zero, List.set_cons_succ]
  refine wpAnyH_done (by kernel_rfl) ?_ _
  clear hHeld
  by_cases hl : qlt (f j) (f i)
  · rw [pd_yes hl]
    go_wp2
    go_ret
    exact ⟨.inr ⟨hl, rfl⟩, bW.trans (bu.mono bW.size)⟩
  · rw [pd_no hl]
    go_wp2
    go_ret
    exact ⟨.inl ⟨hl, rfl⟩, bW.trans (bu.mono bW.size)⟩
/-- What swapped tells. -/
def SwPP (w : World) (B q g n c i j : Nat) (f : Nat → Pl) (e : Ending) (w' : World) : Prop :=
  ((¬ qlt (f i) (f j) ∧ e = .returned (.bool false) ∧ HvP w' B q (.slice (some ⟨g, 0, none⟩) n c) n f) ∨ (qlt (f i) (f j) ∧ e = .returned (.bool true) ∧ HvP w' B q (.slice (some ⟨g, 0, none⟩) n c) n (sw f i j))) ∧ MvP q (some g) w w'
set_option maxRecDepth 100000 in
set_option maxHeartbeats 4000000 in
theorem swappedP_any {w : World} {B q g n c i j : Nat} {f : Nat → Pl} (h : HvP w B q (.slice (some ⟨g, 0, none⟩) n c) n f) (hi : i < n) (hj : j < n) (hn : n ≤ 1000000) :
    Calls Try.prog 55 #[.pointer (some ⟨q, 0, none⟩), .int .i64 (i : Int), .int .i64 (j : Int)] w (SwPP w B q g n c i j f) := by
  have hi' : (0 : Int) ≤ (i : Int) ∧ (i : Int) < (n : Int) := by omega
  have hj' : (0 : Int) ≤ (j : Int) ∧ (j : Int) < (n : Int) := by omega
  have hn' : (n : Int) ≤ 1000000 := by omega
  have bW : Below w.heap.size w w := Below.refl _ _
  go_enter Try.func55, Try.ntmps55
  go_upto_region 1 with (fail)
  obtain ⟨u0, hu0, bb⟩ : ∃ uu, w.drew = uu ∧ Below w.heap.size w uu := ⟨_, rfl, (Below.refl _ _).drew⟩
  replace h := h.below bb
  replace bW := bW.trans (bb.mono bW.size)
  have hd0 := h.hd
  have hown0 := h.own
  have ok0 := h.ok
  clear bb
  refine wp_region_held_drew (S := Kb u0) (by kernel_rfl) (by rw [hu0]; exact Below.refl _ _) (fun hHeld => ?_)
  rw [hu0] at hHeld ⊢
  clear hu0
  have bu : Kb u0 u0 := Below.refl _ _
  change wpAnyH _ _ _ _ _ 20 #[false, false, false, false, false, false, false, false, false, false, false, false, false, false, false, false, false, false, false, false] _ _
  refine wpAnyH_take (i := 0) (v := .pointer (some ⟨q, 0, none⟩)) rfl (by kernel_rfl) (by kernel_rfl) (by kernel_rfl) (fun _ _ _ h => h) (Or.inl ⟨by kernel_rfl, ?_⟩) hHeld ?_
  · intro w' hSw; go_simp
  try simp only [Act.put, List.setIfInBounds_toArray, List.set_cons_zero, List.set_cons_succ, List.getElem_toArray, List.getElem_cons_zero]
  refine wpAnyH_take (i := 1) (v := .pointer (some ⟨q, 0, none⟩)) rfl (by kernel_rfl) (by kernel_rfl) (by kernel_rfl) (fun _ _ _ h => h) (Or.inl ⟨by kernel_rfl, ?_⟩) hHeld ?_
  · intro w' hSw; go_simp
  try simp only [Act.put, List.setIfInBounds_toArray, List.set_cons_zero, List.set_cons_succ, List.getElem_toArray, List.getElem_cons_succ, List.getElem_cons_zero]
  refine wpAnyH_take (i := 2) (v := .pointer (some ⟨q, 1, none⟩)) rfl (by kernel_rfl) (by kernel_rfl) (by kernel_rfl) (fun _ _ _ h => h) (Or.inl ⟨by kernel_rfl, ?_⟩) hHeld ?_
  · intro w' hSw; go_simp
  try simp only [Act.put, List.setIfInBounds_toArray, List.set_cons_zero, List.set_cons_succ, List.getElem_toArray, List.getElem_cons_succ, List.getElem_cons_zero]
  refine wpAnyH_take (i := 3) (v := .func (.func 39) #[] #[]) rfl (by kernel_rfl) (by kernel_rfl) (by kernel_rfl) (fun _ _ _ h => h) (Or.inl ⟨by kernel_rfl, ?_⟩) hHeld ?_
  · intro w' hSw; obtain ⟨z0, z1, -⟩ := (hd0.below hSw).open2; go_simp
  try simp only [Act.put, List.setIfInBounds_toArray, List.set_cons_zero, List.set_cons_succ, List.getElem_toArray, List.getElem_cons_succ, List.getElem_cons_zero]
  refine wpAnyH_take (i := 4) (v := .pointer (some ⟨q, 0, none⟩)) rfl (by kernel_rfl) (by kernel_rfl) (by kernel_rfl) (fun _ _ _ h => h) (Or.inl ⟨by kernel_rfl, ?_⟩) hHeld ?_
  · intro w' hSw; go_simp
  try simp only [Act.put, List.setIfInBounds_toArray, List.set_cons_zero, List.set_cons_succ, List.getElem_toArray, List.getElem_cons_succ, List.getElem_cons_zero]
  refine wpAnyH_take (i := 5) (v := .pointer (some ⟨q, 0, none⟩)) rfl (by kernel_rfl) (by kernel_rfl) (by kernel_rfl) (fun _ _ _ h => h) (Or.inl ⟨by kernel_rfl, ?_⟩) hHeld ?_
  · intro w' hSw; go_simp
  try simp only [Act.put, List.setIfInBounds_toArray, List.set_cons_zero, List.set_cons_succ, List.getElem_toArray, List.getElem_cons_succ, List.getElem_cons_zero]
  refine wpAnyH_take (i := 6) (v := .pointer (some ⟨q, 0, none⟩)) rfl (by kernel_rfl) (by kernel_rfl) (by kernel_rfl) (fun _ _ _ h => h) (Or.inl ⟨by kernel_rfl, ?_⟩) hHeld ?_
  · intro w' hSw; go_simp
  try simp only [Act.put, List.setIfInBounds_toArray, List.set_cons_zero, List.set_cons_succ, List.getElem_toArray, List.getElem_cons_succ, List.getElem_cons_zero]
  refine wpAnyH_take (i := 7) (v := .slice ((some ⟨g, 0, none⟩)) n c) rfl (by kernel_rfl) (by kernel_rfl) (by kernel_rfl) (fun _ _ _ h => h) (Or.inl ⟨by kernel_rfl, ?_⟩) hHeld ?_
  · intro w' hSw; obtain ⟨z0, z1, -⟩ := (hd0.below hSw).open2; go_simp
  try simp only [Act.put, List.setIfInBounds_toArray, List.set_cons_zero, List.set_cons_succ, List.getElem_toArray, List.getElem_cons_succ, List.getElem_cons_zero]
  refine wpAnyH_take (i := 8) (v := .int .i64 ((i : Int))) rfl (by kernel_rfl) (by kernel_rfl) (by kernel_rfl) (fun _ _ _ h => h) (Or.inl ⟨by kernel_rfl, ?_⟩) hHeld ?_
  · intro w' hSw; go_simp
  try simp only [Act.put, List.setIfInBounds_toArray, List.set_cons_zero, List.set_cons_succ, List.getElem_toArray, List.getElem_cons_succ, List.getElem_cons_zero]
  refine wpAnyH_take (i := 9) (v := .pointer (some ⟨g, i * 2, none⟩)) rfl (by kernel_rfl) (by kernel_rfl) (by kernel_rfl) (fun _ _ _ h => h) (Or.inl ⟨by kernel_rfl, ?_⟩) hHeld ?_
  · intro w' hSw; go_simp
  try simp only [Act.put, List.setIfInBounds_toArray, List.set_cons_zero, List.set_cons_succ, List.getElem_toArray, List.getElem_cons_succ, List.getElem_cons_zero]
  refine wpAnyH_take (i := 10) (v := pV (f i)) rfl (by kernel_rfl) (by kernel_rfl) (by kernel_rfl) (fun _ _ _ h => h) (Or.inl ⟨by kernel_rfl, ?_⟩) hHeld ?_
  · intro w' hSw; obtain ⟨z0, z1, -⟩ := own_readP (own_bel hown0 hSw) hi; go_simp
  try simp only [Act.put, List.setIfInBounds_toArray, List.set_cons_zero, List.set_cons_succ, List.getElem_toArray, List.getElem_cons_succ, List.getElem_cons_zero]
  refine wpAnyH_take (i := 11) (v := .pointer (some ⟨q, 0, none⟩)) rfl (by kernel_rfl) (by kernel_rfl) (by kernel_rfl) (fun _ _ _ h => h) (Or.inl ⟨by kernel_rfl, ?_⟩) hHeld ?_
  · intro w' hSw; go_simp
  try simp only [Act.put, List.setIfInBounds_toArray, List.set_cons_zero, List.set_cons_succ, List.getElem_toArray, List.getElem_cons_succ, List.getElem_cons_zero]
  refine wpAnyH_take (i := 12) (v := .pointer (some ⟨q, 0, none⟩)) rfl (by kernel_rfl) (by kernel_rfl) (by kernel_rfl) (fun _ _ _ h => h) (Or.inl ⟨by kernel_rfl, ?_⟩) hHeld ?_
  · intro w' hSw; go_simp
  try simp only [Act.put, List.setIfInBounds_toArray, List.set_cons_zero, List.set_cons_succ, List.getElem_toArray, List.getElem_cons_succ, List.getElem_cons_zero]
  refine wpAnyH_take (i := 13) (v := .pointer (some ⟨q, 0, none⟩)) rfl (by kernel_rfl) (by kernel_rfl) (by kernel_rfl) (fun _ _ _ h => h) (Or.inl ⟨by kernel_rfl, ?_⟩) hHeld ?_
  · intro w' hSw; go_simp
  try simp only [Act.put, List.setIfInBounds_toArray, List.set_cons_zero, List.set_cons_succ, List.getElem_toArray, List.getElem_cons_succ, List.getElem_cons_zero]
  refine wpAnyH_take (i := 14) (v := .slice ((some ⟨g, 0, none⟩)) n c) rfl (by kernel_rfl) (by kernel_rfl) (by kernel_rfl) (fun _ _ _ h => h) (Or.inl ⟨by kernel_rfl, ?_⟩) hHeld ?_
  · intro w' hSw; obtain ⟨z0, z1, -⟩ := (hd0.below hSw).open2; go_simp
  try simp only [Act.put, List.setIfInBounds_toArray, List.set_cons_zero, List.set_cons_succ, List.getElem_toArray, List.getElem_cons_succ, List.getElem_cons_zero]
  refine wpAnyH_take (i := 15) (v := .int .i64 ((j : Int))) rfl (by kernel_rfl) (by kernel_rfl) (by kernel_rfl) (fun _ _ _ h => h) (Or.inl ⟨by kernel_rfl, ?_⟩) hHeld ?_
  · intro w' hSw; go_simp
  try simp only [Act.put, List.setIfInBounds_toArray, List.set_cons_zero, List.set_cons_succ, List.getElem_toArray, List.getElem_cons_succ, List.getElem_cons_zero]
  refine wpAnyH_take (i := 16) (v := .pointer (some ⟨g, j * 2, none⟩)) rfl (by kernel_rfl) (by kernel_rfl) (by kernel_rfl) (fun _ _ _ h => h) (Or.inl ⟨by kernel_rfl, ?_⟩) hHeld ?_
  · intro w' hSw; go_simp
  try simp only [Act.put, List.setIfInBounds_toArray, List.set_cons_zero, List.set_cons_succ, List.getElem_toArray, List.getElem_cons_succ, List.getElem_cons_zero]
  refine wpAnyH_take (i := 17) (v := pV (f j)) rfl (by kernel_rfl) (by kernel_rfl) (by kernel_rfl) (fun _ _ _ h => h) (Or.inl ⟨by kernel_rfl, ?_⟩) hHeld ?_
  · intro w' hSw; obtain ⟨z0, z1, -⟩ := own_readP (own_bel hown0 hSw) hj; go_simp
  try simp only [Act.put, List.setIfInBounds_toArray, List.set_cons_zero, List.set_cons_succ, List.getElem_toArray, List.getElem_cons_succ, List.getElem_cons_zero]
  refine wpAnyH_ready (rs := [18]) (by kernel_rfl) (by simp) ?_
  refine AllReadyH.cons rfl (fun KK hK' => ?_) AllReadyH.nil
  go_simp
  refine (pBef (ok0 i hi) (ok0 j hj)).mono ?_
  rintro e u1 ⟨rfl, bb⟩
  replace bu : Kb u0 u1 := bu.trans (bb.mono bu.size)
  clear bb
  try go_wp2_with fail
  clear hHeld
  refine hK'.out _ _ (bu) (fun hHeld => ?_)
  clear hK' KK
  try simp only [List.setIfInBounds_toArray, List.set_cons_zero, List.set_cons_succ]
  refine wpAnyH_take (i := 19) (v := .bool (!pd (qlt (f i) (f j)))) rfl (by kernel_rfl) (by kernel_rfl) (by kernel_rfl) (fun _ _ _ h => h) (Or.inl ⟨by kernel_rfl, ?_⟩) hHeld ?_
  · intro w' hSw; go_simp
  try simp only [Act.put, List.setIfInBounds_toArray, List.set_cons_zero, List.set_cons_succ, List.getElem_toArray, List.getElem_cons_succ, List.getElem_cons_zero]
  refine wpAnyH_done (by kernel_rfl) ?_ _
  clear hHeld
  by_cases hl : qlt (f i) (f j)
  case neg =>
    rw [pd_no hl]
    go_wp2
    go_ret
    exact ⟨.inl ⟨hl, rfl, h.below bu⟩, MvP.of_below (bW.trans (bu.mono bW.size))⟩
  rw [pd_yes hl]
  replace h := h.below bu
  replace bW := bW.trans (bu.mono bW.size)
  clear bu
  have hgq : g ≠ q := by have := (own_lt h.own).1; have := h.qB; omega
  have hgs := (own_lt h.own).2.1
  have hqB := h.qB
  have hown := h.own
  have hhd := h.hd
  have hok := h.ok
  clear h
  go_upto_region 3 with (fail)
  obtain ⟨u0', hu0, bb⟩ : ∃ uu, u1.drew = uu ∧ Below u1.heap.size u1 uu := ⟨_, rfl, (Below.refl _ _).drew⟩
  replace hhd := hhd.below bb
  replace hown := own_bel hown bb
  replace hok := fun i hi => (hok i hi).below bb
  have hm0 : MvP q (some g) u0' u0' := MvP.of_below (Below.refl _ _)
  have ha0 := (own_at hown)
  have hd0 := hhd
  have hm : MvP q (some g) w u0' := MvP.of_below (bW.trans (bb.mono bW.size))
  clear bb
  refine wp_region_held_drew (S := fun w' => At 59 w' q #[.slice (some ⟨g, 0, none⟩) n c, .func (.func 39) #[] #[]]) (by kernel_rfl) (by rw [hu0]; exact hhd) (fun hHeld => ?_)
  rw [hu0] at hHeld ⊢
  clear hu0
  change wpAnyH _ _ _ _ _ 28 #[false, false, false, false, false, false, false, false, false, false, false, false, false, false, false, false, false, false, false, false, false, false, false, false, false, false, false, false] _ _
  refine wpAnyH_take (i := 0) (v := .pointer (some ⟨q, 0, none⟩)) rfl (by kernel_rfl) (by kernel_rfl) (by kernel_rfl) (fun _ _ _ h => h) (Or.inl ⟨by kernel_rfl, ?_⟩) hHeld ?_
  · intro w' hSw; go_simp
  try simp only [Act.put, List.setIfInBounds_toArray, List.set_cons_zero, List.set_cons_succ, List.getElem_toArray, List.getElem_cons_zero]
  refine wpAnyH_take (i := 1) (v := .pointer (some ⟨q, 0, none⟩)) rfl (by kernel_rfl) (by kernel_rfl) (by kernel_rfl) (fun _ _ _ h => h) (Or.inl ⟨by kernel_rfl, ?_⟩) hHeld ?_
  · intro w' hSw; go_simp
  try simp only [Act.put, List.setIfInBounds_toArray, List.set_cons_zero, List.set_cons_succ, List.getElem_toArray, List.getElem_cons_succ, List.getElem_cons_zero]
  refine wpAnyH_take (i := 2) (v := .pointer (some ⟨q, 0, none⟩)) rfl (by kernel_rfl) (by kernel_rfl) (by kernel_rfl) (fun _ _ _ h => h) (Or.inl ⟨by kernel_rfl, ?_⟩) hHeld ?_
  · intro w' hSw; go_simp
  try simp only [Act.put, List.setIfInBounds_toArray, List.set_cons_zero, List.set_cons_succ, List.getElem_toArray, List.getElem_cons_succ, List.getElem_cons_zero]
  refine wpAnyH_take (i := 3) (v := .slice ((some ⟨g, 0, none⟩)) n c) rfl (by kernel_rfl) (by kernel_rfl) (by kernel_rfl) (fun _ _ _ h => h) (Or.inl ⟨by kernel_rfl, ?_⟩) hHeld ?_
  · intro w' hSw; obtain ⟨y0, y1, -⟩ := hSw.open2; go_simp
  try simp only [Act.put, List.setIfInBounds_toArray, List.set_cons_zero, List.set_cons_succ, List.getElem_toArray, List.getElem_cons_succ, List.getElem_cons_zero]
  refine wpAnyH_take (i := 4) (v := .int .i64 ((i : Int))) rfl (by kernel_rfl) (by kernel_rfl) (by kernel_rfl) (fun _ _ _ h => h) (Or.inl ⟨by kernel_rfl, ?_⟩) hHeld ?_
  · intro w' hSw; go_simp
  try simp only [Act.put, List.setIfInBounds_toArray, List.set_cons_zero, List.set_cons_succ, List.getElem_toArray, List.getElem_cons_succ, List.getElem_cons_zero]
  refine wpAnyH_take (i := 5) (v := .pointer (some ⟨q, 0, none⟩)) rfl (by kernel_rfl) (by kernel_rfl) (by kernel_rfl) (fun _ _ _ h => h) (Or.inl ⟨by kernel_rfl, ?_⟩) hHeld ?_
  · intro w' hSw; go_simp
  try simp only [Act.put, List.setIfInBounds_toArray, List.set_cons_zero, List.set_cons_succ, List.getElem_toArray, List.getElem_cons_succ, List.getElem_cons_zero]
  refine wpAnyH_take (i := 6) (v := .pointer (some ⟨q, 0, none⟩)) rfl (by kernel_rfl) (by kernel_rfl) (by kernel_rfl) (fun _ _ _ h => h) (Or.inl ⟨by kernel_rfl, ?_⟩) hHeld ?_
  · intro w' hSw; go_simp
  try simp only [Act.put, List.setIfInBounds_toArray, List.set_cons_zero, List.set_cons_succ, List.getElem_toArray, List.getElem_cons_succ, List.getElem_cons_zero]
  refine wpAnyH_take (i := 7) (v := .pointer (some ⟨q, 0, none⟩)) rfl (by kernel_rfl) (by kernel_rfl) (by kernel_rfl) (fun _ _ _ h => h) (Or.inl ⟨by kernel_rfl, ?_⟩) hHeld ?_
  · intro w' hSw; go_simp
  try simp only [Act.put, List.setIfInBounds_toArray, List.set_cons_zero, List.set_cons_succ, List.getElem_toArray, List.getElem_cons_succ, List.getElem_cons_zero]
  refine wpAnyH_take (i := 8) (v := .slice ((some ⟨g, 0, none⟩)) n c) rfl (by kernel_rfl) (by kernel_rfl) (by kernel_rfl) (fun _ _ _ h => h) (Or.inl ⟨by kernel_rfl, ?_⟩) hHeld ?_
  · intro w' hSw; obtain ⟨y0, y1, -⟩ := hSw.open2; go_simp
  try simp only [Act.put, List.setIfInBounds_toArray, List.set_cons_zero, List.set_cons_succ, List.getElem_toArray, List.getElem_cons_succ, List.getElem_cons_zero]
  refine wpAnyH_take (i := 9) (v := .int .i64 ((j : Int))) rfl (by kernel_rfl) (by kernel_rfl) (by kernel_rfl) (fun _ _ _ h => h) (Or.inl ⟨by kernel_rfl, ?_⟩) hHeld ?_
  · intro w' hSw; go_simp
  try simp only [Act.put, List.setIfInBounds_toArray, List.set_cons_zero, List.set_cons_succ, List.getElem_toArray, List.getElem_cons_succ, List.getElem_cons_zero]
  refine wpAnyH_take (i := 10) (v := .pointer (some ⟨q, 0, none⟩)) rfl (by kernel_rfl) (by kernel_rfl) (by kernel_rfl) (fun _ _ _ h => h) (Or.inl ⟨by kernel_rfl, ?_⟩) hHeld ?_
  · intro w' hSw; go_simp
  try simp only [Act.put, List.setIfInBounds_toArray, List.set_cons_zero, List.set_cons_succ, List.getElem_toArray, List.getElem_cons_succ, List.getElem_cons_zero]
  refine wpAnyH_take (i := 11) (v := .pointer (some ⟨q, 0, none⟩)) rfl (by kernel_rfl) (by kernel_rfl) (by kernel_rfl) (fun _ _ _ h => h) (Or.inl ⟨by kernel_rfl, ?_⟩) hHeld ?_
  · intro w' hSw; go_simp
  try simp only [Act.put, List.setIfInBounds_toArray, List.set_cons_zero, List.set_cons_succ, List.getElem_toArray, List.getElem_cons_succ, List.getElem_cons_zero]
  refine wpAnyH_take (i := 12) (v := .pointer (some ⟨q, 0, none⟩)) rfl (by kernel_rfl) (by kernel_rfl) (by kernel_rfl) (fun _ _ _ h => h) (Or.inl ⟨by kernel_rfl, ?_⟩) hHeld ?_
  · intro w' hSw; go_simp
  try simp only [Act.put, List.setIfInBounds_toArray, List.set_cons_zero, List.set_cons_succ, List.getElem_toArray, List.getElem_cons_succ, List.getElem_cons_zero]
  refine wpAnyH_take (i := 13) (v := .slice ((some ⟨g, 0, none⟩)) n c) rfl (by kernel_rfl) (by kernel_rfl) (by kernel_rfl) (fun _ _ _ h => h) (Or.inl ⟨by kernel_rfl, ?_⟩) hHeld ?_
  · intro w' hSw; obtain ⟨y0, y1, -⟩ := hSw.open2; go_simp
  try simp only [Act.put, List.setIfInBounds_toArray, List.set_cons_zero, List.set_cons_succ, List.getElem_toArray, List.getElem_cons_succ, List.getElem_cons_zero]
  refine wpAnyH_take (i := 14) (v := .int .i64 ((j : Int))) rfl (by kernel_rfl) (by kernel_rfl) (by kernel_rfl) (fun _ _ _ h => h) (Or.inl ⟨by kernel_rfl, ?_⟩) hHeld ?_
  · intro w' hSw; go_simp
  try simp only [Act.put, List.setIfInBounds_toArray, List.set_cons_zero, List.set_cons_succ, List.getElem_toArray, List.getElem_cons_succ, List.getElem_cons_zero]
  refine wpAnyH_take (i := 15) (v := .pointer (some ⟨g, j * 2, none⟩)) rfl (by kernel_rfl) (by kernel_rfl) (by kernel_rfl) (fun _ _ _ h => h) (Or.inl ⟨by kernel_rfl, ?_⟩) hHeld ?_
  · intro w' hSw; go_simp
  try simp only [Act.put, List.setIfInBounds_toArray, List.set_cons_zero, List.set_cons_succ, List.getElem_toArray, List.getElem_cons_succ, List.getElem_cons_zero]
  refine wpAnyH_take (i := 17) (v := .pointer (some ⟨q, 0, none⟩)) rfl (by kernel_rfl) (by kernel_rfl) (by kernel_rfl) (fun _ _ _ h => h) (Or.inl ⟨by kernel_rfl, ?_⟩) hHeld ?_
  · intro w' hSw; go_simp
  try simp only [Act.put, List.setIfInBounds_toArray, List.set_cons_zero, List.set_cons_succ, List.getElem_toArray, List.getElem_cons_succ, List.getElem_cons_zero]
  refine wpAnyH_take (i := 18) (v := .pointer (some ⟨q, 0, none⟩)) rfl (by kernel_rfl) (by kernel_rfl) (by kernel_rfl) (fun _ _ _ h => h) (Or.inl ⟨by kernel_rfl, ?_⟩) hHeld ?_
  · intro w' hSw; go_simp
  try simp only [Act.put, List.setIfInBounds_toArray, List.set_cons_zero, List.set_cons_succ, List.getElem_toArray, List.getElem_cons_succ, List.getElem_cons_zero]
  refine wpAnyH_take (i := 19) (v := .pointer (some ⟨q, 0, none⟩)) rfl (by kernel_rfl) (by kernel_rfl) (by kernel_rfl) (fun _ _ _ h => h) (Or.inl ⟨by kernel_rfl, ?_⟩) hHeld ?_
  · intro w' hSw; go_simp
  try simp only [Act.put, List.setIfInBounds_toArray, List.set_cons_zero, List.set_cons_succ, List.getElem_toArray, List.getElem_cons_succ, List.getElem_cons_zero]
  refine wpAnyH_take (i := 20) (v := .slice ((some ⟨g, 0, none⟩)) n c) rfl (by kernel_rfl) (by kernel_rfl) (by kernel_rfl) (fun _ _ _ h => h) (Or.inl ⟨by kernel_rfl, ?_⟩) hHeld ?_
  · intro w' hSw; obtain ⟨y0, y1, -⟩ := hSw.open2; go_simp
  try simp only [Act.put, List.setIfInBounds_toArray, List.set_cons_zero, List.set_cons_succ, List.getElem_toArray, List.getElem_cons_succ, List.getElem_cons_zero]
  refine wpAnyH_take (i := 21) (v := .int .i64 ((i : Int))) rfl (by kernel_rfl) (by kernel_rfl) (by kernel_rfl) (fun _ _ _ h => h) (Or.inl ⟨by kernel_rfl, ?_⟩) hHeld ?_
  · intro w' hSw; go_simp
  try simp only [Act.put, List.setIfInBounds_toArray, List.set_cons_zero, List.set_cons_succ, List.getElem_toArray, List.getElem_cons_succ, List.getElem_cons_zero]
  refine wpAnyH_take (i := 22) (v := .pointer (some ⟨g, i * 2, none⟩)) rfl (by kernel_rfl) (by kernel_rfl) (by kernel_rfl) (fun _ _ _ h => h) (Or.inl ⟨by kernel_rfl, ?_⟩) hHeld ?_
  · intro w' hSw; go_simp
  try simp only [Act.put, List.setIfInBounds_toArray, List.set_cons_zero, List.set_cons_succ, List.getElem_toArray, List.getElem_cons_succ, List.getElem_cons_zero]
  refine wpAnyH_ready (rs := [16, 23]) (by kernel_rfl) (by simp) ?_
  refine AllReadyH.cons rfl (fun KK hK' => ?_) (AllReadyH.cons rfl (fun KK hK' => ?_) AllReadyH.nil)
  · obtain ⟨z0, z1, -⟩ := own_readP hown hj
    go_simp
    clear z0 z1
    clear hHeld
    refine hK'.out _ _ (hhd) (fun hHeld => ?_)
    clear hK' KK
    try simp only [List.setIfInBounds_toArray, List.set_cons_zero, List.set_cons_succ]
    refine wpAnyH_ready (rs := [23]) (by kernel_rfl) (by simp) ?_
    refine AllReadyH.cons rfl (fun KK hK' => ?_) AllReadyH.nil
    obtain ⟨z0, z1, -⟩ := own_readP hown hi
    go_simp
    clear z0 z1
    clear hHeld
    refine hK'.out _ _ (hhd) (fun hHeld => ?_)
    clear hK' KK
    try simp only [List.setIfInBounds_toArray, List.set_cons_zero, List.set_cons_succ]
    refine wpAnyH_take (i := 24) (v := .pointer (some ⟨g, i * 2, none⟩)) rfl (by kernel_rfl) (by kernel_rfl) (by kernel_rfl) (fun _ _ _ h => h) (Or.inl ⟨by kernel_rfl, ?_⟩) hHeld ?_
    · intro w' hSw; go_simp
    try simp only [Act.put, List.setIfInBounds_toArray, List.set_cons_zero, List.set_cons_succ, List.getElem_toArray, List.getElem_cons_succ, List.getElem_cons_zero]
    refine wpAnyH_ready (rs := [25]) (by kernel_rfl) (by simp) ?_
    refine AllReadyH.cons rfl (fun KK hK' => ?_) AllReadyH.nil
    obtain ⟨y0, y1, k0, k1⟩ := own_readP hown hi
    go_simp
    obtain ⟨u3, hU, ho2, ah2, m2, m3⟩ : ∃ U, ((u0').setCell ⟨g, i * 2, none⟩ (.slice (some ⟨(f j).g, 0, none⟩) (f j).l.length (f j).c)).setCell ⟨g, i * 2 + 1, none⟩ (.int .u64 (f j).s) = U ∧ U.ownsRow B 56 2 (.slice (some ⟨g, 0, none⟩) n c) n (hC pE (upd (f) i (f j)) n) ∧ At 59 U q #[.slice (some ⟨g, 0, none⟩) n c, .func (.func 39) #[] #[]] ∧ MvP q (some g) w U ∧ MvP q (some g) u0' U := ⟨_, rfl, own_putP hown hi (f j), ((hhd.setOther (fun e => hgq e.symm) _).setOther (fun e => hgq e.symm) _), ((hm.setO _).setO _), ((hm0.setO _).setO _)⟩
    rw [hU]
    clear hU hown hhd hm hm0 y0 k0 y1 k1
    have hown := ho2
    have hhd := ah2
    have hm := m2
    have hm0 := m3
    clear ho2 ah2 m2 m3
    clear hHeld
    refine hK'.out _ _ (hhd) (fun hHeld => ?_)
    clear hK' KK
    try simp only [List.setIfInBounds_toArray, List.set_cons_zero, List.set_cons_succ]
    refine wpAnyH_take (i := 26) (v := .pointer (some ⟨g, j * 2, none⟩)) rfl (by kernel_rfl) (by kernel_rfl) (by kernel_rfl) (fun _ _ _ h => h) (Or.inl ⟨by kernel_rfl, ?_⟩) hHeld ?_
    · intro w' hSw; go_simp
    try simp only [Act.put, List.setIfInBounds_toArray, List.set_cons_zero, List.set_cons_succ, List.getElem_toArray, List.getElem_cons_succ, List.getElem_cons_zero]
    refine wpAnyH_ready (rs := [27]) (by kernel_rfl) (by simp) ?_
    refine AllReadyH.cons rfl (fun KK hK' => ?_) AllReadyH.nil
    obtain ⟨y0, y1, k0, k1⟩ := own_readP hown hj
    go_simp
    obtain ⟨u4, hU, ho2, ah2, m2, m3⟩ : ∃ U, ((u3).setCell ⟨g, j * 2, none⟩ (.slice (some ⟨(f i).g, 0, none⟩) (f i).l.length (f i).c)).setCell ⟨g, j * 2 + 1, none⟩ (.int .u64 (f i).s) = U ∧ U.ownsRow B 56 2 (.slice (some ⟨g, 0, none⟩) n c) n (hC pE (upd (upd f i (f j)) j (f i)) n) ∧ At 59 U q #[.slice (some ⟨g, 0, none⟩) n c, .func (.func 39) #[] #[]] ∧ MvP q (some g) w U ∧ MvP q (some g) u0' U := ⟨_, rfl, own_putP hown hj (f i), ((hhd.setOther (fun e => hgq e.symm) _).setOther (fun e => hgq e.symm) _), ((hm.setO _).setO _), ((hm0.setO _).setO _)⟩
    rw [hU]
    clear hU hown hhd hm hm0 y0 k0 y1 k1
    have hown := ho2
    have hhd := ah2
    have hm := m2
    have hm0 := m3
    clear ho2 ah2 m2 m3
    clear hHeld
    refine hK'.out _ _ (hhd) (fun hHeld => ?_)
    clear hK' KK
    try simp only [List.setIfInBounds_toArray, List.set_cons_zero, List.set_cons_succ]
    refine wpAnyH_done (by kernel_rfl) ?_ _
    clear hHeld
    rw [sw_upd] at hown
    go_wp2
    go_ret
    exact ⟨.inr ⟨hl, rfl, hown, hhd, hqB, ok_sw (ok_mv hok hd0 ha0 hm0.block) hi hj⟩, hm⟩
  · obtain ⟨z0, z1, -⟩ := own_readP hown hi
    go_simp
    clear z0 z1
    clear hHeld
    refine hK'.out _ _ (hhd) (fun hHeld => ?_)
    clear hK' KK
    try simp only [List.setIfInBounds_toArray, List.set_cons_zero, List.set_cons_succ]
    refine wpAnyH_ready (rs := [16]) (by kernel_rfl) (by simp) ?_
    refine AllReadyH.cons rfl (fun KK hK' => ?_) AllReadyH.nil
    obtain ⟨z0, z1, -⟩ := own_readP hown hj
    go_simp
    clear z0 z1
    clear hHeld
    refine hK'.out _ _ (hhd) (fun hHeld => ?_)
    clear hK' KK
    try simp only [List.setIfInBounds_toArray, List.set_cons_zero, List.set_cons_succ]
    refine wpAnyH_take (i := 24) (v := .pointer (some ⟨g, i * 2, none⟩)) rfl (by kernel_rfl) (by kernel_rfl) (by kernel_rfl) (fun _ _ _ h => h) (Or.inl ⟨by kernel_rfl, ?_⟩) hHeld ?_
    · intro w' hSw; go_simp
    try simp only [Act.put, List.setIfInBounds_toArray, List.set_cons_zero, List.set_cons_succ, List.getElem_toArray, List.getElem_cons_succ, List.getElem_cons_zero]
    refine wpAnyH_ready (rs := [25]) (by kernel_rfl) (by simp) ?_
    refine AllReadyH.cons rfl (fun KK hK' => ?_) AllReadyH.nil
    obtain ⟨y0, y1, k0, k1⟩ := own_readP hown hi
    go_simp
    obtain ⟨u3, hU, ho2, ah2, m2, m3⟩ : ∃ U, ((u0').setCell ⟨g, i * 2, none⟩ (.slice (some ⟨(f j).g, 0, none⟩) (f j).l.length (f j).c)).setCell ⟨g, i * 2 + 1, none⟩ (.int .u64 (f j).s) = U ∧ U.ownsRow B 56 2 (.slice (some ⟨g, 0, none⟩) n c) n (hC pE (upd (f) i (f j)) n) ∧ At 59 U q #[.slice (some ⟨g, 0, none⟩) n c, .func (.func 39) #[] #[]] ∧ MvP q (some g) w U ∧ MvP q (some g) u0' U := ⟨_, rfl, own_putP hown hi (f j), ((hhd.setOther (fun e => hgq e.symm) _).setOther (fun e => hgq e.symm) _), ((hm.setO _).setO _), ((hm0.setO _).setO _)⟩
    rw [hU]
    clear hU hown hhd hm hm0 y0 k0 y1 k1
    have hown := ho2
    have hhd := ah2
    have hm := m2
    have hm0 := m3
    clear ho2 ah2 m2 m3
    clear hHeld
    refine hK'.out _ _ (hhd) (fun hHeld => ?_)
    clear hK' KK
    try simp only [List.setIfInBounds_toArray, List.set_cons_zero, List.set_cons_succ]
    refine wpAnyH_take (i := 26) (v := .pointer (some ⟨g, j * 2, none⟩)) rfl (by kernel_rfl) (by kernel_rfl) (by kernel_rfl) (fun _ _ _ h => h) (Or.inl ⟨by kernel_rfl, ?_⟩) hHeld ?_
    · intro w' hSw; go_simp
    try simp only [Act.put, List.setIfInBounds_toArray, List.set_cons_zero, List.set_cons_succ, List.getElem_toArray, List.getElem_cons_succ, List.getElem_cons_zero]
    refine wpAnyH_ready (rs := [27]) (by kernel_rfl) (by simp) ?_
    refine AllReadyH.cons rfl (fun KK hK' => ?_) AllReadyH.nil
    obtain ⟨y0, y1, k0, k1⟩ := own_readP hown hj
    go_simp
    obtain ⟨u4, hU, ho2, ah2, m2, m3⟩ : ∃ U, ((u3).setCell ⟨g, j * 2, none⟩ (.slice (some ⟨(f i).g, 0, none⟩) (f i).l.length (f i).c)).setCell ⟨g, j * 2 + 1, none⟩ (.int .u64 (f i).s) = U ∧ U.ownsRow B 56 2 (.slice (some ⟨g, 0, none⟩) n c) n (hC pE (upd (upd f i (f j)) j (f i)) n) ∧ At 59 U q #[.slice (some ⟨g, 0, none⟩) n c, .func (.func 39) #[] #[]] ∧ MvP q (some g) w U ∧ MvP q (some g) u0' U := ⟨_, rfl, own_putP hown hj (f i), ((hhd.setOther (fun e => hgq e.symm) _).setOther (fun e => hgq e.symm) _), ((hm.setO _).setO _), ((hm0.setO _).setO _)⟩
    rw [hU]
    clear hU hown hhd hm hm0 y0 k0 y1 k1
    have hown := ho2
    have hhd := ah2
    have hm := m2
    have hm0 := m3
    clear ho2 ah2 m2 m3
    clear hHeld
    refine hK'.out _ _ (hhd) (fun hHeld => ?_)
    clear hK' KK
    try simp only [List.setIfInBounds_toArray, List.set_cons_zero, List.set_cons_succ]
    refine wpAnyH_done (by kernel_rfl) ?_ _
    clear hHeld
    rw [sw_upd] at hown
    go_wp2
    go_ret
    exact ⟨.inr ⟨hl, rfl, hown, hhd, hqB, ok_sw (ok_mv hok hd0 ha0 hm0.block) hi hj⟩, hm⟩
end Go.Proofs.Ytcpeaenophaphaa
