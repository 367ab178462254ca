/-
  Lists of facets that are drawn: walked.
-/
import Derived.Test.YtealbihplfpgeaaDx
import Derived.Test.YtealbihplfpgeaaHh
namespace Go.Proofs.Ytealbihplfpgeaa
open Go.RowKit

theorem Dr.grown {w0 w w' : World} {p : Nat} {a : Option Addr} {len cap : Nat} {row : Option Nat} (h : Dr w0 p a len cap w) (hg : w.grownBy w' row) (hrow : ∀ k, row = some k → w0.heap.size ≤ k ∧ p < k) : Dr w0 p a len cap w' := by
  have bl : ∀ k, k < w.heap.size → (k < w0.heap.size ∨ k ≤ p) → w'.heap[k]? = w.heap[k]? := fun k hk hc => hg.block k hk (fun e => by have := hrow k e.symm; omega)
  have hp := h.2.lt
  refine ⟨⟨hg.os.trans h.1.os, hg.tape.trans h.1.tape, hg.output.trans h.1.output, Nat.le_trans h.1.size hg.size, fun k hk hne => (bl k (Nat.lt_of_lt_of_le hk h.1.size) (.inl hk)).trans (h.1.block k hk hne)⟩, ?_⟩
  obtain ⟨j, x, hj, hh, hr⟩ := h.2
  refine ⟨j, x, hj, (bl p hp (.inr (Nat.le_refl _))).trans hh, hr.1, hr.2.imp id ?_⟩
  rintro ⟨b, off, e, hb, hc⟩
  refine ⟨b, off, e, hb, fun j hj => ?_⟩
  obtain ⟨n, n0, n1, n2⟩ := hc j hj
  exact ⟨n, n0, n1, (World.cell?_of_block (w := w) (bl b (by omega) (.inr (by omega)))).trans n2⟩
/-- A list of facets that grows while the cursor draws. -/
structure DL (w0 w : World) (p : Nat) (a : Option Addr) (len cap : Nat) (B : Nat) (v : Value) (m : Nat) (l : List Int) : Prop where
  dr : Dr w0 p a len cap w
  own : w.ownsRow B 35 3 v m (lCells l)
  nn : v ≠ .slice none 0 0
  o1 : w0.heap.size ≤ B ∧ p < B
  o2 : B ≤ w.heap.size
theorem DL.below {w0 w w' : World} {p : Nat} {a : Option Addr} {len cap B : Nat} {v : Value} {m : Nat} {l : List Int} (s : DL w0 w p a len cap B v m l) (hb : Below w.heap.size w w') : DL w0 w' p a len cap B v m l :=
  ⟨s.dr.below hb, own_below s.own hb, s.nn, s.o1, Nat.le_trans s.o2 hb.size⟩
/-- Behind a draw. -/
theorem DL.drawn {w0 w w' : World} {p : Nat} {a : Option Addr} {len cap B : Nat} {v : Value} {m : Nat} {l : List Int} (s : DL w0 w p a len cap B v m l) (h : Dr w p a len cap w') : DL w0 w' p a len cap B v m l := by
  refine ⟨h.from s.dr.1, ⟨s.own.1, s.own.2.imp id ?_⟩, s.nn, s.o1, Nat.le_trans s.o2 h.1.size⟩
  rintro ⟨g, c, cur, e, h1, h2, h3⟩
  exact ⟨g, c, cur, e, h1, (h.1.block g (Array.getElem?_eq_some_iff.1 h2).1 (by have := s.o1; omega)).trans h2, h3⟩
theorem DL.grow {w0 w w' : World} {p : Nat} {a : Option Addr} {len cap B : Nat} {v v' : Value} {m m' : Nat} {l l' : List Int} (s : DL w0 w p a len cap B v m l) (h1 : w'.ownsRow B 35 3 v' m' (lCells l ++ lCells l')) (hg : w.grownBy w' v.ownBlock) (hv : v' ≠ .slice none 0 0) : DL w0 w' p a len cap B v' m' (l ++ l') :=
  ⟨s.dr.grown hg (fun k hk => by have := ownBlock_ge s.own hk; have := s.o1; omega), by rw [lCells, List.map_append]; exact h1, hv, s.o1, Nat.le_trans s.o2 hg.size⟩
theorem DL.start {w0 w : World} {p : Nat} {a : Option Addr} {len cap : Nat} (h : Dr w0 p a len cap w) : DL w0 (w.alloc (.cells #[] 35)) p a len cap w.heap.size (.slice (some ⟨w.heap.size, 0, none⟩) 0 0) 0 [] :=
  ⟨h.below (below_alloc _ _), ⟨by simp [lCells], .inr ⟨w.heap.size, 0, #[], rfl, Nat.le_refl _, at_new _ _ _, Nat.le_refl _, Nat.zero_le _, by simp, by simp [lCells]⟩⟩, nn_some _ _ _, ⟨h.1.size, h.2.lt⟩, by simp⟩
/-- A box of another type is left alone by the list's growth. -/
theorem DL.keep {w0 w w' : World} {p : Nat} {a : Option Addr} {len cap B : Nat} {v : Value} {m : Nat} {l : List Int} (s : DL w0 w p a len cap B v m l) (hg : w.grownBy w' v.ownBlock) {t' : TypeId} (ht : t' ≠ 35) {q : Nat} {vs : Array Value} (h : At t' w q vs) : At t' w' q vs := by
  refine (hg.block q h.lt (fun e => ?_)).trans h
  rcases s.own.2 with ⟨h1, _⟩ | ⟨g, c, cur, h1, -, hh, -⟩
  · exact s.nn h1
  · rw [h1] at e
    have e2 : q = g := by simpa [Value.ownBlock] using e
    rw [e2] at h
    have := h.symm.trans hh
    simp at this
    exact ht this.2
/-- The table of normals: sixteen rows of two numbers. -/
def Tb (q : Nat) (Q : Nat → Nat) (T : Nat → Int × Int) (w : World) : Prop := (∃ arr : Array Value, At 27 w q arr ∧ ∀ i, i < 16 → arr[i]? = some (.slice (some ⟨Q i, 0, none⟩) 2 2)) ∧ ∀ i, i < 16 → At 2 w (Q i) #[.int .i64 (T i).1, .int .i64 (T i).2]
theorem Tb.below {q : Nat} {Q : Nat → Nat} {T : Nat → Int × Int} {w w' : World} (h : Tb q Q T w) (hb : Below w.heap.size w w') : Tb q Q T w' := by
  obtain ⟨⟨arr, h1, h2⟩, h3⟩ := h
  exact ⟨⟨arr, h1.below hb, h2⟩, fun i hi => (h3 i hi).below hb⟩
theorem At.keptBy {t : TypeId} {w w' : World} {q p : Nat} {vs : Array Value} (h : At t w q vs) (hk : Kept p w w') (hq : q ≠ p) : At t w' q vs := (hk.block q h.lt hq).trans h
/-- The table, and that it lies apart from the cursor. -/
def Tc (p q : Nat) (Q : Nat → Nat) (T : Nat → Int × Int) (w : World) : Prop := Tb q Q T w ∧ p < q ∧ ∀ i, i < 16 → p < Q i
theorem Tc.below {p q : Nat} {Q : Nat → Nat} {T : Nat → Int × Int} {w w' : World} (h : Tc p q Q T w) (hb : Below w.heap.size w w') : Tc p q Q T w' := ⟨h.1.below hb, h.2⟩
theorem Tc.drawn {p q : Nat} {Q : Nat → Nat} {T : Nat → Int × Int} {w w' : World} {a : Option Addr} {len cap : Nat} (h : Tc p q Q T w) (hd : Dr w p a len cap w') : Tc p q Q T w' := by
  obtain ⟨⟨⟨arr, h1, h2⟩, h3⟩, h4, h5⟩ := h
  exact ⟨⟨⟨arr, h1.keptBy hd.1 (by omega), h2⟩, fun i hi => (h3 i hi).keptBy hd.1 (by have := h5 i hi; omega)⟩, h4, h5⟩
theorem Tc.keep {w0 w w' : World} {p : Nat} {a : Option Addr} {len cap B : Nat} {v : Value} {m : Nat} {l : List Int} {q : Nat} {Q : Nat → Nat} {T : Nat → Int × Int} (s : DL w0 w p a len cap B v m l) (hg : w.grownBy w' v.ownBlock) (h : Tc p q Q T w) : Tc p q Q T w' := by
  obtain ⟨⟨⟨arr, h1, h2⟩, h3⟩, h4⟩ := h
  exact ⟨⟨⟨arr, s.keep hg (by decide) h1, h2⟩, fun i hi => s.keep hg (by decide) (h3 i hi)⟩, h4⟩
theorem Tc.open {p q : Nat} {Q : Nat → Nat} {T : Nat → Int × Int} {w : World} (h : Tc p q Q T w) {i : Nat} (hi : i < 16) : w.cell? ⟨q, i, none⟩ = some (.slice (some ⟨Q i, 0, none⟩) 2 2) ∧ w.cell? ⟨Q i, 0, none⟩ = some (.int .i64 (T i).1) ∧ w.cell? ⟨Q i, 1, none⟩ = some (.int .i64 (T i).2) := by
  obtain ⟨⟨⟨arr, h1, h2⟩, h3⟩, -⟩ := h
  exact ⟨h1.cell i (h2 i hi), (h3 i hi).cell 0 rfl, (h3 i hi).cell 1 rfl⟩
theorem infoFacet2 : (Try.prog.info? 35).map (fun i => (i.zero, i.size, i.bytes)) = some (some (.agg #[.int .i64 0, .int .i64 0, .int .i64 0]), 3, 24) := by kernel_rfl
/-- m facets of one's own in block g, room for c, their numbers told by fo. -/
def LF (w : World) (g c m : Nat) (fo : Nat → Int) : Prop := m ≤ c ∧ c ≤ maxLen ∧ ∃ cur : Array Value, At 35 w g cur ∧ cur.size = c * 3 ∧ ∀ i, i < m * 3 → cur[i]? = some (.int .i64 (fo i))
theorem DL.open {w0 w : World} {p : Nat} {a : Option Addr} {len cap B : Nat} {v : Value} {m : Nat} {l : List Int} (s : DL w0 w p a len cap B v m l) : ∃ g c, v = .slice (some ⟨g, 0, none⟩) m c ∧ (w0.heap.size ≤ g ∧ p < g) ∧ LF w g c m (fun i => l.getD i 0) := by
  have hl := s.own.1
  simp only [lCells, List.length_map] at hl
  rcases s.own.2 with ⟨e, _⟩ | ⟨g, c, cur, e, hb, hh, hc1, hc2, hsz, ht⟩
  · exact absurd e s.nn
  · refine ⟨g, c, e, by have := s.o1; omega, hc1, hc2, cur, hh, hsz, fun i hi => ?_⟩
    have hi' : i < l.length := by omega
    have a1 : (lCells l)[i]? = some (.int .i64 (l.getD i 0)) := by simp [lCells, hi']
    rw [← ht] at a1
    rw [List.getElem?_take_of_lt (by omega)] at a1
    simpa using a1
theorem LF.lt {w : World} {g c m : Nat} {fo : Nat → Int} (h : LF w g c m fo) : g < w.heap.size := by
  obtain ⟨-, -, cur, h1, -⟩ := h
  exact h1.lt
theorem LF.below {w w' : World} {g c m : Nat} {fo : Nat → Int} (h : LF w g c m fo) (hb : Below w.heap.size w w') : LF w' g c m fo := by
  obtain ⟨h1, h2, cur, h3, h4⟩ := h
  exact ⟨h1, h2, cur, h3.below hb, h4⟩
theorem LF.drawn {w w' : World} {g c m p : Nat} {fo : Nat → Int} {a : Option Addr} {len cap : Nat} (h : LF w g c m fo) (hd : Dr w p a len cap w') (hg : p < g) : LF w' g c m fo := by
  obtain ⟨h1, h2, cur, h3, h4⟩ := h
  exact ⟨h1, h2, cur, h3.keptBy hd.1 (by omega), h4⟩
theorem LF.get {w : World} {g c m : Nat} {fo : Nat → Int} (h : LF w g c m fo) {j : Nat} (hj : j < m * 3) : w.cell? ⟨g, j, none⟩ = some (.int .i64 (fo j)) := by
  obtain ⟨h1, h2, cur, h3, h4, h5⟩ := h
  exact h3.cell j (h5 j hj)
theorem LF.free {w : World} {g c m : Nat} {fo : Nat → Int} (h : LF w g c m fo) (j : Nat) : w.frozen? ⟨g, j, none⟩ = false := by
  obtain ⟨h1, h2, cur, h3, h4⟩ := h
  exact h3.frozen j
theorem LF.upd {w : World} {g c m : Nat} {fo : Nat → Int} (h : LF w g c m fo) {j : Nat} (hj : j < m * 3) (x : Int) : LF (w.setCell ⟨g, j, none⟩ (.int .i64 x)) g c m (fun i => if i = j then x else fo i) := by
  obtain ⟨h1, h2, cur, h3, h4, h5⟩ := h
  refine ⟨h1, h2, _, h3.set j _, by simpa using h4, fun i hi => ?_⟩
  by_cases e : i = j
  · subst e
    have l0 : i < cur.size := by have := Nat.mul_le_mul_right 3 h1; omega
    simp [l0]
  · have := h5 i hi
    rw [Array.getElem?_setIfInBounds, if_neg (by omega), this]
    simp [e]
theorem LF.trips {w : World} {g c m : Nat} {fo : Nat → Int} (h : LF w g c m fo) : Trips w g m fo := ⟨h.lt, fun _ hi => h.get hi⟩
theorem LF.own {w : World} {g c m B : Nat} {fo : Nat → Int} (h : LF w g c m fo) (hB : B ≤ g) : w.ownsRow B 35 3 (.slice (some ⟨g, 0, none⟩) m c) m (lCells ((List.range (m * 3)).map fo)) := by
  obtain ⟨h1, h2, cur, h3, h4, h5⟩ := h
  refine ⟨by simp [lCells], .inr ⟨g, c, cur, rfl, hB, h3, h1, h2, h4, ?_⟩⟩
  apply List.ext_getElem?
  intro t
  by_cases ht : t < m * 3
  · rw [List.getElem?_take_of_lt ht]
    have := h5 t ht
    simp [lCells, ht]
    simpa using this
  · have := Nat.mul_le_mul_right 3 h1
    rw [List.getElem?_eq_none (by simp; omega), List.getElem?_eq_none (by simp [lCells]; omega)]
theorem Dr.setNew {w0 w : World} {p q i : Nat} {a : Option Addr} {len cap : Nat} (h : Dr w0 p a len cap w) (hq : p < q) (h0 : w0.heap.size ≤ q) (v : Value) : Dr w0 p a len cap (w.setCell ⟨q, i, none⟩ v) := by
  refine ⟨⟨h.1.os, h.1.tape, h.1.output, by simpa [World.setCell] using h.1.size, fun k hk hp => (Below.heap_setCell _ _ _ _ (by show k ≠ q; omega)).trans (h.1.block k hk hp)⟩, ?_⟩
  obtain ⟨j, x, hj, hh, hr⟩ := h.2
  refine ⟨j, x, hj, (Below.heap_setCell _ _ _ _ (by show p ≠ q; omega)).trans hh, hr.1, hr.2.imp id ?_⟩
  rintro ⟨b, off, e, hb, hc⟩
  refine ⟨b, off, e, hb, fun j hj => ?_⟩
  obtain ⟨n, n0, n1, n2⟩ := hc j hj
  exact ⟨n, n0, n1, (World.cell?_of_block (w := w) (Below.heap_setCell _ _ _ _ (by show b ≠ q; omega))).trans n2⟩
/-- What a draw of facets tells: at most M of them, in memory of its own. -/
def DrawnF (w : World) (p : Nat) (a : Option Addr) (len cap M : Nat) (e : Ending) (w' : World) : Prop := ∃ g c m fo, e = .returned (.slice (some ⟨g, 0, none⟩) m c) ∧ m ≤ M ∧ (w.heap.size ≤ g ∧ p < g) ∧ LF w' g c m fo ∧ Dr w p a len cap w'
/-- Blocks made one after the other. -/
def als (w : World) : List (Array Value × TypeId) → World
  | [] => w
  | r :: rs => als (w.alloc (.cells r.1 r.2)) rs
theorem als_below : ∀ (rs : List (Array Value × TypeId)) (w : World), Below w.heap.size w (als w rs)
  | [], w => Below.refl _ _
  | r :: rs, w => (below_alloc w _).trans ((als_below rs _).mono (by simp))
theorem als_at : ∀ (rs : List (Array Value × TypeId)) (w : World) (i : Nat) (r : Array Value × TypeId), rs[i]? = some r → At r.2 (als w rs) (w.heap.size + i) r.1
  | [], _, i, _, h => by simp at h
  | r :: rs, w, 0, r', h => by
    simp at h
    subst h
    exact (at_new _ _ _).below (als_below rs _)
  | r :: rs, w, i + 1, r', h => by
    have := als_at rs (w.alloc (.cells r.1 r.2)) i r' (by simpa using h)
    rw [show (w.alloc (.cells r.1 r.2)).heap.size = w.heap.size + 1 by simp] at this
    rw [show w.heap.size + (i + 1) = w.heap.size + 1 + i by omega]
    exact this
def rowsOf (q : Nat) : List (Array Value × TypeId) := [(#[.int .i64 (1), .int .i64 (0)], 2), (#[.int .i64 (0), .int .i64 (1)], 2), (#[.int .i64 (-1), .int .i64 (0)], 2), (#[.int .i64 (0), .int .i64 (-1)], 2), (#[.int .i64 (1), .int .i64 (1)], 2), (#[.int .i64 (-1), .int .i64 (1)], 2), (#[.int .i64 (-1), .int .i64 (-1)], 2), (#[.int .i64 (1), .int .i64 (-1)], 2), (#[.int .i64 (2), .int .i64 (1)], 2), (#[.int .i64 (1), .int .i64 (2)], 2), (#[.int .i64 (-2), .int .i64 (1)], 2), (#[.int .i64 (-1), .int .i64 (2)], 2), (#[.int .i64 (-3), .int .i64 (2)], 2), (#[.int .i64 (2), .int .i64 (-3)], 2), (#[.int .i64 (1), .int .i64 (-2)], 2), (#[.int .i64 (-1), .int .i64 (-3)], 2), (#[.slice (some ⟨q + 0, 0, none⟩) 2 2, .slice (some ⟨q + 1, 0, none⟩) 2 2, .slice (some ⟨q + 2, 0, none⟩) 2 2, .slice (some ⟨q + 3, 0, none⟩) 2 2, .slice (some ⟨q + 4, 0, none⟩) 2 2, .slice (some ⟨q + 5, 0, none⟩) 2 2, .slice (some ⟨q + 6, 0, none⟩) 2 2, .slice (some ⟨q + 7, 0, none⟩) 2 2, .slice (some ⟨q + 8, 0, none⟩) 2 2, .slice (some ⟨q + 9, 0, none⟩) 2 2, .slice (some ⟨q + 10, 0, none⟩) 2 2, .slice (some ⟨q + 11, 0, none⟩) 2 2, .slice (some ⟨q + 12, 0, none⟩) 2 2, .slice (some ⟨q + 13, 0, none⟩) 2 2, .slice (some ⟨q + 14, 0, none⟩) 2 2, .slice (some ⟨q + 15, 0, none⟩) 2 2], 27)]
def norms : List (Int × Int) := [(1, 0), (0, 1), (-1, 0), (0, -1), (1, 1), (-1, 1), (-1, -1), (1, -1), (2, 1), (1, 2), (-2, 1), (-1, 2), (-3, 2), (2, -3), (1, -2), (-1, -3)]
theorem rows_get (q i : Nat) (hi : i < 16) : (rowsOf q)[i]? = some (#[.int .i64 (norms.getD i (0, 0)).1, .int .i64 (norms.getD i (0, 0)).2], 2) := by
  rcases (by omega : i = 0 ∨ i = 1 ∨ i = 2 ∨ i = 3 ∨ i = 4 ∨ i = 5 ∨ i = 6 ∨ i = 7 ∨ i = 8 ∨ i = 9 ∨ i = 10 ∨ i = 11 ∨ i = 12 ∨ i = 13 ∨ i = 14 ∨ i = 15) with rfl | rfl | rfl | rfl | rfl | rfl | rfl | rfl | rfl | rfl | rfl | rfl | rfl | rfl | rfl | rfl <;> rfl
theorem table_at (w : World) (p : Nat) (hp : p < w.heap.size) : Tc p (w.heap.size + 16) (fun i => w.heap.size + i) (fun i => norms.getD i (0, 0)) (als w (rowsOf w.heap.size)) := by
  refine ⟨⟨⟨_, als_at (rowsOf w.heap.size) w 16 _ rfl, fun i hi => ?_⟩, fun i hi => als_at (rowsOf w.heap.size) w i _ (rows_get _ i hi)⟩, by omega, fun i _ => by show p < w.heap.size + i; omega⟩
  rcases (by omega : i = 0 ∨ i = 1 ∨ i = 2 ∨ i = 3 ∨ i = 4 ∨ i = 5 ∨ i = 6 ∨ i = 7 ∨ i = 8 ∨ i = 9 ∨ i = 10 ∨ i = 11 ∨ i = 12 ∨ i = 13 ∨ i = 14 ∨ i = 15) with rfl | rfl | rfl | rfl | rfl | rfl | rfl | rfl | rfl | rfl | rfl | rfl | rfl | rfl | rfl | rfl <;> rfl
set_option maxRecDepth 100000 in
set_option maxHeartbeats 8000000 in
theorem draw_any {w : World} {p : Nat} {a : Option Addr} {len cap : Nat} (hc : Dr w p a len cap w) : Calls Try.prog 74 #[.pointer (some ⟨p, 0, none⟩)] w fun e w' => DrawnF w p a len cap 16 e w' := by
  obtain ⟨V, hV⟩ : ∃ V, als w (rowsOf w.heap.size) = V := ⟨_, rfl⟩
  have T := table_at w p hc.2.lt
  have bV := als_below (rowsOf w.heap.size) w
  rw [hV] at T bV
  replace hc := hc.below bV
  obtain ⟨q, hq⟩ : ∃ q, w.heap.size + 16 = q := ⟨_, rfl⟩
  rw [hq] at T
  go_enter Try.func74, Try.ntmps74
  go_upto_region 2 with (fail)
  change Code.wp _ _ _ _ (als w (rowsOf w.heap.size))
  rw [hV]
  generalize w.heap.size = q0 at T
  clear hV hq
  have D := DL.start hc
  obtain ⟨V2, hV2, hb2⟩ : ∃ V2, V.alloc (.cells #[] 35) = V2 ∧ Below V.heap.size V V2 := ⟨_, rfl, below_alloc _ _⟩
  rw [hV2] at D
  replace T := T.below hb2
  obtain ⟨B, hB⟩ : ∃ B, V.heap.size = B := ⟨_, rfl⟩
  rw [hB] at D
  have hbs : ∀ w, (Instr.buildSlice 24 0 #[]).run Try.prog w = .ok (.slice (some ⟨w.heap.size, 0, none⟩) 0 0) (w.alloc (.cells #[] 35)) := fun _ => by kernel_rfl
  clear hb2
  obtain ⟨Q, hQ⟩ : ∃ Q : Nat → Nat, (fun i => q0 + i) = Q := ⟨_, rfl⟩
  obtain ⟨N, hN⟩ : ∃ N : Nat → Int × Int, (fun i => norms.getD i (0, 0)) = N := ⟨_, rfl⟩
  rw [hQ, hN] at T
  clear hQ hN
  obtain ⟨i0, hi0, hz0, hz1, hz2⟩ := info_parts infoFacet2
  go_wp2
  clear hV2 hB
  go_loopw [4, 5] (fun s t wr => ∃ (i m : Nat) (l : List Int), i ≤ 16 ∧ m ≤ i ∧ t = .int .i64 (i : Int) ∧ DL w wr p a len cap B s m l ∧ Tc p q Q N wr) (fun _ t _ => 16 - (intOf t).toNat)
  case atStart => exact ⟨0, 0, [], by omega, by omega, rfl, D, T⟩
  case round =>
    clear D T
    obtain ⟨i, m, l, hi', hmi, rfl, D, T⟩ := hrel
    by_cases hi : i < 16
    · have hilt : (i : Int) < 16 := by omega
      have go_on : ∀ wr (D : DL w wr p a len cap B u4 m l) (T : Tc p q Q N wr), True := fun _ _ _ => trivial
      clear go_on
      by_cases h4 : (i : Int) < 4
      · go_wp2_with fail
        refine (once_dr (Dr.start D.dr.2) 12 (by omega) (by omega)).mono ?_
        rintro e w1 ⟨b1, rfl, hd⟩
        replace T := T.drawn hd
        replace D := D.drawn hd
        clear hd
        cases b1
        · obtain ⟨wr, rfl⟩ : ∃ wr, wr = w1 := ⟨_, rfl⟩
          go_wp2_with fail
          obtain ⟨u0, hu0, bb⟩ : ∃ uu, wr.drew = uu ∧ Below wr.heap.size wr uu := ⟨_, rfl, (Below.refl _ _).drew⟩
          replace T := T.below bb
          replace D := D.below bb
          clear bb
          refine wp_region_held_drew (S := Tc p q Q N) (by kernel_rfl) (by rw [hu0]; exact T) (fun hHeld => ?_)
          rw [hu0] at hHeld ⊢
          clear hu0
          change wpAnyH _ _ _ _ _ 20 #[false, false, false, false, false, false, false, false, false, false, false, false, false, false, false, false, false, false, false, false] _ _
          refine wpAnyH_take (i := 0) (v := u4) rfl (by kernel_rfl) (by kernel_rfl) (by kernel_rfl) (fun _ _ _ h => h) (Or.inl ⟨by kernel_rfl, ?_⟩) hHeld ?_
          · intro w' hSw; go_simp
          try simp only [Act.put, List.setIfInBounds_toArray, List.set_cons_zero, List.set_cons_succ, List.getElem_toArray, List.getElem_cons_zero]
          refine wpAnyH_take (i := 1) (v := .slice (some ⟨q, 0, none⟩) 16 16) rfl (by kernel_rfl) (by kernel_rfl) (by kernel_rfl) (fun _ _ _ h => h) (Or.inl ⟨by kernel_rfl, ?_⟩) hHeld ?_
          · intro w' hSw; go_simp
          try simp only [Act.put, List.setIfInBounds_toArray, List.set_cons_zero, List.set_cons_succ, List.getElem_toArray, List.getElem_cons_succ, List.getElem_cons_zero]
          refine wpAnyH_take (i := 2) (v := .int .i64 (i : Int)) rfl (by kernel_rfl) (by kernel_rfl) (by kernel_rfl) (fun _ _ _ h => h) (Or.inl ⟨by kernel_rfl, ?_⟩) hHeld ?_
          · intro w' hSw; go_simp
          try simp only [Act.put, List.setIfInBounds_toArray, List.set_cons_zero, List.set_cons_succ, List.getElem_toArray, List.getElem_cons_succ, List.getElem_cons_zero]
          refine wpAnyH_take (i := 3) (v := .pointer (some ⟨q, i, none⟩)) rfl (by kernel_rfl) (by kernel_rfl) (by kernel_rfl) (fun _ _ _ h => h) (Or.inl ⟨by kernel_rfl, ?_⟩) hHeld ?_
          · intro w' hSw; go_simp
          try simp only [Act.put, List.setIfInBounds_toArray, List.set_cons_zero, List.set_cons_succ, List.getElem_toArray, List.getElem_cons_succ, List.getElem_cons_zero]
          refine wpAnyH_take (i := 4) (v := .slice (some ⟨Q i, 0, none⟩) 2 2) rfl (by kernel_rfl) (by kernel_rfl) (by kernel_rfl) (fun _ _ _ h => h) (Or.inl ⟨by kernel_rfl, ?_⟩) hHeld ?_
          · intro w' hSw; obtain ⟨z0, z1, z2⟩ := Tc.open hSw hi; go_simp
          try simp only [Act.put, List.setIfInBounds_toArray, List.set_cons_zero, List.set_cons_succ, List.getElem_toArray, List.getElem_cons_succ, List.getElem_cons_zero]
          refine wpAnyH_take (i := 5) (v := .pointer (some ⟨Q i, 0, none⟩)) rfl (by kernel_rfl) (by kernel_rfl) (by kernel_rfl) (fun _ _ _ h => h) (Or.inl ⟨by kernel_rfl, ?_⟩) hHeld ?_
          · intro w' hSw; go_simp
          try simp only [Act.put, List.setIfInBounds_toArray, List.set_cons_zero, List.set_cons_succ, List.getElem_toArray, List.getElem_cons_succ, List.getElem_cons_zero]
          refine wpAnyH_take (i := 6) (v := .int .i64 (N i).1) rfl (by kernel_rfl) (by kernel_rfl) (by kernel_rfl) (fun _ _ _ h => h) (Or.inl ⟨by kernel_rfl, ?_⟩) hHeld ?_
          · intro w' hSw; obtain ⟨z0, z1, z2⟩ := Tc.open hSw hi; go_simp
          try simp only [Act.put, List.setIfInBounds_toArray, List.set_cons_zero, List.set_cons_succ, List.getElem_toArray, List.getElem_cons_succ, List.getElem_cons_zero]
          refine wpAnyH_take (i := 7) (v := .slice (some ⟨q, 0, none⟩) 16 16) rfl (by kernel_rfl) (by kernel_rfl) (by kernel_rfl) (fun _ _ _ h => h) (Or.inl ⟨by kernel_rfl, ?_⟩) hHeld ?_
          · intro w' hSw; go_simp
          try simp only [Act.put, List.setIfInBounds_toArray, List.set_cons_zero, List.set_cons_succ, List.getElem_toArray, List.getElem_cons_succ, List.getElem_cons_zero]
          refine wpAnyH_take (i := 8) (v := .int .i64 (i : Int)) rfl (by kernel_rfl) (by kernel_rfl) (by kernel_rfl) (fun _ _ _ h => h) (Or.inl ⟨by kernel_rfl, ?_⟩) hHeld ?_
          · intro w' hSw; go_simp
          try simp only [Act.put, List.setIfInBounds_toArray, List.set_cons_zero, List.set_cons_succ, List.getElem_toArray, List.getElem_cons_succ, List.getElem_cons_zero]
          refine wpAnyH_take (i := 9) (v := .pointer (some ⟨q, i, none⟩)) rfl (by kernel_rfl) (by kernel_rfl) (by kernel_rfl) (fun _ _ _ h => h) (Or.inl ⟨by kernel_rfl, ?_⟩) hHeld ?_
          · intro w' hSw; go_simp
          try simp only [Act.put, List.setIfInBounds_toArray, List.set_cons_zero, List.set_cons_succ, List.getElem_toArray, List.getElem_cons_succ, List.getElem_cons_zero]
          refine wpAnyH_take (i := 10) (v := .slice (some ⟨Q i, 0, none⟩) 2 2) rfl (by kernel_rfl) (by kernel_rfl) (by kernel_rfl) (fun _ _ _ h => h) (Or.inl ⟨by kernel_rfl, ?_⟩) hHeld ?_
          · intro w' hSw; obtain ⟨z0, z1, z2⟩ := Tc.open hSw hi; go_simp
          try simp only [Act.put, List.setIfInBounds_toArray, List.set_cons_zero, List.set_cons_succ, List.getElem_toArray, List.getElem_cons_succ, List.getElem_cons_zero]
          refine wpAnyH_take (i := 11) (v := .pointer (some ⟨Q i, 1, none⟩)) rfl (by kernel_rfl) (by kernel_rfl) (by kernel_rfl) (fun _ _ _ h => h) (Or.inl ⟨by kernel_rfl, ?_⟩) hHeld ?_
          · intro w' hSw; go_simp
          try simp only [Act.put, List.setIfInBounds_toArray, List.set_cons_zero, List.set_cons_succ, List.getElem_toArray, List.getElem_cons_succ, List.getElem_cons_zero]
          refine wpAnyH_take (i := 12) (v := .int .i64 (N i).2) rfl (by kernel_rfl) (by kernel_rfl) (by kernel_rfl) (fun _ _ _ h => h) (Or.inl ⟨by kernel_rfl, ?_⟩) hHeld ?_
          · intro w' hSw; obtain ⟨z0, z1, z2⟩ := Tc.open hSw hi; go_simp
          try simp only [Act.put, List.setIfInBounds_toArray, List.set_cons_zero, List.set_cons_succ, List.getElem_toArray, List.getElem_cons_succ, List.getElem_cons_zero]
          refine wpAnyH_take (i := 13) (v := .pointer (some ⟨p, 0, none⟩)) rfl (by kernel_rfl) (by kernel_rfl) (by kernel_rfl) (fun _ _ _ h => h) (Or.inl ⟨by kernel_rfl, ?_⟩) hHeld ?_
          · intro w' hSw; go_simp
          try simp only [Act.put, List.setIfInBounds_toArray, List.set_cons_zero, List.set_cons_succ, List.getElem_toArray, List.getElem_cons_succ, List.getElem_cons_zero]
          refine wpAnyH_ready (rs := [14]) (by kernel_rfl) (by simp) ?_
          refine AllReadyH.cons rfl (fun KK hK' => ?_) AllReadyH.nil
          go_simp
          refine (below_dr (Dr.start D.dr.2) 12 (by omega) (by omega)).mono ?_
          rintro e u1 ⟨x, rfl, x0, x1, hd⟩
          replace T := T.drawn hd
          replace D := D.drawn hd
          clear hd
          have wx : IntKind.i64.wrap (4 + x) = 4 + x := IntWalk.i64_in _ (by omega)
          try go_wp2_with fail
          clear hHeld
          refine hK'.out _ _ (T) (fun hHeld => ?_)
          clear hK' KK
          try simp only [List.setIfInBounds_toArray, List.set_cons_zero, List.set_cons_succ]
          refine wpAnyH_take (i := 15) (v := .int .i64 (4 + x)) rfl (by kernel_rfl) (by kernel_rfl) (by kernel_rfl) (fun _ _ _ h => h) (Or.inl ⟨by kernel_rfl, ?_⟩) hHeld ?_
          · intro w' hSw; go_simp
          try simp only [Act.put, List.setIfInBounds_toArray, List.set_cons_zero, List.set_cons_succ, List.getElem_toArray, List.getElem_cons_succ, List.getElem_cons_zero]
          refine wpAnyH_take (i := 16) (v := fV (N i).1 (N i).2 (4 + x)) rfl (by kernel_rfl) (by kernel_rfl) (by kernel_rfl) (fun _ _ _ h => h) (Or.inl ⟨by kernel_rfl, ?_⟩) hHeld ?_
          · intro w' hSw; go_simp
          try simp only [Act.put, List.setIfInBounds_toArray, List.set_cons_zero, List.set_cons_succ, List.getElem_toArray, List.getElem_cons_succ, List.getElem_cons_zero]
          refine wpAnyH_ready (rs := [17]) (by kernel_rfl) (by simp) ?_
          refine AllReadyH.cons rfl (fun KK hK' => ?_) AllReadyH.nil
          go_simp
          obtain ⟨V9, hV9, A9, b10, -⟩ := boxed u1 35 #[.int .i64 (N i).1, .int .i64 (N i).2, .int .i64 (4 + x)]
          rw [hV9]
          obtain ⟨g9, hg9⟩ : ∃ g, u1.heap.size = g := ⟨_, rfl⟩
          rw [hg9] at A9 ⊢
          replace T := T.below b10
          replace D := D.below b10
          clear hV9 hg9 b10
          clear hHeld
          refine hK'.out _ _ (T) (fun hHeld => ?_)
          clear hK' KK
          try simp only [List.setIfInBounds_toArray, List.set_cons_zero, List.set_cons_succ]
          refine wpAnyH_ready (rs := [18]) (by kernel_rfl) (by simp) ?_
          refine AllReadyH.cons rfl (fun KK hK' => ?_) AllReadyH.nil
          refine step_append_at _ (by rfl) _ _ _ (by rfl) B 35 i0 _ 3 24 Try.underlying24 hi0 hz0 hz1 hz2 rfl (by omega) u4 m (lCells l) (by rfl) D.own ⟨g9, 0, none⟩ 1 1 (lCells [(N i).1, (N i).2, 4 + x]) (by rfl) (by rfl) (news3 A9) (lCells_one _) (by unfold maxLen; omega) (by omega) D.o2 ?_
          intro v2 w5 hown2 hgrow2 hne2 _
          have D2 := D.grow hown2 hgrow2 (fun h => D.nn (hne2.1 h).1)
          replace T := Tc.keep D hgrow2 T
          clear hown2 hgrow2 hne2 D A9
          clear hHeld
          refine hK'.out _ _ (T) (fun hHeld => ?_)
          clear hK' KK
          try simp only [List.setIfInBounds_toArray, List.set_cons_zero, List.set_cons_succ]
          refine wpAnyH_ready (rs := [19]) (by kernel_rfl) (by simp) ?_
          refine AllReadyH.cons rfl (fun KK hK' => ?_) AllReadyH.nil
          go_simp
          clear hHeld
          refine hK'.out _ _ (T) (fun hHeld => ?_)
          clear hK' KK
          try simp only [List.setIfInBounds_toArray, List.set_cons_zero, List.set_cons_succ]
          refine wpAnyH_done (by kernel_rfl) ?_ _
          clear hHeld
          clear wx
          go_wp2
          exact ⟨⟨i + 1, m + 1, _, by omega, by omega, by go_num, D2, T⟩, by simp [intOf]; omega⟩
        · go_wp2_with fail
          refine (once_dr (Dr.start D.dr.2) 3 (by omega) (by omega)).mono ?_
          rintro e w2 ⟨b2, rfl, hd⟩
          replace T := T.drawn hd
          replace D := D.drawn hd
          clear hd
          cases b2
          · go_wp2
            exact ⟨⟨i + 1, m, l, by omega, by omega, by go_num, D, T⟩, by simp [intOf]; omega⟩
          · obtain ⟨wr, rfl⟩ : ∃ wr, wr = w2 := ⟨_, rfl⟩
            go_wp2_with fail
            obtain ⟨u0, hu0, bb⟩ : ∃ uu, wr.drew = uu ∧ Below wr.heap.size wr uu := ⟨_, rfl, (Below.refl _ _).drew⟩
            replace T := T.below bb
            replace D := D.below bb
            clear bb
            refine wp_region_held_drew (S := Tc p q Q N) (by kernel_rfl) (by rw [hu0]; exact T) (fun hHeld => ?_)
            rw [hu0] at hHeld ⊢
            clear hu0
            change wpAnyH _ _ _ _ _ 20 #[false, false, false, false, false, false, false, false, false, false, false, false, false, false, false, false, false, false, false, false] _ _
            refine wpAnyH_take (i := 0) (v := u4) rfl (by kernel_rfl) (by kernel_rfl) (by kernel_rfl) (fun _ _ _ h => h) (Or.inl ⟨by kernel_rfl, ?_⟩) hHeld ?_
            · intro w' hSw; go_simp
            try simp only [Act.put, List.setIfInBounds_toArray, List.set_cons_zero, List.set_cons_succ, List.getElem_toArray, List.getElem_cons_zero]
            refine wpAnyH_take (i := 1) (v := .slice (some ⟨q, 0, none⟩) 16 16) rfl (by kernel_rfl) (by kernel_rfl) (by kernel_rfl) (fun _ _ _ h => h) (Or.inl ⟨by kernel_rfl, ?_⟩) hHeld ?_
            · intro w' hSw; go_simp
            try simp only [Act.put, List.setIfInBounds_toArray, List.set_cons_zero, List.set_cons_succ, List.getElem_toArray, List.getElem_cons_succ, List.getElem_cons_zero]
            refine wpAnyH_take (i := 2) (v := .int .i64 (i : Int)) rfl (by kernel_rfl) (by kernel_rfl) (by kernel_rfl) (fun _ _ _ h => h) (Or.inl ⟨by kernel_rfl, ?_⟩) hHeld ?_
            · intro w' hSw; go_simp
            try simp only [Act.put, List.setIfInBounds_toArray, List.set_cons_zero, List.set_cons_succ, List.getElem_toArray, List.getElem_cons_succ, List.getElem_cons_zero]
            refine wpAnyH_take (i := 3) (v := .pointer (some ⟨q, i, none⟩)) rfl (by kernel_rfl) (by kernel_rfl) (by kernel_rfl) (fun _ _ _ h => h) (Or.inl ⟨by kernel_rfl, ?_⟩) hHeld ?_
            · intro w' hSw; go_simp
            try simp only [Act.put, List.setIfInBounds_toArray, List.set_cons_zero, List.set_cons_succ, List.getElem_toArray, List.getElem_cons_succ, List.getElem_cons_zero]
            refine wpAnyH_take (i := 4) (v := .slice (some ⟨Q i, 0, none⟩) 2 2) rfl (by kernel_rfl) (by kernel_rfl) (by kernel_rfl) (fun _ _ _ h => h) (Or.inl ⟨by kernel_rfl, ?_⟩) hHeld ?_
            · intro w' hSw; obtain ⟨z0, z1, z2⟩ := Tc.open hSw hi; go_simp
            try simp only [Act.put, List.setIfInBounds_toArray, List.set_cons_zero, List.set_cons_succ, List.getElem_toArray, List.getElem_cons_succ, List.getElem_cons_zero]
            refine wpAnyH_take (i := 5) (v := .pointer (some ⟨Q i, 0, none⟩)) rfl (by kernel_rfl) (by kernel_rfl) (by kernel_rfl) (fun _ _ _ h => h) (Or.inl ⟨by kernel_rfl, ?_⟩) hHeld ?_
            · intro w' hSw; go_simp
            try simp only [Act.put, List.setIfInBounds_toArray, List.set_cons_zero, List.set_cons_succ, List.getElem_toArray, List.getElem_cons_succ, List.getElem_cons_zero]
            refine wpAnyH_take (i := 6) (v := .int .i64 (N i).1) rfl (by kernel_rfl) (by kernel_rfl) (by kernel_rfl) (fun _ _ _ h => h) (Or.inl ⟨by kernel_rfl, ?_⟩) hHeld ?_
            · intro w' hSw; obtain ⟨z0, z1, z2⟩ := Tc.open hSw hi; go_simp
            try simp only [Act.put, List.setIfInBounds_toArray, List.set_cons_zero, List.set_cons_succ, List.getElem_toArray, List.getElem_cons_succ, List.getElem_cons_zero]
            refine wpAnyH_take (i := 7) (v := .slice (some ⟨q, 0, none⟩) 16 16) rfl (by kernel_rfl) (by kernel_rfl) (by kernel_rfl) (fun _ _ _ h => h) (Or.inl ⟨by kernel_rfl, ?_⟩) hHeld ?_
            · intro w' hSw; go_simp
            try simp only [Act.put, List.setIfInBounds_toArray, List.set_cons_zero, List.set_cons_succ, List.getElem_toArray, List.getElem_cons_succ, List.getElem_cons_zero]
            refine wpAnyH_take (i := 8) (v := .int .i64 (i : Int)) rfl (by kernel_rfl) (by kernel_rfl) (by kernel_rfl) (fun _ _ _ h => h) (Or.inl ⟨by kernel_rfl, ?_⟩) hHeld ?_
            · intro w' hSw; go_simp
            try simp only [Act.put, List.setIfInBounds_toArray, List.set_cons_zero, List.set_cons_succ, List.getElem_toArray, List.getElem_cons_succ, List.getElem_cons_zero]
            refine wpAnyH_take (i := 9) (v := .pointer (some ⟨q, i, none⟩)) rfl (by kernel_rfl) (by kernel_rfl) (by kernel_rfl) (fun _ _ _ h => h) (Or.inl ⟨by kernel_rfl, ?_⟩) hHeld ?_
            · intro w' hSw; go_simp
            try simp only [Act.put, List.setIfInBounds_toArray, List.set_cons_zero, List.set_cons_succ, List.getElem_toArray, List.getElem_cons_succ, List.getElem_cons_zero]
            refine wpAnyH_take (i := 10) (v := .slice (some ⟨Q i, 0, none⟩) 2 2) rfl (by kernel_rfl) (by kernel_rfl) (by kernel_rfl) (fun _ _ _ h => h) (Or.inl ⟨by kernel_rfl, ?_⟩) hHeld ?_
            · intro w' hSw; obtain ⟨z0, z1, z2⟩ := Tc.open hSw hi; go_simp
            try simp only [Act.put, List.setIfInBounds_toArray, List.set_cons_zero, List.set_cons_succ, List.getElem_toArray, List.getElem_cons_succ, List.getElem_cons_zero]
            refine wpAnyH_take (i := 11) (v := .pointer (some ⟨Q i, 1, none⟩)) rfl (by kernel_rfl) (by kernel_rfl) (by kernel_rfl) (fun _ _ _ h => h) (Or.inl ⟨by kernel_rfl, ?_⟩) hHeld ?_
            · intro w' hSw; go_simp
            try simp only [Act.put, List.setIfInBounds_toArray, List.set_cons_zero, List.set_cons_succ, List.getElem_toArray, List.getElem_cons_succ, List.getElem_cons_zero]
            refine wpAnyH_take (i := 12) (v := .int .i64 (N i).2) rfl (by kernel_rfl) (by kernel_rfl) (by kernel_rfl) (fun _ _ _ h => h) (Or.inl ⟨by kernel_rfl, ?_⟩) hHeld ?_
            · intro w' hSw; obtain ⟨z0, z1, z2⟩ := Tc.open hSw hi; go_simp
            try simp only [Act.put, List.setIfInBounds_toArray, List.set_cons_zero, List.set_cons_succ, List.getElem_toArray, List.getElem_cons_succ, List.getElem_cons_zero]
            refine wpAnyH_take (i := 13) (v := .pointer (some ⟨p, 0, none⟩)) rfl (by kernel_rfl) (by kernel_rfl) (by kernel_rfl) (fun _ _ _ h => h) (Or.inl ⟨by kernel_rfl, ?_⟩) hHeld ?_
            · intro w' hSw; go_simp
            try simp only [Act.put, List.setIfInBounds_toArray, List.set_cons_zero, List.set_cons_succ, List.getElem_toArray, List.getElem_cons_succ, List.getElem_cons_zero]
            refine wpAnyH_ready (rs := [14]) (by kernel_rfl) (by simp) ?_
            refine AllReadyH.cons rfl (fun KK hK' => ?_) AllReadyH.nil
            go_simp
            refine (below_dr (Dr.start D.dr.2) 12 (by omega) (by omega)).mono ?_
            rintro e u1 ⟨x, rfl, x0, x1, hd⟩
            replace T := T.drawn hd
            replace D := D.drawn hd
            clear hd
            have wx : IntKind.i64.wrap (4 + x) = 4 + x := IntWalk.i64_in _ (by omega)
            try go_wp2_with fail
            clear hHeld
            refine hK'.out _ _ (T) (fun hHeld => ?_)
            clear hK' KK
            try simp only [List.setIfInBounds_toArray, List.set_cons_zero, List.set_cons_succ]
            refine wpAnyH_take (i := 15) (v := .int .i64 (4 + x)) rfl (by kernel_rfl) (by kernel_rfl) (by kernel_rfl) (fun _ _ _ h => h) (Or.inl ⟨by kernel_rfl, ?_⟩) hHeld ?_
            · intro w' hSw; go_simp
            try simp only [Act.put, List.setIfInBounds_toArray, List.set_cons_zero, List.set_cons_succ, List.getElem_toArray, List.getElem_cons_succ, List.getElem_cons_zero]
            refine wpAnyH_take (i := 16) (v := fV (N i).1 (N i).2 (4 + x)) rfl (by kernel_rfl) (by kernel_rfl) (by kernel_rfl) (fun _ _ _ h => h) (Or.inl ⟨by kernel_rfl, ?_⟩) hHeld ?_
            · intro w' hSw; go_simp
            try simp only [Act.put, List.setIfInBounds_toArray, List.set_cons_zero, List.set_cons_succ, List.getElem_toArray, List.getElem_cons_succ, List.getElem_cons_zero]
            refine wpAnyH_ready (rs := [17]) (by kernel_rfl) (by simp) ?_
            refine AllReadyH.cons rfl (fun KK hK' => ?_) AllReadyH.nil
            go_simp
            obtain ⟨V9, hV9, A9, b10, -⟩ := boxed u1 35 #[.int .i64 (N i).1, .int .i64 (N i).2, .int .i64 (4 + x)]
            rw [hV9]
            obtain ⟨g9, hg9⟩ : ∃ g, u1.heap.size = g := ⟨_, rfl⟩
            rw [hg9] at A9 ⊢
            replace T := T.below b10
            replace D := D.below b10
            clear hV9 hg9 b10
            clear hHeld
            refine hK'.out _ _ (T) (fun hHeld => ?_)
            clear hK' KK
            try simp only [List.setIfInBounds_toArray, List.set_cons_zero, List.set_cons_succ]
            refine wpAnyH_ready (rs := [18]) (by kernel_rfl) (by simp) ?_
            refine AllReadyH.cons rfl (fun KK hK' => ?_) AllReadyH.nil
            refine step_append_at _ (by rfl) _ _ _ (by rfl) B 35 i0 _ 3 24 Try.underlying24 hi0 hz0 hz1 hz2 rfl (by omega) u4 m (lCells l) (by rfl) D.own ⟨g9, 0, none⟩ 1 1 (lCells [(N i).1, (N i).2, 4 + x]) (by rfl) (by rfl) (news3 A9) (lCells_one _) (by unfold maxLen; omega) (by omega) D.o2 ?_
            intro v2 w5 hown2 hgrow2 hne2 _
            have D2 := D.grow hown2 hgrow2 (fun h => D.nn (hne2.1 h).1)
            replace T := Tc.keep D hgrow2 T
            clear hown2 hgrow2 hne2 D A9
            clear hHeld
            refine hK'.out _ _ (T) (fun hHeld => ?_)
            clear hK' KK
            try simp only [List.setIfInBounds_toArray, List.set_cons_zero, List.set_cons_succ]
            refine wpAnyH_ready (rs := [19]) (by kernel_rfl) (by simp) ?_
            refine AllReadyH.cons rfl (fun KK hK' => ?_) AllReadyH.nil
            go_simp
            clear hHeld
            refine hK'.out _ _ (T) (fun hHeld => ?_)
            clear hK' KK
            try simp only [List.setIfInBounds_toArray, List.set_cons_zero, List.set_cons_succ]
            refine wpAnyH_done (by kernel_rfl) ?_ _
            clear hHeld
            clear wx
            go_wp2
            exact ⟨⟨i + 1, m + 1, _, by omega, by omega, by go_num, D2, T⟩, by simp [intOf]; omega⟩
      · go_wp2_with fail
        refine (once_dr (Dr.start D.dr.2) 3 (by omega) (by omega)).mono ?_
        rintro e w2 ⟨b2, rfl, hd⟩
        replace T := T.drawn hd
        replace D := D.drawn hd
        clear hd
        cases b2
        · go_wp2
          exact ⟨⟨i + 1, m, l, by omega, by omega, by go_num, D, T⟩, by simp [intOf]; omega⟩
        · obtain ⟨wr, rfl⟩ : ∃ wr, wr = w2 := ⟨_, rfl⟩
          go_wp2_with fail
          obtain ⟨u0, hu0, bb⟩ : ∃ uu, wr.drew = uu ∧ Below wr.heap.size wr uu := ⟨_, rfl, (Below.refl _ _).drew⟩
          replace T := T.below bb
          replace D := D.below bb
          clear bb
          refine wp_region_held_drew (S := Tc p q Q N) (by kernel_rfl) (by rw [hu0]; exact T) (fun hHeld => ?_)
          rw [hu0] at hHeld ⊢
          clear hu0
          change wpAnyH _ _ _ _ _ 20 #[false, false, false, false, false, false, false, false, false, false, false, false, false, false, false, false, false, false, false, false] _ _
          refine wpAnyH_take (i := 0) (v := u4) rfl (by kernel_rfl) (by kernel_rfl) (by kernel_rfl) (fun _ _ _ h => h) (Or.inl ⟨by kernel_rfl, ?_⟩) hHeld ?_
          · intro w' hSw; go_simp
          try simp only [Act.put, List.setIfInBounds_toArray, List.set_cons_zero, List.set_cons_succ, List.getElem_toArray, List.getElem_cons_zero]
          refine wpAnyH_take (i := 1) (v := .slice (some ⟨q, 0, none⟩) 16 16) rfl (by kernel_rfl) (by kernel_rfl) (by kernel_rfl) (fun _ _ _ h => h) (Or.inl ⟨by kernel_rfl, ?_⟩) hHeld ?_
          · intro w' hSw; go_simp
          try simp only [Act.put, List.setIfInBounds_toArray, List.set_cons_zero, List.set_cons_succ, List.getElem_toArray, List.getElem_cons_succ, List.getElem_cons_zero]
          refine wpAnyH_take (i := 2) (v := .int .i64 (i : Int)) rfl (by kernel_rfl) (by kernel_rfl) (by kernel_rfl) (fun _ _ _ h => h) (Or.inl ⟨by kernel_rfl, ?_⟩) hHeld ?_
          · intro w' hSw; go_simp
          try simp only [Act.put, List.setIfInBounds_toArray, List.set_cons_zero, List.set_cons_succ, List.getElem_toArray, List.getElem_cons_succ, List.getElem_cons_zero]
          refine wpAnyH_take (i := 3) (v := .pointer (some ⟨q, i, none⟩)) rfl (by kernel_rfl) (by kernel_rfl) (by kernel_rfl) (fun _ _ _ h => h) (Or.inl ⟨by kernel_rfl, ?_⟩) hHeld ?_
          · intro w' hSw; go_simp
          try simp only [Act.put, List.setIfInBounds_toArray, List.set_cons_zero, List.set_cons_succ, List.getElem_toArray, List.getElem_cons_succ, List.getElem_cons_zero]
          refine wpAnyH_take (i := 4) (v := .slice (some ⟨Q i, 0, none⟩) 2 2) rfl (by kernel_rfl) (by kernel_rfl) (by kernel_rfl) (fun _ _ _ h => h) (Or.inl ⟨by kernel_rfl, ?_⟩) hHeld ?_
          · intro w' hSw; obtain ⟨z0, z1, z2⟩ := Tc.open hSw hi; go_simp
          try simp only [Act.put, List.setIfInBounds_toArray, List.set_cons_zero, List.set_cons_succ, List.getElem_toArray, List.getElem_cons_succ, List.getElem_cons_zero]
          refine wpAnyH_take (i := 5) (v := .pointer (some ⟨Q i, 0, none⟩)) rfl (by kernel_rfl) (by kernel_rfl) (by kernel_rfl) (fun _ _ _ h => h) (Or.inl ⟨by kernel_rfl, ?_⟩) hHeld ?_
          · intro w' hSw; go_simp
          try simp only [Act.put, List.setIfInBounds_toArray, List.set_cons_zero, List.set_cons_succ, List.getElem_toArray, List.getElem_cons_succ, List.getElem_cons_zero]
          refine wpAnyH_take (i := 6) (v := .int .i64 (N i).1) rfl (by kernel_rfl) (by kernel_rfl) (by kernel_rfl) (fun _ _ _ h => h) (Or.inl ⟨by kernel_rfl, ?_⟩) hHeld ?_
          · intro w' hSw; obtain ⟨z0, z1, z2⟩ := Tc.open hSw hi; go_simp
          try simp only [Act.put, List.setIfInBounds_toArray, List.set_cons_zero, List.set_cons_succ, List.getElem_toArray, List.getElem_cons_succ, List.getElem_cons_zero]
          refine wpAnyH_take (i := 7) (v := .slice (some ⟨q, 0, none⟩) 16 16) rfl (by kernel_rfl) (by kernel_rfl) (by kernel_rfl) (fun _ _ _ h => h) (Or.inl ⟨by kernel_rfl, ?_⟩) hHeld ?_
          · intro w' hSw; go_simp
          try simp only [Act.put, List.setIfInBounds_toArray, List.set_cons_zero, List.set_cons_succ, List.getElem_toArray, List.getElem_cons_succ, List.getElem_cons_zero]
          refine wpAnyH_take (i := 8) (v := .int .i64 (i : Int)) rfl (by kernel_rfl) (by kernel_rfl) (by kernel_rfl) (fun _ _ _ h => h) (Or.inl ⟨by kernel_rfl, ?_⟩) hHeld ?_
          · intro w' hSw; go_simp
          try simp only [Act.put, List.setIfInBounds_toArray, List.set_cons_zero, List.set_cons_succ, List.getElem_toArray, List.getElem_cons_succ, List.getElem_cons_zero]
          refine wpAnyH_take (i := 9) (v := .pointer (some ⟨q, i, none⟩)) rfl (by kernel_rfl) (by kernel_rfl) (by kernel_rfl) (fun _ _ _ h => h) (Or.inl ⟨by kernel_rfl, ?_⟩) hHeld ?_
          · intro w' hSw; go_simp
          try simp only [Act.put, List.setIfInBounds_toArray, List.set_cons_zero, List.set_cons_succ, List.getElem_toArray, List.getElem_cons_succ, List.getElem_cons_zero]
          refine wpAnyH_take (i := 10) (v := .slice (some ⟨Q i, 0, none⟩) 2 2) rfl (by kernel_rfl) (by kernel_rfl) (by kernel_rfl) (fun _ _ _ h => h) (Or.inl ⟨by kernel_rfl, ?_⟩) hHeld ?_
          · intro w' hSw; obtain ⟨z0, z1, z2⟩ := Tc.open hSw hi; go_simp
          try simp only [Act.put, List.setIfInBounds_toArray, List.set_cons_zero, List.set_cons_succ, List.getElem_toArray, List.getElem_cons_succ, List.getElem_cons_zero]
          refine wpAnyH_take (i := 11) (v := .pointer (some ⟨Q i, 1, none⟩)) rfl (by kernel_rfl) (by kernel_rfl) (by kernel_rfl) (fun _ _ _ h => h) (Or.inl ⟨by kernel_rfl, ?_⟩) hHeld ?_
          · intro w' hSw; go_simp
          try simp only [Act.put, List.setIfInBounds_toArray, List.set_cons_zero, List.set_cons_succ, List.getElem_toArray, List.getElem_cons_succ, List.getElem_cons_zero]
          refine wpAnyH_take (i := 12) (v := .int .i64 (N i).2) rfl (by kernel_rfl) (by kernel_rfl) (by kernel_rfl) (fun _ _ _ h => h) (Or.inl ⟨by kernel_rfl, ?_⟩) hHeld ?_
          · intro w' hSw; obtain ⟨z0, z1, z2⟩ := Tc.open hSw hi; go_simp
          try simp only [Act.put, List.setIfInBounds_toArray, List.set_cons_zero, List.set_cons_succ, List.getElem_toArray, List.getElem_cons_succ, List.getElem_cons_zero]
          refine wpAnyH_take (i := 13) (v := .pointer (some ⟨p, 0, none⟩)) rfl (by kernel_rfl) (by kernel_rfl) (by kernel_rfl) (fun _ _ _ h => h) (Or.inl ⟨by kernel_rfl, ?_⟩) hHeld ?_
          · intro w' hSw; go_simp
          try simp only [Act.put, List.setIfInBounds_toArray, List.set_cons_zero, List.set_cons_succ, List.getElem_toArray, List.getElem_cons_succ, List.getElem_cons_zero]
          refine wpAnyH_ready (rs := [14]) (by kernel_rfl) (by simp) ?_
          refine AllReadyH.cons rfl (fun KK hK' => ?_) AllReadyH.nil
          go_simp
          refine (below_dr (Dr.start D.dr.2) 12 (by omega) (by omega)).mono ?_
          rintro e u1 ⟨x, rfl, x0, x1, hd⟩
          replace T := T.drawn hd
          replace D := D.drawn hd
          clear hd
          have wx : IntKind.i64.wrap (4 + x) = 4 + x := IntWalk.i64_in _ (by omega)
          try go_wp2_with fail
          clear hHeld
          refine hK'.out _ _ (T) (fun hHeld => ?_)
          clear hK' KK
          try simp only [List.setIfInBounds_toArray, List.set_cons_zero, List.set_cons_succ]
          refine wpAnyH_take (i := 15) (v := .int .i64 (4 + x)) rfl (by kernel_rfl) (by kernel_rfl) (by kernel_rfl) (fun _ _ _ h => h) (Or.inl ⟨by kernel_rfl, ?_⟩) hHeld ?_
          · intro w' hSw; go_simp
          try simp only [Act.put, List.setIfInBounds_toArray, List.set_cons_zero, List.set_cons_succ, List.getElem_toArray, List.getElem_cons_succ, List.getElem_cons_zero]
          refine wpAnyH_take (i := 16) (v := fV (N i).1 (N i).2 (4 + x)) rfl (by kernel_rfl) (by kernel_rfl) (by kernel_rfl) (fun _ _ _ h => h) (Or.inl ⟨by kernel_rfl, ?_⟩) hHeld ?_
          · intro w' hSw; go_simp
          try simp only [Act.put, List.setIfInBounds_toArray, List.set_cons_zero, List.set_cons_succ, List.getElem_toArray, List.getElem_cons_succ, List.getElem_cons_zero]
          refine wpAnyH_ready (rs := [17]) (by kernel_rfl) (by simp) ?_
          refine AllReadyH.cons rfl (fun KK hK' => ?_) AllReadyH.nil
          go_simp
          obtain ⟨V9, hV9, A9, b10, -⟩ := boxed u1 35 #[.int .i64 (N i).1, .int .i64 (N i).2, .int .i64 (4 + x)]
          rw [hV9]
          obtain ⟨g9, hg9⟩ : ∃ g, u1.heap.size = g := ⟨_, rfl⟩
          rw [hg9] at A9 ⊢
          replace T := T.below b10
          replace D := D.below b10
          clear hV9 hg9 b10
          clear hHeld
          refine hK'.out _ _ (T) (fun hHeld => ?_)
          clear hK' KK
          try simp only [List.setIfInBounds_toArray, List.set_cons_zero, List.set_cons_succ]
          refine wpAnyH_ready (rs := [18]) (by kernel_rfl) (by simp) ?_
          refine AllReadyH.cons rfl (fun KK hK' => ?_) AllReadyH.nil
          refine step_append_at _ (by rfl) _ _ _ (by rfl) B 35 i0 _ 3 24 Try.underlying24 hi0 hz0 hz1 hz2 rfl (by omega) u4 m (lCells l) (by rfl) D.own ⟨g9, 0, none⟩ 1 1 (lCells [(N i).1, (N i).2, 4 + x]) (by rfl) (by rfl) (news3 A9) (lCells_one _) (by unfold maxLen; omega) (by omega) D.o2 ?_
          intro v2 w5 hown2 hgrow2 hne2 _
          have D2 := D.grow hown2 hgrow2 (fun h => D.nn (hne2.1 h).1)
          replace T := Tc.keep D hgrow2 T
          clear hown2 hgrow2 hne2 D A9
          clear hHeld
          refine hK'.out _ _ (T) (fun hHeld => ?_)
          clear hK' KK
          try simp only [List.setIfInBounds_toArray, List.set_cons_zero, List.set_cons_succ]
          refine wpAnyH_ready (rs := [19]) (by kernel_rfl) (by simp) ?_
          refine AllReadyH.cons rfl (fun KK hK' => ?_) AllReadyH.nil
          go_simp
          clear hHeld
          refine hK'.out _ _ (T) (fun hHeld => ?_)
          clear hK' KK
          try simp only [List.setIfInBounds_toArray, List.set_cons_zero, List.set_cons_succ]
          refine wpAnyH_done (by kernel_rfl) ?_ _
          clear hHeld
          clear wx
          go_wp2
          exact ⟨⟨i + 1, m + 1, _, by omega, by omega, by go_num, D2, T⟩, by simp [intOf]; omega⟩
    · have hilt : ¬ (i : Int) < 16 := by omega
      clear T
      have hm17 : m ≤ 16 := by omega
      have hmI : (m : Int) ≤ 16 := by omega
      obtain ⟨g4, c4, hu4, hg4, F⟩ := D.open
      have dr := D.dr
      subst hu4
      clear D
      obtain ⟨fo, hfo⟩ : ∃ fo : Nat → Int, (fun i => l.getD i 0) = fo := ⟨_, rfl⟩
      rw [hfo] at F
      clear hfo hi' hmi
      go_wp2
      clear hi hilt
      go_loopw [6] (fun s wr => ∃ (I : Int) (fo : Nat → Int), s = .int .i64 I ∧ -1 ≤ I ∧ I < (m : Int) ∧ LF wr g4 c4 m fo ∧ Dr w p a len cap wr) (fun s _ => (intOf s).toNat)
      case atStart => exact ⟨(m : Int) - 1, fo, by go_num, by omega, by omega, F, dr⟩
      case round =>
        clear F dr fo
        obtain ⟨I, fo, rfl, hI0, hI1, F, dr⟩ := hrel
        by_cases hI : 0 < I
        · obtain ⟨i', rfl⟩ : ∃ i' : Nat, (i' : Int) = I := ⟨I.toNat, by omega⟩
          go_wp2_with fail
          refine (below_dr (Dr.start dr.2) ((i' : Int) + 1) (by omega) (by omega)).mono ?_
          rintro e w1 ⟨x, rfl, x0, x1, hd⟩
          obtain ⟨k, rfl⟩ : ∃ k : Nat, (k : Int) = x := ⟨x.toNat, by omega⟩
          replace F := F.drawn hd hg4.2
          replace dr := hd.from dr.1
          clear hd
          have hi2 : i' < m := by omega
          have hk2 : k < m := by omega
          have hik : (k : Int) < (m : Int) := by omega
          obtain ⟨V9, hV9, A9, b9, -⟩ := boxed w1 35 #[.int .i64 (fo (i' * 3)), .int .i64 (fo (i' * 3 + 1)), .int .i64 (fo (i' * 3 + 2))]
          have lg := F.lt
          have c0 := F.get (j := i' * 3) (by omega)
          have c1 := F.get (j := i' * 3 + 1) (by omega)
          have c2 := F.get (j := i' * 3 + 2) (by omega)
          replace F := F.below b9
          replace dr := dr.below b9
          have d0 := F.get (j := i' * 3) (by omega)
          have d1 := F.get (j := i' * 3 + 1) (by omega)
          have d2 := F.get (j := i' * 3 + 2) (by omega)
          have e0 := F.get (j := k * 3) (by omega)
          have e1 := F.get (j := k * 3 + 1) (by omega)
          have e2 := F.get (j := k * 3 + 2) (by omega)
          have f0 := F.free (i' * 3)
          have f1 := F.free (i' * 3 + 1)
          have f2 := F.free (i' * 3 + 2)
          have h0 := F.free (k * 3)
          have h1 := F.free (k * 3 + 1)
          have h2 := F.free (k * 3 + 2)
          obtain ⟨z0, z1, z2, -⟩ := A9.open3
          have lb := A9.lt
          go_upto_region 14 with (fail)
          clear c0 c1 c2 d0 d1 d2 e0 e1 e2 f0 f1 f2 h0 h1 h2 z0 z1 z2
          generalize hU : World.setCell _ _ _ = U
          replace dr : Dr w p a len cap U := by rw [← hU]; exact ((dr.setNew hg4.2 hg4.1 _).setNew hg4.2 hg4.1 _).setNew hg4.2 hg4.1 _
          replace A9 : At 35 U w1.heap.size #[.int .i64 (fo (i' * 3)), .int .i64 (fo (i' * 3 + 1)), .int .i64 (fo (i' * 3 + 2))] := by rw [← hU]; exact ((A9.setOther (by omega) _).setOther (by omega) _).setOther (by omega) _
          obtain ⟨fo2, F2⟩ : ∃ fo2, LF U g4 c4 m fo2 := ⟨_, by rw [← hU]; exact ((F.upd (by omega) _).upd (by omega) _).upd (by omega) _⟩
          clear hU hV9 F b9 lb
          obtain ⟨z0, z1, z2, -⟩ := A9.open3
          have lb := A9.lt
          have e0 := F2.get (j := k * 3) (by omega)
          have e1 := F2.get (j := k * 3 + 1) (by omega)
          have e2 := F2.get (j := k * 3 + 2) (by omega)
          have h0 := F2.free (k * 3)
          have h1 := F2.free (k * 3 + 1)
          have h2 := F2.free (k * 3 + 2)
          have lg2 := F2.lt
          go_wp2
          refine ⟨⟨(i' : Int) - 1, _, by go_num, by omega, by omega, ((F2.upd (by omega) _).upd (by omega) _).upd (by omega) _, ((dr.setNew hg4.2 hg4.1 _).setNew hg4.2 hg4.1 _).setNew hg4.2 hg4.1 _⟩, by simp [intOf]; omega⟩
        · go_wp2
          exact bodyPost_ret (v := .slice (some ⟨g4, 0, none⟩) m c4) (by simp [results, Try.results74, go_sem]) rfl ⟨g4, c4, m, fo, rfl, hm17, hg4, F, dr⟩
end Go.Proofs.Ytealbihplfpgeaa
