/-
  Products of cyclotomic numbers by the specification: walked.
-/
import Derived.Test.YthcanmnbaemdbaaDoorMp
import Derived.Test.YthcanmnbaemdbaaDoorMo
namespace Go.Proofs.YthcanmnbaemdbaaDoor
open Go.RowKit

/-- Four numbers of three limbs in a row: small, and what they come to. -/
def Wv (wr : World) (qw : Nat) (N : Int) (V : Nat → Int) : Prop :=
  ∃ (cs : Array Value) (H M R : Nat → Int), At 57 wr qw cs ∧ cs.size = 12 ∧ (∀ j, j < 4 → cs[j * 3]? = some (.int .i64 (H j)) ∧ cs[j * 3 + 1]? = some (.int .i64 (M j)) ∧ cs[j * 3 + 2]? = some (.int .i64 (R j))) ∧ ∀ j, j < 4 → small N (H j) (M j) (R j) ∧ wide (H j) (M j) (R j) = V j
theorem Wv.below {wr wr' : World} {qw : Nat} {N : Int} {V : Nat → Int} (h : Wv wr qw N V) (hb : Below wr.heap.size wr wr') : Wv wr' qw N V := by
  obtain ⟨cs, H, M, R, h1, h2⟩ := h
  exact ⟨cs, H, M, R, h1.below hb, h2⟩
theorem Wv.lt {wr : World} {qw : Nat} {N : Int} {V : Nat → Int} (h : Wv wr qw N V) : qw < wr.heap.size := by
  obtain ⟨cs, H, M, R, h1, h2⟩ := h
  exact h1.lt
theorem Wv.get {wr : World} {qw : Nat} {N : Int} {V : Nat → Int} (h : Wv wr qw N V) (j : Nat) (hj : j < 4) : ∃ x y z, (wr.cell? ⟨qw, j * 3, none⟩ = some (.int .i64 x) ∧ wr.cell? ⟨qw, j * 3 + 1, none⟩ = some (.int .i64 y) ∧ wr.cell? ⟨qw, j * 3 + 2, none⟩ = some (.int .i64 z)) ∧ (wr.frozen? ⟨qw, j * 3, none⟩ = false ∧ wr.frozen? ⟨qw, j * 3 + 1, none⟩ = false ∧ wr.frozen? ⟨qw, j * 3 + 2, none⟩ = false) ∧ small N x y z ∧ wide x y z = V j := by
  obtain ⟨cs, H, M, R, h1, h2, h3, h4⟩ := h
  obtain ⟨e1, e2, e3⟩ := h3 j hj
  exact ⟨H j, M j, R j, ⟨h1.cell _ e1, h1.cell _ e2, h1.cell _ e3⟩, ⟨h1.frozen _, h1.frozen _, h1.frozen _⟩, (h4 j hj).1, (h4 j hj).2⟩
theorem small_mono {N N' x y z : Int} (h : small N x y z) (hN : N ≤ N') : small N' x y z := by
  unfold small at *
  omega
theorem Wv.put {wr : World} {qw : Nat} {N : Int} {V : Nat → Int} (h : Wv wr qw N V) (k : Nat) (hk : k < 4) {x y z : Int} (hs : small (N + 1) x y z) :
    Wv (((wr.setCell ⟨qw, k * 3, none⟩ (.int .i64 x)).setCell ⟨qw, k * 3 + 1, none⟩ (.int .i64 y)).setCell ⟨qw, k * 3 + 2, none⟩ (.int .i64 z)) qw (N + 1) (fun j => if j = k then wide x y z else V j) := by
  obtain ⟨cs, H, M, R, h1, h2, h3, h4⟩ := h
  refine ⟨_, fun j => if j = k then x else H j, fun j => if j = k then y else M j, fun j => if j = k then z else R j, ((h1.set (k * 3) _).set (k * 3 + 1) _).set (k * 3 + 2) _, by simpa using h2, fun j hj => ?_, fun j hj => ?_⟩
  · by_cases e : j = k
    · subst e
      simp only [if_pos]
      refine ⟨?_, ?_, ?_⟩
      · rw [Array.getElem?_setIfInBounds, if_neg (by omega), Array.getElem?_setIfInBounds, if_neg (by omega), Array.getElem?_setIfInBounds, if_pos rfl, if_pos (by omega)]
      · rw [Array.getElem?_setIfInBounds, if_neg (by omega), Array.getElem?_setIfInBounds, if_pos rfl, if_pos (by simp; omega)]
      · rw [Array.getElem?_setIfInBounds, if_pos rfl, if_pos (by simp; omega)]
    · simp only [if_neg e]
      obtain ⟨e1, e2, e3⟩ := h3 j hj
      refine ⟨?_, ?_, ?_⟩
      · rw [Array.getElem?_setIfInBounds, if_neg (by omega), Array.getElem?_setIfInBounds, if_neg (by omega), Array.getElem?_setIfInBounds, if_neg (by omega)]; exact e1
      · rw [Array.getElem?_setIfInBounds, if_neg (by omega), Array.getElem?_setIfInBounds, if_neg (by omega), Array.getElem?_setIfInBounds, if_neg (by omega)]; exact e2
      · rw [Array.getElem?_setIfInBounds, if_neg (by omega), Array.getElem?_setIfInBounds, if_neg (by omega), Array.getElem?_setIfInBounds, if_neg (by omega)]; exact e3
  · by_cases e : j = k
    · subst e
      simp only [if_pos]
      exact ⟨hs, trivial⟩
    · simp only [if_neg e]
      exact ⟨small_mono (h4 j hj).1 (by omega), (h4 j hj).2⟩
theorem Wv.congr {wr : World} {qw : Nat} {N N' : Int} {V V' : Nat → Int} (h : Wv wr qw N V) (hN : N ≤ N') (hV : ∀ j, j < 4 → V j = V' j) : Wv wr qw N' V' := by
  obtain ⟨cs, H, M, R, h1, h2, h3, h4⟩ := h
  exact ⟨cs, H, M, R, h1, h2, h3, fun j hj => ⟨small_mono (h4 j hj).1 hN, (h4 j hj).2.trans (hV j hj)⟩⟩
/-- What the loops keep: both rows of numbers and the answer's box. -/
def Fm (w : World) (qx qy qw : Nat) (a b c d x y z u : Int) (wr : World) : Prop :=
  At 2 wr qx #[.int .i64 a, .int .i64 b, .int .i64 c, .int .i64 d] ∧ At 2 wr qy #[.int .i64 x, .int .i64 y, .int .i64 z, .int .i64 u] ∧ At 25 wr (w.heap.size + 2) #[.int .i64 0, .int .i64 0, .int .i64 0, .int .i64 0] ∧ Below w.heap.size w wr ∧ qx ≠ qw ∧ qy ≠ qw ∧ w.heap.size + 2 < qw
theorem Fm.below {w wr wr' : World} {qx qy qw : Nat} {a b c d x y z u : Int} (F : Fm w qx qy qw a b c d x y z u wr) (h : Below wr.heap.size wr wr') : Fm w qx qy qw a b c d x y z u wr' := by
  obtain ⟨f1, f2, f3, f4, f5⟩ := F
  exact ⟨f1.below h, f2.below h, f3.below h, f4.trans (h.mono f4.size), f5⟩
theorem Fm.set {w wr : World} {qx qy qw i : Nat} {a b c d x y z u : Int} (F : Fm w qx qy qw a b c d x y z u wr) (v : Value) : Fm w qx qy qw a b c d x y z u (wr.setCell ⟨qw, i, none⟩ v) := by
  obtain ⟨f1, f2, f3, f4, f5, f6, f7⟩ := F
  exact ⟨f1.setOther f5 v, f2.setOther f6 v, f3.setOther (by omega) v, f4.setCell (by show _ ≤ qw; omega) v, f5, f6, f7⟩
theorem Fm.set2 {w wr : World} {qx qy qw qp i : Nat} {a b c d x y z u : Int} (F : Fm w qx qy qw a b c d x y z u wr) (h1 : qx ≠ qp) (h2 : qy ≠ qp) (h3 : w.heap.size + 2 < qp) (v : Value) : Fm w qx qy qw a b c d x y z u (wr.setCell ⟨qp, i, none⟩ v) := by
  obtain ⟨f1, f2, f3, f4, f5, f6, f7⟩ := F
  exact ⟨f1.setOther h1 v, f2.setOther h2 v, f3.setOther (by omega) v, f4.setCell (by show _ ≤ qp; omega) v, f5, f6, f7⟩
theorem Wv.setOther {wr : World} {qw qp i : Nat} {N : Int} {V : Nat → Int} (h : Wv wr qw N V) (hq : qw ≠ qp) (v : Value) : Wv (wr.setCell ⟨qp, i, none⟩ v) qw N V := by
  obtain ⟨cs, H, M, R, h1, h2⟩ := h
  exact ⟨cs, H, M, R, h1.setOther hq v, h2⟩
theorem four_get (a b c d : Int) (k : Nat) (hk : k < 4) : (#[.int .i64 a, .int .i64 b, .int .i64 c, .int .i64 d] : Array Value)[k]? = some (.int .i64 (pt a b c d k)) := by
  rcases (by omega : k = 0 ∨ k = 1 ∨ k = 2 ∨ k = 3) with rfl | rfl | rfl | rfl <;> rfl
/-- The two numbers that a round reads. -/
def Sxy (qx qy i k : Nat) (xi yk : Int) (w : World) : Prop := w.cell? ⟨qx, i, none⟩ = some (.int .i64 xi) ∧ w.cell? ⟨qy, k, none⟩ = some (.int .i64 yk)
theorem sxy_of {w wr : World} {qx qy qw i k : Nat} {a b c d x y z u : Int} (F : Fm w qx qy qw a b c d x y z u wr) (hi : i < 4) (hk : k < 4) : Sxy qx qy i k (pt a b c d i) (pt x y z u k) wr :=
  ⟨F.1.cell i (four_get a b c d i hi), F.2.1.cell k (four_get x y z u k hk)⟩
theorem small_fits {N x y z : Int} (h : small N x y z) (h0 : 0 ≤ N) (hN : N ≤ 32) : fits x ∧ fits y ∧ fits z := by
  unfold small at h
  unfold fits
  omega
/-- One more term: the limbs stay small. -/
theorem plus_small {N h m l s p q : Int} (hs : small N h m l) (h0 : 0 ≤ N) (hN : N ≤ 32) (h1 : s = 1 ∨ s = -1) (hp : inC p) (hq : inC q) (w : World) :
    Calls Tryd.prog 35 #[wV h m l, .int .i64 s, .int .i64 p, .int .i64 q] w fun e w' =>
      ∃ h' m' l', e = .returned (wV h' m' l') ∧ small (N + 1) h' m' l' ∧ wide h' m' l' = wide h m l + s * (p * q) ∧ Below w.heap.size w w' := by
  obtain ⟨fh, fm, fl⟩ := small_fits hs h0 hN
  refine (plus_any h m l s p q w fh fm fl (by omega) hp hq).mono ?_
  rintro e w' ⟨rfl, hb⟩
  exact ⟨_, _, _, rfl, small_plus hs h1 hp hq, wide_plus h m l s p q, hb⟩
/-- A number of the row, looked at. -/
def Wg (wr : World) (qw : Nat) (N : Int) (V : Nat → Int) (j : Nat) (h m l : Int) : Prop :=
  Wv wr qw N V ∧ (wr.cell? ⟨qw, j * 3, none⟩ = some (.int .i64 h) ∧ wr.cell? ⟨qw, j * 3 + 1, none⟩ = some (.int .i64 m) ∧ wr.cell? ⟨qw, j * 3 + 2, none⟩ = some (.int .i64 l)) ∧ (wr.frozen? ⟨qw, j * 3, none⟩ = false ∧ wr.frozen? ⟨qw, j * 3 + 1, none⟩ = false ∧ wr.frozen? ⟨qw, j * 3 + 2, none⟩ = false) ∧ small N h m l ∧ wide h m l = V j
theorem Wg.below {wr wr' : World} {qw j : Nat} {N h m l : Int} {V : Nat → Int} (g : Wg wr qw N V j h m l) (hb : Below wr.heap.size wr wr') : Wg wr' qw N V j h m l := by
  obtain ⟨g1, ⟨e0, e1, e2⟩, ⟨f0, f1, f2⟩, g4⟩ := g
  have hl := g1.lt
  exact ⟨g1.below hb, ⟨(hb.cell (p := ⟨qw, j * 3, none⟩) hl).trans e0, (hb.cell (p := ⟨qw, j * 3 + 1, none⟩) hl).trans e1, (hb.cell (p := ⟨qw, j * 3 + 2, none⟩) hl).trans e2⟩, ⟨(hb.frozen (p := ⟨qw, j * 3, none⟩) hl).trans f0, (hb.frozen (p := ⟨qw, j * 3 + 1, none⟩) hl).trans f1, (hb.frozen (p := ⟨qw, j * 3 + 2, none⟩) hl).trans f2⟩, g4⟩
theorem Wv.look {wr : World} {qw : Nat} {N : Int} {V : Nat → Int} (h : Wv wr qw N V) (j : Nat) (hj : j < 4) : ∃ x y z, Wg wr qw N V j x y z := by
  obtain ⟨x, y, z, g1, g2, g3, g4⟩ := h.get j hj
  exact ⟨x, y, z, h, g1, g2, g3, g4⟩
/-- What a round adds. -/
theorem round_at (a b c d x y z u : Int) (i k : Nat) (hk : k < 4) (j : Nat) : es (itm a b c d x y z u) pp j (4 * i + k + 1) = es (itm a b c d x y z u) pp j (4 * i + k) + pt a b c d i * pt x y z u k * rp ((i + k) * 4 + j) := by
  show _ + itm a b c d x y z u (4 * i + k) * rp (pp (4 * i + k) * 4 + j) = _
  unfold itm pp
  rw [show (4 * i + k) / 4 = i by omega, show (4 * i + k) % 4 = k by omega]
theorem infoWide : (Tryd.prog.info? 57).map (fun i => (i.zero, i.size, i.bytes)) = some (some (.agg #[.int .i64 0, .int .i64 0, .int .i64 0]), 3, 24) := by kernel_rfl
theorem infoNum : (Tryd.prog.info? 2).map (fun i => (i.zero, i.size, i.bytes)) = some (some (.int .i64 0), 1, 8) := by kernel_rfl
theorem make_wide (w : World) : (Instr.makeSlice 55 (.int .i64 4) (.int .i64 4)).run Tryd.prog w = .ok (.slice (some ⟨w.heap.size, 0, none⟩) 4 4) (w.alloc (.cells #[.int .i64 0, .int .i64 0, .int .i64 0, .int .i64 0, .int .i64 0, .int .i64 0, .int .i64 0, .int .i64 0, .int .i64 0, .int .i64 0, .int .i64 0, .int .i64 0] 57)) := by
  obtain ⟨i0, hi0, hz0, hz1, hz2⟩ := info_parts infoWide
  have := run_make (P := Tryd.prog) w 55 57 i0 _ Tryd.underlying55 hi0 hz0 .i64 .i64 4 4 (by omega) (by omega) (by rw [hz2]; omega) (by omega)
  rw [this, hz1, show madeCells (Value.agg #[Value.int IntKind.i64 0, Value.int IntKind.i64 0, Value.int IntKind.i64 0]).cells (Int.toNat 4 * 3) = #[.int .i64 0, .int .i64 0, .int .i64 0, .int .i64 0, .int .i64 0, .int .i64 0, .int .i64 0, .int .i64 0, .int .i64 0, .int .i64 0, .int .i64 0, .int .i64 0] from by kernel_rfl]
  rfl
theorem make_four (w : World) : (Instr.makeSlice 40 (.int .i64 4) (.int .i64 4)).run Tryd.prog w = .ok (.slice (some ⟨w.heap.size, 0, none⟩) 4 4) (w.alloc (.cells #[.int .i64 0, .int .i64 0, .int .i64 0, .int .i64 0] 2)) := by
  obtain ⟨i0, hi0, hz0, hz1, hz2⟩ := info_parts infoNum
  have := run_make (P := Tryd.prog) w 40 2 i0 _ Tryd.underlying40 hi0 hz0 .i64 .i64 4 4 (by omega) (by omega) (by rw [hz2]; omega) (by omega)
  rw [this, hz1, show madeCells (Value.int IntKind.i64 0).cells (Int.toNat 4 * 1) = #[.int .i64 0, .int .i64 0, .int .i64 0, .int .i64 0] from by kernel_rfl]
  rfl
theorem wv_start {t : World} {q : Nat} {c : Nat → Int} {p : Nat → Nat} (h : At 57 t q #[.int .i64 0, .int .i64 0, .int .i64 0, .int .i64 0, .int .i64 0, .int .i64 0, .int .i64 0, .int .i64 0, .int .i64 0, .int .i64 0, .int .i64 0, .int .i64 0]) : Wv t q 0 (fun j => es c p j 0) := by
  refine ⟨_, fun _ => 0, fun _ => 0, fun _ => 0, h, rfl, fun j hj => ?_, fun j _ => ⟨by show small 0 0 0 0; unfold small; omega, rfl⟩⟩
  rcases (by omega : j = 0 ∨ j = 1 ∨ j = 2 ∨ j = 3) with rfl | rfl | rfl | rfl <;> exact ⟨rfl, rfl, rfl⟩
/-- The answer's numbers, as they come. -/
def pvA (V : Nat → Int) (i : Nat) : Array Value := #[.int .i64 (if 0 < i then V 0 else 0), .int .i64 (if 1 < i then V 1 else 0), .int .i64 (if 2 < i then V 2 else 0), .int .i64 (if 3 < i then V 3 else 0)]
theorem pv_get (V : Nat → Int) (i k : Nat) (hk : k < 4) : (pvA V i)[k]? = some (.int .i64 (if k < i then V k else 0)) := by
  rcases (by omega : k = 0 ∨ k = 1 ∨ k = 2 ∨ k = 3) with rfl | rfl | rfl | rfl <;> rfl
theorem pv_set (V : Nat → Int) (i : Nat) (hi : i < 4) : (pvA V i).setIfInBounds i (.int .i64 (V i)) = pvA V (i + 1) := by
  rcases (by omega : i = 0 ∨ i = 1 ∨ i = 2 ∨ i = 3) with rfl | rfl | rfl | rfl <;> simp [pvA]
/-- The four numbers that the answer is made of. -/
def Sp4 (q : Nat) (x y z u : Int) (w : World) : Prop := w.cell? ⟨q, 0, none⟩ = some (.int .i64 x) ∧ w.cell? ⟨q, 1, none⟩ = some (.int .i64 y) ∧ w.cell? ⟨q, 2, none⟩ = some (.int .i64 z) ∧ w.cell? ⟨q, 3, none⟩ = some (.int .i64 u)
theorem sp4_of {w : World} {q : Nat} {V : Nat → Int} (h : At 2 w q (pvA V 4)) : Sp4 q (V 0) (V 1) (V 2) (V 3) w := ⟨h.cell 0 (pv_get V 4 0 (by decide)), h.cell 1 (pv_get V 4 1 (by decide)), h.cell 2 (pv_get V 4 2 (by decide)), h.cell 3 (pv_get V 4 3 (by decide))⟩
theorem told_out {p q r s : Int} (h : cOk p q r s = false) : told p q r s = .tuple #[cV 0 0 0 0, .bool false] := by
  unfold told
  rw [h]
  rfl
theorem sm_out {V : Nat → Int} {i : Nat} (hi : i < 4) (h : ¬ isSm (V i) = true) : cOk (V 0) (V 1) (V 2) (V 3) = false := by
  have hn : ¬ inC (V i) := by
    intro hc
    apply h
    unfold inC at hc
    unfold isSm
    exact decide_eq_true (by omega)
  unfold cOk
  rcases (by omega : i = 0 ∨ i = 1 ∨ i = 2 ∨ i = 3) with rfl | rfl | rfl | rfl <;> simp [hn]
set_option maxRecDepth 100000 in
set_option maxHeartbeats 6400000 in
theorem specMul_yes (a b c d x y z u : Int) (w : World) (h1 : cOk a b c d = true) (h2 : cOk x y z u = true) :
    Calls Tryd.prog 11 #[cV a b c d, cV x y z u] w fun e w' => e = .returned (mulT a b c d x y z u) ∧ Below w.heap.size w w' := by
  have ia := (cOk_iff a b c d).1 h1
  have ix := (cOk_iff x y z u).1 h2
  obtain ⟨W, hW, b0, b1, b2, bW, sW⟩ := boxed3 w 25 25 25 #[.int .i64 a, .int .i64 b, .int .i64 c, .int .i64 d] #[.int .i64 x, .int .i64 y, .int .i64 z, .int .i64 u] #[.int .i64 0, .int .i64 0, .int .i64 0, .int .i64 0]
  obtain ⟨c0, c1, c2, c3, -⟩ := b0.open4
  go_enter Tryd.func11, Tryd.ntmps11
  go_wp2_with fail
  refine (specOk_any _ _ _ _ _).mono ?_
  rintro e w2 ⟨rfl, hb2⟩
  rw [h1]
  replace b0 := b0.below hb2
  replace b1 := b1.below hb2
  replace b2 := b2.below hb2
  replace bW := bW.trans (hb2.mono bW.size)
  clear hb2 c0 c1 c2 c3 hW
  obtain ⟨c0, c1, c2, c3, -⟩ := b1.open4
  go_wp2_with fail
  refine (specOk_any _ _ _ _ _).mono ?_
  rintro e w3 ⟨rfl, hb3⟩
  rw [h2]
  replace b0 := b0.below hb3
  replace b1 := b1.below hb3
  replace b2 := b2.below hb3
  replace bW := bW.trans (hb3.mono bW.size)
  have l2 := b2.lt
  clear hb3 c0 c1 c2 c3
  obtain ⟨c0, c1, c2, c3, -⟩ := b0.open4
  obtain ⟨d0, d1, d2, d3, -⟩ := b1.open4
  have l1 := b1.lt
  have l0 := b0.lt
  have hmk := make_wide
  go_wp2_with fail
  obtain ⟨V, hV, f1, f2, f3, bV, -⟩ := boxed3 w3 2 2 57 #[.int .i64 a, .int .i64 b, .int .i64 c, .int .i64 d] #[.int .i64 x, .int .i64 y, .int .i64 z, .int .i64 u] #[.int .i64 0, .int .i64 0, .int .i64 0, .int .i64 0, .int .i64 0, .int .i64 0, .int .i64 0, .int .i64 0, .int .i64 0, .int .i64 0, .int .i64 0, .int .i64 0]
  rw [hV]
  replace b2 := b2.below bV
  replace bW := bW.trans (bV.mono bW.size)
  obtain ⟨q, hq⟩ : ∃ q, w3.heap.size = q := ⟨_, rfl⟩
  obtain ⟨qy, hqy⟩ : ∃ y, q + 1 = y := ⟨_, rfl⟩
  obtain ⟨qw, hqw⟩ : ∃ y, qy + 1 = y := ⟨_, rfl⟩
  rw [hq] at f1 f2 f3 l0 l1 l2 ⊢
  rw [hqy] at f2 ⊢
  rw [hqw]
  rw [show q + 2 = qw by omega] at f3
  have F : Fm w q qy qw a b c d x y z u V := ⟨f1, f2, b2, bW, by omega, by omega, by omega⟩
  have Y : Wv V qw 0 (fun j => es (itm a b c d x y z u) pp j (4 * 0)) := wv_start f3
  clear f1 f2 f3 b0 b1 b2 bW bV hV hq hqy hqw c0 c1 c2 c3 d0 d1 d2 d3 l0 l1 l2 hmk h1 h2 sW
  go_loopw [9] (fun s wr => ∃ i : Nat, i ≤ 4 ∧ s = .int .i64 i ∧ Fm w q qy qw a b c d x y z u wr ∧ Wv wr qw (8 * i) (fun j => es (itm a b c d x y z u) pp j (4 * i))) (fun s _ => 4 - (intOf s).toNat)
  case atStart => exact ⟨0, Nat.zero_le _, rfl, F, Y⟩
  case round =>
    clear F Y
    obtain ⟨i, hi, rfl, F, Y⟩ := hrel
    by_cases hlt : i < 4
    · have hlt' : (i : Int) < 4 := by omega
      go_wp2_with fail
      go_loopw [10] (fun s wr => ∃ k : Nat, k ≤ 4 ∧ s = .int .i64 k ∧ Fm w q qy qw a b c d x y z u wr ∧ Wv wr qw (8 * i + 2 * k) (fun j => es (itm a b c d x y z u) pp j (4 * i + k))) (fun s _ => 4 - (intOf s).toNat)
      case atStart => exact ⟨0, Nat.zero_le _, rfl, F, Y⟩
      case round =>
        clear F Y
        obtain ⟨k, hk, rfl, F, Y⟩ := hrel
        by_cases hlk : k < 4
        · have hlk' : (k : Int) < 4 := by omega
          have hs : (i : Int) + (k : Int) = 4 ∨ (i : Int) + (k : Int) = 5 ∨ (i : Int) + (k : Int) = 6 ∨ i + k < 4 := by omega
          rcases hs with h4 | h5 | h6 | hs
          · go_wp2_with fail
            obtain ⟨h, m, l, G⟩ := Y.look 2 (by decide)
            clear Y
            obtain ⟨u0, hu0, bb⟩ : ∃ u0, wr.drew = u0 ∧ Below wr.heap.size wr u0 := ⟨_, rfl, (Below.refl _ _).drew⟩
            replace F := F.below bb
            replace G := G.below bb
            clear bb
            refine wp_region_held_drew (S := Sxy q qy i k (pt a b c d i) (pt x y z u k)) (by kernel_rfl) (by rw [hu0]; exact sxy_of F hlt hlk) (fun hHeld => ?_)
            rw [hu0] at hHeld ⊢
            clear hu0
            change wpAnyH _ _ _ _ _ 15 #[false, false, false, false, false, false, false, false, false, false, false, false, false, false, false] _ _
            refine wpAnyH_take (i := 0) (v := .slice (some ⟨qw, 0, none⟩) 4 4) rfl (by kernel_rfl) (by kernel_rfl) (by kernel_rfl) (fun _ _ _ h => h) (Or.inl ⟨by kernel_rfl, ?_⟩) hHeld ?_
            · intro w' hSw; go_simp
            try simp only [Act.put, List.setIfInBounds_toArray, List.set_cons_zero, List.set_cons_succ, List.getElem_toArray, List.getElem_cons_zero]
            refine wpAnyH_take (i := 1) (v := .slice (some ⟨qw, 0, none⟩) 4 4) rfl (by kernel_rfl) (by kernel_rfl) (by kernel_rfl) (fun _ _ _ h => h) (Or.inl ⟨by kernel_rfl, ?_⟩) hHeld ?_
            · intro w' hSw; go_simp
            try simp only [Act.put, List.setIfInBounds_toArray, List.set_cons_zero, List.set_cons_succ, List.getElem_toArray, List.getElem_cons_succ, List.getElem_cons_zero]
            refine wpAnyH_take (i := 2) (v := .pointer (some ⟨qw, 6, none⟩)) rfl (by kernel_rfl) (by kernel_rfl) (by kernel_rfl) (fun _ _ _ h => h) (Or.inl ⟨by kernel_rfl, ?_⟩) hHeld ?_
            · intro w' hSw; go_simp
            try simp only [Act.put, List.setIfInBounds_toArray, List.set_cons_zero, List.set_cons_succ, List.getElem_toArray, List.getElem_cons_succ, List.getElem_cons_zero]
            refine wpAnyH_take (i := 4) (v := .slice (some ⟨q, 0, none⟩) 4 4) rfl (by kernel_rfl) (by kernel_rfl) (by kernel_rfl) (fun _ _ _ h => h) (Or.inl ⟨by kernel_rfl, ?_⟩) hHeld ?_
            · intro w' hSw; go_simp
            try simp only [Act.put, List.setIfInBounds_toArray, List.set_cons_zero, List.set_cons_succ, List.getElem_toArray, List.getElem_cons_succ, List.getElem_cons_zero]
            refine wpAnyH_take (i := 5) (v := .int .i64 (i : Int)) rfl (by kernel_rfl) (by kernel_rfl) (by kernel_rfl) (fun _ _ _ h => h) (Or.inl ⟨by kernel_rfl, ?_⟩) hHeld ?_
            · intro w' hSw; go_simp
            try simp only [Act.put, List.setIfInBounds_toArray, List.set_cons_zero, List.set_cons_succ, List.getElem_toArray, List.getElem_cons_succ, List.getElem_cons_zero]
            refine wpAnyH_take (i := 6) (v := .pointer (some ⟨q, i, none⟩)) rfl (by kernel_rfl) (by kernel_rfl) (by kernel_rfl) (fun _ _ _ h => h) (Or.inl ⟨by kernel_rfl, ?_⟩) hHeld ?_
            · intro w' hSw; go_simp
            try simp only [Act.put, List.setIfInBounds_toArray, List.set_cons_zero, List.set_cons_succ, List.getElem_toArray, List.getElem_cons_succ, List.getElem_cons_zero]
            refine wpAnyH_take (i := 7) (v := .int .i64 (pt a b c d i)) rfl (by kernel_rfl) (by kernel_rfl) (by kernel_rfl) (fun _ _ _ h => h) (Or.inl ⟨by kernel_rfl, ?_⟩) hHeld ?_
            · intro w' hSw; obtain ⟨z0, z1⟩ := hSw; go_simp
            try simp only [Act.put, List.setIfInBounds_toArray, List.set_cons_zero, List.set_cons_succ, List.getElem_toArray, List.getElem_cons_succ, List.getElem_cons_zero]
            refine wpAnyH_take (i := 8) (v := .slice (some ⟨qy, 0, none⟩) 4 4) rfl (by kernel_rfl) (by kernel_rfl) (by kernel_rfl) (fun _ _ _ h => h) (Or.inl ⟨by kernel_rfl, ?_⟩) hHeld ?_
            · intro w' hSw; go_simp
            try simp only [Act.put, List.setIfInBounds_toArray, List.set_cons_zero, List.set_cons_succ, List.getElem_toArray, List.getElem_cons_succ, List.getElem_cons_zero]
            refine wpAnyH_take (i := 9) (v := .int .i64 (k : Int)) rfl (by kernel_rfl) (by kernel_rfl) (by kernel_rfl) (fun _ _ _ h => h) (Or.inl ⟨by kernel_rfl, ?_⟩) hHeld ?_
            · intro w' hSw; go_simp
            try simp only [Act.put, List.setIfInBounds_toArray, List.set_cons_zero, List.set_cons_succ, List.getElem_toArray, List.getElem_cons_succ, List.getElem_cons_zero]
            refine wpAnyH_take (i := 10) (v := .pointer (some ⟨qy, k, none⟩)) rfl (by kernel_rfl) (by kernel_rfl) (by kernel_rfl) (fun _ _ _ h => h) (Or.inl ⟨by kernel_rfl, ?_⟩) hHeld ?_
            · intro w' hSw; go_simp
            try simp only [Act.put, List.setIfInBounds_toArray, List.set_cons_zero, List.set_cons_succ, List.getElem_toArray, List.getElem_cons_succ, List.getElem_cons_zero]
            refine wpAnyH_take (i := 11) (v := .int .i64 (pt x y z u k)) rfl (by kernel_rfl) (by kernel_rfl) (by kernel_rfl) (fun _ _ _ h => h) (Or.inl ⟨by kernel_rfl, ?_⟩) hHeld ?_
            · intro w' hSw; obtain ⟨z0, z1⟩ := hSw; go_simp
            try simp only [Act.put, List.setIfInBounds_toArray, List.set_cons_zero, List.set_cons_succ, List.getElem_toArray, List.getElem_cons_succ, List.getElem_cons_zero]
            obtain ⟨e0, e1, e2⟩ : u0.cell? ⟨qw, 6, none⟩ = some (.int .i64 h) ∧ u0.cell? ⟨qw, 7, none⟩ = some (.int .i64 m) ∧ u0.cell? ⟨qw, 8, none⟩ = some (.int .i64 l) := G.2.1
            refine wpAnyH_ready (rs := [3]) (by kernel_rfl) (by simp) ?_
            refine AllReadyH.cons rfl (fun KK hK' => ?_) AllReadyH.nil
            go_simp
            clear e0 e1 e2
            clear hHeld
            refine hK'.out _ _ (sxy_of F hlt hlk) (fun hHeld => ?_)
            clear hK' KK
            try simp only [List.setIfInBounds_toArray, List.set_cons_zero, List.set_cons_succ]
            refine wpAnyH_ready (rs := [12]) (by kernel_rfl) (by simp) ?_
            refine AllReadyH.cons rfl (fun KK hK' => ?_) AllReadyH.nil
            go_simp
            refine (plus_small (s := 1) G.2.2.2.1 (by omega) (by omega) (by omega) (ia i hlt) (ix k hlk) _).mono ?_
            rintro e u1 ⟨h', m', l', rfl, hs', hv', bb⟩
            replace F := F.below bb
            replace G := G.below bb
            clear bb
            try go_wp2_with fail
            clear hHeld
            refine hK'.out _ _ (sxy_of F hlt hlk) (fun hHeld => ?_)
            clear hK' KK
            try simp only [List.setIfInBounds_toArray, List.set_cons_zero, List.set_cons_succ]
            refine wpAnyH_take (i := 13) (v := .pointer (some ⟨qw, 6, none⟩)) rfl (by kernel_rfl) (by kernel_rfl) (by kernel_rfl) (fun _ _ _ h => h) (Or.inl ⟨by kernel_rfl, ?_⟩) hHeld ?_
            · intro w' hSw; go_simp
            try simp only [Act.put, List.setIfInBounds_toArray, List.set_cons_zero, List.set_cons_succ, List.getElem_toArray, List.getElem_cons_succ, List.getElem_cons_zero]
            obtain ⟨g0, g1, g2⟩ : u1.frozen? ⟨qw, 6, none⟩ = false ∧ u1.frozen? ⟨qw, 7, none⟩ = false ∧ u1.frozen? ⟨qw, 8, none⟩ = false := G.2.2.1
            obtain ⟨e0, e1, e2⟩ : u1.cell? ⟨qw, 6, none⟩ = some (.int .i64 h) ∧ u1.cell? ⟨qw, 7, none⟩ = some (.int .i64 m) ∧ u1.cell? ⟨qw, 8, none⟩ = some (.int .i64 l) := G.2.1
            refine wpAnyH_ready (rs := [14]) (by kernel_rfl) (by simp) ?_
            refine AllReadyH.cons rfl (fun KK hK' => ?_) AllReadyH.nil
            go_simp
            obtain ⟨u2, hu2⟩ : ∃ u2, ((u1.setCell ⟨qw, 6, none⟩ (.int .i64 h')).setCell ⟨qw, 7, none⟩ (.int .i64 m')).setCell ⟨qw, 8, none⟩ (.int .i64 l') = u2 := ⟨_, rfl⟩
            rw [hu2]
            have F2 : Fm w q qy qw a b c d x y z u u2 := hu2 ▸ ((F.set (i := 6) _).set (i := 7) _).set (i := 8) _
            have Y := G.1.put 2 (by decide) hs'
            rw [hv', G.2.2.2.2, show World.setCell _ _ _ = u2 from hu2] at Y
            clear hu2 F G e0 e1 e2 g0 g1 g2 hs' hv'
            have F := F2
            clear F2
            clear hHeld
            refine hK'.out _ _ (sxy_of F hlt hlk) (fun hHeld => ?_)
            clear hK' KK
            try simp only [List.setIfInBounds_toArray, List.set_cons_zero, List.set_cons_succ]
            refine wpAnyH_done (by kernel_rfl) ?_ _
            clear hHeld
            go_wp2_with fail
            obtain ⟨h, m, l, G⟩ := Y.look 0 (by decide)
            clear Y
            obtain ⟨u0, hu0, bb⟩ : ∃ u0, u2.drew = u0 ∧ Below u2.heap.size u2 u0 := ⟨_, rfl, (Below.refl _ _).drew⟩
            replace F := F.below bb
            replace G := G.below bb
            clear bb
            refine wp_region_held_drew (S := Sxy q qy i k (pt a b c d i) (pt x y z u k)) (by kernel_rfl) (by rw [hu0]; exact sxy_of F hlt hlk) (fun hHeld => ?_)
            rw [hu0] at hHeld ⊢
            clear hu0
            change wpAnyH _ _ _ _ _ 15 #[false, false, false, false, false, false, false, false, false, false, false, false, false, false, false] _ _
            refine wpAnyH_take (i := 0) (v := .slice (some ⟨qw, 0, none⟩) 4 4) rfl (by kernel_rfl) (by kernel_rfl) (by kernel_rfl) (fun _ _ _ h => h) (Or.inl ⟨by kernel_rfl, ?_⟩) hHeld ?_
            · intro w' hSw; go_simp
            try simp only [Act.put, List.setIfInBounds_toArray, List.set_cons_zero, List.set_cons_succ, List.getElem_toArray, List.getElem_cons_zero]
            refine wpAnyH_take (i := 1) (v := .slice (some ⟨qw, 0, none⟩) 4 4) rfl (by kernel_rfl) (by kernel_rfl) (by kernel_rfl) (fun _ _ _ h => h) (Or.inl ⟨by kernel_rfl, ?_⟩) hHeld ?_
            · intro w' hSw; go_simp
            try simp only [Act.put, List.setIfInBounds_toArray, List.set_cons_zero, List.set_cons_succ, List.getElem_toArray, List.getElem_cons_succ, List.getElem_cons_zero]
            refine wpAnyH_take (i := 2) (v := .pointer (some ⟨qw, 0, none⟩)) rfl (by kernel_rfl) (by kernel_rfl) (by kernel_rfl) (fun _ _ _ h => h) (Or.inl ⟨by kernel_rfl, ?_⟩) hHeld ?_
            · intro w' hSw; go_simp
            try simp only [Act.put, List.setIfInBounds_toArray, List.set_cons_zero, List.set_cons_succ, List.getElem_toArray, List.getElem_cons_succ, List.getElem_cons_zero]
            refine wpAnyH_take (i := 4) (v := .slice (some ⟨q, 0, none⟩) 4 4) rfl (by kernel_rfl) (by kernel_rfl) (by kernel_rfl) (fun _ _ _ h => h) (Or.inl ⟨by kernel_rfl, ?_⟩) hHeld ?_
            · intro w' hSw; go_simp
            try simp only [Act.put, List.setIfInBounds_toArray, List.set_cons_zero, List.set_cons_succ, List.getElem_toArray, List.getElem_cons_succ, List.getElem_cons_zero]
            refine wpAnyH_take (i := 5) (v := .int .i64 (i : Int)) rfl (by kernel_rfl) (by kernel_rfl) (by kernel_rfl) (fun _ _ _ h => h) (Or.inl ⟨by kernel_rfl, ?_⟩) hHeld ?_
            · intro w' hSw; go_simp
            try simp only [Act.put, List.setIfInBounds_toArray, List.set_cons_zero, List.set_cons_succ, List.getElem_toArray, List.getElem_cons_succ, List.getElem_cons_zero]
            refine wpAnyH_take (i := 6) (v := .pointer (some ⟨q, i, none⟩)) rfl (by kernel_rfl) (by kernel_rfl) (by kernel_rfl) (fun _ _ _ h => h) (Or.inl ⟨by kernel_rfl, ?_⟩) hHeld ?_
            · intro w' hSw; go_simp
            try simp only [Act.put, List.setIfInBounds_toArray, List.set_cons_zero, List.set_cons_succ, List.getElem_toArray, List.getElem_cons_succ, List.getElem_cons_zero]
            refine wpAnyH_take (i := 7) (v := .int .i64 (pt a b c d i)) rfl (by kernel_rfl) (by kernel_rfl) (by kernel_rfl) (fun _ _ _ h => h) (Or.inl ⟨by kernel_rfl, ?_⟩) hHeld ?_
            · intro w' hSw; obtain ⟨z0, z1⟩ := hSw; go_simp
            try simp only [Act.put, List.setIfInBounds_toArray, List.set_cons_zero, List.set_cons_succ, List.getElem_toArray, List.getElem_cons_succ, List.getElem_cons_zero]
            refine wpAnyH_take (i := 8) (v := .slice (some ⟨qy, 0, none⟩) 4 4) rfl (by kernel_rfl) (by kernel_rfl) (by kernel_rfl) (fun _ _ _ h => h) (Or.inl ⟨by kernel_rfl, ?_⟩) hHeld ?_
            · intro w' hSw; go_simp
            try simp only [Act.put, List.setIfInBounds_toArray, List.set_cons_zero, List.set_cons_succ, List.getElem_toArray, List.getElem_cons_succ, List.getElem_cons_zero]
            refine wpAnyH_take (i := 9) (v := .int .i64 (k : Int)) rfl (by kernel_rfl) (by kernel_rfl) (by kernel_rfl) (fun _ _ _ h => h) (Or.inl ⟨by kernel_rfl, ?_⟩) hHeld ?_
            · intro w' hSw; go_simp
            try simp only [Act.put, List.setIfInBounds_toArray, List.set_cons_zero, List.set_cons_succ, List.getElem_toArray, List.getElem_cons_succ, List.getElem_cons_zero]
            refine wpAnyH_take (i := 10) (v := .pointer (some ⟨qy, k, none⟩)) rfl (by kernel_rfl) (by kernel_rfl) (by kernel_rfl) (fun _ _ _ h => h) (Or.inl ⟨by kernel_rfl, ?_⟩) hHeld ?_
            · intro w' hSw; go_simp
            try simp only [Act.put, List.setIfInBounds_toArray, List.set_cons_zero, List.set_cons_succ, List.getElem_toArray, List.getElem_cons_succ, List.getElem_cons_zero]
            refine wpAnyH_take (i := 11) (v := .int .i64 (pt x y z u k)) rfl (by kernel_rfl) (by kernel_rfl) (by kernel_rfl) (fun _ _ _ h => h) (Or.inl ⟨by kernel_rfl, ?_⟩) hHeld ?_
            · intro w' hSw; obtain ⟨z0, z1⟩ := hSw; go_simp
            try simp only [Act.put, List.setIfInBounds_toArray, List.set_cons_zero, List.set_cons_succ, List.getElem_toArray, List.getElem_cons_succ, List.getElem_cons_zero]
            obtain ⟨e0, e1, e2⟩ : u0.cell? ⟨qw, 0, none⟩ = some (.int .i64 h) ∧ u0.cell? ⟨qw, 1, none⟩ = some (.int .i64 m) ∧ u0.cell? ⟨qw, 2, none⟩ = some (.int .i64 l) := G.2.1
            refine wpAnyH_ready (rs := [3]) (by kernel_rfl) (by simp) ?_
            refine AllReadyH.cons rfl (fun KK hK' => ?_) AllReadyH.nil
            go_simp
            clear e0 e1 e2
            clear hHeld
            refine hK'.out _ _ (sxy_of F hlt hlk) (fun hHeld => ?_)
            clear hK' KK
            try simp only [List.setIfInBounds_toArray, List.set_cons_zero, List.set_cons_succ]
            refine wpAnyH_ready (rs := [12]) (by kernel_rfl) (by simp) ?_
            refine AllReadyH.cons rfl (fun KK hK' => ?_) AllReadyH.nil
            go_simp
            refine (plus_small (s := (-1)) G.2.2.2.1 (by omega) (by omega) (by omega) (ia i hlt) (ix k hlk) _).mono ?_
            rintro e u1 ⟨h', m', l', rfl, hs', hv', bb⟩
            replace F := F.below bb
            replace G := G.below bb
            clear bb
            try go_wp2_with fail
            clear hHeld
            refine hK'.out _ _ (sxy_of F hlt hlk) (fun hHeld => ?_)
            clear hK' KK
            try simp only [List.setIfInBounds_toArray, List.set_cons_zero, List.set_cons_succ]
            refine wpAnyH_take (i := 13) (v := .pointer (some ⟨qw, 0, none⟩)) rfl (by kernel_rfl) (by kernel_rfl) (by kernel_rfl) (fun _ _ _ h => h) (Or.inl ⟨by kernel_rfl, ?_⟩) hHeld ?_
            · intro w' hSw; go_simp
            try simp only [Act.put, List.setIfInBounds_toArray, List.set_cons_zero, List.set_cons_succ, List.getElem_toArray, List.getElem_cons_succ, List.getElem_cons_zero]
            obtain ⟨g0, g1, g2⟩ : u1.frozen? ⟨qw, 0, none⟩ = false ∧ u1.frozen? ⟨qw, 1, none⟩ = false ∧ u1.frozen? ⟨qw, 2, none⟩ = false := G.2.2.1
            obtain ⟨e0, e1, e2⟩ : u1.cell? ⟨qw, 0, none⟩ = some (.int .i64 h) ∧ u1.cell? ⟨qw, 1, none⟩ = some (.int .i64 m) ∧ u1.cell? ⟨qw, 2, none⟩ = some (.int .i64 l) := G.2.1
            refine wpAnyH_ready (rs := [14]) (by kernel_rfl) (by simp) ?_
            refine AllReadyH.cons rfl (fun KK hK' => ?_) AllReadyH.nil
            go_simp
            obtain ⟨u2, hu2⟩ : ∃ u2, ((u1.setCell ⟨qw, 0, none⟩ (.int .i64 h')).setCell ⟨qw, 1, none⟩ (.int .i64 m')).setCell ⟨qw, 2, none⟩ (.int .i64 l') = u2 := ⟨_, rfl⟩
            rw [hu2]
            have F2 : Fm w q qy qw a b c d x y z u u2 := hu2 ▸ ((F.set (i := 0) _).set (i := 1) _).set (i := 2) _
            have Y := G.1.put 0 (by decide) hs'
            rw [hv', G.2.2.2.2, show World.setCell _ _ _ = u2 from hu2] at Y
            clear hu2 F G e0 e1 e2 g0 g1 g2 hs' hv'
            have F := F2
            clear F2
            clear hHeld
            refine hK'.out _ _ (sxy_of F hlt hlk) (fun hHeld => ?_)
            clear hK' KK
            try simp only [List.setIfInBounds_toArray, List.set_cons_zero, List.set_cons_succ]
            refine wpAnyH_done (by kernel_rfl) ?_ _
            clear hHeld
            go_wp2
            refine ⟨⟨k + 1, by omega, by go_num, F, Y.congr (by omega) fun j hj => ?_⟩, by simp [intOf]; omega⟩
            refine Eq.trans ?_ (round_at a b c d x y z u i k hlk j).symm
            rw [show i + k = 4 by omega]
            generalize pt a b c d i * pt x y z u k = t
            rcases (by omega : j = 0 ∨ j = 1 ∨ j = 2 ∨ j = 3) with rfl | rfl | rfl | rfl <;> simp [rp] <;> omega
          · have h4 : ¬ (i : Int) + (k : Int) = 4 := by omega
            go_wp2_with fail
            obtain ⟨h, m, l, G⟩ := Y.look 3 (by decide)
            clear Y
            obtain ⟨u0, hu0, bb⟩ : ∃ u0, wr.drew = u0 ∧ Below wr.heap.size wr u0 := ⟨_, rfl, (Below.refl _ _).drew⟩
            replace F := F.below bb
            replace G := G.below bb
            clear bb
            refine wp_region_held_drew (S := Sxy q qy i k (pt a b c d i) (pt x y z u k)) (by kernel_rfl) (by rw [hu0]; exact sxy_of F hlt hlk) (fun hHeld => ?_)
            rw [hu0] at hHeld ⊢
            clear hu0
            change wpAnyH _ _ _ _ _ 15 #[false, false, false, false, false, false, false, false, false, false, false, false, false, false, false] _ _
            refine wpAnyH_take (i := 0) (v := .slice (some ⟨qw, 0, none⟩) 4 4) rfl (by kernel_rfl) (by kernel_rfl) (by kernel_rfl) (fun _ _ _ h => h) (Or.inl ⟨by kernel_rfl, ?_⟩) hHeld ?_
            · intro w' hSw; go_simp
            try simp only [Act.put, List.setIfInBounds_toArray, List.set_cons_zero, List.set_cons_succ, List.getElem_toArray, List.getElem_cons_zero]
            refine wpAnyH_take (i := 1) (v := .slice (some ⟨qw, 0, none⟩) 4 4) rfl (by kernel_rfl) (by kernel_rfl) (by kernel_rfl) (fun _ _ _ h => h) (Or.inl ⟨by kernel_rfl, ?_⟩) hHeld ?_
            · intro w' hSw; go_simp
            try simp only [Act.put, List.setIfInBounds_toArray, List.set_cons_zero, List.set_cons_succ, List.getElem_toArray, List.getElem_cons_succ, List.getElem_cons_zero]
            refine wpAnyH_take (i := 2) (v := .pointer (some ⟨qw, 9, none⟩)) rfl (by kernel_rfl) (by kernel_rfl) (by kernel_rfl) (fun _ _ _ h => h) (Or.inl ⟨by kernel_rfl, ?_⟩) hHeld ?_
            · intro w' hSw; go_simp
            try simp only [Act.put, List.setIfInBounds_toArray, List.set_cons_zero, List.set_cons_succ, List.getElem_toArray, List.getElem_cons_succ, List.getElem_cons_zero]
            refine wpAnyH_take (i := 4) (v := .slice (some ⟨q, 0, none⟩) 4 4) rfl (by kernel_rfl) (by kernel_rfl) (by kernel_rfl) (fun _ _ _ h => h) (Or.inl ⟨by kernel_rfl, ?_⟩) hHeld ?_
            · intro w' hSw; go_simp
            try simp only [Act.put, List.setIfInBounds_toArray, List.set_cons_zero, List.set_cons_succ, List.getElem_toArray, List.getElem_cons_succ, List.getElem_cons_zero]
            refine wpAnyH_take (i := 5) (v := .int .i64 (i : Int)) rfl (by kernel_rfl) (by kernel_rfl) (by kernel_rfl) (fun _ _ _ h => h) (Or.inl ⟨by kernel_rfl, ?_⟩) hHeld ?_
            · intro w' hSw; go_simp
            try simp only [Act.put, List.setIfInBounds_toArray, List.set_cons_zero, List.set_cons_succ, List.getElem_toArray, List.getElem_cons_succ, List.getElem_cons_zero]
            refine wpAnyH_take (i := 6) (v := .pointer (some ⟨q, i, none⟩)) rfl (by kernel_rfl) (by kernel_rfl) (by kernel_rfl) (fun _ _ _ h => h) (Or.inl ⟨by kernel_rfl, ?_⟩) hHeld ?_
            · intro w' hSw; go_simp
            try simp only [Act.put, List.setIfInBounds_toArray, List.set_cons_zero, List.set_cons_succ, List.getElem_toArray, List.getElem_cons_succ, List.getElem_cons_zero]
            refine wpAnyH_take (i := 7) (v := .int .i64 (pt a b c d i)) rfl (by kernel_rfl) (by kernel_rfl) (by kernel_rfl) (fun _ _ _ h => h) (Or.inl ⟨by kernel_rfl, ?_⟩) hHeld ?_
            · intro w' hSw; obtain ⟨z0, z1⟩ := hSw; go_simp
            try simp only [Act.put, List.setIfInBounds_toArray, List.set_cons_zero, List.set_cons_succ, List.getElem_toArray, List.getElem_cons_succ, List.getElem_cons_zero]
            refine wpAnyH_take (i := 8) (v := .slice (some ⟨qy, 0, none⟩) 4 4) rfl (by kernel_rfl) (by kernel_rfl) (by kernel_rfl) (fun _ _ _ h => h) (Or.inl ⟨by kernel_rfl, ?_⟩) hHeld ?_
            · intro w' hSw; go_simp
            try simp only [Act.put, List.setIfInBounds_toArray, List.set_cons_zero, List.set_cons_succ, List.getElem_toArray, List.getElem_cons_succ, List.getElem_cons_zero]
            refine wpAnyH_take (i := 9) (v := .int .i64 (k : Int)) rfl (by kernel_rfl) (by kernel_rfl) (by kernel_rfl) (fun _ _ _ h => h) (Or.inl ⟨by kernel_rfl, ?_⟩) hHeld ?_
            · intro w' hSw; go_simp
            try simp only [Act.put, List.setIfInBounds_toArray, List.set_cons_zero, List.set_cons_succ, List.getElem_toArray, List.getElem_cons_succ, List.getElem_cons_zero]
            refine wpAnyH_take (i := 10) (v := .pointer (some ⟨qy, k, none⟩)) rfl (by kernel_rfl) (by kernel_rfl) (by kernel_rfl) (fun _ _ _ h => h) (Or.inl ⟨by kernel_rfl, ?_⟩) hHeld ?_
            · intro w' hSw; go_simp
            try simp only [Act.put, List.setIfInBounds_toArray, List.set_cons_zero, List.set_cons_succ, List.getElem_toArray, List.getElem_cons_succ, List.getElem_cons_zero]
            refine wpAnyH_take (i := 11) (v := .int .i64 (pt x y z u k)) rfl (by kernel_rfl) (by kernel_rfl) (by kernel_rfl) (fun _ _ _ h => h) (Or.inl ⟨by kernel_rfl, ?_⟩) hHeld ?_
            · intro w' hSw; obtain ⟨z0, z1⟩ := hSw; go_simp
            try simp only [Act.put, List.setIfInBounds_toArray, List.set_cons_zero, List.set_cons_succ, List.getElem_toArray, List.getElem_cons_succ, List.getElem_cons_zero]
            obtain ⟨e0, e1, e2⟩ : u0.cell? ⟨qw, 9, none⟩ = some (.int .i64 h) ∧ u0.cell? ⟨qw, 10, none⟩ = some (.int .i64 m) ∧ u0.cell? ⟨qw, 11, none⟩ = some (.int .i64 l) := G.2.1
            refine wpAnyH_ready (rs := [3]) (by kernel_rfl) (by simp) ?_
            refine AllReadyH.cons rfl (fun KK hK' => ?_) AllReadyH.nil
            go_simp
            clear e0 e1 e2
            clear hHeld
            refine hK'.out _ _ (sxy_of F hlt hlk) (fun hHeld => ?_)
            clear hK' KK
            try simp only [List.setIfInBounds_toArray, List.set_cons_zero, List.set_cons_succ]
            refine wpAnyH_ready (rs := [12]) (by kernel_rfl) (by simp) ?_
            refine AllReadyH.cons rfl (fun KK hK' => ?_) AllReadyH.nil
            go_simp
            refine (plus_small (s := 1) G.2.2.2.1 (by omega) (by omega) (by omega) (ia i hlt) (ix k hlk) _).mono ?_
            rintro e u1 ⟨h', m', l', rfl, hs', hv', bb⟩
            replace F := F.below bb
            replace G := G.below bb
            clear bb
            try go_wp2_with fail
            clear hHeld
            refine hK'.out _ _ (sxy_of F hlt hlk) (fun hHeld => ?_)
            clear hK' KK
            try simp only [List.setIfInBounds_toArray, List.set_cons_zero, List.set_cons_succ]
            refine wpAnyH_take (i := 13) (v := .pointer (some ⟨qw, 9, none⟩)) rfl (by kernel_rfl) (by kernel_rfl) (by kernel_rfl) (fun _ _ _ h => h) (Or.inl ⟨by kernel_rfl, ?_⟩) hHeld ?_
            · intro w' hSw; go_simp
            try simp only [Act.put, List.setIfInBounds_toArray, List.set_cons_zero, List.set_cons_succ, List.getElem_toArray, List.getElem_cons_succ, List.getElem_cons_zero]
            obtain ⟨g0, g1, g2⟩ : u1.frozen? ⟨qw, 9, none⟩ = false ∧ u1.frozen? ⟨qw, 10, none⟩ = false ∧ u1.frozen? ⟨qw, 11, none⟩ = false := G.2.2.1
            obtain ⟨e0, e1, e2⟩ : u1.cell? ⟨qw, 9, none⟩ = some (.int .i64 h) ∧ u1.cell? ⟨qw, 10, none⟩ = some (.int .i64 m) ∧ u1.cell? ⟨qw, 11, none⟩ = some (.int .i64 l) := G.2.1
            refine wpAnyH_ready (rs := [14]) (by kernel_rfl) (by simp) ?_
            refine AllReadyH.cons rfl (fun KK hK' => ?_) AllReadyH.nil
            go_simp
            obtain ⟨u2, hu2⟩ : ∃ u2, ((u1.setCell ⟨qw, 9, none⟩ (.int .i64 h')).setCell ⟨qw, 10, none⟩ (.int .i64 m')).setCell ⟨qw, 11, none⟩ (.int .i64 l') = u2 := ⟨_, rfl⟩
            rw [hu2]
            have F2 : Fm w q qy qw a b c d x y z u u2 := hu2 ▸ ((F.set (i := 9) _).set (i := 10) _).set (i := 11) _
            have Y := G.1.put 3 (by decide) hs'
            rw [hv', G.2.2.2.2, show World.setCell _ _ _ = u2 from hu2] at Y
            clear hu2 F G e0 e1 e2 g0 g1 g2 hs' hv'
            have F := F2
            clear F2
            clear hHeld
            refine hK'.out _ _ (sxy_of F hlt hlk) (fun hHeld => ?_)
            clear hK' KK
            try simp only [List.setIfInBounds_toArray, List.set_cons_zero, List.set_cons_succ]
            refine wpAnyH_done (by kernel_rfl) ?_ _
            clear hHeld
            go_wp2_with fail
            obtain ⟨h, m, l, G⟩ := Y.look 1 (by decide)
            clear Y
            obtain ⟨u0, hu0, bb⟩ : ∃ u0, u2.drew = u0 ∧ Below u2.heap.size u2 u0 := ⟨_, rfl, (Below.refl _ _).drew⟩
            replace F := F.below bb
            replace G := G.below bb
            clear bb
            refine wp_region_held_drew (S := Sxy q qy i k (pt a b c d i) (pt x y z u k)) (by kernel_rfl) (by rw [hu0]; exact sxy_of F hlt hlk) (fun hHeld => ?_)
            rw [hu0] at hHeld ⊢
            clear hu0
            change wpAnyH _ _ _ _ _ 15 #[false, false, false, false, false, false, false, false, false, false, false, false, false, false, false] _ _
            refine wpAnyH_take (i := 0) (v := .slice (some ⟨qw, 0, none⟩) 4 4) rfl (by kernel_rfl) (by kernel_rfl) (by kernel_rfl) (fun _ _ _ h => h) (Or.inl ⟨by kernel_rfl, ?_⟩) hHeld ?_
            · intro w' hSw; go_simp
            try simp only [Act.put, List.setIfInBounds_toArray, List.set_cons_zero, List.set_cons_succ, List.getElem_toArray, List.getElem_cons_zero]
            refine wpAnyH_take (i := 1) (v := .slice (some ⟨qw, 0, none⟩) 4 4) rfl (by kernel_rfl) (by kernel_rfl) (by kernel_rfl) (fun _ _ _ h => h) (Or.inl ⟨by kernel_rfl, ?_⟩) hHeld ?_
            · intro w' hSw; go_simp
            try simp only [Act.put, List.setIfInBounds_toArray, List.set_cons_zero, List.set_cons_succ, List.getElem_toArray, List.getElem_cons_succ, List.getElem_cons_zero]
            refine wpAnyH_take (i := 2) (v := .pointer (some ⟨qw, 3, none⟩)) rfl (by kernel_rfl) (by kernel_rfl) (by kernel_rfl) (fun _ _ _ h => h) (Or.inl ⟨by kernel_rfl, ?_⟩) hHeld ?_
            · intro w' hSw; go_simp
            try simp only [Act.put, List.setIfInBounds_toArray, List.set_cons_zero, List.set_cons_succ, List.getElem_toArray, List.getElem_cons_succ, List.getElem_cons_zero]
            refine wpAnyH_take (i := 4) (v := .slice (some ⟨q, 0, none⟩) 4 4) rfl (by kernel_rfl) (by kernel_rfl) (by kernel_rfl) (fun _ _ _ h => h) (Or.inl ⟨by kernel_rfl, ?_⟩) hHeld ?_
            · intro w' hSw; go_simp
            try simp only [Act.put, List.setIfInBounds_toArray, List.set_cons_zero, List.set_cons_succ, List.getElem_toArray, List.getElem_cons_succ, List.getElem_cons_zero]
            refine wpAnyH_take (i := 5) (v := .int .i64 (i : Int)) rfl (by kernel_rfl) (by kernel_rfl) (by kernel_rfl) (fun _ _ _ h => h) (Or.inl ⟨by kernel_rfl, ?_⟩) hHeld ?_
            · intro w' hSw; go_simp
            try simp only [Act.put, List.setIfInBounds_toArray, List.set_cons_zero, List.set_cons_succ, List.getElem_toArray, List.getElem_cons_succ, List.getElem_cons_zero]
            refine wpAnyH_take (i := 6) (v := .pointer (some ⟨q, i, none⟩)) rfl (by kernel_rfl) (by kernel_rfl) (by kernel_rfl) (fun _ _ _ h => h) (Or.inl ⟨by kernel_rfl, ?_⟩) hHeld ?_
            · intro w' hSw; go_simp
            try simp only [Act.put, List.setIfInBounds_toArray, List.set_cons_zero, List.set_cons_succ, List.getElem_toArray, List.getElem_cons_succ, List.getElem_cons_zero]
            refine wpAnyH_take (i := 7) (v := .int .i64 (pt a b c d i)) rfl (by kernel_rfl) (by kernel_rfl) (by kernel_rfl) (fun _ _ _ h => h) (Or.inl ⟨by kernel_rfl, ?_⟩) hHeld ?_
            · intro w' hSw; obtain ⟨z0, z1⟩ := hSw; go_simp
            try simp only [Act.put, List.setIfInBounds_toArray, List.set_cons_zero, List.set_cons_succ, List.getElem_toArray, List.getElem_cons_succ, List.getElem_cons_zero]
            refine wpAnyH_take (i := 8) (v := .slice (some ⟨qy, 0, none⟩) 4 4) rfl (by kernel_rfl) (by kernel_rfl) (by kernel_rfl) (fun _ _ _ h => h) (Or.inl ⟨by kernel_rfl, ?_⟩) hHeld ?_
            · intro w' hSw; go_simp
            try simp only [Act.put, List.setIfInBounds_toArray, List.set_cons_zero, List.set_cons_succ, List.getElem_toArray, List.getElem_cons_succ, List.getElem_cons_zero]
            refine wpAnyH_take (i := 9) (v := .int .i64 (k : Int)) rfl (by kernel_rfl) (by kernel_rfl) (by kernel_rfl) (fun _ _ _ h => h) (Or.inl ⟨by kernel_rfl, ?_⟩) hHeld ?_
            · intro w' hSw; go_simp
            try simp only [Act.put, List.setIfInBounds_toArray, List.set_cons_zero, List.set_cons_succ, List.getElem_toArray, List.getElem_cons_succ, List.getElem_cons_zero]
            refine wpAnyH_take (i := 10) (v := .pointer (some ⟨qy, k, none⟩)) rfl (by kernel_rfl) (by kernel_rfl) (by kernel_rfl) (fun _ _ _ h => h) (Or.inl ⟨by kernel_rfl, ?_⟩) hHeld ?_
            · intro w' hSw; go_simp
            try simp only [Act.put, List.setIfInBounds_toArray, List.set_cons_zero, List.set_cons_succ, List.getElem_toArray, List.getElem_cons_succ, List.getElem_cons_zero]
            refine wpAnyH_take (i := 11) (v := .int .i64 (pt x y z u k)) rfl (by kernel_rfl) (by kernel_rfl) (by kernel_rfl) (fun _ _ _ h => h) (Or.inl ⟨by kernel_rfl, ?_⟩) hHeld ?_
            · intro w' hSw; obtain ⟨z0, z1⟩ := hSw; go_simp
            try simp only [Act.put, List.setIfInBounds_toArray, List.set_cons_zero, List.set_cons_succ, List.getElem_toArray, List.getElem_cons_succ, List.getElem_cons_zero]
            obtain ⟨e0, e1, e2⟩ : u0.cell? ⟨qw, 3, none⟩ = some (.int .i64 h) ∧ u0.cell? ⟨qw, 4, none⟩ = some (.int .i64 m) ∧ u0.cell? ⟨qw, 5, none⟩ = some (.int .i64 l) := G.2.1
            refine wpAnyH_ready (rs := [3]) (by kernel_rfl) (by simp) ?_
            refine AllReadyH.cons rfl (fun KK hK' => ?_) AllReadyH.nil
            go_simp
            clear e0 e1 e2
            clear hHeld
            refine hK'.out _ _ (sxy_of F hlt hlk) (fun hHeld => ?_)
            clear hK' KK
            try simp only [List.setIfInBounds_toArray, List.set_cons_zero, List.set_cons_succ]
            refine wpAnyH_ready (rs := [12]) (by kernel_rfl) (by simp) ?_
            refine AllReadyH.cons rfl (fun KK hK' => ?_) AllReadyH.nil
            go_simp
            refine (plus_small (s := (-1)) G.2.2.2.1 (by omega) (by omega) (by omega) (ia i hlt) (ix k hlk) _).mono ?_
            rintro e u1 ⟨h', m', l', rfl, hs', hv', bb⟩
            replace F := F.below bb
            replace G := G.below bb
            clear bb
            try go_wp2_with fail
            clear hHeld
            refine hK'.out _ _ (sxy_of F hlt hlk) (fun hHeld => ?_)
            clear hK' KK
            try simp only [List.setIfInBounds_toArray, List.set_cons_zero, List.set_cons_succ]
            refine wpAnyH_take (i := 13) (v := .pointer (some ⟨qw, 3, none⟩)) rfl (by kernel_rfl) (by kernel_rfl) (by kernel_rfl) (fun _ _ _ h => h) (Or.inl ⟨by kernel_rfl, ?_⟩) hHeld ?_
            · intro w' hSw; go_simp
            try simp only [Act.put, List.setIfInBounds_toArray, List.set_cons_zero, List.set_cons_succ, List.getElem_toArray, List.getElem_cons_succ, List.getElem_cons_zero]
            obtain ⟨g0, g1, g2⟩ : u1.frozen? ⟨qw, 3, none⟩ = false ∧ u1.frozen? ⟨qw, 4, none⟩ = false ∧ u1.frozen? ⟨qw, 5, none⟩ = false := G.2.2.1
            obtain ⟨e0, e1, e2⟩ : u1.cell? ⟨qw, 3, none⟩ = some (.int .i64 h) ∧ u1.cell? ⟨qw, 4, none⟩ = some (.int .i64 m) ∧ u1.cell? ⟨qw, 5, none⟩ = some (.int .i64 l) := G.2.1
            refine wpAnyH_ready (rs := [14]) (by kernel_rfl) (by simp) ?_
            refine AllReadyH.cons rfl (fun KK hK' => ?_) AllReadyH.nil
            go_simp
            obtain ⟨u2, hu2⟩ : ∃ u2, ((u1.setCell ⟨qw, 3, none⟩ (.int .i64 h')).setCell ⟨qw, 4, none⟩ (.int .i64 m')).setCell ⟨qw, 5, none⟩ (.int .i64 l') = u2 := ⟨_, rfl⟩
            rw [hu2]
            have F2 : Fm w q qy qw a b c d x y z u u2 := hu2 ▸ ((F.set (i := 3) _).set (i := 4) _).set (i := 5) _
            have Y := G.1.put 1 (by decide) hs'
            rw [hv', G.2.2.2.2, show World.setCell _ _ _ = u2 from hu2] at Y
            clear hu2 F G e0 e1 e2 g0 g1 g2 hs' hv'
            have F := F2
            clear F2
            clear hHeld
            refine hK'.out _ _ (sxy_of F hlt hlk) (fun hHeld => ?_)
            clear hK' KK
            try simp only [List.setIfInBounds_toArray, List.set_cons_zero, List.set_cons_succ]
            refine wpAnyH_done (by kernel_rfl) ?_ _
            clear hHeld
            go_wp2
            refine ⟨⟨k + 1, by omega, by go_num, F, Y.congr (by omega) fun j hj => ?_⟩, by simp [intOf]; omega⟩
            refine Eq.trans ?_ (round_at a b c d x y z u i k hlk j).symm
            rw [show i + k = 5 by omega]
            generalize pt a b c d i * pt x y z u k = t
            rcases (by omega : j = 0 ∨ j = 1 ∨ j = 2 ∨ j = 3) with rfl | rfl | rfl | rfl <;> simp [rp] <;> omega
          · have h4 : ¬ (i : Int) + (k : Int) = 4 := by omega
            have h5 : ¬ (i : Int) + (k : Int) = 5 := by omega
            go_wp2_with fail
            obtain ⟨h, m, l, G⟩ := Y.look 0 (by decide)
            clear Y
            obtain ⟨u0, hu0, bb⟩ : ∃ u0, wr.drew = u0 ∧ Below wr.heap.size wr u0 := ⟨_, rfl, (Below.refl _ _).drew⟩
            replace F := F.below bb
            replace G := G.below bb
            clear bb
            refine wp_region_held_drew (S := Sxy q qy i k (pt a b c d i) (pt x y z u k)) (by kernel_rfl) (by rw [hu0]; exact sxy_of F hlt hlk) (fun hHeld => ?_)
            rw [hu0] at hHeld ⊢
            clear hu0
            change wpAnyH _ _ _ _ _ 15 #[false, false, false, false, false, false, false, false, false, false, false, false, false, false, false] _ _
            refine wpAnyH_take (i := 0) (v := .slice (some ⟨qw, 0, none⟩) 4 4) rfl (by kernel_rfl) (by kernel_rfl) (by kernel_rfl) (fun _ _ _ h => h) (Or.inl ⟨by kernel_rfl, ?_⟩) hHeld ?_
            · intro w' hSw; go_simp
            try simp only [Act.put, List.setIfInBounds_toArray, List.set_cons_zero, List.set_cons_succ, List.getElem_toArray, List.getElem_cons_zero]
            refine wpAnyH_take (i := 1) (v := .slice (some ⟨qw, 0, none⟩) 4 4) rfl (by kernel_rfl) (by kernel_rfl) (by kernel_rfl) (fun _ _ _ h => h) (Or.inl ⟨by kernel_rfl, ?_⟩) hHeld ?_
            · intro w' hSw; go_simp
            try simp only [Act.put, List.setIfInBounds_toArray, List.set_cons_zero, List.set_cons_succ, List.getElem_toArray, List.getElem_cons_succ, List.getElem_cons_zero]
            refine wpAnyH_take (i := 2) (v := .pointer (some ⟨qw, 0, none⟩)) rfl (by kernel_rfl) (by kernel_rfl) (by kernel_rfl) (fun _ _ _ h => h) (Or.inl ⟨by kernel_rfl, ?_⟩) hHeld ?_
            · intro w' hSw; go_simp
            try simp only [Act.put, List.setIfInBounds_toArray, List.set_cons_zero, List.set_cons_succ, List.getElem_toArray, List.getElem_cons_succ, List.getElem_cons_zero]
            refine wpAnyH_take (i := 4) (v := .slice (some ⟨q, 0, none⟩) 4 4) rfl (by kernel_rfl) (by kernel_rfl) (by kernel_rfl) (fun _ _ _ h => h) (Or.inl ⟨by kernel_rfl, ?_⟩) hHeld ?_
            · intro w' hSw; go_simp
            try simp only [Act.put, List.setIfInBounds_toArray, List.set_cons_zero, List.set_cons_succ, List.getElem_toArray, List.getElem_cons_succ, List.getElem_cons_zero]
            refine wpAnyH_take (i := 5) (v := .int .i64 (i : Int)) rfl (by kernel_rfl) (by kernel_rfl) (by kernel_rfl) (fun _ _ _ h => h) (Or.inl ⟨by kernel_rfl, ?_⟩) hHeld ?_
            · intro w' hSw; go_simp
            try simp only [Act.put, List.setIfInBounds_toArray, List.set_cons_zero, List.set_cons_succ, List.getElem_toArray, List.getElem_cons_succ, List.getElem_cons_zero]
            refine wpAnyH_take (i := 6) (v := .pointer (some ⟨q, i, none⟩)) rfl (by kernel_rfl) (by kernel_rfl) (by kernel_rfl) (fun _ _ _ h => h) (Or.inl ⟨by kernel_rfl, ?_⟩) hHeld ?_
            · intro w' hSw; go_simp
            try simp only [Act.put, List.setIfInBounds_toArray, List.set_cons_zero, List.set_cons_succ, List.getElem_toArray, List.getElem_cons_succ, List.getElem_cons_zero]
            refine wpAnyH_take (i := 7) (v := .int .i64 (pt a b c d i)) rfl (by kernel_rfl) (by kernel_rfl) (by kernel_rfl) (fun _ _ _ h => h) (Or.inl ⟨by kernel_rfl, ?_⟩) hHeld ?_
            · intro w' hSw; obtain ⟨z0, z1⟩ := hSw; go_simp
            try simp only [Act.put, List.setIfInBounds_toArray, List.set_cons_zero, List.set_cons_succ, List.getElem_toArray, List.getElem_cons_succ, List.getElem_cons_zero]
            refine wpAnyH_take (i := 8) (v := .slice (some ⟨qy, 0, none⟩) 4 4) rfl (by kernel_rfl) (by kernel_rfl) (by kernel_rfl) (fun _ _ _ h => h) (Or.inl ⟨by kernel_rfl, ?_⟩) hHeld ?_
            · intro w' hSw; go_simp
            try simp only [Act.put, List.setIfInBounds_toArray, List.set_cons_zero, List.set_cons_succ, List.getElem_toArray, List.getElem_cons_succ, List.getElem_cons_zero]
            refine wpAnyH_take (i := 9) (v := .int .i64 (k : Int)) rfl (by kernel_rfl) (by kernel_rfl) (by kernel_rfl) (fun _ _ _ h => h) (Or.inl ⟨by kernel_rfl, ?_⟩) hHeld ?_
            · intro w' hSw; go_simp
            try simp only [Act.put, List.setIfInBounds_toArray, List.set_cons_zero, List.set_cons_succ, List.getElem_toArray, List.getElem_cons_succ, List.getElem_cons_zero]
            refine wpAnyH_take (i := 10) (v := .pointer (some ⟨qy, k, none⟩)) rfl (by kernel_rfl) (by kernel_rfl) (by kernel_rfl) (fun _ _ _ h => h) (Or.inl ⟨by kernel_rfl, ?_⟩) hHeld ?_
            · intro w' hSw; go_simp
            try simp only [Act.put, List.setIfInBounds_toArray, List.set_cons_zero, List.set_cons_succ, List.getElem_toArray, List.getElem_cons_succ, List.getElem_cons_zero]
            refine wpAnyH_take (i := 11) (v := .int .i64 (pt x y z u k)) rfl (by kernel_rfl) (by kernel_rfl) (by kernel_rfl) (fun _ _ _ h => h) (Or.inl ⟨by kernel_rfl, ?_⟩) hHeld ?_
            · intro w' hSw; obtain ⟨z0, z1⟩ := hSw; go_simp
            try simp only [Act.put, List.setIfInBounds_toArray, List.set_cons_zero, List.set_cons_succ, List.getElem_toArray, List.getElem_cons_succ, List.getElem_cons_zero]
            obtain ⟨e0, e1, e2⟩ : u0.cell? ⟨qw, 0, none⟩ = some (.int .i64 h) ∧ u0.cell? ⟨qw, 1, none⟩ = some (.int .i64 m) ∧ u0.cell? ⟨qw, 2, none⟩ = some (.int .i64 l) := G.2.1
            refine wpAnyH_ready (rs := [3]) (by kernel_rfl) (by simp) ?_
            refine AllReadyH.cons rfl (fun KK hK' => ?_) AllReadyH.nil
            go_simp
            clear e0 e1 e2
            clear hHeld
            refine hK'.out _ _ (sxy_of F hlt hlk) (fun hHeld => ?_)
            clear hK' KK
            try simp only [List.setIfInBounds_toArray, List.set_cons_zero, List.set_cons_succ]
            refine wpAnyH_ready (rs := [12]) (by kernel_rfl) (by simp) ?_
            refine AllReadyH.cons rfl (fun KK hK' => ?_) AllReadyH.nil
            go_simp
            refine (plus_small (s := (-1)) G.2.2.2.1 (by omega) (by omega) (by omega) (ia i hlt) (ix k hlk) _).mono ?_
            rintro e u1 ⟨h', m', l', rfl, hs', hv', bb⟩
            replace F := F.below bb
            replace G := G.below bb
            clear bb
            try go_wp2_with fail
            clear hHeld
            refine hK'.out _ _ (sxy_of F hlt hlk) (fun hHeld => ?_)
            clear hK' KK
            try simp only [List.setIfInBounds_toArray, List.set_cons_zero, List.set_cons_succ]
            refine wpAnyH_take (i := 13) (v := .pointer (some ⟨qw, 0, none⟩)) rfl (by kernel_rfl) (by kernel_rfl) (by kernel_rfl) (fun _ _ _ h => h) (Or.inl ⟨by kernel_rfl, ?_⟩) hHeld ?_
            · intro w' hSw; go_simp
            try simp only [Act.put, List.setIfInBounds_toArray, List.set_cons_zero, List.set_cons_succ, List.getElem_toArray, List.getElem_cons_succ, List.getElem_cons_zero]
            obtain ⟨g0, g1, g2⟩ : u1.frozen? ⟨qw, 0, none⟩ = false ∧ u1.frozen? ⟨qw, 1, none⟩ = false ∧ u1.frozen? ⟨qw, 2, none⟩ = false := G.2.2.1
            obtain ⟨e0, e1, e2⟩ : u1.cell? ⟨qw, 0, none⟩ = some (.int .i64 h) ∧ u1.cell? ⟨qw, 1, none⟩ = some (.int .i64 m) ∧ u1.cell? ⟨qw, 2, none⟩ = some (.int .i64 l) := G.2.1
            refine wpAnyH_ready (rs := [14]) (by kernel_rfl) (by simp) ?_
            refine AllReadyH.cons rfl (fun KK hK' => ?_) AllReadyH.nil
            go_simp
            obtain ⟨u2, hu2⟩ : ∃ u2, ((u1.setCell ⟨qw, 0, none⟩ (.int .i64 h')).setCell ⟨qw, 1, none⟩ (.int .i64 m')).setCell ⟨qw, 2, none⟩ (.int .i64 l') = u2 := ⟨_, rfl⟩
            rw [hu2]
            have F2 : Fm w q qy qw a b c d x y z u u2 := hu2 ▸ ((F.set (i := 0) _).set (i := 1) _).set (i := 2) _
            have Y := G.1.put 0 (by decide) hs'
            rw [hv', G.2.2.2.2, show World.setCell _ _ _ = u2 from hu2] at Y
            clear hu2 F G e0 e1 e2 g0 g1 g2 hs' hv'
            have F := F2
            clear F2
            clear hHeld
            refine hK'.out _ _ (sxy_of F hlt hlk) (fun hHeld => ?_)
            clear hK' KK
            try simp only [List.setIfInBounds_toArray, List.set_cons_zero, List.set_cons_succ]
            refine wpAnyH_done (by kernel_rfl) ?_ _
            clear hHeld
            go_wp2
            refine ⟨⟨k + 1, by omega, by go_num, F, Y.congr (by omega) fun j hj => ?_⟩, by simp [intOf]; omega⟩
            refine Eq.trans ?_ (round_at a b c d x y z u i k hlk j).symm
            rw [show i + k = 6 by omega]
            generalize pt a b c d i * pt x y z u k = t
            rcases (by omega : j = 0 ∨ j = 1 ∨ j = 2 ∨ j = 3) with rfl | rfl | rfl | rfl <;> simp [rp] <;> omega
          · obtain ⟨s, hsv⟩ : ∃ s, i + k = s := ⟨_, rfl⟩
            have h4 : ¬ (i : Int) + (k : Int) = 4 := by omega
            have h5 : ¬ (i : Int) + (k : Int) = 5 := by omega
            have h6 : ¬ (i : Int) + (k : Int) = 6 := by omega
            have hsw : IntKind.i64.wrap ((i : Int) + (k : Int)) = (s : Int) := by rw [IntKind.wrap_i64]; omega
            have hs4 : (s : Int) < 4 := by omega
            go_wp2_with fail
            obtain ⟨h, m, l, G⟩ := Y.look s (by omega)
            clear Y
            obtain ⟨u0, hu0, bb⟩ : ∃ u0, wr.drew = u0 ∧ Below wr.heap.size wr u0 := ⟨_, rfl, (Below.refl _ _).drew⟩
            replace F := F.below bb
            replace G := G.below bb
            clear bb
            refine wp_region_held_drew (S := Sxy q qy i k (pt a b c d i) (pt x y z u k)) (by kernel_rfl) (by rw [hu0]; exact sxy_of F hlt hlk) (fun hHeld => ?_)
            rw [hu0] at hHeld ⊢
            clear hu0
            change wpAnyH _ _ _ _ _ 21 #[false, false, false, false, false, false, false, false, false, false, false, false, false, false, false, false, false, false, false, false, false] _ _
            refine wpAnyH_take (i := 0) (v := .slice (some ⟨qw, 0, none⟩) 4 4) rfl (by kernel_rfl) (by kernel_rfl) (by kernel_rfl) (fun _ _ _ h => h) (Or.inl ⟨by kernel_rfl, ?_⟩) hHeld ?_
            · intro w' hSw; go_simp
            try simp only [Act.put, List.setIfInBounds_toArray, List.set_cons_zero, List.set_cons_succ, List.getElem_toArray, List.getElem_cons_zero]
            refine wpAnyH_take (i := 1) (v := .int .i64 (i : Int)) rfl (by kernel_rfl) (by kernel_rfl) (by kernel_rfl) (fun _ _ _ h => h) (Or.inl ⟨by kernel_rfl, ?_⟩) hHeld ?_
            · intro w' hSw; go_simp
            try simp only [Act.put, List.setIfInBounds_toArray, List.set_cons_zero, List.set_cons_succ, List.getElem_toArray, List.getElem_cons_succ, List.getElem_cons_zero]
            refine wpAnyH_take (i := 2) (v := .int .i64 (k : Int)) rfl (by kernel_rfl) (by kernel_rfl) (by kernel_rfl) (fun _ _ _ h => h) (Or.inl ⟨by kernel_rfl, ?_⟩) hHeld ?_
            · intro w' hSw; go_simp
            try simp only [Act.put, List.setIfInBounds_toArray, List.set_cons_zero, List.set_cons_succ, List.getElem_toArray, List.getElem_cons_succ, List.getElem_cons_zero]
            refine wpAnyH_take (i := 3) (v := .int .i64 (s : Int)) rfl (by kernel_rfl) (by kernel_rfl) (by kernel_rfl) (fun _ _ _ h => h) (Or.inl ⟨by kernel_rfl, ?_⟩) hHeld ?_
            · intro w' hSw; go_simp
            try simp only [Act.put, List.setIfInBounds_toArray, List.set_cons_zero, List.set_cons_succ, List.getElem_toArray, List.getElem_cons_succ, List.getElem_cons_zero]
            refine wpAnyH_take (i := 4) (v := .slice (some ⟨qw, 0, none⟩) 4 4) rfl (by kernel_rfl) (by kernel_rfl) (by kernel_rfl) (fun _ _ _ h => h) (Or.inl ⟨by kernel_rfl, ?_⟩) hHeld ?_
            · intro w' hSw; go_simp
            try simp only [Act.put, List.setIfInBounds_toArray, List.set_cons_zero, List.set_cons_succ, List.getElem_toArray, List.getElem_cons_succ, List.getElem_cons_zero]
            refine wpAnyH_take (i := 5) (v := .int .i64 (i : Int)) rfl (by kernel_rfl) (by kernel_rfl) (by kernel_rfl) (fun _ _ _ h => h) (Or.inl ⟨by kernel_rfl, ?_⟩) hHeld ?_
            · intro w' hSw; go_simp
            try simp only [Act.put, List.setIfInBounds_toArray, List.set_cons_zero, List.set_cons_succ, List.getElem_toArray, List.getElem_cons_succ, List.getElem_cons_zero]
            refine wpAnyH_take (i := 6) (v := .int .i64 (k : Int)) rfl (by kernel_rfl) (by kernel_rfl) (by kernel_rfl) (fun _ _ _ h => h) (Or.inl ⟨by kernel_rfl, ?_⟩) hHeld ?_
            · intro w' hSw; go_simp
            try simp only [Act.put, List.setIfInBounds_toArray, List.set_cons_zero, List.set_cons_succ, List.getElem_toArray, List.getElem_cons_succ, List.getElem_cons_zero]
            refine wpAnyH_take (i := 7) (v := .int .i64 (s : Int)) rfl (by kernel_rfl) (by kernel_rfl) (by kernel_rfl) (fun _ _ _ h => h) (Or.inl ⟨by kernel_rfl, ?_⟩) hHeld ?_
            · intro w' hSw; go_simp
            try simp only [Act.put, List.setIfInBounds_toArray, List.set_cons_zero, List.set_cons_succ, List.getElem_toArray, List.getElem_cons_succ, List.getElem_cons_zero]
            refine wpAnyH_take (i := 8) (v := .pointer (some ⟨qw, s * 3, none⟩)) rfl (by kernel_rfl) (by kernel_rfl) (by kernel_rfl) (fun _ _ _ h => h) (Or.inl ⟨by kernel_rfl, ?_⟩) hHeld ?_
            · intro w' hSw; go_simp
            try simp only [Act.put, List.setIfInBounds_toArray, List.set_cons_zero, List.set_cons_succ, List.getElem_toArray, List.getElem_cons_succ, List.getElem_cons_zero]
            refine wpAnyH_take (i := 10) (v := .slice (some ⟨q, 0, none⟩) 4 4) rfl (by kernel_rfl) (by kernel_rfl) (by kernel_rfl) (fun _ _ _ h => h) (Or.inl ⟨by kernel_rfl, ?_⟩) hHeld ?_
            · intro w' hSw; go_simp
            try simp only [Act.put, List.setIfInBounds_toArray, List.set_cons_zero, List.set_cons_succ, List.getElem_toArray, List.getElem_cons_succ, List.getElem_cons_zero]
            refine wpAnyH_take (i := 11) (v := .int .i64 (i : Int)) rfl (by kernel_rfl) (by kernel_rfl) (by kernel_rfl) (fun _ _ _ h => h) (Or.inl ⟨by kernel_rfl, ?_⟩) hHeld ?_
            · intro w' hSw; go_simp
            try simp only [Act.put, List.setIfInBounds_toArray, List.set_cons_zero, List.set_cons_succ, List.getElem_toArray, List.getElem_cons_succ, List.getElem_cons_zero]
            refine wpAnyH_take (i := 12) (v := .pointer (some ⟨q, i, none⟩)) rfl (by kernel_rfl) (by kernel_rfl) (by kernel_rfl) (fun _ _ _ h => h) (Or.inl ⟨by kernel_rfl, ?_⟩) hHeld ?_
            · intro w' hSw; go_simp
            try simp only [Act.put, List.setIfInBounds_toArray, List.set_cons_zero, List.set_cons_succ, List.getElem_toArray, List.getElem_cons_succ, List.getElem_cons_zero]
            refine wpAnyH_take (i := 13) (v := .int .i64 (pt a b c d i)) rfl (by kernel_rfl) (by kernel_rfl) (by kernel_rfl) (fun _ _ _ h => h) (Or.inl ⟨by kernel_rfl, ?_⟩) hHeld ?_
            · intro w' hSw; obtain ⟨z0, z1⟩ := hSw; go_simp
            try simp only [Act.put, List.setIfInBounds_toArray, List.set_cons_zero, List.set_cons_succ, List.getElem_toArray, List.getElem_cons_succ, List.getElem_cons_zero]
            refine wpAnyH_take (i := 14) (v := .slice (some ⟨qy, 0, none⟩) 4 4) rfl (by kernel_rfl) (by kernel_rfl) (by kernel_rfl) (fun _ _ _ h => h) (Or.inl ⟨by kernel_rfl, ?_⟩) hHeld ?_
            · intro w' hSw; go_simp
            try simp only [Act.put, List.setIfInBounds_toArray, List.set_cons_zero, List.set_cons_succ, List.getElem_toArray, List.getElem_cons_succ, List.getElem_cons_zero]
            refine wpAnyH_take (i := 15) (v := .int .i64 (k : Int)) rfl (by kernel_rfl) (by kernel_rfl) (by kernel_rfl) (fun _ _ _ h => h) (Or.inl ⟨by kernel_rfl, ?_⟩) hHeld ?_
            · intro w' hSw; go_simp
            try simp only [Act.put, List.setIfInBounds_toArray, List.set_cons_zero, List.set_cons_succ, List.getElem_toArray, List.getElem_cons_succ, List.getElem_cons_zero]
            refine wpAnyH_take (i := 16) (v := .pointer (some ⟨qy, k, none⟩)) rfl (by kernel_rfl) (by kernel_rfl) (by kernel_rfl) (fun _ _ _ h => h) (Or.inl ⟨by kernel_rfl, ?_⟩) hHeld ?_
            · intro w' hSw; go_simp
            try simp only [Act.put, List.setIfInBounds_toArray, List.set_cons_zero, List.set_cons_succ, List.getElem_toArray, List.getElem_cons_succ, List.getElem_cons_zero]
            refine wpAnyH_take (i := 17) (v := .int .i64 (pt x y z u k)) rfl (by kernel_rfl) (by kernel_rfl) (by kernel_rfl) (fun _ _ _ h => h) (Or.inl ⟨by kernel_rfl, ?_⟩) hHeld ?_
            · intro w' hSw; obtain ⟨z0, z1⟩ := hSw; go_simp
            try simp only [Act.put, List.setIfInBounds_toArray, List.set_cons_zero, List.set_cons_succ, List.getElem_toArray, List.getElem_cons_succ, List.getElem_cons_zero]
            obtain ⟨e0, e1, e2⟩ : u0.cell? ⟨qw, s * 3, none⟩ = some (.int .i64 h) ∧ u0.cell? ⟨qw, s * 3 + 1, none⟩ = some (.int .i64 m) ∧ u0.cell? ⟨qw, s * 3 + 2, none⟩ = some (.int .i64 l) := G.2.1
            refine wpAnyH_ready (rs := [9]) (by kernel_rfl) (by simp) ?_
            refine AllReadyH.cons rfl (fun KK hK' => ?_) AllReadyH.nil
            go_simp
            clear e0 e1 e2
            clear hHeld
            refine hK'.out _ _ (sxy_of F hlt hlk) (fun hHeld => ?_)
            clear hK' KK
            try simp only [List.setIfInBounds_toArray, List.set_cons_zero, List.set_cons_succ]
            refine wpAnyH_ready (rs := [18]) (by kernel_rfl) (by simp) ?_
            refine AllReadyH.cons rfl (fun KK hK' => ?_) AllReadyH.nil
            go_simp
            refine (plus_small (s := 1) G.2.2.2.1 (by omega) (by omega) (by omega) (ia i hlt) (ix k hlk) _).mono ?_
            rintro e u1 ⟨h', m', l', rfl, hs', hv', bb⟩
            replace F := F.below bb
            replace G := G.below bb
            clear bb
            try go_wp2_with fail
            clear hHeld
            refine hK'.out _ _ (sxy_of F hlt hlk) (fun hHeld => ?_)
            clear hK' KK
            try simp only [List.setIfInBounds_toArray, List.set_cons_zero, List.set_cons_succ]
            refine wpAnyH_take (i := 19) (v := .pointer (some ⟨qw, s * 3, none⟩)) rfl (by kernel_rfl) (by kernel_rfl) (by kernel_rfl) (fun _ _ _ h => h) (Or.inl ⟨by kernel_rfl, ?_⟩) hHeld ?_
            · intro w' hSw; go_simp
            try simp only [Act.put, List.setIfInBounds_toArray, List.set_cons_zero, List.set_cons_succ, List.getElem_toArray, List.getElem_cons_succ, List.getElem_cons_zero]
            obtain ⟨g0, g1, g2⟩ : u1.frozen? ⟨qw, s * 3, none⟩ = false ∧ u1.frozen? ⟨qw, s * 3 + 1, none⟩ = false ∧ u1.frozen? ⟨qw, s * 3 + 2, none⟩ = false := G.2.2.1
            obtain ⟨e0, e1, e2⟩ : u1.cell? ⟨qw, s * 3, none⟩ = some (.int .i64 h) ∧ u1.cell? ⟨qw, s * 3 + 1, none⟩ = some (.int .i64 m) ∧ u1.cell? ⟨qw, s * 3 + 2, none⟩ = some (.int .i64 l) := G.2.1
            refine wpAnyH_ready (rs := [20]) (by kernel_rfl) (by simp) ?_
            refine AllReadyH.cons rfl (fun KK hK' => ?_) AllReadyH.nil
            go_simp
            obtain ⟨u2, hu2⟩ : ∃ u2, ((u1.setCell ⟨qw, s * 3, none⟩ (.int .i64 h')).setCell ⟨qw, s * 3 + 1, none⟩ (.int .i64 m')).setCell ⟨qw, s * 3 + 2, none⟩ (.int .i64 l') = u2 := ⟨_, rfl⟩
            rw [hu2]
            have F2 : Fm w q qy qw a b c d x y z u u2 := hu2 ▸ ((F.set (i := s * 3) _).set (i := s * 3 + 1) _).set (i := s * 3 + 2) _
            have Y := G.1.put s (by omega) hs'
            rw [hv', G.2.2.2.2, show World.setCell _ _ _ = u2 from hu2] at Y
            clear hu2 F G e0 e1 e2 g0 g1 g2 hs' hv'
            have F := F2
            clear F2
            clear hHeld
            refine hK'.out _ _ (sxy_of F hlt hlk) (fun hHeld => ?_)
            clear hK' KK
            try simp only [List.setIfInBounds_toArray, List.set_cons_zero, List.set_cons_succ]
            refine wpAnyH_done (by kernel_rfl) ?_ _
            clear hHeld
            go_wp2
            refine ⟨⟨k + 1, by omega, by go_num, F, Y.congr (by omega) fun j hj => ?_⟩, by simp [intOf]; omega⟩
            refine Eq.trans ?_ (round_at a b c d x y z u i k hlk j).symm
            rw [hsv]
            generalize pt a b c d i * pt x y z u k = t
            clear hsw h4 h5 h6 hsv
            rcases (by omega : s = 0 ∨ s = 1 ∨ s = 2 ∨ s = 3) with rfl | rfl | rfl | rfl <;> rcases (by omega : j = 0 ∨ j = 1 ∨ j = 2 ∨ j = 3) with rfl | rfl | rfl | rfl <;> simp [rp]
        · have hlk' : ¬ (k : Int) < 4 := by omega
          obtain rfl : k = 4 := by omega
          go_wp2
          exact ⟨⟨i + 1, by omega, by go_num, F, by have := Y; simpa [Int.mul_add, Nat.mul_add] using this⟩, by simp [intOf]; omega⟩
    · have hlt' : ¬ (i : Int) < 4 := by omega
      obtain rfl : i = 4 := by omega
      have hmk := make_four
      go_wp2_with fail
      obtain ⟨T, hT, p0, bT, -⟩ := boxed wr 2 #[.int .i64 0, .int .i64 0, .int .i64 0, .int .i64 0]
      rw [hT]
      obtain ⟨qp, hqp⟩ : ∃ qp, wr.heap.size = qp := ⟨_, rfl⟩
      rw [hqp] at p0 ⊢
      have hpq : qw < qp := hqp ▸ Y.lt
      have hpx : w.heap.size + 2 < qp := by have := F.2.2.2.2.2.2; omega
      have n1 : q ≠ qp := by have := F.1.lt; omega
      have n2 : qy ≠ qp := by have := F.2.1.lt; omega
      replace F := F.below bT
      replace Y := Y.below bT
      clear hT bT hmk hqp
      obtain ⟨V, hV⟩ : ∃ V : Nat → Int, (fun j => es (itm a b c d x y z u) pp j (4 * 4)) = V := ⟨_, rfl⟩
      have hm : mulT a b c d x y z u = told (V 0) (V 1) (V 2) (V 3) := by rw [← hV]; rfl
      rw [hV] at Y
      replace Y := Y.congr (N' := 32) (by omega) (fun _ _ => rfl)
      clear hV
      go_loopw [12] (fun s wr => ∃ i : Nat, i ≤ 4 ∧ s = .int .i64 i ∧ Fm w q qy qw a b c d x y z u wr ∧ Wv wr qw 32 V ∧ At 2 wr qp (pvA V i) ∧ ∀ j, j < i → isSm (V j) = true) (fun s _ => 4 - (intOf s).toNat)
      case atStart => exact ⟨0, Nat.zero_le _, rfl, F, Y, p0, fun j hj => absurd hj (by omega)⟩
      case round =>
        clear F Y p0
        obtain ⟨i, hi, rfl, F, Y, P, hsm⟩ := hrel
        by_cases hlt : i < 4
        · have hlt' : (i : Int) < 4 := by omega
          obtain ⟨h, m, l, G⟩ := Y.look i hlt
          obtain ⟨e0, e1, e2⟩ := G.2.1
          go_wp2_with fail
          obtain ⟨fh, fm, fl⟩ := small_fits G.2.2.2.1 (by omega) (by omega)
          refine (small_any h m l _ fh fm fl).mono ?_
          rintro e w2 ⟨rfl, b2⟩
          rw [G.2.2.2.2]
          replace F := F.below b2
          replace Y := Y.below b2
          replace P := P.below b2
          clear G e0 e1 e2 fh fm fl b2
          by_cases hz : isSm (V i) = true
          · rw [if_pos hz, hz]
            have g0 := P.cell i (pv_get V i i hlt)
            have g1 := P.frozen i
            go_wp2
            refine ⟨⟨i + 1, by omega, by go_num, ?_, ?_, ?_, ?_⟩, by simp [intOf]; omega⟩
            · exact F.set2 n1 n2 hpx _
            · exact Y.setOther (Nat.ne_of_lt hpq) _
            · have := P.set i (.int .i64 (V i))
              rw [pv_set V i hlt] at this
              exact this
            · intro j hj
              by_cases e : j = i
              · rw [e]; exact hz
              · exact hsm j (by omega)
          · rw [if_neg hz, Bool.eq_false_iff.2 hz]
            obtain ⟨z0, z1, z2, z3, y0, y1, y2, y3⟩ := F.2.2.1.open4
            go_wp2
            obtain ⟨p0, p1, p2, p3, -⟩ := (put4_at F.2.2.1 (.int .i64 0) (.int .i64 0) (.int .i64 0) (.int .i64 0)).open4
            exact bodyPost_ret (v := .tuple #[cV 0 0 0 0, .bool false]) (by simp [results, Tryd.results11, go_sem, p0, p1, p2, p3]) rfl ⟨by rw [hm, told_out (sm_out hlt hz)], below_put4 F.2.2.2.1 (by omega) _ _ _ _⟩
        · have hlt' : ¬ (i : Int) < 4 := by omega
          obtain rfl : i = 4 := by omega
          go_wp2_with fail
          obtain ⟨u0, hu0, bb⟩ : ∃ u0, wr.drew = u0 ∧ Below wr.heap.size wr u0 := ⟨_, rfl, (Below.refl _ _).drew⟩
          replace F := F.below bb
          replace P := P.below bb
          clear bb
          refine wp_region_held_drew (S := Sp4 qp (V 0) (V 1) (V 2) (V 3)) (by kernel_rfl) (by rw [hu0]; exact sp4_of P) (fun hHeld => ?_)
          rw [hu0] at hHeld ⊢
          clear hu0
          change wpAnyH _ _ _ _ _ 15 #[false, false, false, false, false, false, false, false, false, false, false, false, false, false, false] _ _
          refine wpAnyH_take (i := 0) (v := .slice (some ⟨qp, 0, none⟩) 4 4) rfl (by kernel_rfl) (by kernel_rfl) (by kernel_rfl) (fun _ _ _ h => h) (Or.inl ⟨by kernel_rfl, ?_⟩) hHeld ?_
          · intro w' hSw; go_simp
          try simp only [Act.put, List.setIfInBounds_toArray, List.set_cons_zero, List.set_cons_succ, List.getElem_toArray, List.getElem_cons_zero]
          refine wpAnyH_take (i := 1) (v := .pointer (some ⟨qp, 0, none⟩)) rfl (by kernel_rfl) (by kernel_rfl) (by kernel_rfl) (fun _ _ _ h => h) (Or.inl ⟨by kernel_rfl, ?_⟩) hHeld ?_
          · intro w' hSw; go_simp
          try simp only [Act.put, List.setIfInBounds_toArray, List.set_cons_zero, List.set_cons_succ, List.getElem_toArray, List.getElem_cons_succ, List.getElem_cons_zero]
          refine wpAnyH_take (i := 2) (v := .int .i64 (V 0)) rfl (by kernel_rfl) (by kernel_rfl) (by kernel_rfl) (fun _ _ _ h => h) (Or.inl ⟨by kernel_rfl, ?_⟩) hHeld ?_
          · intro w' hSw; obtain ⟨z0, z1, z2, z3⟩ := hSw; go_simp
          try simp only [Act.put, List.setIfInBounds_toArray, List.set_cons_zero, List.set_cons_succ, List.getElem_toArray, List.getElem_cons_succ, List.getElem_cons_zero]
          refine wpAnyH_take (i := 3) (v := .slice (some ⟨qp, 0, none⟩) 4 4) rfl (by kernel_rfl) (by kernel_rfl) (by kernel_rfl) (fun _ _ _ h => h) (Or.inl ⟨by kernel_rfl, ?_⟩) hHeld ?_
          · intro w' hSw; go_simp
          try simp only [Act.put, List.setIfInBounds_toArray, List.set_cons_zero, List.set_cons_succ, List.getElem_toArray, List.getElem_cons_succ, List.getElem_cons_zero]
          refine wpAnyH_take (i := 4) (v := .pointer (some ⟨qp, 1, none⟩)) rfl (by kernel_rfl) (by kernel_rfl) (by kernel_rfl) (fun _ _ _ h => h) (Or.inl ⟨by kernel_rfl, ?_⟩) hHeld ?_
          · intro w' hSw; go_simp
          try simp only [Act.put, List.setIfInBounds_toArray, List.set_cons_zero, List.set_cons_succ, List.getElem_toArray, List.getElem_cons_succ, List.getElem_cons_zero]
          refine wpAnyH_take (i := 5) (v := .int .i64 (V 1)) rfl (by kernel_rfl) (by kernel_rfl) (by kernel_rfl) (fun _ _ _ h => h) (Or.inl ⟨by kernel_rfl, ?_⟩) hHeld ?_
          · intro w' hSw; obtain ⟨z0, z1, z2, z3⟩ := hSw; go_simp
          try simp only [Act.put, List.setIfInBounds_toArray, List.set_cons_zero, List.set_cons_succ, List.getElem_toArray, List.getElem_cons_succ, List.getElem_cons_zero]
          refine wpAnyH_take (i := 6) (v := .slice (some ⟨qp, 0, none⟩) 4 4) rfl (by kernel_rfl) (by kernel_rfl) (by kernel_rfl) (fun _ _ _ h => h) (Or.inl ⟨by kernel_rfl, ?_⟩) hHeld ?_
          · intro w' hSw; go_simp
          try simp only [Act.put, List.setIfInBounds_toArray, List.set_cons_zero, List.set_cons_succ, List.getElem_toArray, List.getElem_cons_succ, List.getElem_cons_zero]
          refine wpAnyH_take (i := 7) (v := .pointer (some ⟨qp, 2, none⟩)) rfl (by kernel_rfl) (by kernel_rfl) (by kernel_rfl) (fun _ _ _ h => h) (Or.inl ⟨by kernel_rfl, ?_⟩) hHeld ?_
          · intro w' hSw; go_simp
          try simp only [Act.put, List.setIfInBounds_toArray, List.set_cons_zero, List.set_cons_succ, List.getElem_toArray, List.getElem_cons_succ, List.getElem_cons_zero]
          refine wpAnyH_take (i := 8) (v := .int .i64 (V 2)) rfl (by kernel_rfl) (by kernel_rfl) (by kernel_rfl) (fun _ _ _ h => h) (Or.inl ⟨by kernel_rfl, ?_⟩) hHeld ?_
          · intro w' hSw; obtain ⟨z0, z1, z2, z3⟩ := hSw; go_simp
          try simp only [Act.put, List.setIfInBounds_toArray, List.set_cons_zero, List.set_cons_succ, List.getElem_toArray, List.getElem_cons_succ, List.getElem_cons_zero]
          refine wpAnyH_take (i := 9) (v := .slice (some ⟨qp, 0, none⟩) 4 4) rfl (by kernel_rfl) (by kernel_rfl) (by kernel_rfl) (fun _ _ _ h => h) (Or.inl ⟨by kernel_rfl, ?_⟩) hHeld ?_
          · intro w' hSw; go_simp
          try simp only [Act.put, List.setIfInBounds_toArray, List.set_cons_zero, List.set_cons_succ, List.getElem_toArray, List.getElem_cons_succ, List.getElem_cons_zero]
          refine wpAnyH_take (i := 10) (v := .pointer (some ⟨qp, 3, none⟩)) rfl (by kernel_rfl) (by kernel_rfl) (by kernel_rfl) (fun _ _ _ h => h) (Or.inl ⟨by kernel_rfl, ?_⟩) hHeld ?_
          · intro w' hSw; go_simp
          try simp only [Act.put, List.setIfInBounds_toArray, List.set_cons_zero, List.set_cons_succ, List.getElem_toArray, List.getElem_cons_succ, List.getElem_cons_zero]
          refine wpAnyH_take (i := 11) (v := .int .i64 (V 3)) rfl (by kernel_rfl) (by kernel_rfl) (by kernel_rfl) (fun _ _ _ h => h) (Or.inl ⟨by kernel_rfl, ?_⟩) hHeld ?_
          · intro w' hSw; obtain ⟨z0, z1, z2, z3⟩ := hSw; go_simp
          try simp only [Act.put, List.setIfInBounds_toArray, List.set_cons_zero, List.set_cons_succ, List.getElem_toArray, List.getElem_cons_succ, List.getElem_cons_zero]
          refine wpAnyH_take (i := 12) (v := .agg #[.int .i64 (V 0), .int .i64 (V 1), .int .i64 (V 2), .int .i64 (V 3)]) rfl (by kernel_rfl) (by kernel_rfl) (by kernel_rfl) (fun _ _ _ h => h) (Or.inl ⟨by kernel_rfl, ?_⟩) hHeld ?_
          · intro w' hSw; go_simp
          try simp only [Act.put, List.setIfInBounds_toArray, List.set_cons_zero, List.set_cons_succ, List.getElem_toArray, List.getElem_cons_succ, List.getElem_cons_zero]
          refine wpAnyH_ready (rs := [13]) (by kernel_rfl) (by simp) ?_
          refine AllReadyH.cons rfl (fun KK hK' => ?_) AllReadyH.nil
          go_simp
          obtain ⟨u1, hu1, B, bb, -⟩ := boxed u0 25 #[.int .i64 0, .int .i64 0, .int .i64 0, .int .i64 0]
          rw [hu1]
          obtain ⟨qo, hqo⟩ : ∃ g, u0.heap.size = g := ⟨_, rfl⟩
          have hF := F.2.2.1.lt
          have hP := P.lt
          rw [hqo] at B hF hP
          try rw [hqo]
          replace F := F.below bb
          replace P := P.below bb
          clear bb hu1 hqo
          clear hHeld
          refine hK'.out _ _ (sp4_of P) (fun hHeld => ?_)
          clear hK' KK
          try simp only [List.setIfInBounds_toArray, List.set_cons_zero, List.set_cons_succ]
          obtain ⟨x0, x1, x2, x3, o0, o1, o2, o3⟩ := B.open4
          refine wpAnyH_ready (rs := [14]) (by kernel_rfl) (by simp) ?_
          refine AllReadyH.cons rfl (fun KK hK' => ?_) AllReadyH.nil
          go_simp
          obtain ⟨u2, hu2⟩ : ∃ u2, (((u1.setCell ⟨qo, 0, none⟩ (.int .i64 (V 0))).setCell ⟨qo, 1, none⟩ (.int .i64 (V 1))).setCell ⟨qo, 2, none⟩ (.int .i64 (V 2))).setCell ⟨qo, 3, none⟩ (.int .i64 (V 3)) = u2 := ⟨_, rfl⟩
          rw [hu2]
          have B2 : At 25 u2 qo #[.int .i64 (V 0), .int .i64 (V 1), .int .i64 (V 2), .int .i64 (V 3)] := hu2 ▸ put4_at B _ _ _ _
          have R2 : At 25 u2 (w.heap.size + 2) #[.int .i64 0, .int .i64 0, .int .i64 0, .int .i64 0] := hu2 ▸ (((F.2.2.1.setOther (Nat.ne_of_lt hF) _).setOther (Nat.ne_of_lt hF) _).setOther (Nat.ne_of_lt hF) _).setOther (Nat.ne_of_lt hF) _
          have P2 : At 2 u2 qp (pvA V 4) := hu2 ▸ (((P.setOther (Nat.ne_of_lt hP) _).setOther (Nat.ne_of_lt hP) _).setOther (Nat.ne_of_lt hP) _).setOther (Nat.ne_of_lt hP) _
          have bF : Below w.heap.size w u2 := hu2 ▸ below_put4 F.2.2.2.1 (by omega) _ _ _ _
          clear x0 x1 x2 x3 o0 o1 o2 o3 hu2 B F P
          clear hHeld
          refine hK'.out _ _ (sp4_of P2) (fun hHeld => ?_)
          clear hK' KK
          try simp only [List.setIfInBounds_toArray, List.set_cons_zero, List.set_cons_succ]
          refine wpAnyH_done (by kernel_rfl) ?_ _
          clear hHeld
          obtain ⟨x0, x1, x2, x3, -⟩ := B2.open4
          go_wp2_with fail
          refine (specOk_any _ _ _ _ _).mono ?_
          rintro e u3 ⟨rfl, b3⟩
          replace B2 := B2.below b3
          replace R2 := R2.below b3
          replace bF := bF.trans (b3.mono bF.size)
          clear b3 P2 x0 x1 x2 x3
          obtain ⟨x0, x1, x2, x3, -⟩ := B2.open4
          obtain ⟨z0, z1, z2, z3, y0, y1, y2, y3⟩ := R2.open4
          by_cases hc : cOk (V 0) (V 1) (V 2) (V 3) = true
          · rw [hc]
            go_wp2
            obtain ⟨p0, p1, p2, p3, -⟩ := (put4_at R2 (.int .i64 (V 0)) (.int .i64 (V 1)) (.int .i64 (V 2)) (.int .i64 (V 3))).open4
            exact bodyPost_ret (v := .tuple #[cV (V 0) (V 1) (V 2) (V 3), .bool true]) (by simp [results, Tryd.results11, go_sem, p0, p1, p2, p3]) rfl ⟨by rw [hm]; unfold told; rw [if_pos hc, hc], below_put4 bF (by omega) _ _ _ _⟩
          · rw [Bool.eq_false_iff.2 hc]
            go_wp2
            obtain ⟨p0, p1, p2, p3, -⟩ := (put4_at R2 (.int .i64 0) (.int .i64 0) (.int .i64 0) (.int .i64 0)).open4
            exact bodyPost_ret (v := .tuple #[cV 0 0 0 0, .bool false]) (by simp [results, Tryd.results11, go_sem, p0, p1, p2, p3]) rfl ⟨by rw [hm, told_out (Bool.eq_false_iff.2 hc)], below_put4 bF (by omega) _ _ _ _⟩
end Go.Proofs.YthcanmnbaemdbaaDoor
