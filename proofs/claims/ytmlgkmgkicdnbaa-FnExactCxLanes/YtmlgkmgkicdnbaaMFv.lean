/-
  Float operations as the walk takes them, and small facts on worlds. No function of the program.
-/
import Derived.Test.YtmlgkmgkicdnbaaMOrder
import Derived.WalkKit
import Derived.WalkLawsBesides
import Derived.WalkSmall
import Derived.Below
import Derived.Deep.Draws
import Derived.Outline
import Derived.OwnWalk
import Derived.Deep.RegionHeld3
import Derived.Deep.QuietTactic
import Derived.BigQuiet
import Derived.RegionTactic
import Derived.Laws.ComplexArith
import Derived.Laws.BitsAllLaws
import Derived.Laws.Externs
import Derived.Laws.Rows
import Derived.Laws.StructEq
import Derived.Laws.Tables
namespace Go.Proofs.Ytmlgkmgkicdnbaa
open Go.RowKit Fl

/-- What a float operation gives in the world w: IEEE's bits, or a NaN that the tape tells. -/
def fv (op : BinOp) (k : FloatKind) (x y : Nat) (w : World) : Nat :=
  match floatBits op k x y with
  | some r => r
  | none => (Question.nanBits k x y).cut (w.tape w.drawn (.nanBits k x y))
/-- How often it asks the tape. -/
def fd (op : BinOp) (k : FloatKind) (x y : Nat) : Nat := if (floatBits op k x y).isSome then 0 else 1
theorem nan_cut (k : FloatKind) (x y t : Nat) : isn k.format ((Question.nanBits k x y).cut t) = true := by
  cases k
  · have e : (Question.nanBits .f32 x y).cut t = Ieee.single.word (t % 2 == 1) (Ieee.single.infRung + (1 + t / 2 % (2 ^ 23 - 1))) := by
      have h : t % 2 = 0 ∨ t % 2 = 1 := by omega
      have h2 : Ieee.single.infRung = 0x7f800000 := rfl
      have h3 : Ieee.single.signWeight = 2 ^ 31 := rfl
      rw [h2]
      rcases h with h | h <;> simp [Question.cut, Ieee.Format.word, h, h3] <;> omega
    have h1 : t / 2 % (2 ^ 23 - 1) < 2 ^ 23 - 1 := Nat.mod_lt _ (by decide)
    have h2 : Ieee.single.infRung = 0x7f800000 := rfl
    have h3 : Ieee.single.signWeight = 2 ^ 31 := rfl
    have h4 : Ieee.single.binade = 2 ^ 23 := rfl
    show isn Ieee.single _ = true
    rw [e, isn, read_word _ _ (by omega), rd_nan]
    simp; omega
  · have e : (Question.nanBits .f64 x y).cut t = Ieee.double.word (t % 2 == 1) (Ieee.double.infRung + (1 + t / 2 % (2 ^ 52 - 1))) := by
      have h : t % 2 = 0 ∨ t % 2 = 1 := by omega
      have h2 : Ieee.double.infRung = 0x7ff0000000000000 := rfl
      have h3 : Ieee.double.signWeight = 2 ^ 63 := rfl
      rw [h2]
      rcases h with h | h <;> simp [Question.cut, Ieee.Format.word, h, h3] <;> omega
    have h1 : t / 2 % (2 ^ 52 - 1) < 2 ^ 52 - 1 := Nat.mod_lt _ (by decide)
    have h2 : Ieee.double.infRung = 0x7ff0000000000000 := rfl
    have h3 : Ieee.double.signWeight = 2 ^ 63 := rfl
    have h4 : Ieee.double.binade = 2 ^ 52 := rfl
    show isn Ieee.double _ = true
    rw [e, isn, read_word _ _ (by omega), rd_nan]
    simp; omega
theorem fv_FR (op : BinOp) (k : FloatKind) (x y : Nat) (w : World) : FR op k x y (fv op k x y w) := by
  unfold FR fv
  cases h : floatBits op k x y with
  | some r => exact .inl rfl
  | none => exact .inr ⟨rfl, nan_cut k x y _⟩

section
variable {P : Program}
theorem run_fl (op : BinOp) (hop : op = .add ∨ op = .sub ∨ op = .mul ∨ op = .quo) (t : TypeId) (k : FloatKind) (x y : Nat) (w : World) :
    (binOp op t (.float k x) (.float k y)).run P w = .ok (.float k (fv op k x y w)) (w.drewN (fd op k x y)) := by
  unfold fv fd
  cases h : floatBits op k x y with
  | some r => exact run_float_arith w op t k x y r h
  | none =>
    rcases hop with rfl | rfl | rfl | rfl <;> simp only [floatBits] at h <;> simp [binOp, Op.floatArith, h, Question.forced, World.drewN]
@[go_sem] theorem run_fadd (t : TypeId) (k : FloatKind) (x y : Nat) (w : World) : (binOp .add t (.float k x) (.float k y)).run P w = .ok (.float k (fv .add k x y w)) (w.drewN (fd .add k x y)) := run_fl _ (by simp) ..
@[go_sem] theorem run_fsub (t : TypeId) (k : FloatKind) (x y : Nat) (w : World) : (binOp .sub t (.float k x) (.float k y)).run P w = .ok (.float k (fv .sub k x y w)) (w.drewN (fd .sub k x y)) := run_fl _ (by simp) ..
@[go_sem] theorem run_fmul (t : TypeId) (k : FloatKind) (x y : Nat) (w : World) : (binOp .mul t (.float k x) (.float k y)).run P w = .ok (.float k (fv .mul k x y w)) (w.drewN (fd .mul k x y)) := run_fl _ (by simp) ..
@[go_sem] theorem run_fquo (t : TypeId) (k : FloatKind) (x y : Nat) (w : World) : (binOp .quo t (.float k x) (.float k y)).run P w = .ok (.float k (fv .quo k x y w)) (w.drewN (fd .quo k x y)) := run_fl _ (by simp) ..
end

@[go_sem] theorem run_store_float {P : Program} {w : World} {a : Addr} {m : Mode} (k : FloatKind) (b : Nat) : (store a (.float k b) m).run P w = stored P w a (.float k b) m := run_store P w a _ m rfl
@[go_sem] theorem run_store_complex {P : Program} {w : World} {a : Addr} {m : Mode} (k : FloatKind) (b c : Nat) : (store a (.complex k b c) m).run P w = stored P w a (.complex k b c) m := run_store P w a _ m rfl
@[go_sem] theorem unary_fneg (k : FloatKind) (b : Nat) : Op.unary .neg (.float k b) = pure (.float k (Op.negFloat k b)) := rfl
/-- The product of two complex numbers, part by part, each operation by itself. -/
def MulR (k : FloatKind) (a b c d re im : Nat) : Prop :=
  ∃ rr ii ri ir, FR .mul k a c rr ∧ FR .mul k b d ii ∧ FR .sub k rr ii re ∧ FR .mul k a d ri ∧ FR .mul k b c ir ∧ FR .add k ri ir im
theorem cell_old (w : World) (o : Obj) (a : Addr) (h : a.block < w.heap.size) : (w.alloc o).cell? a = w.cell? a := World.cell?_of_block (w := w) (Below.heap_alloc w o a.block h)
theorem frozen_old (w : World) (o : Obj) (a : Addr) (h : a.block < w.heap.size) : (w.alloc o).frozen? a = w.frozen? a := World.frozen?_of_block (w := w) (Below.heap_alloc w o a.block h)
/-- Block N has two cells that may be written. -/
def Slot (N : Nat) (w : World) : Prop := ∃ v0 v1 t, w.heap[N]? = some (.cells #[v0, v1] t)
theorem Slot.lt {N : Nat} {w : World} (h : Slot N w) : N < w.heap.size := by
  obtain ⟨v0, v1, t, h⟩ := h
  exact (Array.getElem?_eq_some_iff.1 h).1
theorem Slot.below {N : Nat} {w w' : World} (h : Slot N w) (hb : Below w.heap.size w w') : Slot N w' := by
  have := h.lt
  obtain ⟨v0, v1, t, h⟩ := h
  exact ⟨v0, v1, t, (hb.block N this).trans h⟩
theorem slot_new (w : World) (v0 v1 : Value) (t : TypeId) (N : Nat) (hN : N = w.heap.size) : Slot N (w.alloc (.cells #[v0, v1] t)) := ⟨v0, v1, t, by subst hN; exact heap_alloc_new w _⟩
theorem slot_set (N i : Nat) (w : World) (v : Value) (hi : i < 2) (h : Slot N w) : Slot N (w.setCell ⟨N, i, none⟩ v) := by
  obtain ⟨v0, v1, t, h⟩ := h
  have : i = 0 ∨ i = 1 := by omega
  rcases this with rfl | rfl
  · exact ⟨v, v1, t, by simp [World.setCell, Array.getElem?_modify, h]⟩
  · exact ⟨v0, v, t, by simp [World.setCell, Array.getElem?_modify, h]⟩
/-- What a cell of block N holds (a name for it). -/
def cv (w : World) (N i : Nat) : Value := (w.cell? ⟨N, i, none⟩).getD undef
theorem Slot.open {N : Nat} {w : World} (h : Slot N w) : w.cell? ⟨N, 0, none⟩ = some (cv w N 0) ∧ w.cell? ⟨N, 1, none⟩ = some (cv w N 1) ∧ w.frozen? ⟨N, 0, none⟩ = false ∧ w.frozen? ⟨N, 1, none⟩ = false := by
  obtain ⟨v0, v1, t, h⟩ := h
  simp [cv, World.cell?, World.frozen?, h]
theorem slot_unset {N i : Nat} {w : World} {v : Value} (h : Slot N (w.setCell ⟨N, i, none⟩ v)) : Slot N w := by
  obtain ⟨v0, v1, t, h⟩ := h
  simp only [World.setCell, Array.getElem?_modify, if_true] at h
  cases ho : w.heap[N]? with
  | none => rw [ho] at h; cases h
  | some o =>
    rw [ho] at h
    cases o with
    | cells c t' fr =>
      simp at h
      obtain ⟨h1, rfl, rfl⟩ := h
      have hz : c.size = 2 := by have := congrArg Array.size h1; simpa using this
      match c, hz with
      | ⟨[x, y]⟩, _ => exact ⟨x, y, t', ho⟩
    | _ => simp at h
theorem slot_read {N : Nat} {w : World} {x y : Value} (h : Slot N ((w.setCell ⟨N, 0, none⟩ x).setCell ⟨N, 1, none⟩ y)) :
    ((w.setCell ⟨N, 0, none⟩ x).setCell ⟨N, 1, none⟩ y).cell? ⟨N, 0, none⟩ = some x ∧ ((w.setCell ⟨N, 0, none⟩ x).setCell ⟨N, 1, none⟩ y).cell? ⟨N, 1, none⟩ = some y := by
  obtain ⟨v0, v1, t, h⟩ := slot_unset (slot_unset h)
  constructor <;> simp [World.cell?, World.setCell, Array.getElem?_modify, h]
/-- Every block below N is as in W. -/
def Kp (W : World) (N : Nat) (w' : World) : Prop := Below N W w' ∧ N ≤ w'.heap.size
theorem Kp.cell {W w' : World} {N b o : Nat} (h : Kp W N w') (hb : b < N) {v : Value} (hv : W.cell? ⟨b, o, none⟩ = some v) : w'.cell? ⟨b, o, none⟩ = some v := (h.1.cell (p := ⟨b, o, none⟩) hb).trans hv
theorem Kp.below {W w w' : World} {N : Nat} (h : Kp W N w) (hb : Below w.heap.size w w') : Kp W N w' := ⟨h.1.trans (hb.mono h.2), Nat.le_trans h.2 hb.size⟩
theorem Kp.set {W w : World} {N i : Nat} (h : Kp W N w) (v : Value) : Kp W N (w.setCell ⟨N, i, none⟩ v) := ⟨h.1.setCell (Nat.le_refl _) v, by simp [World.setCell]; exact h.2⟩

/-- Behind a call that keeps what was there: old cells and marks read as before (two rules for the walk). -/
theorem bcell {W w1 : World} (hb : Below W.heap.size W w1) : (∀ b o, b < W.heap.size → w1.cell? ⟨b, o, none⟩ = W.cell? ⟨b, o, none⟩) ∧ (∀ b o, b < W.heap.size → w1.frozen? ⟨b, o, none⟩ = W.frozen? ⟨b, o, none⟩) :=
  ⟨fun b o h => hb.cell (p := ⟨b, o, none⟩) h, fun b o h => hb.frozen (p := ⟨b, o, none⟩) h⟩

/-- Of what was there, block p alone may have turned. -/
structure Kept (p : Nat) (w w' : World) : Prop where
  os : w'.os = w.os
  tape : w'.tape = w.tape
  output : w'.output = w.output
  size : w.heap.size ≤ w'.heap.size
  block : ∀ k, k < w.heap.size → k ≠ p → w'.heap[k]? = w.heap[k]?
theorem Kept.refl (p : Nat) (w : World) : Kept p w w := ⟨rfl, rfl, rfl, Nat.le_refl _, fun _ _ _ => rfl⟩
theorem Kept.trans {p : Nat} {a b c : World} (h : Kept p a b) (k : Kept p b c) : Kept p a c :=
  ⟨k.os.trans h.os, k.tape.trans h.tape, k.output.trans h.output, Nat.le_trans h.size k.size, fun i hi hp => (k.block i (Nat.lt_of_lt_of_le hi h.size) hp).trans (h.block i hi hp)⟩
theorem Kept.of_below {p : Nat} {w w' : World} (h : Below w.heap.size w w') : Kept p w w' := ⟨h.os, h.tape, h.output, h.size, fun k hk _ => h.block k hk⟩
theorem Kept.set {p i : Nat} {w w' : World} (h : Kept p w w') (v : Value) : Kept p w (w'.setCell ⟨p, i, none⟩ v) :=
  h.trans ⟨rfl, rfl, rfl, by simp [World.setCell], fun k _ hk => Below.heap_setCell _ _ _ _ hk⟩
theorem Kept.drewN {p n : Nat} {w w' : World} (h : Kept p w w') : Kept p w (w'.drewN n) := h.trans ⟨rfl, rfl, rfl, Nat.le_refl _, fun _ _ _ => rfl⟩
/-- A block from N on alone has turned: below N all is as it was. -/
theorem Kept.below {p N : Nat} {w w' : World} (h : Kept p w w') (hp : N ≤ p) (hN : N ≤ w.heap.size) : Below N w w' :=
  ⟨h.os, h.tape, h.output, h.size, fun k hk => h.block k (by omega) (by omega)⟩
theorem Kept.cell {p b o : Nat} {w w' : World} (h : Kept p w w') (hb : b ≠ p) (hs : b < w.heap.size) : w'.cell? ⟨b, o, none⟩ = w.cell? ⟨b, o, none⟩ := World.cell?_of_block (w := w) (h.block b hs hb)
theorem Kept.frozen {p b o : Nat} {w w' : World} (h : Kept p w w') (hb : b ≠ p) (hs : b < w.heap.size) : w'.frozen? ⟨b, o, none⟩ = w.frozen? ⟨b, o, none⟩ := World.frozen?_of_block (w := w) (h.block b hs hb)

theorem below_alloc (w : World) (o : Obj) : Below w.heap.size w (w.alloc o) := (Below.refl _ _).alloc (Nat.le_refl _) _
theorem neg_lt {x : Nat} (h : x < 2 ^ 64) : Op.negFloat .f64 x < 2 ^ 64 := Nat.xor_lt_two_pow h (by decide)

@[go_sem] theorem run_equalIn_float {P : Program} (d : Nat) (t : TypeId) (k k' : FloatKind) (a b : Nat) (w : World) (h : P.underlying t = some (.float k')) : (Op.equalIn (d + 1) t (.float k a) (.float k b)).run P w = .ok (k.format.order a b == some .eq) w := by
  rw [Op.equalIn]
  simp [run_underlying h, Op.floatEq]
theorem MulR.ab_eq {k : FloatKind} {a b c d re im : Nat} (h : MulR k a b c d re im) :
    ab k re = opO .sub k (opO .mul k (ab k a) (ab k c)) (opO .mul k (ab k b) (ab k d)) ∧ ab k im = opO .add k (opO .mul k (ab k a) (ab k d)) (opO .mul k (ab k b) (ab k c)) := by
  obtain ⟨rr, ii, ri, ir, h1, h2, h3, h4, h5, h6⟩ := h
  rw [h3.ab_eq, h6.ab_eq, h1.ab_eq, h2.ab_eq, h4.ab_eq, h5.ab_eq]
  exact ⟨rfl, rfl⟩

/-- Block q holds two cells of the type t. -/
def BoxT (t : TypeId) (w : World) (q : Nat) (v0 v1 : Value) : Prop := w.heap[q]? = some (.cells #[v0, v1] t)
theorem BoxT.lt {t : TypeId} {w : World} {q : Nat} {v0 v1 : Value} (h : BoxT t w q v0 v1) : q < w.heap.size := (Array.getElem?_eq_some_iff.1 h).1
theorem BoxT.kept {t : TypeId} {w w' : World} {p q : Nat} {v0 v1 : Value} (h : BoxT t w q v0 v1) (hk : Kept p w w') (hq : q ≠ p) : BoxT t w' q v0 v1 := (hk.block q h.lt hq).trans h
theorem BoxT.below {t : TypeId} {w w' : World} {q : Nat} {v0 v1 : Value} (h : BoxT t w q v0 v1) (hk : Below w.heap.size w w') : BoxT t w' q v0 v1 := (hk.block q h.lt).trans h
theorem BoxT.open {t : TypeId} {w : World} {q : Nat} {v0 v1 : Value} (h : BoxT t w q v0 v1) : w.cell? ⟨q, 0, none⟩ = some v0 ∧ w.cell? ⟨q, 1, none⟩ = some v1 ∧ w.frozen? ⟨q, 0, none⟩ = false ∧ w.frozen? ⟨q, 1, none⟩ = false := by
  simp [World.cell?, World.frozen?, show w.heap[q]? = _ from h]
theorem boxT_new (t : TypeId) (w : World) (v0 v1 : Value) {q : Nat} (hq : q = w.heap.size) : BoxT t (w.alloc (.cells #[v0, v1] t)) q v0 v1 := hq ▸ heap_alloc_new w _
/-- An argument's box and a result's. -/
theorem pairBoxes (w : World) (t u : TypeId) (v0 v1 v2 v3 : Value) : ∃ W, (w.alloc (.cells #[v0, v1] t)).alloc (.cells #[v2, v3] u) = W ∧
    BoxT t W w.heap.size v0 v1 ∧ BoxT u W (w.heap.size + 1) v2 v3 ∧ Below w.heap.size w W := by
  refine ⟨_, rfl, (boxT_new _ _ _ _ rfl).below (below_alloc _ _), boxT_new _ _ _ _ (by simp), ?_⟩
  exact (below_alloc _ _).trans ((below_alloc _ _).mono (by simp))

theorem isn_lt (k : FloatKind) (x y t : Nat) : (Question.nanBits k x y).cut t < 2 ^ k.format.width := by
  cases k
  · show _ < 2 ^ 32
    have h1 : t / 2 % (2 ^ 23 - 1) < 2 ^ 23 - 1 := Nat.mod_lt _ (by decide)
    simp only [Question.cut]; omega
  · show _ < 2 ^ 64
    have h1 : t / 2 % (2 ^ 52 - 1) < 2 ^ 52 - 1 := Nat.mod_lt _ (by decide)
    simp only [Question.cut]; omega
theorem fv_lt (op : BinOp) (x y : Nat) (w : World) : fv op .f64 x y w < 2 ^ 64 := by
  unfold fv
  split
  · rename_i r h
    have := floatBits_wf h
    simpa [Lit.wf] using this
  · exact isn_lt .f64 x y _
theorem ofInt_lt (n : Int) : floatOfInt .f64 n < 2 ^ 64 := by
  have := floatOfInt_wf .f64 n
  simpa [Lit.wf] using this

end Go.Proofs.Ytmlgkmgkicdnbaa
