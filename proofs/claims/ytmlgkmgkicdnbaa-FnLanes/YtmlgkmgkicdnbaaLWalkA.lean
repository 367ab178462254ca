/-
  The program's small functions on floats and complex numbers, walked: what each hands back, as relations on the floats' bits.
-/
import Derived.Test.YtmlgkmgkicdnbaaRows
import Derived.Test.YtmlgkmgkicdnbaaLOrder
import Derived.WalkKit
import Derived.WalkLawsBesides
import Derived.Below
import Derived.Deep.Draws
import Derived.Outline
import Derived.Deep.RegionHeld3
import Derived.Laws.ComplexArith
namespace Go.Proofs.Ytmlgkmgkicdnbaa
open Go.RowKit Fl

/-- What a float operation gives in the world w: IEEE's bits, or a NaN that the tape tells. -/
def fv (op : BinOp) (k : FloatKind) (x y : Nat) (w : World) : Nat :=
  match floatBits op k x y with
  | some r => r
  | none => (Question.nanBits k x y).cut (w.tape w.drawn (.nanBits k x y))
/-- How often it asks the tape. -/
def fd (op : BinOp) (k : FloatKind) (x y : Nat) : Nat := if (floatBits op k x y).isSome then 0 else 1

theorem nan_cut (k : FloatKind) (x y t : Nat) : isn k.format ((Question.nanBits k x y).cut t) = true := by
  cases k
  · have e : (Question.nanBits .f32 x y).cut t = Ieee.single.word (t % 2 == 1) (Ieee.single.infRung + (1 + t / 2 % (2 ^ 23 - 1))) := by
      have h : t % 2 = 0 ∨ t % 2 = 1 := by omega
      have h2 : Ieee.single.infRung = 0x7f800000 := rfl
      have h3 : Ieee.single.signWeight = 2 ^ 31 := rfl
      rw [h2]
      rcases h with h | h <;> simp [Question.cut, Ieee.Format.word, h, h3] <;> omega
    have h1 : t / 2 % (2 ^ 23 - 1) < 2 ^ 23 - 1 := Nat.mod_lt _ (by decide)
    have h2 : Ieee.single.infRung = 0x7f800000 := rfl
    have h3 : Ieee.single.signWeight = 2 ^ 31 := rfl
    have h4 : Ieee.single.binade = 2 ^ 23 := rfl
    show isn Ieee.single _ = true
    rw [e, isn, read_word _ _ (by omega), rd_nan]
    simp; omega
  · have e : (Question.nanBits .f64 x y).cut t = Ieee.double.word (t % 2 == 1) (Ieee.double.infRung + (1 + t / 2 % (2 ^ 52 - 1))) := by
      have h : t % 2 = 0 ∨ t % 2 = 1 := by omega
      have h2 : Ieee.double.infRung = 0x7ff0000000000000 := rfl
      have h3 : Ieee.double.signWeight = 2 ^ 63 := rfl
      rw [h2]
      rcases h with h | h <;> simp [Question.cut, Ieee.Format.word, h, h3] <;> omega
    have h1 : t / 2 % (2 ^ 52 - 1) < 2 ^ 52 - 1 := Nat.mod_lt _ (by decide)
    have h2 : Ieee.double.infRung = 0x7ff0000000000000 := rfl
    have h3 : Ieee.double.signWeight = 2 ^ 63 := rfl
    have h4 : Ieee.double.binade = 2 ^ 52 := rfl
    show isn Ieee.double _ = true
    rw [e, isn, read_word _ _ (by omega), rd_nan]
    simp; omega

theorem fv_FR (op : BinOp) (k : FloatKind) (x y : Nat) (w : World) : FR op k x y (fv op k x y w) := by
  unfold FR fv
  cases h : floatBits op k x y with
  | some r => exact .inl rfl
  | none => exact .inr ⟨rfl, nan_cut k x y _⟩

section
variable {P : Program}
theorem run_fl (op : BinOp) (hop : op = .add ∨ op = .sub ∨ op = .mul ∨ op = .quo) (t : TypeId) (k : FloatKind) (x y : Nat) (w : World) :
    (binOp op t (.float k x) (.float k y)).run P w = .ok (.float k (fv op k x y w)) (w.drewN (fd op k x y)) := by
  unfold fv fd
  cases h : floatBits op k x y with
  | some r => exact run_float_arith w op t k x y r h
  | none =>
    rcases hop with rfl | rfl | rfl | rfl <;> simp only [floatBits] at h <;> simp [binOp, Op.floatArith, h, Question.forced, World.drewN]
@[go_sem] theorem run_fadd (t : TypeId) (k : FloatKind) (x y : Nat) (w : World) : (binOp .add t (.float k x) (.float k y)).run P w = .ok (.float k (fv .add k x y w)) (w.drewN (fd .add k x y)) := run_fl _ (by simp) ..
@[go_sem] theorem run_fsub (t : TypeId) (k : FloatKind) (x y : Nat) (w : World) : (binOp .sub t (.float k x) (.float k y)).run P w = .ok (.float k (fv .sub k x y w)) (w.drewN (fd .sub k x y)) := run_fl _ (by simp) ..
@[go_sem] theorem run_fmul (t : TypeId) (k : FloatKind) (x y : Nat) (w : World) : (binOp .mul t (.float k x) (.float k y)).run P w = .ok (.float k (fv .mul k x y w)) (w.drewN (fd .mul k x y)) := run_fl _ (by simp) ..
@[go_sem] theorem run_fquo (t : TypeId) (k : FloatKind) (x y : Nat) (w : World) : (binOp .quo t (.float k x) (.float k y)).run P w = .ok (.float k (fv .quo k x y w)) (w.drewN (fd .quo k x y)) := run_fl _ (by simp) ..
end

@[go_sem] theorem run_store_float {P : Program} {w : World} {a : Addr} {m : Mode} (k : FloatKind) (b : Nat) : (store a (.float k b) m).run P w = stored P w a (.float k b) m := run_store P w a _ m rfl
@[go_sem] theorem run_store_complex {P : Program} {w : World} {a : Addr} {m : Mode} (k : FloatKind) (b c : Nat) : (store a (.complex k b c) m).run P w = stored P w a (.complex k b c) m := run_store P w a _ m rfl
@[go_sem] theorem unary_fneg (k : FloatKind) (b : Nat) : Op.unary .neg (.float k b) = pure (.float k (Op.negFloat k b)) := rfl
@[go_sem] theorem build26 (a b : Nat) (w : World) : (Instr.build 28 #[(0, .float .f64 a), (1, .float .f64 b)]).run Try.prog w = .ok (.agg #[.float .f64 a, .float .f64 b]) w := run_build w 28 _ _ (by kernel_rfl)
@[go_sem] theorem build26r (a : Nat) (w : World) : (Instr.build 28 #[(0, .float .f64 a)]).run Try.prog w = .ok (.agg #[.float .f64 a, .float .f64 0]) w := run_build w 28 _ _ (by kernel_rfl)
@[go_sem] theorem build26i (b : Nat) (w : World) : (Instr.build 28 #[(1, .float .f64 b)]).run Try.prog w = .ok (.agg #[.float .f64 0, .float .f64 b]) w := run_build w 28 _ _ (by kernel_rfl)

/-- The product of two complex numbers, part by part, each operation by itself. -/
def MulR (k : FloatKind) (a b c d re im : Nat) : Prop :=
  ∃ rr ii ri ir, FR .mul k a c rr ∧ FR .mul k b d ii ∧ FR .sub k rr ii re ∧ FR .mul k a d ri ∧ FR .mul k b c ir ∧ FR .add k ri ir im

theorem wideOf_any (a b : Nat) (w : World) :
    Calls Try.prog 29 #[.agg #[.float .f64 a, .float .f64 b]] w fun e w' => e = .returned (.complex .f64 a b) ∧ Below w.heap.size w w' := by
  go_enter Try.func29, Try.ntmps29
  go_wp2
  go_ret
  exact ⟨rfl, (Below.refl _ _).alloc (Nat.le_refl _) _⟩

theorem cxOf_any (a b : Nat) (w : World) :
    Calls Try.prog 30 #[.complex .f64 a b] w fun e w' => e = .returned (.agg #[.float .f64 a, .float .f64 b]) ∧ Below w.heap.size w w' := by
  go_enter Try.func30, Try.ntmps30
  go_wp2
  exact bodyPost_ret (v := .agg #[.float .f64 a, .float .f64 b]) (by simp [results, Try.results30, go_sem]) rfl ⟨rfl, (Below.refl _ _).alloc (Nat.le_refl _) _⟩

theorem cell_old (w : World) (o : Obj) (a : Addr) (h : a.block < w.heap.size) : (w.alloc o).cell? a = w.cell? a := World.cell?_of_block (w := w) (Below.heap_alloc w o a.block h)
theorem frozen_old (w : World) (o : Obj) (a : Addr) (h : a.block < w.heap.size) : (w.alloc o).frozen? a = w.frozen? a := World.frozen?_of_block (w := w) (Below.heap_alloc w o a.block h)

/-- Block N has two cells that may be written. -/
def Slot (N : Nat) (w : World) : Prop := ∃ v0 v1 t, w.heap[N]? = some (.cells #[v0, v1] t)

theorem Slot.lt {N : Nat} {w : World} (h : Slot N w) : N < w.heap.size := by
  obtain ⟨v0, v1, t, h⟩ := h
  exact (Array.getElem?_eq_some_iff.1 h).1
theorem Slot.below {N : Nat} {w w' : World} (h : Slot N w) (hb : Below w.heap.size w w') : Slot N w' := by
  have := h.lt
  obtain ⟨v0, v1, t, h⟩ := h
  exact ⟨v0, v1, t, (hb.block N this).trans h⟩
theorem slot_new (w : World) (v0 v1 : Value) (t : TypeId) (N : Nat) (hN : N = w.heap.size) : Slot N (w.alloc (.cells #[v0, v1] t)) := ⟨v0, v1, t, by subst hN; exact heap_alloc_new w _⟩
theorem slot_set (N i : Nat) (w : World) (v : Value) (hi : i < 2) (h : Slot N w) : Slot N (w.setCell ⟨N, i, none⟩ v) := by
  obtain ⟨v0, v1, t, h⟩ := h
  have : i = 0 ∨ i = 1 := by omega
  rcases this with rfl | rfl
  · exact ⟨v, v1, t, by simp [World.setCell, Array.getElem?_modify, h]⟩
  · exact ⟨v0, v, t, by simp [World.setCell, Array.getElem?_modify, h]⟩
/-- What a cell of block N holds (a name for it). -/
def cv (w : World) (N i : Nat) : Value := (w.cell? ⟨N, i, none⟩).getD undef
theorem Slot.open {N : Nat} {w : World} (h : Slot N w) : w.cell? ⟨N, 0, none⟩ = some (cv w N 0) ∧ w.cell? ⟨N, 1, none⟩ = some (cv w N 1) ∧ w.frozen? ⟨N, 0, none⟩ = false ∧ w.frozen? ⟨N, 1, none⟩ = false := by
  obtain ⟨v0, v1, t, h⟩ := h
  simp [cv, World.cell?, World.frozen?, h]

theorem slot_unset {N i : Nat} {w : World} {v : Value} (h : Slot N (w.setCell ⟨N, i, none⟩ v)) : Slot N w := by
  obtain ⟨v0, v1, t, h⟩ := h
  simp only [World.setCell, Array.getElem?_modify, if_true] at h
  cases ho : w.heap[N]? with
  | none => rw [ho] at h; cases h
  | some o =>
    rw [ho] at h
    cases o with
    | cells c t' fr =>
      simp at h
      obtain ⟨h1, rfl, rfl⟩ := h
      have hz : c.size = 2 := by have := congrArg Array.size h1; simpa using this
      match c, hz with
      | ⟨[x, y]⟩, _ => exact ⟨x, y, t', ho⟩
    | _ => simp at h
theorem slot_read {N : Nat} {w : World} {x y : Value} (h : Slot N ((w.setCell ⟨N, 0, none⟩ x).setCell ⟨N, 1, none⟩ y)) :
    ((w.setCell ⟨N, 0, none⟩ x).setCell ⟨N, 1, none⟩ y).cell? ⟨N, 0, none⟩ = some x ∧ ((w.setCell ⟨N, 0, none⟩ x).setCell ⟨N, 1, none⟩ y).cell? ⟨N, 1, none⟩ = some y := by
  obtain ⟨v0, v1, t, h⟩ := slot_unset (slot_unset h)
  constructor <;> simp [World.cell?, World.setCell, Array.getElem?_modify, h]

/-- Every block below N is as in W. -/
def Kp (W : World) (N : Nat) (w' : World) : Prop := Below N W w' ∧ N ≤ w'.heap.size

theorem Kp.cell {W w' : World} {N b o : Nat} (h : Kp W N w') (hb : b < N) {v : Value} (hv : W.cell? ⟨b, o, none⟩ = some v) : w'.cell? ⟨b, o, none⟩ = some v := (h.1.cell (p := ⟨b, o, none⟩) hb).trans hv
theorem Kp.below {W w w' : World} {N : Nat} (h : Kp W N w) (hb : Below w.heap.size w w') : Kp W N w' := ⟨h.1.trans (hb.mono h.2), Nat.le_trans h.2 hb.size⟩
theorem Kp.set {W w : World} {N i : Nat} (h : Kp W N w) (v : Value) : Kp W N (w.setCell ⟨N, i, none⟩ v) := ⟨h.1.setCell (Nat.le_refl _) v, by simp [World.setCell]; exact h.2⟩
/-- The cells that a region reads and writes: two arguments at n and n + 1, a result at n + 1 + 1. -/
abbrev S2 (W : World) (n a b c d : Nat) (w' : World) : Prop :=
  (w'.cell? ⟨n, 0, none⟩ = some (.float .f64 a) ∧ w'.cell? ⟨n, 1, none⟩ = some (.float .f64 b) ∧ w'.cell? ⟨n + 1, 0, none⟩ = some (.float .f64 c) ∧ w'.cell? ⟨n + 1, 1, none⟩ = some (.float .f64 d)) ∧
  (w'.cell? ⟨n + 1 + 1, 0, none⟩ = some (cv w' (n + 1 + 1) 0) ∧ w'.cell? ⟨n + 1 + 1, 1, none⟩ = some (cv w' (n + 1 + 1) 1) ∧ w'.frozen? ⟨n + 1 + 1, 0, none⟩ = false ∧ w'.frozen? ⟨n + 1 + 1, 1, none⟩ = false) ∧
  Kp W (n + 1 + 1) w' ∧ Slot (n + 1 + 1) w'

theorem S2.mk {W : World} {n a b c d : Nat} (h1 : W.cell? ⟨n, 0, none⟩ = some (.float .f64 a)) (h2 : W.cell? ⟨n, 1, none⟩ = some (.float .f64 b)) (h3 : W.cell? ⟨n + 1, 0, none⟩ = some (.float .f64 c)) (h4 : W.cell? ⟨n + 1, 1, none⟩ = some (.float .f64 d)) {w' : World} (h : Kp W (n + 1 + 1) w') (h' : Slot (n + 1 + 1) w') : S2 W n a b c d w' :=
  ⟨⟨h.cell (by omega) h1, h.cell (by omega) h2, h.cell (by omega) h3, h.cell (by omega) h4⟩, h'.open, h, h'⟩

/-- Three boxes laid one behind the other: what is known of them. -/
theorem boxes3 (w : World) (a b c d : Nat) : ∃ W, ((w.alloc (.cells #[.float .f64 a, .float .f64 b] 28)).alloc (.cells #[.float .f64 c, .float .f64 d] 28)).alloc (.cells #[.float .f64 0, .float .f64 0] 28) = W ∧
    (∀ w', Kp W (w.heap.size + 1 + 1) w' → Slot (w.heap.size + 1 + 1) w' → S2 W w.heap.size a b c d w') ∧ Kp W (w.heap.size + 1 + 1) W ∧ Slot (w.heap.size + 1 + 1) W ∧ Below w.heap.size w W := by
  refine ⟨_, rfl, fun w' => S2.mk ?_ ?_ ?_ ?_, ⟨Below.refl _ _, ?_⟩, slot_new _ _ _ _ _ ?_, ?_⟩
  · rw [cell_old _ _ _ (by simp <;> omega), cell_old _ _ _ (by simp)]; simp
  · rw [cell_old _ _ _ (by simp <;> omega), cell_old _ _ _ (by simp)]; simp
  · rw [cell_old _ _ _ (by simp)]; simp
  · rw [cell_old _ _ _ (by simp)]; simp
  · simp
  · simp
  · exact (((Below.refl _ _).alloc (Nat.le_refl _) _).alloc (by simp) _).alloc (by simp <;> omega) _

end Go.Proofs.Ytmlgkmgkicdnbaa
