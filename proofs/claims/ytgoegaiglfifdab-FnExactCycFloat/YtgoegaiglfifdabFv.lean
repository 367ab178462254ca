/-
  Float operations as the walk takes them, and small facts on worlds. No function of the program.
-/
import Derived.Test.YtgoegaiglfifdabOrder
import Derived.Test.YtgoegaiglfifdabKit
import Derived.WalkKit
import Derived.WalkLawsBesides
import Derived.WalkSmall
import Derived.Below
import Derived.Deep.Draws
import Derived.Outline
import Derived.OwnWalk
import Derived.Deep.RegionHeld3
import Derived.Deep.QuietTactic
import Derived.BigQuiet
import Derived.RegionTactic
import Derived.Laws.ComplexArith
import Derived.Laws.BitsAllLaws
import Derived.Laws.Externs
import Derived.Laws.Rows
import Derived.Laws.StructEq
import Derived.Laws.Tables
namespace Go.Proofs.Ytgoegaiglfifdab
open Go.RowKit Fl

/-- What a float operation gives in the world w: IEEE's bits, or a NaN that the tape tells. -/
def fv (op : BinOp) (k : FloatKind) (x y : Nat) (w : World) : Nat :=
  match floatBits op k x y with
  | some r => r
  | none => (Question.nanBits k x y).cut (w.tape w.drawn (.nanBits k x y))
/-- How often it asks the tape. -/
def fd (op : BinOp) (k : FloatKind) (x y : Nat) : Nat := if (floatBits op k x y).isSome then 0 else 1
theorem nan_cut (k : FloatKind) (x y t : Nat) : isn k.format ((Question.nanBits k x y).cut t) = true := by
  cases k
  · have e : (Question.nanBits .f32 x y).cut t = Ieee.single.word (t % 2 == 1) (Ieee.single.infRung + (1 + t / 2 % (2 ^ 23 - 1))) := by
      have h : t % 2 = 0 ∨ t % 2 = 1 := by omega
      have h2 : Ieee.single.infRung = 0x7f800000 := rfl
      have h3 : Ieee.single.signWeight = 2 ^ 31 := rfl
      rw [h2]
      rcases h with h | h <;> simp [Question.cut, Ieee.Format.word, h, h3] <;> omega
    have h1 : t / 2 % (2 ^ 23 - 1) < 2 ^ 23 - 1 := Nat.mod_lt _ (by decide)
    have h2 : Ieee.single.infRung = 0x7f800000 := rfl
    have h3 : Ieee.single.signWeight = 2 ^ 31 := rfl
    have h4 : Ieee.single.binade = 2 ^ 23 := rfl
    show isn Ieee.single _ = true
    rw [e, isn, read_word _ _ (by omega), rd_nan]
    simp; omega
  · have e : (Question.nanBits .f64 x y).cut t = Ieee.double.word (t % 2 == 1) (Ieee.double.infRung + (1 + t / 2 % (2 ^ 52 - 1))) := by
      have h : t % 2 = 0 ∨ t % 2 = 1 := by omega
      have h2 : Ieee.double.infRung = 0x7ff0000000000000 := rfl
      have h3 : Ieee.double.signWeight = 2 ^ 63 := rfl
      rw [h2]
      rcases h with h | h <;> simp [Question.cut, Ieee.Format.word, h, h3] <;> omega
    have h1 : t / 2 % (2 ^ 52 - 1) < 2 ^ 52 - 1 := Nat.mod_lt _ (by decide)
    have h2 : Ieee.double.infRung = 0x7ff0000000000000 := rfl
    have h3 : Ieee.double.signWeight = 2 ^ 63 := rfl
    have h4 : Ieee.double.binade = 2 ^ 52 := rfl
    show isn Ieee.double _ = true
    rw [e, isn, read_word _ _ (by omega), rd_nan]
    simp; omega
theorem fv_FR (op : BinOp) (k : FloatKind) (x y : Nat) (w : World) : FR op k x y (fv op k x y w) := by
  unfold FR fv
  cases h : floatBits op k x y with
  | some r => exact .inl rfl
  | none => exact .inr ⟨rfl, nan_cut k x y _⟩

section
variable {P : Program}
theorem run_fl (op : BinOp) (hop : op = .add ∨ op = .sub ∨ op = .mul ∨ op = .quo) (t : TypeId) (k : FloatKind) (x y : Nat) (w : World) :
    (binOp op t (.float k x) (.float k y)).run P w = .ok (.float k (fv op k x y w)) (w.drewN (fd op k x y)) := by
  unfold fv fd
  cases h : floatBits op k x y with
  | some r => exact run_float_arith w op t k x y r h
  | none =>
    rcases hop with rfl | rfl | rfl | rfl <;> simp only [floatBits] at h <;> simp [binOp, Op.floatArith, h, Question.forced, World.drewN]
@[go_sem] theorem run_fadd (t : TypeId) (k : FloatKind) (x y : Nat) (w : World) : (binOp .add t (.float k x) (.float k y)).run P w = .ok (.float k (fv .add k x y w)) (w.drewN (fd .add k x y)) := run_fl _ (by simp) ..
@[go_sem] theorem run_fsub (t : TypeId) (k : FloatKind) (x y : Nat) (w : World) : (binOp .sub t (.float k x) (.float k y)).run P w = .ok (.float k (fv .sub k x y w)) (w.drewN (fd .sub k x y)) := run_fl _ (by simp) ..
@[go_sem] theorem run_fmul (t : TypeId) (k : FloatKind) (x y : Nat) (w : World) : (binOp .mul t (.float k x) (.float k y)).run P w = .ok (.float k (fv .mul k x y w)) (w.drewN (fd .mul k x y)) := run_fl _ (by simp) ..
@[go_sem] theorem run_fquo (t : TypeId) (k : FloatKind) (x y : Nat) (w : World) : (binOp .quo t (.float k x) (.float k y)).run P w = .ok (.float k (fv .quo k x y w)) (w.drewN (fd .quo k x y)) := run_fl _ (by simp) ..
end

@[go_sem] theorem run_store_float {P : Program} {w : World} {a : Addr} {m : Mode} (k : FloatKind) (b : Nat) : (store a (.float k b) m).run P w = stored P w a (.float k b) m := run_store P w a _ m rfl
@[go_sem] theorem run_store_complex {P : Program} {w : World} {a : Addr} {m : Mode} (k : FloatKind) (b c : Nat) : (store a (.complex k b c) m).run P w = stored P w a (.complex k b c) m := run_store P w a _ m rfl
@[go_sem] theorem unary_fneg (k : FloatKind) (b : Nat) : Op.unary .neg (.float k b) = pure (.float k (Op.negFloat k b)) := rfl
theorem isn_lt (k : FloatKind) (x y t : Nat) : (Question.nanBits k x y).cut t < 2 ^ k.format.width := by
  cases k
  · show _ < 2 ^ 32
    have h1 : t / 2 % (2 ^ 23 - 1) < 2 ^ 23 - 1 := Nat.mod_lt _ (by decide)
    simp only [Question.cut]; omega
  · show _ < 2 ^ 64
    have h1 : t / 2 % (2 ^ 52 - 1) < 2 ^ 52 - 1 := Nat.mod_lt _ (by decide)
    simp only [Question.cut]; omega
theorem fv_lt (op : BinOp) (x y : Nat) (w : World) : fv op .f64 x y w < 2 ^ 64 := by
  unfold fv
  split
  · rename_i r h
    have := floatBits_wf h
    simpa [Lit.wf] using this
  · exact isn_lt .f64 x y _
theorem ofInt_lt (n : Int) : floatOfInt .f64 n < 2 ^ 64 := by
  have := floatOfInt_wf .f64 n
  simpa [Lit.wf] using this

theorem neg_lt {x : Nat} (h : x < 2 ^ 64) : Op.negFloat .f64 x < 2 ^ 64 := Nat.xor_lt_two_pow h (by decide)

end Go.Proofs.Ytgoegaiglfifdab
