/-
  Sites compared by their ranks: walked.
-/
import Derived.Test.YtgjhbkpocbihbaaGreatND
import Derived.Test.YtgjhbkpocbihbaaGreatMH
import Derived.Test.YtgjhbkpocbihbaaGreatMK
namespace Go.Proofs.YtgjhbkpocbihbaaGreat
open Go.RowKit Go.Shelf Go.Sort Go.Lib

abbrev Q2 := Int × Int
def e2 (x : Q2) : List Value := [.int .i64 x.1, .int .i64 x.2]
def t2f (x : Q2) : Nat → Int := fun i => if i = 0 then x.1 else x.2
def c2 (x y : Q2) : Int := cmp3 x.2 y.2
theorem e2_one (x : Q2) : ∀ u ∈ e2 x, u.oneCell' = true := by
  intro u hu
  simp only [e2, List.mem_cons, List.not_mem_nil, or_false] at hu
  rcases hu with rfl | rfl <;> rfl
theorem c2_lt {x y : Q2} : c2 x y < 0 ↔ x.2 < y.2 := by
  unfold c2 cmp3
  split
  · omega
  · split <;> omega
theorem c2_swo : SWO (ltOf c2) where
  irrefl x := by
    unfold ltOf
    rw [decide_eq_false_iff_not, c2_lt]
    omega
  trans x y z h1 h2 := by
    unfold ltOf at *
    rw [decide_eq_true_eq, c2_lt] at *
    omega
  ntrans x y z h1 h2 := by
    unfold ltOf at *
    rw [decide_eq_false_iff_not, c2_lt] at *
    omega
theorem e2_get (x : Q2) (j : Nat) (hj : j < 2) : (e2 x)[j]! = .int .i64 (t2f x j) := by
  rcases (by omega : j = 0 ∨ j = 1) with rfl | rfl <;> rfl
/-- Such a struct as a value. -/
abbrev tV2 (x : Q2) : Value := .agg #[.int .i64 x.1, .int .i64 x.2]
set_option maxRecDepth 100000 in
set_option maxHeartbeats 1000000 in
theorem cmpS_any (x y : Q2) (w : World) : Calls Tryz.prog 66 #[tV2 x, tV2 y] w fun e w' => e = .returned (.int .i64 (c2 x y)) ∧ Grew w w' := by
  obtain ⟨x0, x1⟩ := x
  obtain ⟨y0, y1⟩ := y
  have HR : c2 (x0, x1) (y0, y1) = cmp3 x1 y1 := rfl
  rw [HR]
  clear HR
  obtain ⟨W, hW, b0, b1, bW, -⟩ := bx2 w 31 31 #[.int .i64 x0, .int .i64 x1] #[.int .i64 y0, .int .i64 y1]
  have G : Grew w W := by rw [← hW]; exact ((Grew.refl w).alloc _).alloc _
  obtain ⟨p0, p1, -⟩ := b0.open2
  obtain ⟨r0, r1, -⟩ := b1.open2
  go_enter Tryz.func66, Tryz.ntmps66
  go_wp2_with fail
  clear hW
  refine (cmp_any _ _ _).mono ?_
  rintro e w2 ⟨rfl, rfl⟩
  go_wp2
  go_ret
  exact ⟨rfl, G⟩
end Go.Proofs.YtgjhbkpocbihbaaGreat
