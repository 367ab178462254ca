/-
  The order of floats by rank. No function of the program.
-/
import Derived.Test.YtmlgkmgkicdnbaaMFv
namespace Go.Proofs.Ytmlgkmgkicdnbaa
open Go.RowKit Fl

/-- The rank of a float: below 0, minus nought, nought, above 0, NaN. -/
def rk (x : Nat) : Int :=
  if isn Ieee.double x then 4
  else if rung Ieee.double x = 0 then (if sgn Ieee.double x then 1 else 2)
  else if sgn Ieee.double x then 0 else 3
theorem dbl_ok : Ieee.double.binade ≤ Ieee.double.infRung := by decide
theorem isn_zero : isn Ieee.double 0 = false := by decide +kernel
theorem ival_zero : ival Ieee.double 0 = 0 := by
  have h1 : sgn Ieee.double 0 = false := by decide +kernel
  have h2 : rung Ieee.double 0 = 0 := by decide +kernel
  unfold ival; rw [h1, h2, val_zero]; rfl
theorem ord_self {x : Nat} (h : isn Ieee.double x = false) : FloatKind.f64.format.order x x = some .eq := by
  show Ieee.double.order x x = _
  rw [order_ival _ dbl_ok h h]; simp
theorem ord_nan {x y : Nat} (h : isn Ieee.double x = true ∨ isn Ieee.double y = true) : FloatKind.f64.format.order x y = none := order_nan Ieee.double h
theorem val_pos {r : Nat} (h : r ≠ 0) : 0 < val Ieee.double r := by
  have := val_mono Ieee.double (show 0 < r by omega)
  rw [val_zero] at this; exact this
theorem ord_neg {x : Nat} (h : isn Ieee.double x = false) (hr : rung Ieee.double x ≠ 0) (hs : sgn Ieee.double x = true) : FloatKind.f64.format.order x 0 = some .lt := by
  show Ieee.double.order x 0 = _
  rw [order_ival _ dbl_ok h isn_zero, ival_zero]
  have := val_pos hr
  rw [Int.compare_eq_lt.2 (by unfold ival; rw [hs]; simp; omega)]
theorem ord_pos {x : Nat} (h : isn Ieee.double x = false) (hr : rung Ieee.double x ≠ 0) (hs : sgn Ieee.double x = false) : FloatKind.f64.format.order x 0 = some .gt := by
  show Ieee.double.order x 0 = _
  rw [order_ival _ dbl_ok h isn_zero, ival_zero]
  have := val_pos hr
  rw [Int.compare_eq_gt.2 (by unfold ival; rw [hs]; simp; omega)]
theorem ord_zero {x : Nat} (h : isn Ieee.double x = false) (hr : rung Ieee.double x = 0) : FloatKind.f64.format.order x 0 = some .eq := by
  show Ieee.double.order x 0 = _
  rw [order_ival _ dbl_ok h isn_zero, ival_zero]
  have : ival Ieee.double x = 0 := by unfold ival; rw [hr, val_zero]; simp
  rw [this]; simp
theorem read_zero {x : Nat} (hr : rung Ieee.double x = 0) : Ieee.double.read x = .number (sgn Ieee.double x) 0 Ieee.double.leastPlace := by
  rw [read_eq, hr]; rfl
/-- 1 / x of a nought: infinity with its sign. -/
theorem quo_nought {x : Nat} (hr : rung Ieee.double x = 0) : floatBits .quo .f64 4607182418800017408 x = some (Ieee.double.word (sgn Ieee.double x) Ieee.double.infRung) := by
  show Ieee.double.div 4607182418800017408 x = _
  have h1 : Ieee.double.read 4607182418800017408 = .number false 4503599627370496 (-52) := by decide +kernel
  unfold Ieee.Format.div
  rw [read_zero hr, h1]
  simp [Ieee.Datum.quotient, Ieee.Format.write]
theorem ord_quo {x : Nat} (hr : rung Ieee.double x = 0) (w : World) : FloatKind.f64.format.order (fv .quo .f64 4607182418800017408 x w) 0 = some (if sgn Ieee.double x then .lt else .gt) := by
  unfold fv
  rw [quo_nought hr]
  dsimp only
  cases sgn Ieee.double x <;> decide +kernel
/-- The order of two floats as the specification tells it. -/
def lo (x y : Nat) : Int :=
  if rk x < rk y then -1
  else if rk y < rk x then 1
  else if FloatKind.f64.format.order x y = some .lt then -1
  else if FloatKind.f64.format.order x y = some .gt then 1 else 0
/-- The order of two complex numbers. -/
def clo (a b c d : Nat) : Int := if lo a c = 0 then lo b d else lo a c
theorem lo_same {x y : Nat} (h : ab .f64 x = ab .f64 y) : lo x y = 0 := by
  replace h : (if isn Ieee.double x = true then none else some x) = if isn Ieee.double y = true then none else some y := h
  by_cases hx : isn Ieee.double x = true
  · have hy : isn Ieee.double y = true := by
      by_cases hy : isn Ieee.double y = true
      · exact hy
      · rw [if_pos hx, if_neg hy] at h; cases h
    unfold lo rk
    rw [ord_nan (.inl hx), hx, hy]; simp
  · by_cases hy : isn Ieee.double y = true
    · rw [if_neg hx, if_pos hy] at h; cases h
    · rw [if_neg hx, if_neg hy] at h
      cases h
      have hx : isn Ieee.double x = false := by simpa using hx
      unfold lo
      rw [ord_self hx]; simp

/-- The rank that puts floats in order. -/
def key (x : Nat) : Int :=
  if isn Ieee.double x then 9223372036854775807
  else if sgn Ieee.double x then -1 - (rung Ieee.double x : Int) else (rung Ieee.double x : Int)
theorem sgn_iff {x : Nat} (h : x < 2 ^ 64) : sgn Ieee.double x = decide (2 ^ 63 ≤ x) := by
  have e : Ieee.double.signWeight = 2 ^ 63 := rfl
  unfold sgn
  rw [e]
  by_cases hx : 2 ^ 63 ≤ x
  · have : x / 2 ^ 63 = 1 := by omega
    rw [this]; simp; omega
  · have : x / 2 ^ 63 = 0 := by omega
    rw [this]; simp; omega
theorem and_rung {x : Nat} (hx : x < 2 ^ 64) : bits .and .u64 (x : Int) 9223372036854775807 = (rung Ieee.double x : Int) := by
  have h := u64_and_nat x 9223372036854775807 hx (by decide)
  have e : Ieee.double.signWeight = 2 ^ 63 := rfl
  unfold rung
  rw [e]
  have h2 : x &&& 9223372036854775807 = x % 2 ^ 63 := Nat.and_two_pow_sub_one_eq_mod x 63
  rw [h2] at h
  exact h
theorem rung_lt (x : Nat) : rung Ieee.double x < 2 ^ 63 := Nat.mod_lt _ (by decide)

/-- Two whole numbers compared. -/
def cmpI (a b : Int) : Int := if a < b then -1 else if b < a then 1 else 0
/-- The order of two floats by rank. -/
def ko (x y : Nat) : Int := cmpI (key x) (key y)
/-- The order of two complex numbers by rank. -/
def cko (a b c d : Nat) : Int := if ko a c = 0 then ko b d else ko a c
theorem isn_rung {x : Nat} (h : isn Ieee.double x = false) : rung Ieee.double x ≤ Ieee.double.infRung := by
  unfold isn at h
  rw [read_eq, rd_nan] at h
  have hb := dbl_ok
  simp at h
  omega
/-- The specification's order of two floats is that of their ranks. -/
theorem lo_eq_ko (x y : Nat) : lo x y = ko x y := by
  have hi : Ieee.double.infRung = 9218868437227405312 := by decide +kernel
  by_cases hx : isn Ieee.double x = true
  · by_cases hy : isn Ieee.double y = true
    · unfold lo ko cmpI rk key
      simp [hx, hy, ord_nan (.inl hx)]
    · have hy : isn Ieee.double y = false := by simpa using hy
      have hr := isn_rung hy
      rw [hi] at hr
      have e1 : rk x = 4 := by unfold rk; rw [if_pos hx]
      have e2 : rk y < 4 := by unfold rk; rw [hy]; simp; split <;> split <;> omega
      have e3 : key x = 9223372036854775807 := by unfold key; rw [if_pos hx]
      have e4 : key y < 9223372036854775807 := by unfold key; rw [hy]; simp; split <;> omega
      unfold lo ko cmpI
      rw [if_neg (by omega), if_pos (by omega), if_neg (by omega), if_pos (by omega)]
  · have hx : isn Ieee.double x = false := by simpa using hx
    have hrx := isn_rung hx
    rw [hi] at hrx
    by_cases hy : isn Ieee.double y = true
    · have e1 : rk y = 4 := by unfold rk; rw [if_pos hy]
      have e2 : rk x < 4 := by unfold rk; rw [hx]; simp; split <;> split <;> omega
      have e3 : key y = 9223372036854775807 := by unfold key; rw [if_pos hy]
      have e4 : key x < 9223372036854775807 := by unfold key; rw [hx]; simp; split <;> omega
      unfold lo ko cmpI
      rw [if_pos (by omega), if_pos (by omega)]
    · have hy : isn Ieee.double y = false := by simpa using hy
      have ho : FloatKind.f64.format.order x y = some (compare (ival Ieee.double x) (ival Ieee.double y)) := order_ival Ieee.double dbl_ok hx hy
      have ol : (FloatKind.f64.format.order x y = some .lt) ↔ ival Ieee.double x < ival Ieee.double y := by rw [ho]; simp [Int.compare_eq_lt]
      have og : (FloatKind.f64.format.order x y = some .gt) ↔ ival Ieee.double y < ival Ieee.double x := by rw [ho]; simp [Int.compare_eq_gt]
      have v1 := val_lt_iff Ieee.double (rung Ieee.double x) (rung Ieee.double y)
      have v2 := val_lt_iff Ieee.double (rung Ieee.double y) (rung Ieee.double x)
      unfold lo ko cmpI
      simp only [ol, og]
      unfold rk key ival
      rw [hx, hy]
      generalize val Ieee.double (rung Ieee.double x) = vx at *
      generalize val Ieee.double (rung Ieee.double y) = vy at *
      generalize rung Ieee.double x = rx at *
      generalize rung Ieee.double y = ry at *
      cases sgn Ieee.double x <;> cases sgn Ieee.double y <;> simp only [Bool.false_eq_true, if_false, if_true] <;> (repeat' split) <;> omega

theorem clo_eq (a b c d : Nat) : clo a b c d = cko a b c d := by
  unfold clo cko
  rw [lo_eq_ko, lo_eq_ko]

end Go.Proofs.Ytmlgkmgkicdnbaa
