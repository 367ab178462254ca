/-
  Shifted by the program and by the specification, walked.
-/
import Derived.Test.YtlmgdcoknpakcaaNl
namespace Go.Proofs.Ytlmgdcoknpakcaa
open Go.RowKit

/-- What one site does to the steps that begin there. -/
def stR (W : Int) (F : Nat → Int) (y x : Int) (R : Nat → Int) : Nat → Int := if x + 1 < W then fun i => if (i : Int) = rn W x y then R i + (ut W F (x + 1) y - ut W F x y) else R i else R
def stU (W H : Int) (F : Nat → Int) (y x : Int) (U : Nat → Int) : Nat → Int := if y + 1 < H then fun i => if (i : Int) = un W x y then U i + (ut W F x (y + 1) - ut W F x y) else U i else U
def rowR (W : Int) (F : Nat → Int) (y : Int) (R : Nat → Int) : Nat → Nat → Int
  | 0 => R
  | k + 1 => stR W F y k (rowR W F y R k)
def rowU (W H : Int) (F : Nat → Int) (y : Int) (U : Nat → Int) : Nat → Nat → Int
  | 0 => U
  | k + 1 => stU W H F y k (rowU W H F y U k)
def allR (W : Int) (F R : Nat → Int) : Nat → Nat → Int
  | 0 => R
  | k + 1 => rowR W F k (allR W F R k) W.toNat
def allU (W H : Int) (F U : Nat → Int) : Nat → Nat → Int
  | 0 => U
  | k + 1 => rowU W H F k (allU W H F U k) W.toNat
/-- The field's numbers are small. -/
def small (f : Nat → Int) (n : Nat) (B : Int) : Prop := ∀ i, i < n → -B ≤ f i ∧ f i ≤ B
theorem field_at {W H x y : Int} {lf : Nat} {F : Nat → Int} (hW : 1 ≤ W ∧ W ≤ 30) (hH : 1 ≤ H ∧ H ≤ 30) (h : slipsB lf F (W * H) = true) (hx : 0 ≤ x ∧ x < W) (hy : 0 ≤ y ∧ y < H) : ∃ j : Nat, un W x y = (j : Int) ∧ j < lf ∧ ut W F x y = F j ∧ (-1000000 ≤ F j ∧ F j ≤ 1000000) := by
  obtain ⟨h1, h2⟩ := slipsB_of h
  have h5 := mul_in (a := y) (b := W) (x := 30) (y := 30) (by omega) (by omega)
  have h6 : (y + 1) * W ≤ H * W := Int.mul_le_mul_of_nonneg_right (by omega) (by omega)
  rw [Int.add_mul, Int.one_mul, Int.mul_comm H] at h6
  have h3 : 0 ≤ un W x y := by unfold un; omega
  have h4 : un W x y < W * H := by unfold un; omega
  exact ⟨(un W x y).toNat, (Int.toNat_of_nonneg h3).symm, by omega, rfl, h2 _ (by omega)⟩
theorem st_in {W H x y : Int} {lf : Nat} {F : Nat → Int} (hW : 1 ≤ W ∧ W ≤ 30) (hH : 1 ≤ H ∧ H ≤ 30) (h : slipsB lf F (W * H) = true) (hx : 0 ≤ x ∧ x < W) (hy : 0 ≤ y ∧ y < H) {n : Nat} {R : Nat → Int} {B : Int} (hR : small R n B) : small (stR W F y x R) n (B + 2000000) ∧ small (stU W H F y x R) n (B + 2000000) := by
  obtain ⟨j, -, -, e0, b0⟩ := field_at hW hH h hx hy
  rw [← e0] at b0
  refine ⟨fun i hi => ?_, fun i hi => ?_⟩
  all_goals have hi' := hR i hi
  · unfold stR
    by_cases c : x + 1 < W
    · obtain ⟨j1, -, -, e1, b1⟩ := field_at hW hH h (x := x + 1) (y := y) (by omega) hy
      rw [← e1] at b1
      rw [if_pos c]
      show _ ≤ ite _ _ _ ∧ ite _ _ _ ≤ _
      split <;> omega
    · rw [if_neg c]; omega
  · unfold stU
    by_cases c : y + 1 < H
    · obtain ⟨j1, -, -, e1, b1⟩ := field_at hW hH h (x := x) (y := y + 1) hx (by omega)
      rw [← e1] at b1
      rw [if_pos c]
      show _ ≤ ite _ _ _ ∧ ite _ _ _ ≤ _
      split <;> omega
    · rw [if_neg c]; omega
theorem row_in {W H y : Int} {lf : Nat} {F : Nat → Int} (hW : 1 ≤ W ∧ W ≤ 30) (hH : 1 ≤ H ∧ H ≤ 30) (h : slipsB lf F (W * H) = true) (hy : 0 ≤ y ∧ y < H) {n : Nat} {R : Nat → Int} {B : Int} (hR : small R n B) : ∀ k : Nat, (k : Int) ≤ W → small (rowR W F y R k) n (B + 2000000 * k) ∧ small (rowU W H F y R k) n (B + 2000000 * k)
  | 0, _ => by simpa [rowR, rowU] using hR
  | k + 1, hk => by
    obtain ⟨h1, h2⟩ := row_in hW hH h hy hR k (by omega)
    have h3 := (st_in hW hH h (x := k) (by omega) hy h1).1
    have h4 := (st_in hW hH h (x := k) (by omega) hy h2).2
    have e : B + 2000000 * ((k + 1 : Nat) : Int) = B + 2000000 * (k : Int) + 2000000 := by omega
    rw [e]
    exact ⟨h3, h4⟩
theorem small_up {f : Nat → Int} {n : Nat} {B C : Int} (h : small f n B) (hBC : B ≤ C) : small f n C := fun i hi => by have := h i hi; omega
theorem all_in {W H : Int} {lf : Nat} {F : Nat → Int} (hW : 1 ≤ W ∧ W ≤ 30) (hH : 1 ≤ H ∧ H ≤ 30) (h : slipsB lf F (W * H) = true) {n : Nat} {R : Nat → Int} (hR : small R n 1000000) : ∀ k : Nat, (k : Int) ≤ H → small (allR W F R k) n (1000000 + 60000000 * k) ∧ small (allU W H F R k) n (1000000 + 60000000 * k)
  | 0, _ => by simpa [allR, allU] using hR
  | k + 1, hk => by
    obtain ⟨h1, h2⟩ := all_in hW hH h hR k (by omega)
    have h3 := (row_in hW hH h (y := k) (by omega) h1 W.toNat (by omega)).1
    have h4 := (row_in hW hH h (y := k) (by omega) h2 W.toNat (by omega)).2
    exact ⟨small_up h3 (by omega), small_up h4 (by omega)⟩
theorem implShifted_no {w : World} {a a' : Option Addr} {lr lu cr cu : Nat} {r u : Nat → Int} {af : Option Addr} {lf cf : Nat} {F : Nat → Int} (W H : Int) (hF : Src w af lf F) (hlf : lf ≤ 1048576) (hr : Src w a lr r) (hu : Src w a' lu u) (hlr : lr ≤ 1048576) (hlu : lu ≤ 1048576) (h : ¬ (netOk W H lr r lu u = true ∧ slipsB lf F (W * H) = true)) :
    Calls Try.prog 26 #[nV W H (.slice a lr cr) (.slice a' lu cu), .slice af lf cf] w fun e w' => e = .returned (.tuple #[nV 0 0 (.slice none 0 0) (.slice none 0 0), .bool false]) ∧ Below w.heap.size w w' := by
  obtain ⟨V, hV, A1, B1, -⟩ := boxed w 32 #[.int .i64 W, .int .i64 H, .slice a lr cr, .slice a' lu cu]
  obtain ⟨V2, hV2, A2, B2, -⟩ := boxed V 32 #[.int .i64 0, .int .i64 0, .slice none 0 0, .slice none 0 0]
  have s1 := A1.lt
  have s2 := A2.lt
  replace A1 := A1.below B2
  replace B1 := B1.trans (B2.mono B1.size)
  replace hr := hr.below B1
  replace hu := hu.below B1
  replace hF := hF.below B1
  obtain ⟨c0, c1, c2, c3, -⟩ := A1.open4
  rcases hok : netOk W H lr r lu u with _ | _
  · go_enter Try.func26, Try.ntmps26
    go_wp2_with fail
    refine (implNetOk_any W H hr hu hlr hlu).mono ?_
    rintro e w1 ⟨rfl, b1⟩
    rw [hok]
    clear c0 c1 c2 c3
    replace A1 := A1.below b1
    replace A2 := A2.below b1
    replace hr := hr.below b1
    replace hu := hu.below b1
    replace hF := hF.below b1
    replace B1 := B1.trans (b1.mono B1.size)
    obtain ⟨c0, c1, c2, c3, -⟩ := A1.open4
    obtain ⟨d0, d1, d2, d3, f0, f1, f2, f3⟩ := A2.open4
    go_wp2
    have A8 := put4_at A2 (.int .i64 0) (.int .i64 0) (.slice none 0 0) (.slice none 0 0)
    obtain ⟨r0, r1, r2, r3, -⟩ := A8.open4
    exact bodyPost_ret (v := .tuple #[nV 0 0 (.slice none 0 0) (.slice none 0 0), .bool false]) (by simp [results, Try.results26, go_sem, r0, r1, r2, r3]) rfl ⟨rfl, below_put4 B1 (by omega) _ _ _ _⟩
  · obtain ⟨hW, hH, -⟩ := netOk_of_true hok
    have p1 := mul_in (a := W) (b := H) (x := 30) (y := 30) (by omega) (by omega)
    have hs : slipsB lf F (W * H) = false := by
      rcases hs : slipsB lf F (W * H) with _ | _
      · rfl
      · exact absurd ⟨hok, hs⟩ h
    go_enter Try.func26, Try.ntmps26
    go_wp2_with fail
    refine (implNetOk_any W H hr hu hlr hlu).mono ?_
    rintro e w1 ⟨rfl, b1⟩
    rw [hok]
    clear c0 c1 c2 c3
    replace A1 := A1.below b1
    replace A2 := A2.below b1
    replace hr := hr.below b1
    replace hu := hu.below b1
    replace hF := hF.below b1
    replace B1 := B1.trans (b1.mono B1.size)
    obtain ⟨c0, c1, c2, c3, -⟩ := A1.open4
    go_wp2_with fail
    refine (implSlips_any (W * H) hF hlf).mono ?_
    rintro e w2 ⟨rfl, rfl⟩
    rw [hs]
    obtain ⟨d0, d1, d2, d3, f0, f1, f2, f3⟩ := A2.open4
    go_wp2
    have A8 := put4_at A2 (.int .i64 0) (.int .i64 0) (.slice none 0 0) (.slice none 0 0)
    obtain ⟨r0, r1, r2, r3, -⟩ := A8.open4
    exact bodyPost_ret (v := .tuple #[nV 0 0 (.slice none 0 0) (.slice none 0 0), .bool false]) (by simp [results, Try.results26, go_sem, r0, r1, r2, r3]) rfl ⟨rfl, below_put4 B1 (by omega) _ _ _ _⟩
theorem specShifted_no {w : World} {a a' : Option Addr} {lr lu cr cu : Nat} {r u : Nat → Int} {af : Option Addr} {lf cf : Nat} {F : Nat → Int} (W H : Int) (hF : Src w af lf F) (hlf : lf ≤ 1048576) (hr : Src w a lr r) (hu : Src w a' lu u) (hlr : lr ≤ 1048576) (hlu : lu ≤ 1048576) (h : ¬ (netOk W H lr r lu u = true ∧ slipsB lf F (W * H) = true)) :
    Calls Try.prog 25 #[nV W H (.slice a lr cr) (.slice a' lu cu), .slice af lf cf] w fun e w' => e = .returned (.tuple #[nV 0 0 (.slice none 0 0) (.slice none 0 0), .bool false]) ∧ Below w.heap.size w w' := by
  obtain ⟨V, hV, A1, B1, -⟩ := boxed w 32 #[.int .i64 W, .int .i64 H, .slice a lr cr, .slice a' lu cu]
  obtain ⟨V2, hV2, A2, B2, -⟩ := boxed V 32 #[.int .i64 0, .int .i64 0, .slice none 0 0, .slice none 0 0]
  have s1 := A1.lt
  have s2 := A2.lt
  replace A1 := A1.below B2
  replace B1 := B1.trans (B2.mono B1.size)
  replace hr := hr.below B1
  replace hu := hu.below B1
  replace hF := hF.below B1
  obtain ⟨c0, c1, c2, c3, -⟩ := A1.open4
  rcases hok : netOk W H lr r lu u with _ | _
  · go_enter Try.func25, Try.ntmps25
    go_wp2_with fail
    refine (specNetOk_any W H hr hu hlr hlu).mono ?_
    rintro e w1 ⟨rfl, b1⟩
    rw [hok]
    clear c0 c1 c2 c3
    replace A1 := A1.below b1
    replace A2 := A2.below b1
    replace hr := hr.below b1
    replace hu := hu.below b1
    replace hF := hF.below b1
    replace B1 := B1.trans (b1.mono B1.size)
    obtain ⟨c0, c1, c2, c3, -⟩ := A1.open4
    obtain ⟨d0, d1, d2, d3, f0, f1, f2, f3⟩ := A2.open4
    go_wp2
    have A8 := put4_at A2 (.int .i64 0) (.int .i64 0) (.slice none 0 0) (.slice none 0 0)
    obtain ⟨r0, r1, r2, r3, -⟩ := A8.open4
    exact bodyPost_ret (v := .tuple #[nV 0 0 (.slice none 0 0) (.slice none 0 0), .bool false]) (by simp [results, Try.results25, go_sem, r0, r1, r2, r3]) rfl ⟨rfl, below_put4 B1 (by omega) _ _ _ _⟩
  · obtain ⟨hW, hH, -⟩ := netOk_of_true hok
    have p1 := mul_in (a := W) (b := H) (x := 30) (y := 30) (by omega) (by omega)
    have hs : slipsB lf F (W * H) = false := by
      rcases hs : slipsB lf F (W * H) with _ | _
      · rfl
      · exact absurd ⟨hok, hs⟩ h
    go_enter Try.func25, Try.ntmps25
    go_wp2_with fail
    refine (specNetOk_any W H hr hu hlr hlu).mono ?_
    rintro e w1 ⟨rfl, b1⟩
    rw [hok]
    clear c0 c1 c2 c3
    replace A1 := A1.below b1
    replace A2 := A2.below b1
    replace hr := hr.below b1
    replace hu := hu.below b1
    replace hF := hF.below b1
    replace B1 := B1.trans (b1.mono B1.size)
    obtain ⟨c0, c1, c2, c3, -⟩ := A1.open4
    go_wp2_with fail
    refine (specSlips_any (W * H) hF hlf).mono ?_
    rintro e w2 ⟨rfl, rfl⟩
    rw [hs]
    obtain ⟨d0, d1, d2, d3, f0, f1, f2, f3⟩ := A2.open4
    go_wp2
    have A8 := put4_at A2 (.int .i64 0) (.int .i64 0) (.slice none 0 0) (.slice none 0 0)
    obtain ⟨r0, r1, r2, r3, -⟩ := A8.open4
    exact bodyPost_ret (v := .tuple #[nV 0 0 (.slice none 0 0) (.slice none 0 0), .bool false]) (by simp [results, Try.results25, go_sem, r0, r1, r2, r3]) rfl ⟨rfl, below_put4 B1 (by omega) _ _ _ _⟩
end Go.Proofs.Ytlmgdcoknpakcaa
