/-
  Around and Burgers by the program and by the specification, walked.
-/
import Derived.Test.YtlmgdcoknpakcaaNe
namespace Go.Proofs.Ytlmgdcoknpakcaa
open Go.RowKit

theorem specAround_no {w : World} {a a' : Option Addr} {lr lu cr cu : Nat} {r u : Nat → Int} (W H x0 y0 x1 y1 : Int) (hr : Src w a lr r) (hu : Src w a' lu u) (hlr : lr ≤ 1048576) (hlu : lu ≤ 1048576) (h : ¬ (netOk W H lr r lu u = true ∧ (0 ≤ x0 ∧ x0 < x1 ∧ x1 < W) ∧ 0 ≤ y0 ∧ y0 < y1 ∧ y1 < H)) :
    Calls Try.prog 15 #[nV W H (.slice a lr cr) (.slice a' lu cu), .int .i64 x0, .int .i64 y0, .int .i64 x1, .int .i64 y1] w fun e w' => e = .returned (.tuple #[.int .i64 0, .bool false]) ∧ Below w.heap.size w w' := by
  obtain ⟨V, hV, b0, bV, -⟩ := boxed w 32 #[.int .i64 W, .int .i64 H, .slice a lr cr, .slice a' lu cu]
  replace hr := hr.below bV
  replace hu := hu.below bV
  obtain ⟨c0, c1, c2, c3, -⟩ := b0.open4
  go_enter Try.func15, Try.ntmps15
  go_wp2_with fail
  refine (specNetOk_any W H hr hu hlr hlu).mono ?_
  rintro e w1 ⟨rfl, b1⟩
  replace b0 := b0.below b1
  replace hr := hr.below b1
  replace hu := hu.below b1
  replace bV := bV.trans (b1.mono bV.size)
  clear c0 c1 c2 c3 b1
  obtain ⟨c0, c1, c2, c3, -⟩ := b0.open4
  rcases hok : netOk W H lr r lu u with _ | _
  · go_wp2
    exact bodyPost_ret (v := .tuple #[.int .i64 0, .bool false]) (by simp [results, Try.results15, go_sem]) rfl ⟨rfl, bV⟩
  · have hn : ¬ (((((0 ≤ x0 ∧ x0 < x1) ∧ x1 < W) ∧ 0 ≤ y0) ∧ y0 < y1) ∧ y1 < H) := fun h' => h ⟨hok, by omega, by omega⟩
    go_wp2
    all_goals exact bodyPost_ret (v := .tuple #[.int .i64 0, .bool false]) (by simp [results, Try.results15, go_sem]) rfl ⟨rfl, bV⟩
theorem implAround_no {w : World} {a a' : Option Addr} {lr lu cr cu : Nat} {r u : Nat → Int} (W H x0 y0 x1 y1 : Int) (hr : Src w a lr r) (hu : Src w a' lu u) (hlr : lr ≤ 1048576) (hlu : lu ≤ 1048576) (h : ¬ (netOk W H lr r lu u = true ∧ (0 ≤ x0 ∧ x0 < x1 ∧ x1 < W) ∧ 0 ≤ y0 ∧ y0 < y1 ∧ y1 < H)) :
    Calls Try.prog 18 #[nV W H (.slice a lr cr) (.slice a' lu cu), .int .i64 x0, .int .i64 y0, .int .i64 x1, .int .i64 y1] w fun e w' => e = .returned (.tuple #[.int .i64 0, .bool false]) ∧ Below w.heap.size w w' := by
  obtain ⟨V, hV, b0, bV, -⟩ := boxed w 32 #[.int .i64 W, .int .i64 H, .slice a lr cr, .slice a' lu cu]
  replace hr := hr.below bV
  replace hu := hu.below bV
  obtain ⟨c0, c1, c2, c3, -⟩ := b0.open4
  go_enter Try.func18, Try.ntmps18
  go_wp2_with fail
  refine (implNetOk_any W H hr hu hlr hlu).mono ?_
  rintro e w1 ⟨rfl, b1⟩
  replace b0 := b0.below b1
  replace hr := hr.below b1
  replace hu := hu.below b1
  replace bV := bV.trans (b1.mono bV.size)
  clear c0 c1 c2 c3 b1
  obtain ⟨c0, c1, c2, c3, -⟩ := b0.open4
  rcases hok : netOk W H lr r lu u with _ | _
  · go_wp2
    exact bodyPost_ret (v := .tuple #[.int .i64 0, .bool false]) (by simp [results, Try.results18, go_sem]) rfl ⟨rfl, bV⟩
  · have hn : ¬ (((((0 ≤ x0 ∧ x0 < x1) ∧ x1 < W) ∧ 0 ≤ y0) ∧ y0 < y1) ∧ y1 < H) := fun h' => h ⟨hok, by omega, by omega⟩
    go_wp2
    all_goals exact bodyPost_ret (v := .tuple #[.int .i64 0, .bool false]) (by simp [results, Try.results18, go_sem]) rfl ⟨rfl, bV⟩
theorem implAround_yes {w : World} {a a' : Option Addr} {lr lu cr cu : Nat} {r u : Nat → Int} (W H x0 y0 x1 y1 : Int) (hr : Src w a lr r) (hu : Src w a' lu u) (hlr : lr ≤ 1048576) (hlu : lu ≤ 1048576) (hok : netOk W H lr r lu u = true) (hx : 0 ≤ x0 ∧ x0 < x1 ∧ x1 < W) (hy : 0 ≤ y0 ∧ y0 < y1 ∧ y1 < H) :
    Calls Try.prog 18 #[nV W H (.slice a lr cr) (.slice a' lu cu), .int .i64 x0, .int .i64 y0, .int .i64 x1, .int .i64 y1] w fun e w' => e = .returned (.tuple #[.int .i64 (arT W r u x0 y0 x1 y1), .bool true]) ∧ Below w.heap.size w w' := by
  obtain ⟨V, hV, b0, bV, -⟩ := boxed w 32 #[.int .i64 W, .int .i64 H, .slice a lr cr, .slice a' lu cu]
  replace hr := hr.below bV
  replace hu := hu.below bV
  obtain ⟨c0, c1, c2, c3, -⟩ := b0.open4
  go_enter Try.func18, Try.ntmps18
  go_wp2_with fail
  refine (implNetOk_any W H hr hu hlr hlu).mono ?_
  rintro e w1 ⟨rfl, b1⟩
  rw [hok]
  replace b0 := b0.below b1
  replace hr := hr.below b1
  replace hu := hu.below b1
  replace bV := bV.trans (b1.mono bV.size)
  clear c0 c1 c2 c3 b1
  obtain ⟨c0, c1, c2, c3, -⟩ := b0.open4
  go_wp2_with fail
  refine (around_any W H x0 y0 x1 y1 hr hu hok hx hy).mono ?_
  rintro e w2 ⟨rfl, b2⟩
  go_wp2
  exact bodyPost_ret (v := .tuple #[.int .i64 (arT W r u x0 y0 x1 y1), .bool true]) (by simp [results, Try.results18, go_sem]) rfl ⟨rfl, bV.trans (b2.mono bV.size)⟩
end Go.Proofs.Ytlmgdcoknpakcaa
