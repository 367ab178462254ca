/-
  Burgers by the program and by the specification, walked.
-/
import Derived.Test.YtlmgdcoknpakcaaNd
namespace Go.Proofs.Ytlmgdcoknpakcaa
open Go.RowKit

theorem square_any {w : World} {a a' : Option Addr} {lr lu cr cu : Nat} {r u : Nat → Int} (W H x y : Int) (hr : Src w a lr r) (hu : Src w a' lu u) (hlr : lr ≤ 1048576) (hlu : lu ≤ 1048576) :
    Calls Try.prog 55 #[nV W H (.slice a lr cr) (.slice a' lu cu), .int .i64 x, .int .i64 y] w fun e w' => e = .returned (.bool (netOk W H lr r lu u && sq W H x y)) ∧ Below w.heap.size w w' := by
  obtain ⟨V, hV, b0, bV, -⟩ := boxed w 32 #[.int .i64 W, .int .i64 H, .slice a lr cr, .slice a' lu cu]
  replace hr := hr.below bV
  replace hu := hu.below bV
  obtain ⟨c0, c1, c2, c3, -⟩ := b0.open4
  rcases hok : netOk W H lr r lu u with _ | _
  · rw [Bool.false_and]
    go_enter Try.func55, Try.ntmps55
    go_wp2_with fail
    refine (specNetOk_any W H hr hu hlr hlu).mono ?_
    rintro e w1 ⟨rfl, b1⟩
    rw [hok]
    replace b0 := b0.below b1
    replace hr := hr.below b1
    replace hu := hu.below b1
    replace bV := bV.trans (b1.mono bV.size)
    clear c0 c1 c2 c3 b1
    obtain ⟨c0, c1, c2, c3, -⟩ := b0.open4
    go_wp2
    go_ret
    exact ⟨rfl, bV⟩
  · obtain ⟨hW, hH, -⟩ := netOk_of_true hok
    rw [Bool.true_and]
    by_cases h1 : 0 ≤ x ∧ x ≤ W - 2
    · have d1 : decide (0 ≤ x ∧ x ≤ W - 2) = true := decide_eq_true h1
      have hs : sq W H x y = decide (0 ≤ y ∧ y ≤ H - 2) := by simp only [sq, d1, Bool.true_and]
      rw [hs]
      obtain ⟨D, hD⟩ : ∃ D, decide (0 ≤ y ∧ y ≤ H - 2) = D := ⟨_, rfl⟩
      rw [hD]
      go_enter Try.func55, Try.ntmps55
      go_wp2_with fail
      refine (specNetOk_any W H hr hu hlr hlu).mono ?_
      rintro e w1 ⟨rfl, b1⟩
      rw [hok]
      replace b0 := b0.below b1
      replace hr := hr.below b1
      replace hu := hu.below b1
      replace bV := bV.trans (b1.mono bV.size)
      clear c0 c1 c2 c3 b1
      obtain ⟨c0, c1, c2, c3, -⟩ := b0.open4
      go_wp2_with (go_at_call 48; refine (in_any _ _ _ _).mono ?_; rintro e w2 ⟨rfl, rfl⟩; first | rw [d1] | rw [hD])
      go_ret
      exact ⟨rfl, bV⟩
    · have d1 : decide (0 ≤ x ∧ x ≤ W - 2) = false := decide_eq_false h1
      have hs : sq W H x y = false := by simp only [sq, d1, Bool.false_and]
      rw [hs]
      go_enter Try.func55, Try.ntmps55
      go_wp2_with fail
      refine (specNetOk_any W H hr hu hlr hlu).mono ?_
      rintro e w1 ⟨rfl, b1⟩
      rw [hok]
      replace b0 := b0.below b1
      replace hr := hr.below b1
      replace hu := hu.below b1
      replace bV := bV.trans (b1.mono bV.size)
      clear c0 c1 c2 c3 b1
      obtain ⟨c0, c1, c2, c3, -⟩ := b0.open4
      go_wp2_with (go_at_call 48; refine (in_any _ _ _ _).mono ?_; rintro e w2 ⟨rfl, rfl⟩; rw [d1])
      go_ret
      exact ⟨rfl, bV⟩
/-- Around a square. -/
def buT (W : Int) (r u : Nat → Int) (x y : Int) : Int := rt W r x y + ut W u (x + 1) y - rt W r x (y + 1) - ut W u x y
theorem arT_square (W : Int) (r u : Nat → Int) (x y : Int) : arT W r u x y (x + 1) (y + 1) = buT W r u x y := by
  unfold arT buT
  rw [show (x + 1 - x).toNat = 1 by omega, show (y + 1 - y).toNat = 1 by omega]
  simp [sm, lower, sides]
  omega
theorem specBurgers_no {w : World} {a a' : Option Addr} {lr lu cr cu : Nat} {r u : Nat → Int} (W H x y : Int) (hr : Src w a lr r) (hu : Src w a' lu u) (hlr : lr ≤ 1048576) (hlu : lu ≤ 1048576) (h : ¬ (netOk W H lr r lu u = true ∧ sq W H x y = true)) :
    Calls Try.prog 20 #[nV W H (.slice a lr cr) (.slice a' lu cu), .int .i64 x, .int .i64 y] w fun e w' => e = .returned (.tuple #[.int .i64 0, .bool false]) ∧ Below w.heap.size w w' := by
  obtain ⟨V, hV, b0, bV, -⟩ := boxed w 32 #[.int .i64 W, .int .i64 H, .slice a lr cr, .slice a' lu cu]
  replace hr := hr.below bV
  replace hu := hu.below bV
  obtain ⟨c0, c1, c2, c3, -⟩ := b0.open4
  have hb : (netOk W H lr r lu u && sq W H x y) = false := by rw [Bool.eq_false_iff, ne_eq, Bool.and_eq_true]; exact h
  go_enter Try.func20, Try.ntmps20
  go_wp2_with fail
  refine (square_any W H x y hr hu hlr hlu).mono ?_
  rintro e w1 ⟨rfl, b1⟩
  rw [hb]
  go_wp2
  exact bodyPost_ret (v := .tuple #[.int .i64 0, .bool false]) (by simp [results, Try.results20, go_sem]) rfl ⟨rfl, bV.trans (b1.mono bV.size)⟩
theorem implBurgers_no {w : World} {a a' : Option Addr} {lr lu cr cu : Nat} {r u : Nat → Int} (W H x y : Int) (hr : Src w a lr r) (hu : Src w a' lu u) (hlr : lr ≤ 1048576) (hlu : lu ≤ 1048576) (h : ¬ (netOk W H lr r lu u = true ∧ sq W H x y = true)) :
    Calls Try.prog 16 #[nV W H (.slice a lr cr) (.slice a' lu cu), .int .i64 x, .int .i64 y] w fun e w' => e = .returned (.tuple #[.int .i64 0, .bool false]) ∧ Below w.heap.size w w' := by
  obtain ⟨V, hV, b0, bV, -⟩ := boxed w 32 #[.int .i64 W, .int .i64 H, .slice a lr cr, .slice a' lu cu]
  replace hr := hr.below bV
  replace hu := hu.below bV
  obtain ⟨c0, c1, c2, c3, -⟩ := b0.open4
  rcases hok : netOk W H lr r lu u with _ | _
  · go_enter Try.func16, Try.ntmps16
    go_wp2_with fail
    refine (implNetOk_any W H hr hu hlr hlu).mono ?_
    rintro e w1 ⟨rfl, b1⟩
    rw [hok]
    replace b0 := b0.below b1
    replace hr := hr.below b1
    replace hu := hu.below b1
    replace bV := bV.trans (b1.mono bV.size)
    clear c0 c1 c2 c3 b1
    obtain ⟨c0, c1, c2, c3, -⟩ := b0.open4
    go_wp2
    exact bodyPost_ret (v := .tuple #[.int .i64 0, .bool false]) (by simp [results, Try.results16, go_sem]) rfl ⟨rfl, bV⟩
  · obtain ⟨hW, hH, -⟩ := netOk_of_true hok
    have hs : sq W H x y = false := by
      rcases hs : sq W H x y with _ | _
      · rfl
      · exact absurd ⟨hok, hs⟩ h
    go_enter Try.func16, Try.ntmps16
    go_wp2_with fail
    refine (implNetOk_any W H hr hu hlr hlu).mono ?_
    rintro e w1 ⟨rfl, b1⟩
    rw [hok]
    replace b0 := b0.below b1
    replace hr := hr.below b1
    replace hu := hu.below b1
    replace bV := bV.trans (b1.mono bV.size)
    clear c0 c1 c2 c3 b1
    obtain ⟨c0, c1, c2, c3, -⟩ := b0.open4
    go_wp2_with fail
    refine (hasSquare_any W H x y hW hH).mono ?_
    rintro e w2 ⟨rfl, b2⟩
    rw [hs]
    go_wp2
    exact bodyPost_ret (v := .tuple #[.int .i64 0, .bool false]) (by simp [results, Try.results16, go_sem]) rfl ⟨rfl, bV.trans (b2.mono bV.size)⟩
theorem implBurgers_yes {w : World} {a a' : Option Addr} {lr lu cr cu : Nat} {r u : Nat → Int} (W H x y : Int) (hr : Src w a lr r) (hu : Src w a' lu u) (hlr : lr ≤ 1048576) (hlu : lu ≤ 1048576) (hok : netOk W H lr r lu u = true) (hs : sq W H x y = true) :
    Calls Try.prog 16 #[nV W H (.slice a lr cr) (.slice a' lu cu), .int .i64 x, .int .i64 y] w fun e w' => e = .returned (.tuple #[.int .i64 (buT W r u x y), .bool true]) ∧ Below w.heap.size w w' := by
  obtain ⟨V, hV, b0, bV, -⟩ := boxed w 32 #[.int .i64 W, .int .i64 H, .slice a lr cr, .slice a' lu cu]
  replace hr := hr.below bV
  replace hu := hu.below bV
  obtain ⟨c0, c1, c2, c3, -⟩ := b0.open4
  obtain ⟨hW, hH, -⟩ := netOk_of_true hok
  go_enter Try.func16, Try.ntmps16
  go_wp2_with fail
  refine (implNetOk_any W H hr hu hlr hlu).mono ?_
  rintro e w1 ⟨rfl, b1⟩
  rw [hok]
  replace b0 := b0.below b1
  replace hr := hr.below b1
  replace hu := hu.below b1
  replace bV := bV.trans (b1.mono bV.size)
  clear c0 c1 c2 c3 b1
  obtain ⟨c0, c1, c2, c3, -⟩ := b0.open4
  go_wp2_with fail
  refine (hasSquare_any W H x y hW hH).mono ?_
  rintro e w2 ⟨rfl, b2⟩
  rw [hs]
  replace b0 := b0.below b2
  replace hr := hr.below b2
  replace hu := hu.below b2
  replace bV := bV.trans (b2.mono bV.size)
  clear c0 c1 c2 c3 b2
  obtain ⟨c0, c1, c2, c3, -⟩ := b0.open4
  simp only [sq, Bool.and_eq_true, decide_eq_true_eq] at hs
  go_wp2_with fail
  refine (around_any W H x y (x + 1) (y + 1) hr hu hok ⟨by omega, by omega, by omega⟩ ⟨by omega, by omega, by omega⟩).mono ?_
  rintro e w3 ⟨rfl, b3⟩
  rw [arT_square]
  go_wp2
  exact bodyPost_ret (v := .tuple #[.int .i64 (buT W r u x y), .bool true]) (by simp [results, Try.results16, go_sem]) rfl ⟨rfl, bV.trans (b3.mono bV.size)⟩
set_option maxRecDepth 100000 in
set_option maxHeartbeats 3200000 in
theorem specBurgers_yes {w : World} {a a' : Option Addr} {lr lu cr cu : Nat} {r u : Nat → Int} (W H x y : Int) (hr : Src w a lr r) (hu : Src w a' lu u) (hlr : lr ≤ 1048576) (hlu : lu ≤ 1048576) (hok : netOk W H lr r lu u = true) (hs : sq W H x y = true) :
    Calls Try.prog 20 #[nV W H (.slice a lr cr) (.slice a' lu cu), .int .i64 x, .int .i64 y] w fun e w' => e = .returned (.tuple #[.int .i64 (buT W r u x y), .bool true]) ∧ Below w.heap.size w w' := by
  obtain ⟨V, hV, b0, bV, -⟩ := boxed w 32 #[.int .i64 W, .int .i64 H, .slice a lr cr, .slice a' lu cu]
  replace hr := hr.below bV
  replace hu := hu.below bV
  obtain ⟨c0, c1, c2, c3, -⟩ := b0.open4
  have hb : (netOk W H lr r lu u && sq W H x y) = true := by rw [hok, hs]; rfl
  obtain ⟨hW, hH, -⟩ := netOk_of_true hok
  simp only [sq, Bool.and_eq_true, decide_eq_true_eq] at hs
  obtain ⟨j0, hj0, l0, e0, pb0⟩ := right_at hok (x := x) (y := y) (by omega) (by omega)
  obtain ⟨j1, hj1, l1, e1, pb1⟩ := up_at hok (x := x + 1) (y := y) (by omega) (by omega)
  obtain ⟨j2, hj2, l2, e2, pb2⟩ := right_at hok (x := x) (y := y + 1) (by omega) (by omega)
  obtain ⟨j3, hj3, l3, e3, pb3⟩ := up_at hok (x := x) (y := y) (by omega) (by omega)
  have hbu : buT W r u x y = rt W r x y + ut W u (x + 1) y - rt W r x (y + 1) - ut W u x y := rfl
  rw [hbu]
  clear hbu
  obtain ⟨p0, hp0⟩ : ∃ p, rt W r x y = p := ⟨_, rfl⟩
  obtain ⟨p1, hp1⟩ : ∃ p, ut W u (x + 1) y = p := ⟨_, rfl⟩
  obtain ⟨p2, hp2⟩ : ∃ p, rt W r x (y + 1) = p := ⟨_, rfl⟩
  obtain ⟨p3, hp3⟩ : ∃ p, ut W u x y = p := ⟨_, rfl⟩
  rw [← e0, hp0] at pb0
  rw [← e1, hp1] at pb1
  rw [← e2, hp2] at pb2
  rw [← e3, hp3] at pb3
  rw [hp0, hp1, hp2, hp3]
  have wx : IntKind.i64.wrap (x + 1) = x + 1 := IntWalk.i64_in _ (by omega)
  have wy : IntKind.i64.wrap (y + 1) = y + 1 := IntWalk.i64_in _ (by omega)
  have w1' : IntKind.i64.wrap (p0 + p1) = p0 + p1 := IntWalk.i64_in _ (by omega)
  have w2' : IntKind.i64.wrap (p0 + p1 - p2) = p0 + p1 - p2 := IntWalk.i64_in _ (by omega)
  have w3' : IntKind.i64.wrap (p0 + p1 - p2 - p3) = p0 + p1 - p2 - p3 := IntWalk.i64_in _ (by omega)
  go_enter Try.func20, Try.ntmps20
  go_wp2_with fail
  refine (square_any W H x y hr hu hlr hlu).mono ?_
  rintro e w1 ⟨rfl, b1⟩
  rw [hb]
  replace b0 := b0.below b1
  replace hr := hr.below b1
  replace hu := hu.below b1
  replace bV := bV.trans (b1.mono bV.size)
  clear c0 c1 c2 c3 b1
  obtain ⟨c0, c1, c2, c3, -⟩ := b0.open4
  have lq := b0.lt
  go_wp2_with fail
  obtain ⟨u0, hu0, bb⟩ : ∃ u0, w1.drew = u0 ∧ Below w1.heap.size w1 u0 := ⟨_, rfl, (Below.refl _ _).drew⟩
  replace b0 := b0.below bb
  have F : Kb w1 u0 := bb
  clear bb
  refine wp_region_held_drew (S := Kb w1) (by kernel_rfl) (by rw [hu0]; exact F) (fun hHeld => ?_)
  rw [hu0] at hHeld ⊢
  clear hu0
  change wpAnyH _ _ _ _ _ 23 #[false, false, false, false, false, false, false, false, false, false, false, false, false, false, false, false, false, false, false, false, false, false, false] _ _
  refine wpAnyH_take (i := 0) (v := nV W H (.slice a lr cr) (.slice a' lu cu)) rfl (by kernel_rfl) (by kernel_rfl) (by kernel_rfl) (fun _ _ _ h => h) (Or.inl ⟨by kernel_rfl, ?_⟩) hHeld ?_
  · intro w' hSw; obtain ⟨hc, hf⟩ := bcell hSw; go_simp
  try simp only [Act.put, List.setIfInBounds_toArray, List.set_cons_zero, List.set_cons_succ, List.getElem_toArray, List.getElem_cons_zero]
  refine wpAnyH_take (i := 1) (v := .int .i64 x) rfl (by kernel_rfl) (by kernel_rfl) (by kernel_rfl) (fun _ _ _ h => h) (Or.inl ⟨by kernel_rfl, ?_⟩) hHeld ?_
  · intro w' hSw; go_simp
  try simp only [Act.put, List.setIfInBounds_toArray, List.set_cons_zero, List.set_cons_succ, List.getElem_toArray, List.getElem_cons_succ, List.getElem_cons_zero]
  refine wpAnyH_take (i := 2) (v := .int .i64 y) rfl (by kernel_rfl) (by kernel_rfl) (by kernel_rfl) (fun _ _ _ h => h) (Or.inl ⟨by kernel_rfl, ?_⟩) hHeld ?_
  · intro w' hSw; go_simp
  try simp only [Act.put, List.setIfInBounds_toArray, List.set_cons_zero, List.set_cons_succ, List.getElem_toArray, List.getElem_cons_succ, List.getElem_cons_zero]
  refine wpAnyH_take (i := 4) (v := nV W H (.slice a lr cr) (.slice a' lu cu)) rfl (by kernel_rfl) (by kernel_rfl) (by kernel_rfl) (fun _ _ _ h => h) (Or.inl ⟨by kernel_rfl, ?_⟩) hHeld ?_
  · intro w' hSw; obtain ⟨hc, hf⟩ := bcell hSw; go_simp
  try simp only [Act.put, List.setIfInBounds_toArray, List.set_cons_zero, List.set_cons_succ, List.getElem_toArray, List.getElem_cons_succ, List.getElem_cons_zero]
  refine wpAnyH_take (i := 5) (v := .int .i64 x) rfl (by kernel_rfl) (by kernel_rfl) (by kernel_rfl) (fun _ _ _ h => h) (Or.inl ⟨by kernel_rfl, ?_⟩) hHeld ?_
  · intro w' hSw; go_simp
  try simp only [Act.put, List.setIfInBounds_toArray, List.set_cons_zero, List.set_cons_succ, List.getElem_toArray, List.getElem_cons_succ, List.getElem_cons_zero]
  refine wpAnyH_take (i := 6) (v := .int .i64 (x + 1)) rfl (by kernel_rfl) (by kernel_rfl) (by kernel_rfl) (fun _ _ _ h => h) (Or.inl ⟨by kernel_rfl, ?_⟩) hHeld ?_
  · intro w' hSw; go_simp
  try simp only [Act.put, List.setIfInBounds_toArray, List.set_cons_zero, List.set_cons_succ, List.getElem_toArray, List.getElem_cons_succ, List.getElem_cons_zero]
  refine wpAnyH_take (i := 7) (v := .int .i64 y) rfl (by kernel_rfl) (by kernel_rfl) (by kernel_rfl) (fun _ _ _ h => h) (Or.inl ⟨by kernel_rfl, ?_⟩) hHeld ?_
  · intro w' hSw; go_simp
  try simp only [Act.put, List.setIfInBounds_toArray, List.set_cons_zero, List.set_cons_succ, List.getElem_toArray, List.getElem_cons_succ, List.getElem_cons_zero]
  refine wpAnyH_take (i := 10) (v := nV W H (.slice a lr cr) (.slice a' lu cu)) rfl (by kernel_rfl) (by kernel_rfl) (by kernel_rfl) (fun _ _ _ h => h) (Or.inl ⟨by kernel_rfl, ?_⟩) hHeld ?_
  · intro w' hSw; obtain ⟨hc, hf⟩ := bcell hSw; go_simp
  try simp only [Act.put, List.setIfInBounds_toArray, List.set_cons_zero, List.set_cons_succ, List.getElem_toArray, List.getElem_cons_succ, List.getElem_cons_zero]
  refine wpAnyH_take (i := 11) (v := .int .i64 x) rfl (by kernel_rfl) (by kernel_rfl) (by kernel_rfl) (fun _ _ _ h => h) (Or.inl ⟨by kernel_rfl, ?_⟩) hHeld ?_
  · intro w' hSw; go_simp
  try simp only [Act.put, List.setIfInBounds_toArray, List.set_cons_zero, List.set_cons_succ, List.getElem_toArray, List.getElem_cons_succ, List.getElem_cons_zero]
  refine wpAnyH_take (i := 12) (v := .int .i64 y) rfl (by kernel_rfl) (by kernel_rfl) (by kernel_rfl) (fun _ _ _ h => h) (Or.inl ⟨by kernel_rfl, ?_⟩) hHeld ?_
  · intro w' hSw; go_simp
  try simp only [Act.put, List.setIfInBounds_toArray, List.set_cons_zero, List.set_cons_succ, List.getElem_toArray, List.getElem_cons_succ, List.getElem_cons_zero]
  refine wpAnyH_take (i := 13) (v := .int .i64 (y + 1)) rfl (by kernel_rfl) (by kernel_rfl) (by kernel_rfl) (fun _ _ _ h => h) (Or.inl ⟨by kernel_rfl, ?_⟩) hHeld ?_
  · intro w' hSw; go_simp
  try simp only [Act.put, List.setIfInBounds_toArray, List.set_cons_zero, List.set_cons_succ, List.getElem_toArray, List.getElem_cons_succ, List.getElem_cons_zero]
  refine wpAnyH_take (i := 16) (v := nV W H (.slice a lr cr) (.slice a' lu cu)) rfl (by kernel_rfl) (by kernel_rfl) (by kernel_rfl) (fun _ _ _ h => h) (Or.inl ⟨by kernel_rfl, ?_⟩) hHeld ?_
  · intro w' hSw; obtain ⟨hc, hf⟩ := bcell hSw; go_simp
  try simp only [Act.put, List.setIfInBounds_toArray, List.set_cons_zero, List.set_cons_succ, List.getElem_toArray, List.getElem_cons_succ, List.getElem_cons_zero]
  refine wpAnyH_take (i := 17) (v := .int .i64 x) rfl (by kernel_rfl) (by kernel_rfl) (by kernel_rfl) (fun _ _ _ h => h) (Or.inl ⟨by kernel_rfl, ?_⟩) hHeld ?_
  · intro w' hSw; go_simp
  try simp only [Act.put, List.setIfInBounds_toArray, List.set_cons_zero, List.set_cons_succ, List.getElem_toArray, List.getElem_cons_succ, List.getElem_cons_zero]
  refine wpAnyH_take (i := 18) (v := .int .i64 y) rfl (by kernel_rfl) (by kernel_rfl) (by kernel_rfl) (fun _ _ _ h => h) (Or.inl ⟨by kernel_rfl, ?_⟩) hHeld ?_
  · intro w' hSw; go_simp
  try simp only [Act.put, List.setIfInBounds_toArray, List.set_cons_zero, List.set_cons_succ, List.getElem_toArray, List.getElem_cons_succ, List.getElem_cons_zero]
  refine wpAnyH_ready (rs := [3]) (by kernel_rfl) (by simp) ?_
  refine AllReadyH.cons rfl (fun KK hK' => ?_) AllReadyH.nil
  go_simp
  refine (specRight_any W H x y (hr.below F) hlr hW ⟨by omega, by omega⟩ ⟨by omega, by omega⟩ (by rw [hj0]; exact_mod_cast l0)).mono ?_
  rintro e u1 ⟨rfl, b1⟩
  replace F := F.below b1
  rw [hp0]
  try go_wp2_with fail
  clear hHeld
  refine hK'.out _ _ (F) (fun hHeld => ?_)
  clear hK' KK
  try simp only [List.setIfInBounds_toArray, List.set_cons_zero, List.set_cons_succ]
  refine wpAnyH_ready (rs := [8]) (by kernel_rfl) (by simp) ?_
  refine AllReadyH.cons rfl (fun KK hK' => ?_) AllReadyH.nil
  go_simp
  refine (specUp_any W H (x + 1) y (hu.below F) hlu hW ⟨by omega, by omega⟩ ⟨by omega, by omega⟩ (by rw [hj1]; exact_mod_cast l1)).mono ?_
  rintro e u2 ⟨rfl, b2⟩
  replace F := F.below b2
  rw [hp1]
  try go_wp2_with fail
  clear hHeld
  refine hK'.out _ _ (F) (fun hHeld => ?_)
  clear hK' KK
  try simp only [List.setIfInBounds_toArray, List.set_cons_zero, List.set_cons_succ]
  refine wpAnyH_take (i := 9) (v := .int .i64 (p0 + p1)) rfl (by kernel_rfl) (by kernel_rfl) (by kernel_rfl) (fun _ _ _ h => h) (Or.inl ⟨by kernel_rfl, ?_⟩) hHeld ?_
  · intro w' hSw; go_simp
  try simp only [Act.put, List.setIfInBounds_toArray, List.set_cons_zero, List.set_cons_succ, List.getElem_toArray, List.getElem_cons_succ, List.getElem_cons_zero]
  refine wpAnyH_ready (rs := [14]) (by kernel_rfl) (by simp) ?_
  refine AllReadyH.cons rfl (fun KK hK' => ?_) AllReadyH.nil
  go_simp
  refine (specRight_any W H x (y + 1) (hr.below F) hlr hW ⟨by omega, by omega⟩ ⟨by omega, by omega⟩ (by rw [hj2]; exact_mod_cast l2)).mono ?_
  rintro e u3 ⟨rfl, b3⟩
  replace F := F.below b3
  rw [hp2]
  try go_wp2_with fail
  clear hHeld
  refine hK'.out _ _ (F) (fun hHeld => ?_)
  clear hK' KK
  try simp only [List.setIfInBounds_toArray, List.set_cons_zero, List.set_cons_succ]
  refine wpAnyH_take (i := 15) (v := .int .i64 (p0 + p1 - p2)) rfl (by kernel_rfl) (by kernel_rfl) (by kernel_rfl) (fun _ _ _ h => h) (Or.inl ⟨by kernel_rfl, ?_⟩) hHeld ?_
  · intro w' hSw; go_simp
  try simp only [Act.put, List.setIfInBounds_toArray, List.set_cons_zero, List.set_cons_succ, List.getElem_toArray, List.getElem_cons_succ, List.getElem_cons_zero]
  refine wpAnyH_ready (rs := [19]) (by kernel_rfl) (by simp) ?_
  refine AllReadyH.cons rfl (fun KK hK' => ?_) AllReadyH.nil
  go_simp
  refine (specUp_any W H x y (hu.below F) hlu hW ⟨by omega, by omega⟩ ⟨by omega, by omega⟩ (by rw [hj3]; exact_mod_cast l3)).mono ?_
  rintro e u4 ⟨rfl, b4⟩
  replace F := F.below b4
  rw [hp3]
  try go_wp2_with fail
  clear hHeld
  refine hK'.out _ _ (F) (fun hHeld => ?_)
  clear hK' KK
  try simp only [List.setIfInBounds_toArray, List.set_cons_zero, List.set_cons_succ]
  refine wpAnyH_take (i := 20) (v := .int .i64 (p0 + p1 - p2 - p3)) rfl (by kernel_rfl) (by kernel_rfl) (by kernel_rfl) (fun _ _ _ h => h) (Or.inl ⟨by kernel_rfl, ?_⟩) hHeld ?_
  · intro w' hSw; go_simp
  try simp only [Act.put, List.setIfInBounds_toArray, List.set_cons_zero, List.set_cons_succ, List.getElem_toArray, List.getElem_cons_succ, List.getElem_cons_zero]
  refine wpAnyH_take (i := 21) (v := .int .i64 (p0 + p1 - p2 - p3)) rfl (by kernel_rfl) (by kernel_rfl) (by kernel_rfl) (fun _ _ _ h => h) (Or.inl ⟨by kernel_rfl, ?_⟩) hHeld ?_
  · intro w' hSw; go_simp
  try simp only [Act.put, List.setIfInBounds_toArray, List.set_cons_zero, List.set_cons_succ, List.getElem_toArray, List.getElem_cons_succ, List.getElem_cons_zero]
  refine wpAnyH_ready (rs := [22]) (by kernel_rfl) (by simp) ?_
  refine AllReadyH.cons rfl (fun KK hK' => ?_) AllReadyH.nil
  go_simp
  clear hHeld
  refine hK'.out _ _ (F) (fun hHeld => ?_)
  clear hK' KK
  try simp only [List.setIfInBounds_toArray, List.set_cons_zero, List.set_cons_succ]
  refine wpAnyH_done (by kernel_rfl) ?_ _
  clear hHeld
  go_wp2
  exact bodyPost_ret (v := .tuple #[.int .i64 (p0 + p1 - p2 - p3), .bool true]) (by simp [results, Try.results20, go_sem]) rfl ⟨rfl, bV.trans (Below.mono F bV.size)⟩
end Go.Proofs.Ytlmgdcoknpakcaa
