/-
  Slip by the program and by the specification, walked.
-/
import Derived.Test.YtlmgdcoknpakcaaNj
import Derived.Test.YtlmgdcoknpakcaaNg
namespace Go.Proofs.Ytlmgdcoknpakcaa
open Go.RowKit

/-- The steps to the right behind k rounds. -/
def slF (W x y b : Int) (r : Nat → Int) : Nat → Nat → Int
  | 0 => r
  | k + 1 => fun i => if (i : Int) = rn W x (y + 1 + k) then slF W x y b r k i + b else slF W x y b r k i
theorem slF_in {W x y b : Int} {r : Nat → Int} {lr : Nat} (hb : -2000000 ≤ b ∧ b ≤ 2000000) (hr : ∀ i, i < lr → -1000000 ≤ r i ∧ r i ≤ 1000000) : ∀ (k : Nat), ∀ i, i < lr → -(1000000 + 2000000 * (k : Int)) ≤ slF W x y b r k i ∧ slF W x y b r k i ≤ 1000000 + 2000000 * (k : Int)
  | 0, i, hi => by have := hr i hi; simp [slF]; omega
  | k + 1, i, hi => by
    have h := slF_in (W := W) (x := x) (y := y) hb hr k i hi
    simp only [slF]
    split <;> omega
theorem Made.upd {w : World} {g c n : Nat} {f : Nat → Int} (h : Made w g c n f) (hn : n ≤ c) {j : Nat} (x : Int) (hj : j < n) : Made (w.setCell ⟨g, j, none⟩ (.int .i64 x)) g c n (fun i => if i = j then x else f i) := by
  obtain ⟨cur, h1, h2, h3⟩ := h
  refine ⟨_, h1.set j _, by simpa using h2, fun i hi => ?_⟩
  by_cases e : i = j
  · subst e
    have l0 : i < cur.size := by omega
    simp [l0]
  · have := h3 i hi
    rw [Array.getElem?_setIfInBounds, if_neg (by omega), this]
    simp [e]
theorem Made.get {w : World} {g c n : Nat} {f : Nat → Int} (h : Made w g c n f) {j : Nat} (hj : j < n) : w.cell? ⟨g, j, none⟩ = some (.int .i64 (f j)) := by
  obtain ⟨cur, h1, h2, h3⟩ := h
  exact h1.cell j (h3 j hj)
theorem Made.free {w : World} {g c n : Nat} {f : Nat → Int} (h : Made w g c n f) (j : Nat) : w.frozen? ⟨g, j, none⟩ = false := by
  obtain ⟨cur, h1, -⟩ := h
  exact h1.frozen j
theorem Made.bel {w w' : World} {g c n : Nat} {f : Nat → Int} (h : Made w g c n f) (hb : Below w.heap.size w w') : Made w' g c n f := by
  obtain ⟨cur, h1, h2⟩ := h
  exact ⟨cur, h1.below hb, h2⟩
theorem Made.cong {w : World} {g c n : Nat} {f h : Nat → Int} (m : Made w g c n f) (e : ∀ i, i < n → f i = h i) : Made w g c n h := by
  obtain ⟨cur, h1, h2, h3⟩ := m
  exact ⟨cur, h1, h2, fun i hi => by rw [h3 i hi, e i hi]⟩
/-- A net in lists of one's own. -/
theorem NetAt.open {w : World} {lo hi : Nat} {m : Value} {W H : Int} {lr lu : Nat} {r u : Nat → Int} (h : NetAt w lo hi m W H lr r lu u) : ∃ a cr a' cu, m = nV W H (.slice a lr cr) (.slice a' lu cu) ∧ Src w a lr r ∧ Src w a' lu u := by
  obtain ⟨v, v', rfl, h1, h2, -⟩ := h
  obtain ⟨a, c, rfl, s1⟩ := h1.src
  obtain ⟨a', c', rfl, s2⟩ := h2.src
  exact ⟨a, c, a', c', rfl, s1, s2⟩
theorem netZero (w : World) (lo hi : Nat) (f h : Nat → Int) : NetAt w lo hi (nV 0 0 (.slice none 0 0) (.slice none 0 0)) 0 0 0 f 0 h := ⟨_, _, rfl, .inl ⟨rfl, rfl⟩, .inl ⟨rfl, rfl⟩, fun k e => by cases e⟩
theorem implSlip_no {w : World} {a a' : Option Addr} {lr lu cr cu : Nat} {r u : Nat → Int} (W H x y b : Int) (hr : Src w a lr r) (hu : Src w a' lu u) (hlr : lr ≤ 1048576) (hlu : lu ≤ 1048576) (h : ¬ (netOk W H lr r lu u = true ∧ sq W H x y = true ∧ -2000000 ≤ b ∧ b ≤ 2000000)) :
    Calls Try.prog 23 #[nV W H (.slice a lr cr) (.slice a' lu cu), .int .i64 x, .int .i64 y, .int .i64 b] w fun e w' => e = .returned (.tuple #[nV 0 0 (.slice none 0 0) (.slice none 0 0), .bool false]) ∧ Below w.heap.size w w' := by
  obtain ⟨V, hV, A1, B1, -⟩ := boxed w 32 #[.int .i64 W, .int .i64 H, .slice a lr cr, .slice a' lu cu]
  obtain ⟨V2, hV2, A2, B2, -⟩ := boxed V 32 #[.int .i64 0, .int .i64 0, .slice none 0 0, .slice none 0 0]
  have s1 := A1.lt
  have s2 := A2.lt
  replace A1 := A1.below B2
  replace B1 := B1.trans (B2.mono B1.size)
  replace hr := hr.below B1
  replace hu := hu.below B1
  obtain ⟨c0, c1, c2, c3, -⟩ := A1.open4
  rcases hok : netOk W H lr r lu u with _ | _
  · go_enter Try.func23, Try.ntmps23
    go_wp2_with fail
    refine (implNetOk_any W H hr hu hlr hlu).mono ?_
    rintro e w1 ⟨rfl, b1⟩
    rw [hok]
    clear c0 c1 c2 c3
    replace A1 := A1.below b1
    replace A2 := A2.below b1
    replace hr := hr.below b1
    replace hu := hu.below b1
    replace B1 := B1.trans (b1.mono B1.size)
    obtain ⟨c0, c1, c2, c3, -⟩ := A1.open4
    obtain ⟨d0, d1, d2, d3, f0, f1, f2, f3⟩ := A2.open4
    go_wp2
    have A8 := put4_at A2 (.int .i64 0) (.int .i64 0) (.slice none 0 0) (.slice none 0 0)
    obtain ⟨r0, r1, r2, r3, -⟩ := A8.open4
    exact bodyPost_ret (v := .tuple #[nV 0 0 (.slice none 0 0) (.slice none 0 0), .bool false]) (by simp [results, Try.results23, go_sem, r0, r1, r2, r3]) rfl ⟨rfl, below_put4 B1 (by omega) _ _ _ _⟩
  · obtain ⟨hW, hH, -⟩ := netOk_of_true hok
    rcases hs : sq W H x y with _ | _
    · go_enter Try.func23, Try.ntmps23
      go_wp2_with fail
      refine (implNetOk_any W H hr hu hlr hlu).mono ?_
      rintro e w1 ⟨rfl, b1⟩
      rw [hok]
      clear c0 c1 c2 c3
      replace A1 := A1.below b1
      replace A2 := A2.below b1
      replace hr := hr.below b1
      replace hu := hu.below b1
      replace B1 := B1.trans (b1.mono B1.size)
      obtain ⟨c0, c1, c2, c3, -⟩ := A1.open4
      go_wp2_with fail
      refine (hasSquare_any W H x y hW hH).mono ?_
      rintro e w2 ⟨rfl, b2⟩
      rw [hs]
      clear c0 c1 c2 c3
      replace A1 := A1.below b2
      replace A2 := A2.below b2
      replace hr := hr.below b2
      replace hu := hu.below b2
      replace B1 := B1.trans (b2.mono B1.size)
      obtain ⟨c0, c1, c2, c3, -⟩ := A1.open4
      obtain ⟨d0, d1, d2, d3, f0, f1, f2, f3⟩ := A2.open4
      go_wp2
      have A8 := put4_at A2 (.int .i64 0) (.int .i64 0) (.slice none 0 0) (.slice none 0 0)
      obtain ⟨r0, r1, r2, r3, -⟩ := A8.open4
      exact bodyPost_ret (v := .tuple #[nV 0 0 (.slice none 0 0) (.slice none 0 0), .bool false]) (by simp [results, Try.results23, go_sem, r0, r1, r2, r3]) rfl ⟨rfl, below_put4 B1 (by omega) _ _ _ _⟩
    · have hb : decide (-2000000 ≤ b ∧ b ≤ 2000000) = false := decide_eq_false fun hb => h ⟨hok, hs, hb⟩
      go_enter Try.func23, Try.ntmps23
      go_wp2_with fail
      refine (implNetOk_any W H hr hu hlr hlu).mono ?_
      rintro e w1 ⟨rfl, b1⟩
      rw [hok]
      clear c0 c1 c2 c3
      replace A1 := A1.below b1
      replace A2 := A2.below b1
      replace hr := hr.below b1
      replace hu := hu.below b1
      replace B1 := B1.trans (b1.mono B1.size)
      obtain ⟨c0, c1, c2, c3, -⟩ := A1.open4
      go_wp2_with fail
      refine (hasSquare_any W H x y hW hH).mono ?_
      rintro e w2 ⟨rfl, b2⟩
      rw [hs]
      clear c0 c1 c2 c3
      replace A1 := A1.below b2
      replace A2 := A2.below b2
      replace hr := hr.below b2
      replace hu := hu.below b2
      replace B1 := B1.trans (b2.mono B1.size)
      obtain ⟨c0, c1, c2, c3, -⟩ := A1.open4
      go_wp2_with fail
      refine (within_any b 2000000 _ (by decide) (by decide)).mono ?_
      rintro e w3 ⟨rfl, rfl⟩
      rw [hb]
      obtain ⟨d0, d1, d2, d3, f0, f1, f2, f3⟩ := A2.open4
      go_wp2
      have A8 := put4_at A2 (.int .i64 0) (.int .i64 0) (.slice none 0 0) (.slice none 0 0)
      obtain ⟨r0, r1, r2, r3, -⟩ := A8.open4
      exact bodyPost_ret (v := .tuple #[nV 0 0 (.slice none 0 0) (.slice none 0 0), .bool false]) (by simp [results, Try.results23, go_sem, r0, r1, r2, r3]) rfl ⟨rfl, below_put4 B1 (by omega) _ _ _ _⟩
theorem specSlip_no {w : World} {a a' : Option Addr} {lr lu cr cu : Nat} {r u : Nat → Int} (W H x y b : Int) (hr : Src w a lr r) (hu : Src w a' lu u) (hlr : lr ≤ 1048576) (hlu : lu ≤ 1048576) (h : ¬ (netOk W H lr r lu u = true ∧ sq W H x y = true ∧ -2000000 ≤ b ∧ b ≤ 2000000)) :
    Calls Try.prog 22 #[nV W H (.slice a lr cr) (.slice a' lu cu), .int .i64 x, .int .i64 y, .int .i64 b] w fun e w' => e = .returned (.tuple #[nV 0 0 (.slice none 0 0) (.slice none 0 0), .bool false]) ∧ Below w.heap.size w w' := by
  obtain ⟨V, hV, A1, B1, -⟩ := boxed w 32 #[.int .i64 W, .int .i64 H, .slice a lr cr, .slice a' lu cu]
  obtain ⟨V2, hV2, A2, B2, -⟩ := boxed V 32 #[.int .i64 0, .int .i64 0, .slice none 0 0, .slice none 0 0]
  have s1 := A1.lt
  have s2 := A2.lt
  replace A1 := A1.below B2
  replace B1 := B1.trans (B2.mono B1.size)
  replace hr := hr.below B1
  replace hu := hu.below B1
  obtain ⟨c0, c1, c2, c3, -⟩ := A1.open4
  rcases hok : (netOk W H lr r lu u && sq W H x y) with _ | _
  · go_enter Try.func22, Try.ntmps22
    go_wp2_with fail
    refine (square_any W H x y hr hu hlr hlu).mono ?_
    rintro e w1 ⟨rfl, b1⟩
    rw [hok]
    clear c0 c1 c2 c3
    replace A1 := A1.below b1
    replace A2 := A2.below b1
    replace hr := hr.below b1
    replace hu := hu.below b1
    replace B1 := B1.trans (b1.mono B1.size)
    obtain ⟨c0, c1, c2, c3, -⟩ := A1.open4
    obtain ⟨d0, d1, d2, d3, f0, f1, f2, f3⟩ := A2.open4
    go_wp2
    have A8 := put4_at A2 (.int .i64 0) (.int .i64 0) (.slice none 0 0) (.slice none 0 0)
    obtain ⟨r0, r1, r2, r3, -⟩ := A8.open4
    exact bodyPost_ret (v := .tuple #[nV 0 0 (.slice none 0 0) (.slice none 0 0), .bool false]) (by simp [results, Try.results22, go_sem, r0, r1, r2, r3]) rfl ⟨rfl, below_put4 B1 (by omega) _ _ _ _⟩
  · have hk := hok
    rw [Bool.and_eq_true] at hk
    have hb : decide (-2000000 ≤ b ∧ b ≤ 2000000) = false := decide_eq_false fun hb => h ⟨hk.1, hk.2, hb⟩
    go_enter Try.func22, Try.ntmps22
    go_wp2_with fail
    refine (square_any W H x y hr hu hlr hlu).mono ?_
    rintro e w1 ⟨rfl, b1⟩
    rw [hok]
    clear c0 c1 c2 c3
    replace A1 := A1.below b1
    replace A2 := A2.below b1
    replace hr := hr.below b1
    replace hu := hu.below b1
    replace B1 := B1.trans (b1.mono B1.size)
    obtain ⟨c0, c1, c2, c3, -⟩ := A1.open4
    go_wp2_with fail
    refine (in_any b (-2000000) 2000000 _).mono ?_
    rintro e w3 ⟨rfl, rfl⟩
    rw [hb]
    obtain ⟨d0, d1, d2, d3, f0, f1, f2, f3⟩ := A2.open4
    go_wp2
    have A8 := put4_at A2 (.int .i64 0) (.int .i64 0) (.slice none 0 0) (.slice none 0 0)
    obtain ⟨r0, r1, r2, r3, -⟩ := A8.open4
    exact bodyPost_ret (v := .tuple #[nV 0 0 (.slice none 0 0) (.slice none 0 0), .bool false]) (by simp [results, Try.results22, go_sem, r0, r1, r2, r3]) rfl ⟨rfl, below_put4 B1 (by omega) _ _ _ _⟩
end Go.Proofs.Ytlmgdcoknpakcaa
