/-
  Nodes of a tape: their values over a list, walked.
-/
import Derived.Test.YtloailicdoknbaaP15b
import Derived.Test.YtloailicdoknbaaCd
import Derived.Test.YtloailicdoknbaaLa
import Derived.BigRegion
namespace Go.Proofs.Ytloailicdoknbaa
open Go.RowKit

def mg (x : Int) : Int := if x < -x then -x else x
theorem mg_nat (x : Int) : mg x = (x.natAbs : Int) := by unfold mg; split <;> omega
def r12 (x : Int) : Prop := -1000000000000 ≤ x ∧ x ≤ 1000000000000
theorem mg_any (x : Int) (w : World) (hx : r12 x) : Calls Try.prog 86 #[.int .i64 x] w fun e w' => e = .returned (.int .i64 (mg x)) ∧ w = w' := by
  obtain ⟨h1, h2⟩ := hx
  go_enter Try.func86, Try.ntmps86
  go_wp2
  all_goals
    go_ret
    exact ⟨by simp [mg]; omega, rfl⟩
theorem cellAt {w : World} {g m : Nat} {F : Nat → Int} (h : Ints w g 0 m F) {a : Nat} (ha : a < m) : w.cell? ⟨g, a, none⟩ = some (.int .i64 (F a)) := by
  have := h a ha
  rwa [Nat.zero_add] at this
theorem inV_any {w : World} {g m c a : Nat} {F : Nat → Int} (h : Ints w g 0 m F) (hg : g < w.heap.size) (ha : a < m) (hm : m ≤ 1000) : Calls Try.prog 81 #[.agg #[.int .i64 (a : Int)], .slice (some ⟨g, 0, none⟩) m c] w fun e w' => e = .returned (.int .i64 (F a)) ∧ Below w.heap.size w w' := by
  obtain ⟨W, hW, a1, bW, -⟩ := boxed w 97 #[.int .i64 (a : Int)]
  have k0 := a1.cell 0 rfl
  have k1 := cellAt (h.below hg bW) ha
  have ha' : (a : Int) < (m : Int) := by omega
  have hm' : (m : Int) ≤ 1000 := by omega
  go_enter Try.func81, Try.ntmps81
  go_wp2
  go_ret
  exact ⟨rfl, bW⟩
theorem sumV_any {w : World} {g m c a b : Nat} {F : Nat → Int} (h : Ints w g 0 m F) (hg : g < w.heap.size) (ha : a < m) (hb : b < m) (hm : m ≤ 1000) (ra : r12 (F a)) (rb : r12 (F b)) : Calls Try.prog 83 #[.agg #[.int .i64 (a : Int), .int .i64 (b : Int)], .slice (some ⟨g, 0, none⟩) m c] w fun e w' => e = .returned (.int .i64 (F a + F b)) ∧ Below w.heap.size w w' := by
  obtain ⟨W, hW, a1, bW, -⟩ := boxed w 99 #[.int .i64 (a : Int), .int .i64 (b : Int)]
  have k0 := a1.cell 0 rfl
  have k2 := a1.cell 1 rfl
  have k1 := cellAt (h.below hg bW) ha
  have k3 := cellAt (h.below hg bW) hb
  have ha' : (a : Int) < (m : Int) := by omega
  have hb' : (b : Int) < (m : Int) := by omega
  have hm' : (m : Int) ≤ 1000 := by omega
  obtain ⟨a5, a6⟩ := ra
  obtain ⟨b5, b6⟩ := rb
  have hw : IntKind.i64.wrap (F a + F b) = F a + F b := by rw [IntKind.wrap_i64]; omega
  clear a5 a6 b5 b6 h
  go_enter Try.func83, Try.ntmps83
  go_wp2_with fail
  go_region
  go_wp2
  go_ret
  exact ⟨rfl, bW.drew⟩
/-- A product over whole numbers; past the range another number past it. -/
def prV (x y : Int) : Int := if x ≠ 0 ∧ Int.tdiv 1000000000000 (mg x) < mg y then 1000000000001 else x * y
theorem prod_in {x y : Int} (h : ¬ (x ≠ 0 ∧ Int.tdiv 1000000000000 (mg x) < mg y)) : r12 (x * y) := by
  by_cases hx : x = 0
  · subst hx
    rw [Int.zero_mul]
    exact ⟨by omega, by omega⟩
  · have h1 : mg y ≤ Int.tdiv 1000000000000 (mg x) := Int.not_lt.1 fun k => h ⟨hx, k⟩
    have p0 : 0 < mg x := by rw [mg_nat]; omega
    have p1 : 0 ≤ mg y := by rw [mg_nat]; omega
    have h2 : mg y * mg x ≤ 1000000000000 := by
      have q := Int.mul_le_mul_of_nonneg_right h1 (Int.le_of_lt p0)
      rw [Int.tdiv_eq_ediv_of_nonneg (by omega)] at q
      exact Int.le_trans q (Int.ediv_mul_le _ (by omega))
    have h3 : ((x * y).natAbs : Int) = mg y * mg x := by rw [Int.natAbs_mul, mg_nat, mg_nat, Int.natCast_mul, Int.mul_comm]
    unfold r12
    omega
set_option maxHeartbeats 1600000 in
theorem prodV_any {w : World} {g m c a b : Nat} {F : Nat → Int} (h : Ints w g 0 m F) (hg : g < w.heap.size) (ha : a < m) (hb : b < m) (hm : m ≤ 1000) (ra : r12 (F a)) (rb : r12 (F b)) : Calls Try.prog 85 #[.agg #[.int .i64 (a : Int), .int .i64 (b : Int)], .slice (some ⟨g, 0, none⟩) m c] w fun e w' => e = .returned (.int .i64 (prV (F a) (F b))) ∧ Below w.heap.size w w' := by
  obtain ⟨W, hW, a1, bW, -⟩ := boxed w 100 #[.int .i64 (a : Int), .int .i64 (b : Int)]
  have k0 := a1.cell 0 rfl
  have k2 := a1.cell 1 rfl
  have k1 := cellAt (h.below hg bW) ha
  have k3 := cellAt (h.below hg bW) hb
  have ha' : (a : Int) < (m : Int) := by omega
  have hb' : (b : Int) < (m : Int) := by omega
  have hm' : (m : Int) ≤ 1000 := by omega
  obtain ⟨x, hx⟩ : ∃ x, F a = x := ⟨_, rfl⟩
  obtain ⟨y, hy⟩ : ∃ y, F b = y := ⟨_, rfl⟩
  rw [hx] at k1 ra ⊢
  rw [hy] at k3 rb ⊢
  clear hx hy h
  have M1 := fun w => mg_any x w ra
  have M2 := fun w => mg_any y w rb
  have b1 : 0 ≤ mg x ∧ mg x ≤ 1000000000000 := by rw [mg_nat]; unfold r12 at ra; omega
  have b2 : 0 ≤ mg y ∧ mg y ≤ 1000000000000 := by rw [mg_nat]; unfold r12 at rb; omega
  by_cases h0 : x = 0
  · subst h0
    rw [show prV 0 y = 0 from (if_neg (fun h => h.1 rfl)).trans (Int.zero_mul y)]
    clear M1 M2 b1 b2 ra
    go_enter Try.func85, Try.ntmps85
    go_wp2_with fail
    go_region
    clear k0 k1 k2 k3 a1 hW
    have BW := bW.drew
    go_wp2
    go_ret
    exact ⟨by simp, BW⟩
  have h0' : (x != 0) = true := by simpa using h0
  have p0 : 0 < mg x := by rw [mg_nat]; omega
  have dv : 0 ≤ Int.tdiv 1000000000000 (mg x) ∧ Int.tdiv 1000000000000 (mg x) ≤ 1000000000000 := by
    have := tdiv_abs 1000000000000 (mg x)
    have p1 : 0 ≤ Int.tdiv 1000000000000 (mg x) := Int.tdiv_nonneg (by omega) b1.1
    omega
  have HP : ∀ q, Int.tdiv 1000000000000 (mg x) = q → prV x y = if q < mg y then 1000000000001 else x * y := fun q hq => by
    unfold prV
    by_cases h : q < mg y
    · rw [if_pos h, if_pos ⟨h0, by rw [hq]; exact h⟩]
    · rw [if_neg h, if_neg (fun k => h (by rw [← hq]; exact k.2))]
  have HB : ¬ Int.tdiv 1000000000000 (mg x) < mg y → r12 (x * y) := fun h => prod_in (fun k => h k.2)
  obtain ⟨X, hX⟩ : ∃ X, mg x = X := ⟨_, rfl⟩
  obtain ⟨Y, hY⟩ : ∃ Y, mg y = Y := ⟨_, rfl⟩
  rw [hX] at M1 b1 p0 dv HP HB
  rw [hY] at M2 b2 HP HB
  clear hX hY h0
  have HPq := HP _ rfl
  clear HP
  by_cases hc : Int.tdiv 1000000000000 X < Y
  · rw [HPq, if_pos hc]
    clear HPq HB
    go_enter Try.func85, Try.ntmps85
    go_wp2_with fail
    go_region
    clear k0 k1 k2 k3 a1 hW
    have BW := bW.drew
    go_wp2_with (first | (go_at_call_of 86 (Value.int IntKind.i64 y); refine (M2 _).mono ?_; rintro e w2 ⟨rfl, rfl⟩) | (go_at_call_of 86 (Value.int IntKind.i64 x); refine (M1 _).mono ?_; rintro e w2 ⟨rfl, rfl⟩))
    go_ret
    exact ⟨rfl, BW⟩
  · rw [HPq, if_neg hc]
    obtain ⟨e1, e2⟩ := HB hc
    clear HPq HB
    go_enter Try.func85, Try.ntmps85
    go_wp2_with fail
    go_region
    clear k0 k1 k2 k3 a1 hW
    have BW := bW.drew
    go_wp2_with (first | (go_at_call_of 86 (Value.int IntKind.i64 y); refine (M2 _).mono ?_; rintro e w2 ⟨rfl, rfl⟩) | (go_at_call_of 86 (Value.int IntKind.i64 x); refine (M1 _).mono ?_; rintro e w2 ⟨rfl, rfl⟩))
    go_ret
    exact ⟨rfl, BW⟩
theorem minV_any {w : World} {g m c a : Nat} {F : Nat → Int} (h : Ints w g 0 m F) (hg : g < w.heap.size) (ha : a < m) (hm : m ≤ 1000) (ra : r12 (F a)) : Calls Try.prog 88 #[.agg #[.int .i64 (a : Int)], .slice (some ⟨g, 0, none⟩) m c] w fun e w' => e = .returned (.int .i64 (- F a)) ∧ Below w.heap.size w w' := by
  obtain ⟨W, hW, a1, bW, -⟩ := boxed w 101 #[.int .i64 (a : Int)]
  have k0 := a1.cell 0 rfl
  have k1 := cellAt (h.below hg bW) ha
  have ha' : (a : Int) < (m : Int) := by omega
  have hm' : (m : Int) ≤ 1000 := by omega
  obtain ⟨r1, r2⟩ := ra
  go_enter Try.func88, Try.ntmps88
  go_wp2
  go_ret
  exact ⟨rfl, bW⟩
theorem conV_any (a : Int) (v : Value) (w : World) : Calls Try.prog 89 #[.int .i64 a, v] w fun e w' => e = .returned (.int .i64 a) ∧ w = w' := by
  go_enter Try.func89, Try.ntmps89
  go_wp2
  go_ret
  exact ⟨rfl, rfl⟩
set_option maxRecDepth 100000 in
theorem copyG_any {w : World} {b o c n : Nat} {f : Nat → Int} (h : Ints w b o n f) (hb : b < w.heap.size) (hn : n ≤ 1048576) :
    Calls Try.prog 43 #[.slice (some ⟨b, o, none⟩) n c] w fun e w' => ∃ v, e = .returned v ∧ Gv w w' w.heap.size 2 v n (iCells f n) := by
  have hbs : ∀ w, (Instr.buildSlice 23 0 #[]).run Try.prog w = .ok (.slice (some ⟨w.heap.size, 0, none⟩) 0 0) (w.alloc (.cells #[] 2)) := fun _ => by kernel_rfl
  have hm1 : Ints (w.alloc (.cells #[] 2)) b o n f := h.below hb (below_alloc _ _)
  have o0 : (w.alloc (.cells #[] 2)).ownsRow w.heap.size 2 1 (.slice (some ⟨w.heap.size, 0, none⟩) 0 0) 0 [] :=
    ⟨rfl, .inr ⟨w.heap.size, 0, #[], rfl, Nat.le_refl _, heap_alloc_new _ _, Nat.le_refl _, Nat.zero_le _, rfl, rfl⟩⟩
  obtain ⟨i0, hi0, hz0, hz1, hz2⟩ := info_parts infoI
  have hn' : (n : Int) ≤ 1048576 := by omega
  clear h hb
  go_enter Try.func43, Try.ntmps43
  go_wp2_with (at_builtin; refine wpList_append_own _ rfl _ _ _ rfl w.heap.size 2 i0 _ 1 8 Try.underlying23 hi0 hz0 hz1 hz2 rfl (by omega) (.slice (some ⟨w.heap.size, 0, none⟩) 0 0) 0 [] rfl o0 ⟨b, o, none⟩ n c (iCells f n) rfl (by rw [iCells_len]; omega) (ints_news hm1) (iCells_one f n) (by unfold maxLen; omega) (by omega) (by simp) ?_; intro v2 w2 hown2 hgrow2 hne2)
  simp only [Nat.zero_add, List.nil_append] at hown2
  go_ret
  exact ⟨_, rfl, hown2, fun h => ne_nil _ _ _ (hne2.1 h).1, (below_alloc w (.cells #[] 2)).grown hgrow2 (by simp) (fun k hk => by cases hk; exact Nat.le_refl _), Nat.le_refl _, Nat.le_trans (Nat.le_of_lt (by simp)) hgrow2.size⟩
end Go.Proofs.Ytloailicdoknbaa
