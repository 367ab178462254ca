/-
  Remainders, and lists copied, by the program and the specification, walked.
-/
import Derived.Test.YtglkddhifpnniaaOpA
import Derived.Lib.SliceRun
namespace Go.Proofs.Ytglkddhifpnniaa
open Go.RowKit

theorem ediv_is {x y q : Int} (hy : 0 < y) (h1 : q * y ≤ x) (h2 : x < q * y + y) : x / y = q := by
  have a1 : q ≤ x / y := Int.le_ediv_of_mul_le hy h1
  have a2 : x / y < q + 1 := Int.ediv_lt_of_lt_mul hy (by rw [Int.add_mul]; omega)
  omega
/-- The quotient that is cut, against the one that is rounded down. -/
theorem tdiv_pos {x y : Int} (hx : 0 ≤ x) : x.tdiv y = x / y ∧ x.tmod y = x % y := ⟨Int.tdiv_eq_ediv_of_nonneg hx, Int.tmod_eq_emod_of_nonneg hx⟩
theorem ediv_facts (x : Int) {y : Int} (hy : 0 < y) : x / y * y ≤ x ∧ x < x / y * y + y := by
  have h1 := Int.ediv_mul_le x (Int.ne_of_gt hy)
  have h2 := Int.lt_ediv_add_one_mul_self x hy
  rw [Int.add_mul] at h2
  omega
theorem tdiv_neg {x y : Int} (hx : x < 0) (hy : 0 < y) : (x.tdiv y * y ≤ x ∧ x.tdiv y = x / y ∧ x.tdiv y * y = x) ∨ (x < x.tdiv y * y ∧ x.tdiv y - 1 = x / y ∧ x.tdiv y * y < x + y) := by
  have e : x.tdiv y = -((-x) / y) := by
    have := Int.neg_tdiv (-x) y
    rw [Int.neg_neg] at this
    rw [this, Int.tdiv_eq_ediv_of_nonneg (show 0 ≤ -x by omega)]
  have f := ediv_facts (-x) hy
  have em : x.tdiv y * y = -((-x) / y * y) := by rw [e, Int.neg_mul]
  by_cases hz : (-x) / y * y = -x
  · left
    refine ⟨by omega, ?_, by omega⟩
    exact (ediv_is hy (by omega) (by omega)).symm
  · right
    refine ⟨by omega, ?_, by omega⟩
    refine (ediv_is hy ?_ ?_).symm
    · rw [Int.sub_mul]; omega
    · rw [Int.sub_mul]; omega
theorem tdiv_range {x y : Int} (hx : -1000000000000000 ≤ x ∧ x ≤ 1000000000000000) : (-1000000000000000 ≤ x.tdiv y * y ∧ x.tdiv y * y ≤ 1000000000000000) ∧ -1000000000000000 ≤ x.tdiv y ∧ x.tdiv y ≤ 1000000000000000 := by
  have hq : (x.tdiv y).natAbs ≤ x.natAbs := by rw [Int.natAbs_tdiv]; exact Nat.div_le_self _ _
  have hm : (x.tdiv y * y).natAbs ≤ x.natAbs := by rw [Int.natAbs_mul, Int.natAbs_tdiv]; exact Nat.div_mul_le_self _ _
  omega
theorem qdown_any (x y : Int) (w : World) (hx : -1000000000000000 ≤ x ∧ x ≤ 1000000000000000) (hy : 1 ≤ y ∧ y ≤ 1000000000000000) : Calls Try.prog 48 #[.int .i64 x, .int .i64 y] w fun e w' => e = .returned (.int .i64 (x / y)) ∧ w = w' := by
  obtain ⟨r1, r2⟩ := tdiv_range hx (y := y)
  have hc : (x.tdiv y * y ≤ x ∧ x.tdiv y = x / y) ∨ (x < x.tdiv y * y ∧ x.tdiv y - 1 = x / y) := by
    rcases Int.lt_or_le x 0 with h | h
    · rcases tdiv_neg h (y := y) (by omega) with h' | h'
      · exact .inl ⟨h'.1, h'.2.1⟩
      · exact .inr ⟨h'.1, h'.2.1⟩
    · have e := (tdiv_pos h (y := y)).1
      have f := ediv_facts x (y := y) (by omega)
      rw [← e] at f
      exact .inl ⟨f.1, e⟩
  rcases hc with ⟨h1, h2⟩ | ⟨h1, h2⟩
  · rw [← h2]
    have h1' : ¬ x < x.tdiv y * y := by omega
    clear h2
    go_enter Try.func48, Try.ntmps48
    go_wp2
    go_ret
    exact ⟨rfl, rfl⟩
  · rw [← h2]
    clear h2
    go_enter Try.func48, Try.ntmps48
    go_wp2
    go_ret
    exact ⟨rfl, rfl⟩
theorem modulo_any (x : Int) (w : World) (hx : -1000000 ≤ x ∧ x ≤ 1000000) : Calls Try.prog 39 #[.int .i64 x, .int .i64 24] w fun e w' => e = .returned (.int .i64 (x % 24)) ∧ w = w' := by
  obtain ⟨q, hq⟩ : ∃ q, x / 24 = q := ⟨_, rfl⟩
  have hm : Hid (x % 24 = x - 24 * q) := by show x % 24 = _; omega
  have hb : -1000000 ≤ q ∧ q ≤ 1000000 := by omega
  rw [hm.out]
  have hc := fun w => qdown_any x 24 w (by omega) (by omega)
  rw [hq] at hc
  clear hq
  go_enter Try.func39, Try.ntmps39
  go_wp2_with (go_at_call 48; refine (hc _).mono ?_; rintro e w2 ⟨rfl, rfl⟩)
  go_ret
  exact ⟨rfl, rfl⟩
theorem l1Mod_any (x : Int) (w : World) (hx : -1000000 ≤ x ∧ x ≤ 1000000) : Calls Try.prog 29 #[.int .i64 x, .int .i64 24] w fun e w' => e = .returned (.int .i64 (x % 24)) ∧ w = w' := by
  rcases Int.lt_or_le x 0 with h | h
  · have hr : x.tmod 24 = x - x.tdiv 24 * 24 := by have := Int.tmod_add_tdiv_mul x 24; omega
    rcases tdiv_neg h (y := 24) (by omega) with ⟨h1, h2, h3⟩ | ⟨h1, h2, h3⟩
    · have e1 : x % 24 = x.tmod 24 := by omega
      have e2 : ¬ x.tmod 24 < 0 := by omega
      rw [e1]
      clear e1 hr h1 h2 h3
      go_enter Try.func29, Try.ntmps29
      go_wp2
      go_ret
      exact ⟨rfl, rfl⟩
    · have e1 : x % 24 = x.tmod 24 + 24 := by omega
      have e2 : x.tmod 24 < 0 ∧ -24 < x.tmod 24 := by omega
      rw [e1]
      clear e1 hr h1 h2 h3
      obtain ⟨e2, e3⟩ := e2
      go_enter Try.func29, Try.ntmps29
      go_wp2
      go_ret
      exact ⟨rfl, rfl⟩
  · go_enter Try.func29, Try.ntmps29
    go_wp2
    go_ret
    exact ⟨rfl, rfl⟩
/-- The cells of the first n numbers. -/
def iCells (f : Nat → Int) : Nat → List Value
  | 0 => []
  | n + 1 => iCells f n ++ [.int .i64 (f n)]
theorem iCells_len (f : Nat → Int) (n : Nat) : (iCells f n).length = n := by
  induction n with
  | zero => rfl
  | succ n ih => simp [iCells, ih]
theorem iCells_at (f : Nat → Int) {n i : Nat} (h : i < n) : (iCells f n)[i]? = some (.int .i64 (f i)) := by
  induction n with
  | zero => omega
  | succ n ih =>
    unfold iCells
    have hl := iCells_len f n
    by_cases e : i = n
    · subst e
      rw [List.getElem?_append_right (by omega), hl]; simp
    · rw [List.getElem?_append_left (by omega)]; exact ih (by omega)
theorem iCells_congr {f g : Nat → Int} {n : Nat} (h : ∀ i, i < n → f i = g i) : iCells f n = iCells g n := by
  induction n with
  | zero => rfl
  | succ n ih => unfold iCells; rw [ih (fun i hi => h i (by omega)), h n (by omega)]
theorem iCells_snoc (f : Nat → Int) (k : Nat) (x : Int) : iCells f k ++ [.int .i64 x] = iCells (fun i => if i = k then x else f i) (k + 1) := by
  show _ = iCells (fun i => if i = k then x else f i) k ++ _
  rw [← iCells_congr (f := f) (g := fun i => if i = k then x else f i) (fun i hi => by simp [show i ≠ k by omega])]
  simp
theorem iCells_one (f : Nat → Int) (n : Nat) : ∀ u ∈ iCells f n, u.oneCell' = true := by
  induction n with
  | zero => intro u hu; cases hu
  | succ n ih =>
    intro u hu
    unfold iCells at hu
    rcases List.mem_append.1 hu with h | h
    · exact ih u h
    · simp at h; subst h; rfl
theorem made_of {w : World} {base n : Nat} {v : Value} {f : Nat → Int} (h : w.ownsRow base 2 1 v n (iCells f n)) (hv : v ≠ .slice none 0 0) : ∃ g c, v = .slice (some ⟨g, 0, none⟩) n c ∧ base ≤ g ∧ n ≤ c ∧ Made w g c n f := by
  rcases h.2 with ⟨h1, _⟩ | ⟨g, c, cur, rfl, hb, hh, hc1, hc2, hsz, ht⟩
  · exact absurd h1 hv
  · have hn : n ≤ c := hc1
    refine ⟨g, c, rfl, hb, hn, cur, hh, by simpa using hsz, fun i hi => ?_⟩
    have a1 := iCells_at f hi
    rw [← ht] at a1
    rw [List.getElem?_take_of_lt (by omega)] at a1
    simpa using a1
theorem ne_nil (a : Addr) (n c : Nat) : Value.slice (some a) n c ≠ .slice none 0 0 := by intro h; cases h
theorem ints_news {w : World} {b o n : Nat} {f : Nat → Int} (h : Ints w b o n f) : ∀ j u, (iCells f n)[j]? = some u → w.cell? ((⟨b, o, none⟩ : Addr).add j) = some u := by
  intro j u hu
  have hj : j < n := by
    have := (List.getElem?_eq_some_iff.1 hu).1
    rwa [iCells_len] at this
  rw [iCells_at f hj] at hu
  have hc := h j hj
  rw [hu] at hc
  by_cases e : j = 0
  · subst e; simpa [Addr.add] using hc
  · simpa [Addr.add, e] using hc
set_option maxRecDepth 100000 in
theorem clone_any {w : World} {b o c n : Nat} {f : Nat → Int} (h : Ints w b o n f) (hb : b < w.heap.size) (hn : n ≤ 1048576) :
    Calls Try.prog 49 #[.slice (some ⟨b, o, none⟩) n c] w fun e w' => ∃ g' c', e = .returned (.slice (some ⟨g', 0, none⟩) n c') ∧ w.heap.size ≤ g' ∧ n ≤ c' ∧ Made w' g' c' n f ∧ Below w.heap.size w w' := by
  have hbs : ∀ w, (Instr.buildSlice 22 0 #[]).run Try.prog w = .ok (.slice (some ⟨w.heap.size, 0, none⟩) 0 0) (w.alloc (.cells #[] 2)) := fun _ => by kernel_rfl
  have hm1 : Ints (w.alloc (.cells #[] 2)) b o n f := h.below hb (below_alloc _ _)
  have o0 : (w.alloc (.cells #[] 2)).ownsRow w.heap.size 2 1 (.slice (some ⟨w.heap.size, 0, none⟩) 0 0) 0 [] :=
    ⟨rfl, .inr ⟨w.heap.size, 0, #[], rfl, Nat.le_refl _, heap_alloc_new _ _, Nat.le_refl _, Nat.zero_le _, rfl, rfl⟩⟩
  obtain ⟨i0, hi0, hz0, hz1, hz2⟩ := info_parts Try.info2
  have hn' : (n : Int) ≤ 1048576 := by omega
  have hnil := fun w a n c => Lib.run_eql_slice_nil (P := Try.prog) w 22 2 a n c 0 0 Try.underlying22
  clear h hb
  go_enter Try.func49, Try.ntmps49
  go_wp2_with (at_builtin; refine wpList_append_own _ rfl _ _ _ rfl w.heap.size 2 i0 _ 1 8 Try.underlying22 hi0 hz0 hz1 hz2 rfl (by omega) (.slice (some ⟨w.heap.size, 0, none⟩) 0 0) 0 [] rfl o0 ⟨b, o, none⟩ n c (iCells f n) rfl (by rw [iCells_len]; omega) (ints_news hm1) (iCells_one f n) (by unfold maxLen; omega) (by omega) (by simp) ?_; intro v2 w2 hown2 hgrow2 hne2)
  simp only [Nat.zero_add, List.nil_append] at hown2
  obtain ⟨g', c', rfl, hg', hc', hm'⟩ := made_of hown2 (fun h => ne_nil _ _ _ (hne2.1 h).1)
  go_ret
  exact ⟨g', c', rfl, hg', hc', hm', (below_alloc w (.cells #[] 2)).grown hgrow2 (by simp) (fun k hk => by cases hk; exact Nat.le_refl _)⟩
end Go.Proofs.Ytglkddhifpnniaa
