/-
  Which operators are right, by the specification, walked.
-/
import Derived.Test.YtiocneailhplkaaGreatMB
import Derived.Test.YtiocneailhplkaaGreatOpD
import Derived.Test.YtiocneailhplkaaGreatMA
import Derived.Lib.SliceRun
namespace Go.Proofs.YtiocneailhplkaaGreat
open Go.RowKit

def isOp (n : Nat) (f : Nat → Int) (k : Nat) (h : Nat → Int) : Prop := n = 9 ∧ k = 3 ∧ isR f h
instance (n : Nat) (f : Nat → Int) (k : Nat) (h : Nat → Int) : Decidable (isOp n f k h) := by unfold isOp; infer_instance
theorem specRight_any {w : World} {a b : Option Addr} {n k : Nat} {f h : Nat → Int} (cap cap' : Nat) (hs : Src w a n f) (ht : Src w b k h) :
    Calls Tryz.prog 92 #[.slice a n cap, .slice b k cap'] w fun e w' => e = .returned (.bool (decide (isOp n f k h))) ∧ Below w.heap.size w w' := by
  by_cases h9 : n = 9
  rotate_left
  · have h9' : ¬ (n : Int) = 9 := by omega
    go_enter Tryz.func92, Tryz.ntmps92
    go_wp2
    go_ret
    exact ⟨by rw [decide_eq_false (show ¬ isOp n f k h from fun h => h9 h.1)]; rfl, Below.refl _ _⟩
  by_cases h3 : k = 3
  rotate_left
  · have h9' : (n : Int) = 9 := by omega
    have h3' : ¬ (k : Int) = 3 := by omega
    go_enter Tryz.func92, Tryz.ntmps92
    go_wp2
    go_ret
    exact ⟨by rw [decide_eq_false (show ¬ isOp n f k h from fun h => h3 h.2.1)]; rfl, Below.refl _ _⟩
  subst h9 h3
  rcases hs with h0 | ⟨b1, o1, rfl, l1, r1⟩
  · omega
  rcases ht with h0 | ⟨b2, o2, rfl, l2, r2⟩
  · omega
  go_enter Tryz.func92, Tryz.ntmps92
  go_wp2
  go_loopw [5] (fun s wr => ∃ k : Nat, k ≤ 9 ∧ s = .int .i64 k ∧ w = wr ∧ ∀ i, i < k → -1 ≤ f i ∧ f i ≤ 1) (fun s _ => 9 - (intOf s).toNat)
  case atStart => exact ⟨0, Nat.zero_le _, rfl, rfl, fun i hi => by omega⟩
  case round =>
    obtain ⟨k, hk, rfl, rfl, hall⟩ := hrel
    by_cases hlt : k < 9
    · have hlt' : (k : Int) < 9 := by omega
      have g0 := r1 k hlt
      have HA : Hid (∀ i, i < k → -1 ≤ f i ∧ f i ≤ 1) := hall
      clear hall
      by_cases hin : -1 ≤ f k ∧ f k ≤ 1
      · go_wp2_with (go_at_call 54; refine (in_any _ _ _ _).mono ?_; rintro e w2 ⟨rfl, rfl⟩)
        refine ⟨⟨k + 1, by omega, by go_num, by trivial, fun i hi => ?_⟩, by simp [intOf]; omega⟩
        by_cases e : i = k
        · rw [e]; exact hin
        · exact HA.out i (by omega)
      · go_wp2_with (go_at_call 54; refine (in_any _ _ _ _).mono ?_; rintro e w2 ⟨rfl, rfl⟩)
        go_ret
        refine ⟨?_, Below.refl _ _⟩
        rw [decide_eq_false (show ¬ isOp 9 f 3 h from fun h => hin (h.2.2.1 k hlt))]
        rfl
    · have hlt' : ¬ (k : Int) < 9 := by omega
      obtain rfl : k = 9 := by omega
      have HA : Hid (∀ i, i < 9 → -1 ≤ f i ∧ f i ≤ 1) := hall
      clear hall hk
      go_wp2
      go_loopw [6] (fun s wr => ∃ k : Nat, k ≤ 3 ∧ s = .int .i64 k ∧ w = wr ∧ ∀ i, i < k → 0 ≤ h i ∧ h i ≤ 23) (fun s _ => 3 - (intOf s).toNat)
      case atStart => exact ⟨0, Nat.zero_le _, rfl, rfl, fun i hi => by omega⟩
      case round =>
        obtain ⟨k, hk, rfl, rfl, hall⟩ := hrel
        by_cases hlt : k < 3
        · have hlt' : (k : Int) < 3 := by omega
          have g0 := r2 k hlt
          have HB : Hid (∀ i, i < k → 0 ≤ h i ∧ h i ≤ 23) := hall
          clear hall
          by_cases hin : 0 ≤ h k ∧ h k ≤ 23
          · go_wp2_with (go_at_call 54; refine (in_any _ _ _ _).mono ?_; rintro e w2 ⟨rfl, rfl⟩)
            refine ⟨⟨k + 1, by omega, by go_num, by trivial, fun i hi => ?_⟩, by simp [intOf]; omega⟩
            by_cases e : i = k
            · rw [e]; omega
            · exact HB.out i (by omega)
          · go_wp2_with (go_at_call 54; refine (in_any _ _ _ _).mono ?_; rintro e w2 ⟨rfl, rfl⟩)
            go_ret
            refine ⟨?_, Below.refl _ _⟩
            rw [decide_eq_false (show ¬ isOp 9 f 3 h from fun x => by have := x.2.2.2.1 k hlt; omega)]
            rfl
        · have hlt' : ¬ (k : Int) < 3 := by omega
          obtain rfl : k = 3 := by omega
          have hf : ∀ i, i < 9 → -1000 ≤ f i ∧ f i ≤ 1000 := fun i hi => by have := HA.out i hi; omega
          have hdet := specDet0_any (cap := cap) r1 hf
          have hR : ∀ D, det3 f = D → decide (isOp 9 f 3 h) = decide (D = 1 ∨ D = -1) := by
            intro D hD
            rw [Bool.eq_iff_iff]
            simp only [decide_eq_true_eq]
            exact ⟨fun x => hD ▸ x.2.2.2.2, fun x => ⟨rfl, rfl, HA.out, fun i hi => by have := hall i hi; omega, hD ▸ x⟩⟩
          obtain ⟨D, hD⟩ : ∃ D, det3 f = D := ⟨_, rfl⟩
          have HR : Hid (decide (isOp 9 f 3 h) = decide (D = 1 ∨ D = -1)) := hR D hD
          rw [hD] at hdet
          clear hall hR hf hD
          by_cases d1 : D = 1
          · go_wp2_with (go_at_call 100; refine hdet.mono ?_; rintro e w2 ⟨rfl, b2⟩)
            go_ret
            exact ⟨by rw [HR.out, d1]; rfl, b2⟩
          by_cases d2 : D = -1
          · go_wp2_with (go_at_call 100; refine hdet.mono ?_; rintro e w2 ⟨rfl, b2⟩)
            go_ret
            exact ⟨by rw [HR.out, d2]; rfl, b2⟩
          · go_wp2_with (go_at_call 100; refine hdet.mono ?_; rintro e w2 ⟨rfl, b2⟩)
            go_ret
            exact ⟨by rw [HR.out, decide_eq_false (by omega)]; simp [d1, d2], b2⟩
theorem specOk_any {w : World} {a b : Option Addr} {n k : Nat} {f h : Nat → Int} (cap cap' : Nat) (hs : Src w a n f) (ht : Src w b k h) :
    Calls Tryz.prog 76 #[.agg #[.slice a n cap, .slice b k cap']] w fun e w' => e = .returned (.bool (decide (isOp n f k h))) ∧ Below w.heap.size w w' := by
  obtain ⟨W1, hW1, a1, bW1, -⟩ := boxed w 57 #[.slice a n cap, .slice b k cap']
  obtain ⟨c0, c1, -⟩ := a1.open2
  go_enter Tryz.func76, Tryz.ntmps76
  go_wp2_with fail
  refine (specRight_any cap cap' (hs.below bW1) (ht.below bW1)).mono ?_
  rintro e w2 ⟨rfl, b2⟩
  go_wp2
  go_ret
  exact ⟨rfl, bW1.trans (b2.mono bW1.size)⟩
end Go.Proofs.YtiocneailhplkaaGreat
/-
  The law on right operators, walked.
-/
namespace Go.Proofs.YtiocneailhplkaaGreat
open Go.RowKit

/-- The numbers that are taken in. -/
def tf (n k : Nat) (f : Nat → Int) : Nat → Int := if n = 9 ∧ k = 3 then f else fun _ => 0
theorem operatorOf_any {w : World} {a b : Option Addr} {n k : Nat} {f h : Nat → Int} (cap cap' : Nat) (hs : Src w a n f) (ht : Src w b k h) :
    Calls Tryz.prog 81 #[.agg #[.slice a n cap, .slice b k cap']] w fun e w' => e = .returned (.tuple #[.agg (opA (tf n k f) (tf n k h)), .bool (decide (isOp n f k h))]) ∧ Below w.heap.size w w' := by
  by_cases hnk : n = 9 ∧ k = 3
  · obtain ⟨rfl, rfl⟩ := hnk
    rcases hs with h0 | ⟨b1, o1, rfl, l1, r1⟩
    · omega
    rcases ht with h0 | ⟨b2, o2, rfl, l2, r2⟩
    · omega
    have e1 : tf 9 3 f = f := if_pos ⟨rfl, rfl⟩
    have e2 : tf 9 3 h = h := if_pos ⟨rfl, rfl⟩
    have e3 : decide (isOp 9 f 3 h) = decide (isR f h) := by
      rw [Bool.eq_iff_iff]
      simp only [decide_eq_true_eq]
      exact ⟨fun x => x.2.2, fun x => ⟨rfl, rfl, x⟩⟩
    rw [e1, e2, e3]
    exact operatorOf_ok r1 r2 l1 l2 cap cap'
  · have e1 : tf n k f = fun _ => 0 := if_neg hnk
    have e2 : tf n k h = fun _ => 0 := if_neg hnk
    rw [e1, e2, decide_eq_false (show ¬ isOp n f k h from fun x => hnk ⟨x.1, x.2.1⟩)]
    exact operatorOf_bad a b n cap k cap' hnk
/-- A new variable that holds an operator. -/
theorem boxed2 (w : World) (v1 v2 : Value) : ∃ W, w.alloc (.cells #[.slice none 0 0, .slice none 0 0] 57) = W ∧ ∃ W', (W.setCell ⟨w.heap.size, 0, none⟩ v1).setCell ⟨w.heap.size, 1, none⟩ v2 = W' ∧ At 57 W' w.heap.size #[v1, v2] ∧ Below w.heap.size w W' ∧ W.cell? ⟨w.heap.size, 0, none⟩ = some (.slice none 0 0) ∧ W.cell? ⟨w.heap.size, 1, none⟩ = some (.slice none 0 0) ∧ W.frozen? ⟨w.heap.size, 0, none⟩ = false ∧ W.frozen? ⟨w.heap.size, 1, none⟩ = false := by
  obtain ⟨W, hW, a, b, -⟩ := boxed w 57 #[.slice none 0 0, .slice none 0 0]
  obtain ⟨c0, c1, c2, c3⟩ := a.open2
  exact ⟨W, hW, _, rfl, by simpa using (a.set 0 v1).set 1 v2, (b.setCell (Nat.le_refl _) _).setCell (Nat.le_refl _) _, c0, c1, c2, c3⟩
/-- What the region reads: two operators. -/
def Two2 (q : Nat) (x0 x1 : Value) (p : Nat) (y0 y1 : Value) (w' : World) : Prop := w'.cell? ⟨q, 0, none⟩ = some x0 ∧ w'.cell? ⟨q, 1, none⟩ = some x1 ∧ w'.cell? ⟨p, 0, none⟩ = some y0 ∧ w'.cell? ⟨p, 1, none⟩ = some y1
theorem two2_mk {t t' : TypeId} {w' : World} {q p : Nat} {x0 x1 y0 y1 : Value} (a : At t w' q #[x0, x1]) (b : At t' w' p #[y0, y1]) : Two2 q x0 x1 p y0 y1 w' := ⟨a.open2.1, a.open2.2.1, b.open2.1, b.open2.2.1⟩
end Go.Proofs.YtiocneailhplkaaGreat
/-
  Remainders, and lists copied, by the program and the specification, walked.
-/
namespace Go.Proofs.YtiocneailhplkaaGreat
open Go.RowKit

theorem ediv_is {x y q : Int} (hy : 0 < y) (h1 : q * y ≤ x) (h2 : x < q * y + y) : x / y = q := by
  have a1 : q ≤ x / y := Int.le_ediv_of_mul_le hy h1
  have a2 : x / y < q + 1 := Int.ediv_lt_of_lt_mul hy (by rw [Int.add_mul]; omega)
  omega
/-- The quotient that is cut, against the one that is rounded down. -/
theorem tdiv_pos {x y : Int} (hx : 0 ≤ x) : x.tdiv y = x / y ∧ x.tmod y = x % y := ⟨Int.tdiv_eq_ediv_of_nonneg hx, Int.tmod_eq_emod_of_nonneg hx⟩
theorem ediv_facts (x : Int) {y : Int} (hy : 0 < y) : x / y * y ≤ x ∧ x < x / y * y + y := by
  have h1 := Int.ediv_mul_le x (Int.ne_of_gt hy)
  have h2 := Int.lt_ediv_add_one_mul_self x hy
  rw [Int.add_mul] at h2
  omega
theorem tdiv_neg {x y : Int} (hx : x < 0) (hy : 0 < y) : (x.tdiv y * y ≤ x ∧ x.tdiv y = x / y ∧ x.tdiv y * y = x) ∨ (x < x.tdiv y * y ∧ x.tdiv y - 1 = x / y ∧ x.tdiv y * y < x + y) := by
  have e : x.tdiv y = -((-x) / y) := by
    have := Int.neg_tdiv (-x) y
    rw [Int.neg_neg] at this
    rw [this, Int.tdiv_eq_ediv_of_nonneg (show 0 ≤ -x by omega)]
  have f := ediv_facts (-x) hy
  have em : x.tdiv y * y = -((-x) / y * y) := by rw [e, Int.neg_mul]
  by_cases hz : (-x) / y * y = -x
  · left
    refine ⟨by omega, ?_, by omega⟩
    exact (ediv_is hy (by omega) (by omega)).symm
  · right
    refine ⟨by omega, ?_, by omega⟩
    refine (ediv_is hy ?_ ?_).symm
    · rw [Int.sub_mul]; omega
    · rw [Int.sub_mul]; omega
theorem tdiv_range {x y : Int} (hx : -1000000000000000 ≤ x ∧ x ≤ 1000000000000000) : (-1000000000000000 ≤ x.tdiv y * y ∧ x.tdiv y * y ≤ 1000000000000000) ∧ -1000000000000000 ≤ x.tdiv y ∧ x.tdiv y ≤ 1000000000000000 := by
  have hq : (x.tdiv y).natAbs ≤ x.natAbs := by rw [Int.natAbs_tdiv]; exact Nat.div_le_self _ _
  have hm : (x.tdiv y * y).natAbs ≤ x.natAbs := by rw [Int.natAbs_mul, Int.natAbs_tdiv]; exact Nat.div_mul_le_self _ _
  omega
theorem qdown_any (x y : Int) (w : World) (hx : -1000000000000000 ≤ x ∧ x ≤ 1000000000000000) (hy : 1 ≤ y ∧ y ≤ 1000000000000000) : Calls Tryz.prog 93 #[.int .i64 x, .int .i64 y] w fun e w' => e = .returned (.int .i64 (x / y)) ∧ w = w' := by
  obtain ⟨r1, r2⟩ := tdiv_range hx (y := y)
  have hc : (x.tdiv y * y ≤ x ∧ x.tdiv y = x / y) ∨ (x < x.tdiv y * y ∧ x.tdiv y - 1 = x / y) := by
    rcases Int.lt_or_le x 0 with h | h
    · rcases tdiv_neg h (y := y) (by omega) with h' | h'
      · exact .inl ⟨h'.1, h'.2.1⟩
      · exact .inr ⟨h'.1, h'.2.1⟩
    · have e := (tdiv_pos h (y := y)).1
      have f := ediv_facts x (y := y) (by omega)
      rw [← e] at f
      exact .inl ⟨f.1, e⟩
  rcases hc with ⟨h1, h2⟩ | ⟨h1, h2⟩
  · rw [← h2]
    have h1' : ¬ x < x.tdiv y * y := by omega
    clear h2
    go_enter Tryz.func93, Tryz.ntmps93
    go_wp2
    go_ret
    exact ⟨rfl, rfl⟩
  · rw [← h2]
    clear h2
    go_enter Tryz.func93, Tryz.ntmps93
    go_wp2
    go_ret
    exact ⟨rfl, rfl⟩
theorem modulo_any (x : Int) (w : World) (hx : -1000000 ≤ x ∧ x ≤ 1000000) : Calls Tryz.prog 80 #[.int .i64 x, .int .i64 24] w fun e w' => e = .returned (.int .i64 (x % 24)) ∧ w = w' := by
  obtain ⟨q, hq⟩ : ∃ q, x / 24 = q := ⟨_, rfl⟩
  have hm : Hid (x % 24 = x - 24 * q) := by show x % 24 = _; omega
  have hb : -1000000 ≤ q ∧ q ≤ 1000000 := by omega
  rw [hm.out]
  have hc := fun w => qdown_any x 24 w (by omega) (by omega)
  rw [hq] at hc
  clear hq
  go_enter Tryz.func80, Tryz.ntmps80
  go_wp2_with (go_at_call 93; refine (hc _).mono ?_; rintro e w2 ⟨rfl, rfl⟩)
  go_ret
  exact ⟨rfl, rfl⟩
theorem l1Mod_any (x : Int) (w : World) (hx : -1000000 ≤ x ∧ x ≤ 1000000) : Calls Tryz.prog 60 #[.int .i64 x, .int .i64 24] w fun e w' => e = .returned (.int .i64 (x % 24)) ∧ w = w' := by
  rcases Int.lt_or_le x 0 with h | h
  · have hr : x.tmod 24 = x - x.tdiv 24 * 24 := by have := Int.tmod_add_tdiv_mul x 24; omega
    rcases tdiv_neg h (y := 24) (by omega) with ⟨h1, h2, h3⟩ | ⟨h1, h2, h3⟩
    · have e1 : x % 24 = x.tmod 24 := by omega
      have e2 : ¬ x.tmod 24 < 0 := by omega
      rw [e1]
      clear e1 hr h1 h2 h3
      go_enter Tryz.func60, Tryz.ntmps60
      go_wp2
      go_ret
      exact ⟨rfl, rfl⟩
    · have e1 : x % 24 = x.tmod 24 + 24 := by omega
      have e2 : x.tmod 24 < 0 ∧ -24 < x.tmod 24 := by omega
      rw [e1]
      clear e1 hr h1 h2 h3
      obtain ⟨e2, e3⟩ := e2
      go_enter Tryz.func60, Tryz.ntmps60
      go_wp2
      go_ret
      exact ⟨rfl, rfl⟩
  · go_enter Tryz.func60, Tryz.ntmps60
    go_wp2
    go_ret
    exact ⟨rfl, rfl⟩
/-- The cells of the first n numbers. -/
def iCells (f : Nat → Int) : Nat → List Value
  | 0 => []
  | n + 1 => iCells f n ++ [.int .i64 (f n)]
theorem iCells_len (f : Nat → Int) (n : Nat) : (iCells f n).length = n := by
  induction n with
  | zero => rfl
  | succ n ih => simp [iCells, ih]
theorem iCells_at (f : Nat → Int) {n i : Nat} (h : i < n) : (iCells f n)[i]? = some (.int .i64 (f i)) := by
  induction n with
  | zero => omega
  | succ n ih =>
    unfold iCells
    have hl := iCells_len f n
    by_cases e : i = n
    · subst e
      rw [List.getElem?_append_right (by omega), hl]; simp
    · rw [List.getElem?_append_left (by omega)]; exact ih (by omega)
theorem iCells_congr {f g : Nat → Int} {n : Nat} (h : ∀ i, i < n → f i = g i) : iCells f n = iCells g n := by
  induction n with
  | zero => rfl
  | succ n ih => unfold iCells; rw [ih (fun i hi => h i (by omega)), h n (by omega)]
theorem iCells_snoc (f : Nat → Int) (k : Nat) (x : Int) : iCells f k ++ [.int .i64 x] = iCells (fun i => if i = k then x else f i) (k + 1) := by
  show _ = iCells (fun i => if i = k then x else f i) k ++ _
  rw [← iCells_congr (f := f) (g := fun i => if i = k then x else f i) (fun i hi => by simp [show i ≠ k by omega])]
  simp
theorem iCells_one (f : Nat → Int) (n : Nat) : ∀ u ∈ iCells f n, u.oneCell' = true := by
  induction n with
  | zero => intro u hu; cases hu
  | succ n ih =>
    intro u hu
    unfold iCells at hu
    rcases List.mem_append.1 hu with h | h
    · exact ih u h
    · simp at h; subst h; rfl
theorem made_of {w : World} {base n : Nat} {v : Value} {f : Nat → Int} (h : w.ownsRow base 2 1 v n (iCells f n)) (hv : v ≠ .slice none 0 0) : ∃ g c, v = .slice (some ⟨g, 0, none⟩) n c ∧ base ≤ g ∧ n ≤ c ∧ Made w g c n f := by
  rcases h.2 with ⟨h1, _⟩ | ⟨g, c, cur, rfl, hb, hh, hc1, hc2, hsz, ht⟩
  · exact absurd h1 hv
  · have hn : n ≤ c := hc1
    refine ⟨g, c, rfl, hb, hn, cur, hh, by simpa using hsz, fun i hi => ?_⟩
    have a1 := iCells_at f hi
    rw [← ht] at a1
    rw [List.getElem?_take_of_lt (by omega)] at a1
    simpa using a1
theorem ne_nil (a : Addr) (n c : Nat) : Value.slice (some a) n c ≠ .slice none 0 0 := by intro h; cases h
theorem ints_news {w : World} {b o n : Nat} {f : Nat → Int} (h : Ints w b o n f) : ∀ j u, (iCells f n)[j]? = some u → w.cell? ((⟨b, o, none⟩ : Addr).add j) = some u := by
  intro j u hu
  have hj : j < n := by
    have := (List.getElem?_eq_some_iff.1 hu).1
    rwa [iCells_len] at this
  rw [iCells_at f hj] at hu
  have hc := h j hj
  rw [hu] at hc
  by_cases e : j = 0
  · subst e; simpa [Addr.add] using hc
  · simpa [Addr.add, e] using hc
end Go.Proofs.YtiocneailhplkaaGreat
