/-
  Balanced, by the program and by the specification: walked.
-/
import Derived.Test.YtnkmiljnilmicaaTb
import Derived.Test.YtnkmiljnilmicaaTl
namespace Go.Proofs.Ytnkmiljnilmicaa
open Go.RowKit

/-- How many L stand ahead of letter k. -/
def la (s : ByteArray) : Nat → Int
  | 0 => 0
  | k + 1 => la s k + (if sb s k = 76 then 1 else 0)
theorem la_bound (s : ByteArray) (k : Nat) : 0 ≤ la s k ∧ la s k ≤ k := by
  induction k with
  | zero => exact ⟨Int.le_refl _, Int.le_refl _⟩
  | succ k ih => unfold la; by_cases h : sb s k = 76 <;> simp only [h, if_true, if_false] <;> omega
/-- How many of n letters from i on are L. -/
def ln (s : ByteArray) (n i : Nat) : Int := la s (n + i) - la s i
theorem ln_bound (s : ByteArray) (n i : Nat) : 0 ≤ ln s n i ∧ ln s n i ≤ n := by
  unfold ln
  induction n with
  | zero => simp
  | succ n ih =>
    rw [show n + 1 + i = (n + i) + 1 by omega, la]
    by_cases h : sb s (n + i) = 76 <;> simp only [h, if_true, if_false] <;> omega
/-- Two stretches of n letters have numbers of L that differ by more than one. -/
def unev (s : ByteArray) (n : Nat) : Prop := ∃ i j, n + i ≤ s.size ∧ n + j ≤ s.size ∧ 1 < ln s n i - ln s n j
/-- The least and the most of the first k. -/
def Mm (s : ByteArray) (n k : Nat) (lo hi : Int) : Prop := (∀ i, i < k → lo ≤ ln s n i ∧ ln s n i ≤ hi) ∧ (0 < k → (∃ i, i < k ∧ ln s n i = lo) ∧ ∃ i, i < k ∧ ln s n i = hi)
theorem Mm.none (s : ByteArray) (n : Nat) (lo hi : Int) : Mm s n 0 lo hi := ⟨fun i h => by omega, fun h => by omega⟩
theorem Mm.step {s : ByteArray} {n k : Nat} {lo hi : Int} (h : Mm s n k lo hi) (h0 : k = 0 → ln s n 0 ≤ lo ∧ hi ≤ ln s n 0) : Mm s n (k + 1) (min lo (ln s n k)) (max hi (ln s n k)) := by
  refine ⟨fun i hi' => ?_, fun _ => ⟨?_, ?_⟩⟩
  · by_cases e : i = k
    · subst e; omega
    · have := h.1 i (by omega); omega
  · by_cases e : lo ≤ ln s n k ∧ 0 < k
    · obtain ⟨i, h1, h2⟩ := (h.2 e.2).1
      exact ⟨i, by omega, by omega⟩
    · refine ⟨k, by omega, ?_⟩
      by_cases z : k = 0
      · subst z; have := h0 rfl; omega
      · omega
  · by_cases e : ln s n k ≤ hi ∧ 0 < k
    · obtain ⟨i, h1, h2⟩ := (h.2 e.2).2
      exact ⟨i, by omega, by omega⟩
    · refine ⟨k, by omega, ?_⟩
      by_cases z : k = 0
      · subst z; have := h0 rfl; omega
      · omega
theorem Mm.done {s : ByteArray} {n k : Nat} {lo hi : Int} (h : Mm s n k lo hi) (hk : n + k = s.size + 1) (h0 : 0 < k) : (1 < hi - lo ↔ unev s n) := by
  constructor
  · intro hd
    obtain ⟨⟨i, h1, h2⟩, j, h3, h4⟩ := h.2 h0
    exact ⟨j, i, by omega, by omega, by omega⟩
  · rintro ⟨i, j, h1, h2, h3⟩
    have := h.1 i (by omega)
    have := h.1 j (by omega)
    omega
/-- A list of numbers that is read. -/
def IntsAt (w : World) (g m : Nat) (f : Nat → Int) : Prop := g < w.heap.size ∧ ∀ i, i < m → w.cell? ⟨g, i, none⟩ = some (.int .i64 (f i))
theorem IntsAt.below {w w' : World} {g m : Nat} {f : Nat → Int} (h : IntsAt w g m f) (hb : Below w.heap.size w w') : IntsAt w' g m f := ⟨by have := h.1; have := hb.size; omega, fun i hi => (hb.cell (p := ⟨g, i, none⟩) h.1).trans (h.2 i hi)⟩

set_option maxRecDepth 100000 in
set_option maxHeartbeats 1000000 in
theorem uneven_any (s : ByteArray) (g c n : Nat) (w : World) (hs : s.size ≤ 1000) (hn : n ≤ s.size) (hc : s.size + 1 ≤ c) (hc2 : c ≤ maxLen) (ha : IntsAt w g (s.size + 1) (la s)) : Calls Try.prog 23 #[.slice (some ⟨g, 0, none⟩) (s.size + 1) c, .int .i64 n] w fun e w' => ∃ m : Int, (1 < m ↔ unev s n) ∧ -2000 ≤ m ∧ m ≤ 2000 ∧ e = .returned (.int .i64 m) ∧ Below w.heap.size w w' := by
  unfold maxLen at hc2
  go_enter Try.func23, Try.ntmps23
  go_wp2
  go_loopw [5, 6, 15] (fun l h t wr => ∃ (k : Nat) (lo hi : Int), k ≤ s.size + 1 - n ∧ Mm s n k lo hi ∧ (k = 0 → lo = n ∧ hi = 0) ∧ 0 ≤ lo ∧ lo ≤ n ∧ 0 ≤ hi ∧ hi ≤ n ∧ l = .int .i64 lo ∧ h = .int .i64 hi ∧ t = .int .i64 k ∧ w = wr) (fun _ _ t _ => s.size + 1 - n - (intOf t).toNat)
  case atStart => exact ⟨0, n, 0, Nat.zero_le _, Mm.none _ _ _ _, fun _ => ⟨rfl, rfl⟩, by omega, by omega, by omega, by omega, rfl, rfl, rfl, rfl⟩
  case round =>
    obtain ⟨k, lo, hi, hk, hM, h0, l0, l1, i0, i1, rfl, rfl, rfl, rfl⟩ := hrel
    have HM : Hid (Mm s n k lo hi) := hM
    have H0 : Hid (k = 0 → lo = n ∧ hi = 0) := h0
    have HA : Hid (IntsAt w g (s.size + 1) (la s)) := ha
    clear hM h0 ha
    by_cases hlt : k < s.size + 1 - n
    · have hlt' : (k : Int) < ((s.size + 1 - n : Nat) : Int) := by omega
      have hlt2 : (k : Int) < (s.size : Int) + 1 := by omega
      have c1 := HA.out.2 (n + k) (by omega)
      have c2 := HA.out.2 k (by omega)
      have b1 := la_bound s (n + k)
      have b2 := la_bound s k
      have b3 := ln_bound s n k
      obtain ⟨d, hd⟩ : ∃ d, la s (n + k) - la s k = d := ⟨_, rfl⟩
      have hdl : ln s n k = d := hd
      rw [hdl] at b3
      obtain ⟨b30, b31⟩ := b3
      have HD : Hid (ln s n k = d) := hdl
      obtain ⟨x, hx⟩ : ∃ x, la s (n + k) = x := ⟨_, rfl⟩
      obtain ⟨y, hy⟩ : ∃ y, la s k = y := ⟨_, rfl⟩
      rw [hx] at c1 b1 hd
      rw [hy] at c2 b2 hd
      obtain ⟨b10, b11⟩ := b1
      obtain ⟨b20, b21⟩ := b2
      clear hdl hx hy
      go_wp2
      have hst := HM.out.step (fun e => by have := H0.out e; subst e; rw [HD.out]; omega)
      rw [HD.out] at hst
      refine ⟨⟨k + 1, min lo d, max hi d, by omega, hst, fun e => by omega, by omega, by omega, by omega, by omega, ?_, ?_, by go_num, by trivial⟩, by simp [intOf]; omega⟩
      · congr 1; rw [Int.min_def]; by_cases e : d < lo
        · rw [if_pos e, if_neg (by omega)]
        · rw [if_neg e, if_pos (by omega)]
      · congr 1; rw [Int.max_def]; by_cases e : hi < d
        · rw [if_pos e, if_pos (by omega)]
        · rw [if_neg e]; by_cases e2 : hi ≤ d
          · rw [if_pos e2]; omega
          · rw [if_neg e2]
    · have hlt' : ¬ (k : Int) < ((s.size + 1 - n : Nat) : Int) := by omega
      obtain rfl : k = s.size + 1 - n := by omega
      go_wp2
      go_ret
      exact ⟨hi - lo, HM.out.done (by omega) (by omega), by omega, by omega, rfl, Below.refl _ _⟩
/-- The cells of the first n numbers. -/
def jCells (f : Nat → Int) : Nat → List Value
  | 0 => []
  | n + 1 => jCells f n ++ [.int .i64 (f n)]
theorem jCells_len (f : Nat → Int) (n : Nat) : (jCells f n).length = n := by
  induction n with
  | zero => rfl
  | succ n ih => simp [jCells, ih]
theorem jCells_at (f : Nat → Int) {n i : Nat} (h : i < n) : (jCells f n)[i]? = some (.int .i64 (f i)) := by
  induction n with
  | zero => omega
  | succ n ih =>
    unfold jCells
    have hl := jCells_len f n
    by_cases e : i = n
    · subst e
      rw [List.getElem?_append_right (by omega), hl]; simp
    · rw [List.getElem?_append_left (by omega)]; exact ih (by omega)
theorem ints_of_row {w : World} {base n : Nat} {v : Value} {f : Nat → Int} (h : w.ownsRow base 3 1 v n (jCells f n)) (hn : v ≠ .slice none 0 0) : ∃ g c, v = .slice (some ⟨g, 0, none⟩) n c ∧ base ≤ g ∧ n ≤ c ∧ c ≤ maxLen ∧ IntsAt w g n f := by
  rcases h.2 with ⟨h1, -⟩ | ⟨g, c, cur, rfl, hb, hh, hc1, hc2, hsz, ht⟩
  · exact absurd h1 hn
  · refine ⟨g, c, rfl, hb, hc1, hc2, (Array.getElem?_eq_some_iff.1 hh).1, fun i hi => ?_⟩
    have a1 := jCells_at f hi
    rw [← ht] at a1
    rw [List.getElem?_take_of_lt (by omega)] at a1
    simp only [World.cell?, hh]
    simpa using a1
theorem infoN : (Try.prog.info? 3).map (fun i => (i.zero, i.size, i.bytes)) = some (some (.int .i64 0), 1, 8) := by kernel_rfl
set_option maxRecDepth 100000 in
set_option maxHeartbeats 1000000 in
theorem longs_any (s : ByteArray) (w : World) (hs : s.size ≤ 1000) : Calls Try.prog 22 #[.string s] w fun e w' => ∃ g c, e = .returned (.slice (some ⟨g, 0, none⟩) (s.size + 1) c) ∧ w.heap.size ≤ g ∧ s.size + 1 ≤ c ∧ c ≤ maxLen ∧ IntsAt w' g (s.size + 1) (la s) ∧ Below w.heap.size w w' := by
  go_enter Try.func22, Try.ntmps22
  go_wp2
  have o0 : (w.alloc (.cells #[.int .i64 0] 3)).ownsRow w.heap.size 3 1 (.slice (some ⟨w.heap.size, 0, none⟩) 1 1) 1 (jCells (la s) 1) := ⟨rfl, .inr ⟨w.heap.size, 1, #[.int .i64 0], rfl, Nat.le_refl _, heap_alloc_new w _, Nat.le_refl _, by decide, rfl, rfl⟩⟩
  go_loopw [3, 4, 10] (fun l v t wr => ∃ (k : Nat), k ≤ s.size ∧ l = .int .i64 (la s k) ∧ v ≠ .slice none 0 0 ∧ wr.ownsRow w.heap.size 3 1 v (k + 1) (jCells (la s) (k + 1)) ∧ t = .int .i64 k ∧ Below w.heap.size w wr) (fun _ _ t _ => s.size - (intOf t).toNat)
  case atStart => exact ⟨0, Nat.zero_le _, rfl, (by intro h; cases h), o0, rfl, below_alloc _ _⟩
  case round =>
    obtain ⟨k, hk, rfl, hne, own, rfl, bW⟩ := hrel
    clear o0
    obtain ⟨i0, hi0, hz0, hz1, hz2⟩ := info_parts infoN
    have lw2 := bW.size
    by_cases hlt : k < s.size
    · have hlt' : (k : Int) < s.size := by omega
      have hix := sb_ix s k k rfl hlt
      have lb := la_bound s k
      obtain ⟨lb0, lb1⟩ := lb
      have HS : Hid (la s (k + 1) = la s k + (if sb s k = 76 then 1 else 0)) := rfl
      obtain ⟨x, hx⟩ : ∃ x, la s k = x := ⟨_, rfl⟩
      rw [hx] at lb0 lb1 ⊢
      obtain ⟨C, hC⟩ : ∃ C, jCells (la s) (k + 1) = C := ⟨_, rfl⟩
      have hCl : C.length = (k + 1) * 1 := by rw [← hC, jCells_len]; omega
      rw [hC] at own
      by_cases h1 : sb s k = 76
      · have h1' : (sb s k == 76) = true := by simp [h1]
        have HX : Hid (la s (k + 1) = x + 1) := by show la s (k + 1) = x + 1; rw [HS.out, hx, if_pos h1]
        have bA : Below w.heap.size w (wr.alloc (.cells #[.int .i64 (x + 1)] 3)) := bW.alloc bW.size _
        clear hx HS
        have HC : Hid (jCells (la s) (k + 1) = C) := hC
        clear hC
        go_wp2_with (at_builtin; refine wpList_append_lies _ rfl _ _ _ rfl w.heap.size 3 i0 _ 1 8 Try.underlying46 hi0 hz0 hz1 hz2 rfl (by omega) u4 (k + 1) C rfl (own.alloc _) ⟨wr.heap.size, 0, none⟩ 1 1 [.int .i64 (x + 1)] rfl rfl (World.news_of_block (cs := #[.int .i64 (x + 1)]) (t := 3) (fr := (0, 0)) (heap_alloc_new wr _)) (by simp [Value.oneCell']) (by omega) (by unfold maxLen; omega) (by omega) (by simp; omega) (wr.heap.size + 1) (by simp) ?_; intro g gcap w2 hown2 hgrow hat hlt3)
        refine ⟨⟨k + 1, by omega, by rw [HX.out], (by intro h; cases h), ?_, by go_num, below_grown9 bA hgrow (fun b hb => ownBlock_ge9 own hb) bA.size⟩, by simp [intOf]; omega⟩
        rw [jCells, HC.out, HX.out]; exact hown2
      · have h1' : (sb s k == 76) = false := by simp [h1]
        have HX : Hid (la s (k + 1) = x) := by show la s (k + 1) = x; rw [HS.out, hx, if_neg h1]; omega
        have bA : Below w.heap.size w (wr.alloc (.cells #[.int .i64 x] 3)) := bW.alloc bW.size _
        clear hx HS
        have HC : Hid (jCells (la s) (k + 1) = C) := hC
        clear hC
        go_wp2_with (at_builtin; refine wpList_append_lies _ rfl _ _ _ rfl w.heap.size 3 i0 _ 1 8 Try.underlying46 hi0 hz0 hz1 hz2 rfl (by omega) u4 (k + 1) C rfl (own.alloc _) ⟨wr.heap.size, 0, none⟩ 1 1 [.int .i64 (x)] rfl rfl (World.news_of_block (cs := #[.int .i64 (x)]) (t := 3) (fr := (0, 0)) (heap_alloc_new wr _)) (by simp [Value.oneCell']) (by omega) (by unfold maxLen; omega) (by omega) (by simp; omega) (wr.heap.size + 1) (by simp) ?_; intro g gcap w2 hown2 hgrow hat hlt3)
        refine ⟨⟨k + 1, by omega, by rw [HX.out], (by intro h; cases h), ?_, by go_num, below_grown9 bA hgrow (fun b hb => ownBlock_ge9 own hb) bA.size⟩, by simp [intOf]; omega⟩
        rw [jCells, HC.out, HX.out]; exact hown2
    · have hlt' : ¬ (k : Int) < s.size := by omega
      obtain rfl : k = s.size := by omega
      obtain ⟨g, c, rfl, h1, h2, h3, h4⟩ := ints_of_row own hne
      go_wp2
      go_ret
      exact ⟨g, c, rfl, h1, h2, h3, h4, bW⟩
/-- What is told of a row: whether it is balanced. -/
def BalT (s : ByteArray) (e : Ending) : Prop := ∃ b : Bool, (b = true ↔ ∀ n, n ≤ s.size → ¬ unev s n) ∧ e = .returned (.bool b)
theorem balT_no {s : ByteArray} {n : Nat} (h : n ≤ s.size) (hu : unev s n) : BalT s (.returned (.bool false)) := ⟨false, ⟨fun e => (Bool.noConfusion e : ∀ n, n ≤ s.size → ¬ unev s n), fun k => absurd hu (k n h)⟩, rfl⟩
theorem balT_yes {s : ByteArray} (h : ∀ n, n ≤ s.size → ¬ unev s n) : BalT s (.returned (.bool true)) := ⟨true, ⟨fun _ => h, fun _ => rfl⟩, rfl⟩
theorem unev_0 (s : ByteArray) : ¬ unev s 0 := by
  rintro ⟨i, j, -, -, h⟩
  have h1 := ln_bound s 0 i
  have h2 := ln_bound s 0 j
  omega
set_option maxRecDepth 100000 in
set_option maxHeartbeats 1000000 in
theorem implBal_yes (s : ByteArray) (w : World) (h : rowOk s 1000 = true) : Calls Try.prog 9 #[.string s] w fun e w' => BalT s e ∧ Below w.heap.size w w' := by
  obtain ⟨hs, -⟩ := rowOk_iff.1 h
  have hs' : s.size ≤ 1000 := by omega
  go_enter Try.func9, Try.ntmps9
  go_wp2_with (first | (go_at_call 18; refine (isRow_any _ _ _ (by decide)).mono ?_; rintro e w2 ⟨rfl, rfl⟩; rw [h]) | (go_at_call 22; refine (longs_any _ _ hs').mono ?_; rintro e w2 ⟨g, c, rfl, g0, c0, c1, ha, b2⟩))
  go_loopw [12] (fun t wr => ∃ (k : Nat), k ≤ s.size + 1 ∧ t = .int .i64 k ∧ IntsAt wr g (s.size + 1) (la s) ∧ Below w.heap.size w wr ∧ ∀ n, n < k → ¬ unev s n) (fun t _ => s.size + 1 - (intOf t).toNat)
  case atStart => exact ⟨0, Nat.zero_le _, rfl, ha, b2, fun n hn => by omega⟩
  case round =>
    clear ha b2
    obtain ⟨k, hk, rfl, ha, bW, hall⟩ := hrel
    have HA : Hid (∀ n, n < k → ¬ unev s n) := hall
    clear hall
    by_cases hlt : k < s.size + 1
    · have hlt' : (k : Int) < ((s.size + 1 : Nat) : Int) := by omega
      have hlt2 : (k : Int) < (s.size : Int) + 1 := by omega
      by_cases hu : unev s k
      · have HU : Hid (unev s k) := hu
        clear hu
        go_wp2_with (go_at_call 23; refine (uneven_any s g c k _ hs' (by omega) c0 c1 ha).mono ?_; rintro e w3 ⟨m, hm, m0, m1, rfl, b3⟩; replace hm := hm.2 HU.out)
        go_ret
        exact ⟨balT_no (by omega) HU.out, bW.trans (b3.mono bW.size)⟩
      · have HU : Hid (¬ unev s k) := hu
        clear hu
        go_wp2_with (go_at_call 23; refine (uneven_any s g c k _ hs' (by omega) c0 c1 ha).mono ?_; rintro e w3 ⟨m, hm, m0, m1, rfl, b3⟩; replace hm := fun h => HU.out (hm.1 h); have hm' := decide_eq_false hm)
        refine ⟨⟨k + 1, by omega, by go_num, ha.below b3, bW.trans (b3.mono bW.size), fun n hn => ?_⟩, by simp [intOf]; omega⟩
        by_cases e : n = k
        · rw [e]; exact HU.out
        · exact HA.out n (by omega)
    · have hlt' : ¬ (k : Int) < ((s.size + 1 : Nat) : Int) := by omega
      have hlt2 : ¬ (k : Int) < (s.size : Int) + 1 := by omega
      go_wp2
      go_ret
      exact ⟨balT_yes fun n hn => HA.out n (by omega), bW⟩
theorem implBal_no (s : ByteArray) (w : World) (h : rowOk s 1000 = false) : Calls Try.prog 9 #[.string s] w fun e w' => e = .returned (.bool false) ∧ Below w.heap.size w w' := by
  go_enter Try.func9, Try.ntmps9
  go_wp2_with (go_at_call 18; refine (isRow_any _ _ _ (by decide)).mono ?_; rintro e w2 ⟨rfl, rfl⟩; rw [h])
  go_ret
  exact ⟨rfl, Below.refl _ _⟩
end Go.Proofs.Ytnkmiljnilmicaa
