/-
  Bases compared by the specification, walked; which is best: mathematics.
-/
import Derived.Test.YtjlmiadmobbibaaCa9
import Derived.Test.YtjlmiadmobbibaaBn
namespace Go.Proofs.Ytjlmiadmobbibaa
open Go.RowKit

theorem sm_pos {g : Nat → Nat} {k : Nat} : 0 < sm g k ↔ ∃ i, i < k ∧ 0 < g i := by
  induction k with
  | zero => simp [sm]
  | succ k ih =>
    rw [sm]
    constructor
    · intro h
      by_cases h1 : 0 < sm g k
      · obtain ⟨i, hi, hg⟩ := ih.1 h1
        exact ⟨i, by omega, hg⟩
      · exact ⟨k, by omega, by omega⟩
    · rintro ⟨i, hi, hg⟩
      by_cases e : i = k
      · subst e; omega
      · have := ih.2 ⟨i, by omega, hg⟩; omega
/-- A leap between two of the spots. -/
def LP (n : Nat) (f : Nat → Int) (p : Int × Int) : Prop := p ≠ (0, 0) ∧ ∃ i, i < n ∧ ∃ k, k < n ∧ lpp f i k = p
theorem lp_mem {n : Nat} {f : Nat → Int} {p : Int × Int} (hp : p ≠ (0, 0)) : p ∈ lpR f n n ↔ LP n f p := by
  rw [mem_lpR n f hp, cN, sm_pos]
  constructor
  · rintro ⟨i, hi, h⟩
    obtain ⟨k, hk, h2⟩ := sm_pos.1 h
    refine ⟨hp, i, hi, k, hk, ?_⟩
    unfold ind at h2
    by_cases e : lpp f i k = p
    · exact e
    · rw [if_neg e] at h2; omega
  · rintro ⟨-, i, hi, k, hk, e⟩
    exact ⟨i, hi, sm_pos.2 ⟨k, hk, by unfold ind; rw [if_pos e]; omega⟩⟩
theorem BsOk.ne {a b c d : Int} (h : BsOk a b c d) : (a, b) ≠ (0, 0) ∧ (c, d) ≠ (0, 0) := by
  have hp := h.2.2.2.2
  constructor
  · intro e
    injection e with e1 e2
    subst e1 e2
    simp at hp
  · intro e
    injection e with e1 e2
    subst e1 e2
    simp at hp
/-- The candidates. -/
def Cs (n : Nat) (f : Nat → Int) (x : Cd) : Prop := LP n f (x.a, x.b) ∧ LP n f (x.c, x.d) ∧ BsOk x.a x.b x.c x.d ∧ x.m = (ixc f x.a x.b x.c x.d n : Int)
theorem clt_tri {x y : Cd} (h : ¬ clt x y) (h' : ¬ clt y x) : x = y := by
  obtain ⟨xa, xb, xc, xd, xm⟩ := x
  obtain ⟨ya, yb, yc, yd, ym⟩ := y
  unfold clt at h h'
  simp only at h h'
  have : xa = ya ∧ xb = yb ∧ xc = yc ∧ xd = yd ∧ xm = ym := by omega
  obtain ⟨rfl, rfl, rfl, rfl, rfl⟩ := this
  rfl
/-- What FindBasis tells. -/
def FbT (n : Nat) (f : Nat → Int) (r : Cd) : Prop := (¬ SpOk n f ∧ r = ⟨0, 0, 0, 0, 0⟩) ∨ (SpOk n f ∧ (((∀ x, ¬ Cs n f x) ∧ r = ⟨0, 0, 0, 0, 0⟩) ∨ (Cs n f r ∧ ∀ x, Cs n f x → ¬ clt x r)))
theorem FbT.same {n : Nat} {f : Nat → Int} {r r' : Cd} (h : FbT n f r) (h' : FbT n f r') : r = r' := by
  rcases h with ⟨h1, rfl⟩ | ⟨h1, h2⟩
  · rcases h' with ⟨h3, rfl⟩ | ⟨h3, -⟩
    · rfl
    · exact absurd h3 h1
  · rcases h' with ⟨h3, -⟩ | ⟨h3, h4⟩
    · exact absurd h1 h3
    · rcases h2 with ⟨h5, rfl⟩ | ⟨h5, h6⟩
      · rcases h4 with ⟨h7, rfl⟩ | ⟨h7, -⟩
        · rfl
        · exact absurd h7 (h5 _)
      · rcases h4 with ⟨h7, -⟩ | ⟨h7, h8⟩
        · exact absurd h5 (h7 _)
        · exact clt_tri (h8 _ h5) (h6 _ h7)
theorem ixc_pos {f : Nat → Int} {a b c d : Int} {n : Nat} (hn : 0 < n) : 0 < ixc f a b c d n := by
  obtain ⟨k, rfl⟩ : ∃ k, n = k + 1 := ⟨n - 1, by omega⟩
  clear hn
  induction k with
  | zero =>
    have : Rc a b c d (f (0 * 3) - f 0) (f (0 * 3 + 1) - f 1) := by simp [Rc]
    rw [ixc_yes rfl this]; omega
  | succ k ih =>
    by_cases h : Rc a b c d (f ((k + 1) * 3) - f 0) (f ((k + 1) * 3 + 1) - f 1)
    · rw [ixc_yes rfl h]; omega
    · rw [ixc_no rfl h]; exact ih
/-- One list of numbers comes before the other. -/
def Lx (f h : Nat → Int) (n : Nat) : Prop := ∃ k, k < n ∧ (∀ i, i < k → f i = h i) ∧ f k < h k
set_option maxHeartbeats 4000000 in
theorem l3Compare_any {w : World} {g1 g2 n c1 c2 : Nat} {f h : Nat → Int} (h1 : Ints w g1 0 n f) (h2 : Ints w g2 0 n h) (l1 : g1 < w.heap.size) (l2 : g2 < w.heap.size) (hn : n ≤ 1000) :
    Calls Try.prog 51 #[.slice (some ⟨g1, 0, none⟩) n c1, .slice (some ⟨g2, 0, none⟩) n c2] w fun e w' => ∃ r : Int, e = .returned (.int .i64 r) ∧ (r < 0 ↔ Lx f h n) ∧ Below w.heap.size w w' := by
  have hn' : (n : Int) ≤ 1000 := by omega
  go_enter Try.func51, Try.ntmps51
  go_wp2
  go_loopw [5] (fun s wr => ∃ k : Nat, k ≤ n ∧ s = .int .i64 k ∧ (∀ i, i < k → f i = h i) ∧ Below w.heap.size w wr) (fun s _ => n - (intOf s).toNat)
  case atStart => exact ⟨0, Nat.zero_le _, rfl, fun i hi => by omega, Below.refl _ _⟩
  case round =>
    obtain ⟨k, hk, rfl, hEq, bW⟩ := hrel
    by_cases hlt : k < n
    · have hlt' : (k : Int) < (n : Int) := by omega
      have hk0 : (0 : Int) ≤ (k : Int) := by omega
      have a0 := (bW.cell (p := ⟨g1, 0 + k, none⟩) l1).trans (h1 k hlt)
      have a2 := (bW.cell (p := ⟨g2, 0 + k, none⟩) l2).trans (h2 k hlt)
      rw [Nat.zero_add] at a0 a2
      have HY : f k < h k → Lx f h n := fun hh => ⟨k, hlt, hEq, hh⟩
      have HN : h k < f k → ¬ Lx f h n := fun hh ⟨j, hj, hje, hjl⟩ => by
        rcases Nat.lt_trichotomy j k with e | e | e
        · have := hEq j e; omega
        · subst e; omega
        · have := hje k e; omega
      have HE : f k = h k → ∀ i, i < k + 1 → f i = h i := fun hh i hi => by
        by_cases e : i = k
        · subst e; exact hh
        · exact hEq i (by omega)
      obtain ⟨X, hX⟩ : ∃ X, f k = X := ⟨_, rfl⟩
      obtain ⟨Y, hY⟩ : ∃ Y, h k = Y := ⟨_, rfl⟩
      rw [hX] at a0 HY HN HE
      rw [hY] at a2 HY HN HE
      clear hX hY hEq
      rcases (by omega : X < Y ∨ (¬ X < Y ∧ Y < X) ∨ (¬ X < Y ∧ ¬ Y < X ∧ X = Y)) with h3 | ⟨h3, h4⟩ | ⟨h3, h4, rfl⟩
      · have HZ : Hid (Lx f h n) := HY h3
        clear HY HN HE
        go_upto_region 4 with (fail)
        go_region
        go_wp2
        go_ret
        exact ⟨_, rfl, ⟨fun _ => HZ.out, fun _ => by omega⟩, bW.drew⟩
      · have HZ : Hid (¬ Lx f h n) := HN h4
        clear HY HN HE
        go_upto_region 4 with (fail)
        go_region
        go_upto_region 6 with (fail)
        go_region
        go_wp2
        go_ret
        exact ⟨_, rfl, ⟨fun hh => by omega, fun hh => absurd hh HZ.out⟩, bW.drew.drew⟩
      · have HZ : Hid (∀ i, i < k + 1 → f i = h i) := HE rfl
        clear HY HN HE
        go_upto_region 4 with (fail)
        go_region
        go_upto_region 6 with (fail)
        go_region
        go_wp2
        exact ⟨⟨k + 1, by omega, by go_num, HZ.out, bW.drew.drew⟩, by simp [intOf]; omega⟩
    · have hlt' : ¬ (k : Int) < (n : Int) := by omega
      obtain rfl : k = n := by omega
      have HZ : Hid (¬ Lx f h k) := Hid.out fun ⟨j, hj, hje, hjl⟩ => by have := hEq j hj; omega
      clear hEq
      go_wp2
      go_ret
      exact ⟨_, rfl, ⟨fun hh => by omega, fun hh => absurd hh HZ.out⟩, bW⟩
def f4 (a b c d : Int) (i : Nat) : Int := match i with | 0 => a | 1 => b | 2 => c | _ => d
theorem lx4 (a b c d a' b' c' d' : Int) : Lx (f4 a b c d) (f4 a' b' c' d') 4 ↔ (a < a' ∨ (a = a' ∧ (b < b' ∨ (b = b' ∧ (c < c' ∨ (c = c' ∧ d < d')))))) := by
  constructor
  · rintro ⟨k, hk, h1, h2⟩
    rcases (by omega : k = 0 ∨ k = 1 ∨ k = 2 ∨ k = 3) with rfl | rfl | rfl | rfl
    · exact .inl h2
    · exact .inr ⟨h1 0 (by omega), .inl h2⟩
    · exact .inr ⟨h1 0 (by omega), .inr ⟨h1 1 (by omega), .inl h2⟩⟩
    · exact .inr ⟨h1 0 (by omega), .inr ⟨h1 1 (by omega), .inr ⟨h1 2 (by omega), h2⟩⟩⟩
  · intro h
    by_cases e1 : a = a'
    · by_cases e2 : b = b'
      · by_cases e3 : c = c'
        · refine ⟨3, by omega, fun i hi => ?_, show d < d' by omega⟩
          rcases (by omega : i = 0 ∨ i = 1 ∨ i = 2) with rfl | rfl | rfl
          · exact e1
          · exact e2
          · exact e3
        · refine ⟨2, by omega, fun i hi => ?_, show c < c' by omega⟩
          rcases (by omega : i = 0 ∨ i = 1) with rfl | rfl
          · exact e1
          · exact e2
      · refine ⟨1, by omega, fun i hi => ?_, show b < b' by omega⟩
        obtain rfl : i = 0 := by omega
        exact e1
    · exact ⟨0, by omega, fun i hi => by omega, show a < a' by omega⟩
set_option maxRecDepth 100000 in
set_option maxHeartbeats 4000000 in
theorem better_any {a b c d a' b' c' d' n m : Int} (ha : Wi a) (hb : Wi b) (hc : Wi c) (hd : Wi d) (ha' : Wi a') (hb' : Wi b') (hc' : Wi c') (hd' : Wi d') (w : World) :
    Calls Try.prog 28 #[bV a b c d, .int .i64 n, bV a' b' c' d', .int .i64 m] w fun e w' => e = .returned (.bool (pd (clt ⟨a, b, c, d, n⟩ ⟨a', b', c', d', m⟩))) ∧ Below w.heap.size w w' := by
  obtain ⟨D, hD⟩ : ∃ D, pd (clt ⟨a, b, c, d, n⟩ ⟨a', b', c', d', m⟩) = D := ⟨_, rfl⟩
  rw [hD]
  have H0 : ¬ clt ⟨a, b, c, d, n⟩ ⟨a', b', c', d', m⟩ → D = false := fun h => hD ▸ pd_no h
  have H1 : clt ⟨a, b, c, d, n⟩ ⟨a', b', c', d', m⟩ → D = true := fun h => hD ▸ pd_yes h
  have hL := lx4 a b c d a' b' c' d'
  unfold clt cwar at H0 H1
  simp only [war_in ha hb hc hd, war_in ha' hb' hc' hd'] at H0 H1
  rw [← hL] at H0 H1
  clear hD hL
  obtain ⟨W, hW, b0, b1, bW, -⟩ := boxed2 w 27 27 #[.int .i64 a, .int .i64 b, .int .i64 c, .int .i64 d] #[.int .i64 a', .int .i64 b', .int .i64 c', .int .i64 d']
  go_enter Try.func28, Try.ntmps28
  by_cases e1 : n = m
  case neg =>
    have e1' : (n != m) = true := by simp [e1]
    by_cases e2 : m < n
    · obtain rfl : D = true := H1 (.inl e2)
      clear H0 H1
      go_wp2
      go_ret
      exact ⟨by simp, bW⟩
    · obtain rfl : D = false := H0 (by omega)
      clear H0 H1
      go_wp2
      go_ret
      exact ⟨by simp, bW⟩
  subst e1
  obtain ⟨c0, c1, c2, c3, -⟩ := b0.open4
  obtain ⟨d0, d1, d2, d3, -⟩ := b1.open4
  go_wp2_with fail
  refine (det_any ha hb hc hd _).mono ?_
  rintro e w2 ⟨rfl, bb⟩
  replace b0 := b0.below bb
  replace b1 := b1.below bb
  replace bW := bW.trans (bb.mono bW.size)
  clear bb c0 c1 c2 c3 d0 d1 d2 d3 hW
  obtain ⟨d0, d1, d2, d3, -⟩ := b1.open4
  go_wp2_with fail
  refine (det_any ha' hb' hc' hd' _).mono ?_
  rintro e w3 ⟨rfl, bb⟩
  replace b0 := b0.below bb
  replace b1 := b1.below bb
  replace bW := bW.trans (bb.mono bW.size)
  clear bb d0 d1 d2 d3
  obtain ⟨P, hP⟩ : ∃ P, a * d - b * c = P := ⟨_, rfl⟩
  obtain ⟨Q, hQ⟩ : ∃ Q, a' * d' - b' * c' = Q := ⟨_, rfl⟩
  rw [hP, hQ] at H0 H1
  rw [hP, hQ]
  clear hP hQ
  by_cases e2 : P = Q
  case neg =>
    have e2' : (P != Q) = true := by simp [e2]
    by_cases e3 : Q < P
    · obtain rfl : D = true := H1 (.inr ⟨trivial, .inl e3⟩)
      clear H0 H1
      go_wp2
      go_ret
      exact ⟨by simp, bW⟩
    · obtain rfl : D = false := H0 (by intro h; omega)
      clear H0 H1
      go_wp2
      go_ret
      exact ⟨by simp; omega, bW⟩
  subst e2
  replace H0 : ¬ Lx (f4 a b c d) (f4 a' b' c' d') 4 → D = false := fun h => H0 (fun hh => by rcases hh with hh | ⟨-, hh | ⟨-, hh⟩⟩; omega; omega; exact h hh)
  replace H1 : Lx (f4 a b c d) (f4 a' b' c' d') 4 → D = true := fun h => H1 (.inr ⟨trivial, .inr ⟨rfl, h⟩⟩)
  obtain ⟨c0, c1, c2, c3, -⟩ := b0.open4
  obtain ⟨W4, hW4, a4, bb4, -⟩ := boxed w3 2 #[.int .i64 a, .int .i64 b, .int .i64 c, .int .i64 d]
  obtain ⟨W5, hW5, a5, bb5, -⟩ := boxed W4 2 #[.int .i64 a', .int .i64 b', .int .i64 c', .int .i64 d']
  obtain ⟨d0, d1, d2, d3, -⟩ := (b1.below bb4).open4
  have bW5 := (bW.trans (bb4.mono bW.size)).trans (bb5.mono (Nat.le_trans bW.size bb4.size))
  have a45 := a4.below bb5
  have I1 : Ints W5 w3.heap.size 0 4 (f4 a b c d) := fun i hi => by
    rcases (by omega : i = 0 ∨ i = 1 ∨ i = 2 ∨ i = 3) with rfl | rfl | rfl | rfl
    · exact a45.cell 0 rfl
    · exact a45.cell 1 rfl
    · exact a45.cell 2 rfl
    · exact a45.cell 3 rfl
  have I2 : Ints W5 W4.heap.size 0 4 (f4 a' b' c' d') := fun i hi => by
    rcases (by omega : i = 0 ∨ i = 1 ∨ i = 2 ∨ i = 3) with rfl | rfl | rfl | rfl
    · exact a5.cell 0 rfl
    · exact a5.cell 1 rfl
    · exact a5.cell 2 rfl
    · exact a5.cell 3 rfl
  have l1 := a45.lt
  have l2 := a5.lt
  have hb4 : ∀ w, (Instr.buildSlice 86 4 #[(0, .int .i64 a), (1, .int .i64 b), (2, .int .i64 c), (3, .int .i64 d)]).run Try.prog w = .ok (.slice (some ⟨w.heap.size, 0, none⟩) 4 4) (w.alloc (.cells #[.int .i64 a, .int .i64 b, .int .i64 c, .int .i64 d] 2)) := fun _ => by kernel_rfl
  have hb5 : ∀ w, (Instr.buildSlice 86 4 #[(0, .int .i64 a'), (1, .int .i64 b'), (2, .int .i64 c'), (3, .int .i64 d')]).run Try.prog w = .ok (.slice (some ⟨w.heap.size, 0, none⟩) 4 4) (w.alloc (.cells #[.int .i64 a', .int .i64 b', .int .i64 c', .int .i64 d'] 2)) := fun _ => by kernel_rfl
  clear bb4 bb5 a4 a5 a45
  go_wp2_with fail
  refine (l3Compare_any I1 I2 l1 l2 (by omega)).mono ?_
  rintro e w6 ⟨r, rfl, hr, bb⟩
  have bW6 := bW5.trans (bb.mono bW5.size)
  clear bb I1 I2 hW4 hW5 c0 c1 c2 c3 d0 d1 d2 d3 hb4 hb5 l1 l2 bW5 bW
  by_cases h : r < 0
  · obtain rfl : D = true := H1 (hr.1 h)
    clear H0 H1 hr
    go_wp2
    go_ret
    exact ⟨by simp, bW6⟩
  · obtain rfl : D = false := H0 fun hh => h (hr.2 hh)
    clear H0 H1 hr
    go_wp2
    go_ret
    exact ⟨by simp; omega, bW6⟩
end Go.Proofs.Ytjlmiadmobbibaa
