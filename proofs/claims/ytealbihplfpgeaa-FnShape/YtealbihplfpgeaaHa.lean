/-
  Normals and lines: determinants, and what signs they have. Mathematics alone: no function of the program.
-/
import Derived.Test.YtealbihplfpgeaaFd
namespace Go.Proofs.Ytealbihplfpgeaa
open Go.RowKit

/-- The determinant of three facets. -/
def Dt (f : Nat → Int) (a b c : Nat) : Int := f (a * 3 + 2) * Lf f b c - f (b * 3 + 2) * Lf f a c + f (c * 3 + 2) * Lf f a b
theorem L_swap (f : Nat → Int) (a b : Nat) : Lf f a b = -Lf f b a := by unfold Lf cr; grind
theorem L_self (f : Nat → Int) (a : Nat) : Lf f a a = 0 := by unfold Lf cr; grind
theorem E_cyc (f : Nat → Int) (a b c : Nat) : Dt f b c a = Dt f a b c := by unfold Dt Lf cr; grind
theorem E_swap (f : Nat → Int) (a b c : Nat) : Dt f a c b = -Dt f a b c := by unfold Dt Lf cr; grind
theorem E_self (f : Nat → Int) (a b : Nat) : Dt f a b a = 0 := by unfold Dt Lf cr; grind
theorem E_self2 (f : Nat → Int) (a b : Nat) : Dt f a b b = 0 := by unfold Dt Lf cr; grind
theorem P1 (f : Nat → Int) (a b c d : Nat) : Lf f a b * Lf f c d = Lf f a c * Lf f b d - Lf f a d * Lf f b c := by unfold Lf cr; grind
theorem P3 (f : Nat → Int) (a b i k j : Nat) : Dt f a b j * Lf f i k = Lf f j k * Dt f a b i + Lf f i j * Dt f a b k + Dt f i k j * Lf f a b := by unfold Dt Lf cr; grind
theorem P4 (f : Nat → Int) (k a b i : Nat) : Dt f k a b * Lf f k i = Dt f k a i * Lf f k b - Lf f k a * Dt f k b i := by unfold Dt Lf cr; grind
theorem mul_pp {a b : Int} (ha : 0 < a) (hb : 0 < b) : 0 < a * b := Int.mul_pos ha hb
theorem mul_nn {a b : Int} (ha : 0 ≤ a) (hb : 0 ≤ b) : 0 ≤ a * b := Int.mul_nonneg ha hb
theorem mul_zn {a b : Int} (ha : a ≤ 0) (hb : 0 ≤ b) : a * b ≤ 0 := by
  have := Int.mul_nonneg (a := -a) (b := b) (by omega) hb
  rw [Int.neg_mul] at this
  omega
theorem mul_nz {a b : Int} (ha : 0 ≤ a) (hb : b ≤ 0) : a * b ≤ 0 := by rw [Int.mul_comm]; exact mul_zn hb ha
theorem mul_pm {a b : Int} (ha : 0 < a) (hb : b < 0) : a * b < 0 := by
  have := Int.mul_pos (a := a) (b := -b) ha (by omega)
  rw [Int.mul_neg] at this
  omega
theorem mul_mp {a b : Int} (ha : a < 0) (hb : 0 < b) : a * b < 0 := by rw [Int.mul_comm]; exact mul_pm hb ha
theorem mul_mm {a b : Int} (ha : a < 0) (hb : b < 0) : 0 < a * b := by
  have := Int.mul_pos (a := -a) (b := -b) (by omega) (by omega)
  rw [Int.neg_mul_neg] at this
  exact this
theorem pos_left {a b : Int} (h : 0 < a * b) (hb : 0 < b) : 0 < a := by
  refine Int.not_le.1 fun ha => ?_
  have := mul_zn ha (Int.le_of_lt hb)
  omega
theorem nn_left {a b : Int} (h : 0 ≤ a * b) (hb : 0 < b) : 0 ≤ a := by
  refine Int.not_lt.1 fun ha => ?_
  have := mul_mp ha hb
  omega
theorem np_left {a b : Int} (h : a * b ≤ 0) (hb : 0 < b) : a ≤ 0 := by
  refine Int.not_lt.1 fun ha => ?_
  have := mul_pp ha hb
  omega
theorem z_left {a b : Int} (h : a * b = 0) (hb : 0 < b) : a = 0 := by
  have h1 := nn_left (a := a) (b := b) (by omega) hb
  have h2 := np_left (a := a) (b := b) (by omega) hb
  omega
theorem pos_neg {a b : Int} (h : a * b < 0) (hb : b < 0) : 0 < a := by
  refine Int.not_le.1 fun ha => ?_
  have := mul_nn (a := -a) (b := -b) (by omega) (by omega)
  rw [Int.neg_mul_neg] at this
  omega
/-- Of a finite number one is the best, if 'as good as' is total and handed on. -/
theorem best {P : Nat → Prop} {R : Nat → Nat → Prop} (tot : ∀ a b, P a → P b → R a b ∨ R b a) (tr : ∀ a b c, P a → P b → P c → R a b → R b c → R a c) : ∀ n, (∃ k, k < n ∧ P k) → ∃ k, k < n ∧ P k ∧ ∀ m, m < n → P m → R k m := by
  intro n
  induction n with
  | zero => rintro ⟨k, hk, _⟩; omega
  | succ n ih =>
    intro h
    by_cases hn : P n
    · by_cases he : ∃ k, k < n ∧ P k
      · obtain ⟨k, hk, pk, hb⟩ := ih he
        rcases tot k n pk hn with r | r
        · refine ⟨k, by omega, pk, fun m hm pm => ?_⟩
          by_cases e : m = n
          · rw [e]; exact r
          · exact hb m (by omega) pm
        · refine ⟨n, by omega, hn, fun m hm pm => ?_⟩
          by_cases e : m = n
          · rw [e]; exact (tot n n hn hn).elim id id
          · exact tr n k m hn pk pm r (hb m (by omega) pm)
      · refine ⟨n, by omega, hn, fun m hm pm => ?_⟩
        by_cases e : m = n
        · rw [e]; exact (tot n n hn hn).elim id id
        · exact absurd ⟨m, by omega, pm⟩ he
    · obtain ⟨k, hk, pk⟩ := h
      have hk' : k < n := by
        by_cases e : k = n
        · rw [e] at pk; exact absurd pk hn
        · omega
      obtain ⟨k, hk, pk, hb⟩ := ih ⟨k, hk', pk⟩
      refine ⟨k, by omega, pk, fun m hm pm => ?_⟩
      by_cases e : m = n
      · rw [e] at pm; exact absurd pm hn
      · exact hb m (by omega) pm
theorem par {x y u v : Int} (h1 : Int.gcd x y = 1) (h2 : Int.gcd u v = 1) (h : x * v = y * u) : (u = x ∧ v = y) ∨ (u = -x ∧ v = -y) := by
  have hn : x.natAbs * v.natAbs = y.natAbs * u.natAbs := by rw [← Int.natAbs_mul, ← Int.natAbs_mul, h]
  have c1 : Nat.Coprime x.natAbs y.natAbs := h1
  have c2 : Nat.Coprime u.natAbs v.natAbs := h2
  have d1 : x.natAbs ∣ u.natAbs := c1.dvd_of_dvd_mul_left (by rw [← hn]; exact Nat.dvd_mul_right _ _)
  have d2 : u.natAbs ∣ x.natAbs := c2.dvd_of_dvd_mul_right (by rw [hn]; exact Nat.dvd_mul_left _ _)
  have d3 : y.natAbs ∣ v.natAbs := c1.symm.dvd_of_dvd_mul_left (by rw [hn]; exact Nat.dvd_mul_right _ _)
  have d4 : v.natAbs ∣ y.natAbs := c2.symm.dvd_of_dvd_mul_right (by rw [← hn]; exact Nat.dvd_mul_left _ _)
  have e1 := Nat.dvd_antisymm d2 d1
  have e2 := Nat.dvd_antisymm d4 d3
  rcases Int.natAbs_eq_natAbs_iff.1 e1 with a | a <;> rcases Int.natAbs_eq_natAbs_iff.1 e2 with b | b
  · exact .inl ⟨a, b⟩
  · rw [a, b] at h
    have : x * y = 0 := by rw [Int.mul_neg, Int.mul_comm y x] at h; omega
    rcases Int.mul_eq_zero.1 this with z | z
    · exact .inr ⟨by omega, b⟩
    · exact .inl ⟨a, by omega⟩
  · rw [a, b] at h
    have : x * y = 0 := by rw [Int.mul_neg, Int.mul_comm y x] at h; omega
    rcases Int.mul_eq_zero.1 this with z | z
    · exact .inl ⟨by omega, b⟩
    · exact .inr ⟨a, by omega⟩
  · exact .inr ⟨a, b⟩
section Shape
variable {n : Nat} {f : Nat → Int}
theorem SOk.g (S : SOk n f) {i : Nat} (hi : i < n) : 0 < f (i * 3 + 2) := by have := (Rt.in (S.right i hi)).2.2.2; omega
/-- Facets whose normals lie on one line: one and the same, or opposite. -/
theorem SOk.line (S : SOk n f) {i m : Nat} (hi : i < n) (hm : m < n) (h : Lf f i m = 0) : m = i ∨ (f (m * 3) = -f (i * 3) ∧ f (m * 3 + 1) = -f (i * 3 + 1)) := by
  have ri := Rt.in (S.right i hi)
  have rm := Rt.in (S.right m hm)
  unfold Lf cr at h
  rcases par ri.2.2.1 rm.2.2.1 (by omega) with ⟨a, b⟩ | ⟨a, b⟩
  · left
    rcases Nat.lt_trichotomy m i with c | c | c
    · exact absurd ⟨a.symm, b.symm⟩ (S.apart i hi m c)
    · exact c
    · exact absurd ⟨a, b⟩ (S.apart m hm i c)
  · exact .inr ⟨a, b⟩
theorem opp_L {i m : Nat} (h1 : f (m * 3) = -f (i * 3)) (h2 : f (m * 3 + 1) = -f (i * 3 + 1)) (k : Nat) : Lf f k m = Lf f i k := by
  unfold Lf cr; rw [h1, h2]; grind
theorem opp_R {i m : Nat} (h1 : f (m * 3) = -f (i * 3)) (h2 : f (m * 3 + 1) = -f (i * 3 + 1)) (k : Nat) : Lf f m k = -Lf f i k := by
  unfold Lf cr; rw [h1, h2]; grind
/-- To the left of facet i: handed on. -/
theorem half_tr {i a b c : Nat} (pa : 0 < Lf f i a) (pb : 0 < Lf f i b) (pc : 0 < Lf f i c) (h1 : Lf f a b ≤ 0) (h2 : Lf f b c ≤ 0) : Lf f a c ≤ 0 := by
  have p := P1 f i b a c
  have s := L_swap f b a
  have m1 := mul_nz (Int.le_of_lt pa) h2
  have m2 := mul_nz (Int.le_of_lt pc) h1
  rw [s, Int.mul_neg] at p
  refine np_left (b := Lf f i b) ?_ pb
  rw [Int.mul_comm]
  omega
theorem SOk.rightN (S : SOk n f) {i : Nat} (hi : i < n) : ∃ k, k < n ∧ Lf f i k < 0 := by
  refine Classical.byContradiction fun hno => ?_
  have all : ∀ k, k < n → 0 ≤ Lf f i k := fun k hk => Int.not_lt.1 fun h => hno ⟨k, hk, h⟩
  obtain ⟨k, hk, pk, hb⟩ := best (P := fun k => 0 < Lf f i k) (R := fun a b => Lf f a b ≤ 0) (fun a b _ _ => by have := L_swap f a b; omega) (fun a b c pa pb pc r1 r2 => half_tr pa pb pc r1 r2) n (S.left i hi)
  obtain ⟨m, hm, pm⟩ := S.left k hk
  rcases Int.lt_or_eq_of_le (all m hm) with h | h
  · have := hb m hm h
    omega
  · rcases S.line hi hm h.symm with rfl | ⟨h1, h2⟩
    · have := L_swap f k m
      omega
    · obtain ⟨p, hp, pp⟩ := S.left m hm
      rw [opp_R h1 h2] at pp
      have := all p hp
      omega
/-- Facet i shows. -/
def Sh (f : Nat → Int) (n i : Nat) : Prop := ∀ k m, k < n → m < n → 0 < Lf f i k → Lf f i m < 0 → 0 < Dt f i k m
/-- Where the lines of i and k meet is a point of all facets. -/
def Vx (f : Nat → Int) (n i k : Nat) : Prop := 0 < Lf f i k ∧ ∀ m, m < n → 0 ≤ Dt f i k m
/-- Facet k ends i's stretch on the left. -/
def Nx (f : Nat → Int) (n i k : Nat) : Prop := 0 < Lf f i k ∧ ∀ m, m < n → 0 < Lf f i m → 0 < Dt f i k m ∨ (Dt f i k m = 0 ∧ Lf f k m ≤ 0)
theorem SOk.next (S : SOk n f) {i : Nat} (hi : i < n) : ∃ k, k < n ∧ Nx f n i k := by
  obtain ⟨k, hk, pk, hb⟩ := best (P := fun k => 0 < Lf f i k) (R := fun k m => 0 < Dt f i k m ∨ (Dt f i k m = 0 ∧ Lf f k m ≤ 0))
    (fun a b _ _ => by have := L_swap f a b; have := E_swap f i a b; omega)
    (fun a b c pa pb pc r1 r2 => by
      have p := P4 f i a c b
      have s := E_swap f i b c
      rw [s, Int.mul_neg] at p
      have q1 : 0 ≤ Dt f i a b := by omega
      have q2 : 0 ≤ Dt f i b c := by omega
      have m1 := mul_nn q1 (Int.le_of_lt pc)
      have m2 := mul_nn (Int.le_of_lt pa) q2
      rcases r1 with r1 | ⟨r1, l1⟩
      · have := mul_pp r1 pc
        exact .inl (pos_left (b := Lf f i b) (by omega) pb)
      · rcases r2 with r2 | ⟨r2, l2⟩
        · have := mul_pp pa r2
          exact .inl (pos_left (b := Lf f i b) (by omega) pb)
        · refine .inr ⟨z_left (b := Lf f i b) ?_ pb, half_tr pa pb pc l1 l2⟩
          rw [p, r1, r2]; simp) n (S.left i hi)
  exact ⟨k, hk, pk, hb⟩
theorem SOk.vx (S : SOk n f) {i k : Nat} (hi : i < n) (sh : Sh f n i) (hk : k < n) (nx : Nx f n i k) : Vx f n i k := by
  refine ⟨nx.1, fun m hm => ?_⟩
  rcases Int.lt_trichotomy (Lf f i m) 0 with h | h | h
  · have := sh k m hk hm nx.1 h
    omega
  · rcases S.line hi hm h with rfl | ⟨h1, h2⟩
    · rw [E_self]; exact Int.le_refl _
    · have e1 := opp_L h1 h2 k
      unfold Dt
      rw [e1, h]
      have m1 := mul_pp (S.g hi) nx.1
      have m2 := mul_pp (S.g hm) nx.1
      omega
  · have := nx.2 m hm h
    omega
/-- What is tight where i's stretch ends, and lies to the left of k: nothing. -/
theorem SOk.strict (S : SOk n f) {i k : Nat} (hi : i < n) (sh : Sh f n i) (hk : k < n) (nx : Nx f n i k) {a : Nat} (ha : a < n) (hl : 0 < Lf f k a) : 0 < Dt f i k a := by
  rcases Int.lt_trichotomy (Lf f i a) 0 with h | h | h
  · exact sh k a hk ha nx.1 h
  · rcases S.line hi ha h with rfl | ⟨h1, h2⟩
    · have := L_swap f k a
      have := nx.1
      omega
    · have e1 := opp_L h1 h2 k
      unfold Dt
      rw [e1, h]
      have m1 := mul_pp (S.g hi) nx.1
      have m2 := mul_pp (S.g ha) nx.1
      omega
  · have := nx.2 a ha h
    omega
theorem SOk.shNext (S : SOk n f) {i k : Nat} (hi : i < n) (sh : Sh f n i) (hk : k < n) (nx : Nx f n i k) : Sh f n k := by
  intro a b ha hb la lb
  have h1 := S.strict hi sh hk nx ha la
  have h2 := (S.vx hi sh hk nx).2 b hb
  have p := P4 f k a b i
  have c1 := E_cyc f i k a
  have c2 := E_cyc f i k b
  have m1 := mul_pm h1 lb
  have m2 := mul_nn (Int.le_of_lt la) h2
  rw [c1, c2] at p
  have s := L_swap f k i
  have := nx.1
  exact pos_neg (b := Lf f k i) (by omega) (by omega)
/-- Between i and k none shows. -/
theorem SOk.none (S : SOk n f) {i k : Nat} (hi : i < n) (sh : Sh f n i) (hk : k < n) (nx : Nx f n i k) {j : Nat} (hj : j < n) (shj : Sh f n j) (h1 : 0 < Lf f i j) : ¬ 0 < Lf f j k := by
  intro h2
  have h3 := shj k i hk hi h2 (by have := L_swap f j i; omega)
  have h4 := (S.vx hi sh hk nx).2 j hj
  have c1 := E_cyc f i j k
  have c2 := E_swap f i j k
  omega
/-- A facet that shows, next to the left of i among those that show, is the one that ends i's stretch. -/
theorem SOk.nextIs (S : SOk n f) {i k : Nat} (hi : i < n) (sh : Sh f n i) (hk : k < n) (shk : Sh f n k) (hl : 0 < Lf f i k) (hno : ∀ j, j < n → Sh f n j → 0 < Lf f i j → ¬ 0 < Lf f j k) : Nx f n i k := by
  obtain ⟨m, hm, nx⟩ := S.next hi
  have shm := S.shNext hi sh hm nx
  have h1 := hno m hm shm nx.1
  have h2 := S.none hi sh hm nx hk shk hl
  have s := L_swap f k m
  rcases S.line hm hk (show Lf f m k = 0 by omega) with rfl | ⟨e1, e2⟩
  · exact nx
  · have := opp_L e1 e2 i
    have := L_swap f i m
    have := nx.1
    omega
/-- Two that pass through the point of a and b, and are not on one line, meet there: what they tell of others is the same. -/
theorem same_pt {a b i w m : Nat} (h1 : Dt f a b i = 0) (h2 : Dt f a b w = 0) : Dt f a b m * Lf f i w = Dt f i w m * Lf f a b := by
  have p := P3 f a b i w m
  rw [h1, h2] at p
  simpa using p
/-- Every corner lies where the stretch of a facet that shows ends. -/
theorem SOk.corner (S : SOk n f) {a b : Nat} (ha : a < n) (hb : b < n) (v : Vx f n a b) : ∃ i k, i < n ∧ k < n ∧ Sh f n i ∧ Nx f n i k ∧ Dt f a b i = 0 ∧ Dt f a b k = 0 := by
  -- the rightmost of those that are tight
  have tight3 : ∀ x y z, Dt f a b x = 0 → Dt f a b y = 0 → Dt f a b z = 0 → Dt f x y z = 0 := fun x y z h1 h2 h3 => by
    have p := same_pt (m := z) h1 h2
    rw [h3, Int.zero_mul] at p
    exact z_left p.symm v.1
  obtain ⟨i, hi, pi, hbest⟩ := best (P := fun k => k < n ∧ Dt f a b k = 0) (R := fun x y => 0 ≤ Lf f x y)
    (fun x y _ _ => by have := L_swap f x y; omega)
    (fun x y z hx hy hz r1 r2 => by
      have e := tight3 x y z hx.2 hy.2 hz.2
      unfold Dt at e
      have m1 := mul_nn (Int.le_of_lt (S.g hx.1)) r2
      have m2 := mul_nn (Int.le_of_lt (S.g hz.1)) r1
      refine nn_left (b := f (y * 3 + 2)) ?_ (S.g hy.1)
      rw [Int.mul_comm]
      omega) n ⟨a, ha, ha, E_self f a b⟩
  -- another tight one, to its left
  have parE : ∀ x, x < n → Dt f a b x = 0 → x ≠ i → 0 < Lf f i x := fun x hx ht hne => by
    rcases Int.lt_or_eq_of_le (hbest x hx ⟨hx, ht⟩) with h | h
    · exact h
    · rcases S.line hi hx h.symm with e | ⟨e1, e2⟩
      · exact absurd e hne
      · exfalso
        have g1 := S.g hi
        have g2 := S.g hx
        have t1 := pi.2
        unfold Dt at t1 ht
        have x1 := opp_L e1 e2 a
        have x2 := opp_L e1 e2 b
        rw [x1, x2] at ht
        have s1 := L_swap f a i
        have s2 := L_swap f b i
        rw [s1, s2] at t1
        have m1 := mul_pp g1 v.1
        have m2 := mul_pp g2 v.1
        have q1 : f (a * 3 + 2) * -Lf f i b = -(f (a * 3 + 2) * Lf f i b) := Int.mul_neg _ _
        have q2 : f (b * 3 + 2) * -Lf f i a = -(f (b * 3 + 2) * Lf f i a) := Int.mul_neg _ _
        omega
  obtain ⟨w, hw, tw, lw⟩ : ∃ w, w < n ∧ Dt f a b w = 0 ∧ 0 < Lf f i w := by
    by_cases e : a = i
    · refine ⟨b, hb, E_self2 f a b, ?_⟩
      rw [← e]; exact v.1
    · exact ⟨a, ha, E_self f a b, parE a ha (E_self f a b) e⟩
  have sp : ∀ m, Dt f a b m * Lf f i w = Dt f i w m * Lf f a b := fun m => same_pt pi.2 tw
  have vi : Vx f n i w := ⟨lw, fun m hm => by
    have := mul_nn (v.2 m hm) (Int.le_of_lt lw)
    rw [sp m] at this
    exact nn_left this v.1⟩
  have sh : Sh f n i := fun k0 m0 hk0 hm0 l1 l2 => by
    have h1 := vi.2 k0 hk0
    have h2 : 0 < Dt f i w m0 := by
      rcases Int.lt_or_eq_of_le (vi.2 m0 hm0) with h | h
      · exact h
      · have t := sp m0
        rw [← h, Int.zero_mul] at t
        have := hbest m0 hm0 ⟨hm0, z_left t lw⟩
        omega
    have p := P4 f i k0 m0 w
    have s1 := E_swap f i k0 w
    have s2 := E_swap f i m0 w
    have m1 := mul_nz h1 (Int.le_of_lt l2)
    have m2 := mul_pp l1 h2
    rw [show Dt f i k0 w = -Dt f i w k0 by omega, show Dt f i m0 w = -Dt f i w m0 by omega, Int.neg_mul, Int.mul_neg] at p
    exact pos_left (b := Lf f i w) (by omega) lw
  obtain ⟨k, hk, nx⟩ := S.next hi
  refine ⟨i, k, hi, hk, sh, nx, pi.2, ?_⟩
  have h1 := (S.vx hi sh hk nx).2 w hw
  have h2 := vi.2 k hk
  have s := E_swap f i w k
  have z : Dt f i w k = 0 := by omega
  have t := sp k
  rw [z, Int.zero_mul] at t
  exact z_left t lw
end Shape
end Go.Proofs.Ytealbihplfpgeaa
