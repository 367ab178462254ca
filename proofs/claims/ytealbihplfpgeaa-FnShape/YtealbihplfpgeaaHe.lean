/-
  Which facets show, by the specification: walked.
-/
import Derived.Test.YtealbihplfpgeaaHc
namespace Go.Proofs.Ytealbihplfpgeaa
open Go.RowKit

def dtT (a b c d : Int) : Int := a * c + b * d
theorem dot_any (a b g c d h : Int) (w : World) (ha : -50 ≤ a ∧ a ≤ 50) (hb : -50 ≤ b ∧ b ≤ 50) (hc : -50 ≤ c ∧ c ≤ 50) (hd : -50 ≤ d ∧ d ≤ 50) :
    Calls Try.prog 78 #[fV a b g, fV c d h] w fun e w' => e = .returned (.int .i64 (dtT a b c d)) ∧ Below w.heap.size w w' := by
  have m1 := mul_bound ha hc
  have m2 := mul_bound hb hd
  obtain ⟨W, hW, b0, b1, bW, -⟩ := boxed2 w 35 35 #[.int .i64 a, .int .i64 b, .int .i64 g] #[.int .i64 c, .int .i64 d, .int .i64 h]
  obtain ⟨c0, c1, c2, -⟩ := b0.open3
  obtain ⟨d0, d1, d2, -⟩ := b1.open3
  go_enter Try.func78, Try.ntmps78
  go_wp2
  go_ret
  exact ⟨rfl, bW⟩
/-- The inner product of two normals; how far along i's line facet k cuts. -/
def dd (f : Nat → Int) (i k : Nat) : Int := dtT (f (i * 3)) (f (i * 3 + 1)) (f (k * 3)) (f (k * 3 + 1))
def rr (f : Nat → Int) (i k : Nat) : Int := f (k * 3 + 2) * dd f i i - dd f i k * f (i * 3 + 2)
theorem dtq (f : Nat → Int) (i a b : Nat) : Dt f i a b * dd f i i = rr f i b * Lf f i a - rr f i a * Lf f i b := by unfold Dt rr dd dtT Lf cr; grind
theorem sq_pos {x y : Int} (h : Int.gcd x y = 1) : 0 < x * x + y * y := by
  have hx : 0 ≤ x * x := by rcases Int.le_total 0 x with c | c; exact mul_nn c c; have := mul_nn (a := -x) (b := -x) (by omega) (by omega); rwa [Int.neg_mul_neg] at this
  have hy : 0 ≤ y * y := by rcases Int.le_total 0 y with c | c; exact mul_nn c c; have := mul_nn (a := -y) (b := -y) (by omega) (by omega); rwa [Int.neg_mul_neg] at this
  by_cases e : x = 0
  · by_cases e2 : y = 0
    · subst e e2; simp at h
    · have : y * y ≠ 0 := fun z => by rcases Int.mul_eq_zero.1 z with z | z <;> exact e2 z
      omega
  · have : x * x ≠ 0 := fun z => by rcases Int.mul_eq_zero.1 z with z | z <;> exact e z
    omega
section Shape
variable {n : Nat} {f : Nat → Int}
theorem SOk.dd (S : SOk n f) {i : Nat} (hi : i < n) : 0 < dd f i i := sq_pos (Rt.in (S.right i hi)).2.2.1
theorem SOk.dd_in (S : SOk n f) {i k : Nat} (hi : i < n) (hk : k < n) : -5000 ≤ Go.Proofs.Ytealbihplfpgeaa.dd f i k ∧ Go.Proofs.Ytealbihplfpgeaa.dd f i k ≤ 5000 := by
  have ri := Rt.in (S.right i hi)
  have rk := Rt.in (S.right k hk)
  have m1 := mul_bound ri.1 rk.1
  have m2 := mul_bound ri.2.1 rk.2.1
  unfold Go.Proofs.Ytealbihplfpgeaa.dd dtT
  omega
theorem SOk.rr_in (S : SOk n f) {i k : Nat} (hi : i < n) (hk : k < n) : (-5000000 ≤ f (k * 3 + 2) * Go.Proofs.Ytealbihplfpgeaa.dd f i i ∧ f (k * 3 + 2) * Go.Proofs.Ytealbihplfpgeaa.dd f i i ≤ 5000000) ∧ (-5000000 ≤ Go.Proofs.Ytealbihplfpgeaa.dd f i k * f (i * 3 + 2) ∧ Go.Proofs.Ytealbihplfpgeaa.dd f i k * f (i * 3 + 2) ≤ 5000000) ∧ (-10000000 ≤ rr f i k ∧ rr f i k ≤ 10000000) := by
  have ri := Rt.in (S.right i hi)
  have rk := Rt.in (S.right k hk)
  have m1 := mul_bound (x := f (k * 3 + 2)) (X := 1000) (by omega) (S.dd_in hi hi)
  have m2 := mul_bound (y := f (i * 3 + 2)) (Y := 1000) (S.dd_in hi hk) (by omega)
  unfold rr
  omega
theorem SOk.L_in (S : SOk n f) {i k : Nat} (hi : i < n) (hk : k < n) : -5000 ≤ Lf f i k ∧ Lf f i k ≤ 5000 := by
  have ri := Rt.in (S.right i hi)
  have rk := Rt.in (S.right k hk)
  exact cr_in2 ri.1 ri.2.1 rk.1 rk.2.1
theorem SOk.rr_opp (S : SOk n f) {i k : Nat} (hi : i < n) (hk : k < n) (hne : k ≠ i) (h : Lf f i k = 0) : 0 < rr f i k := by
  rcases S.line hi hk h with e | ⟨e1, e2⟩
  · exact absurd e hne
  · have : Go.Proofs.Ytealbihplfpgeaa.dd f i k = -Go.Proofs.Ytealbihplfpgeaa.dd f i i := by unfold Go.Proofs.Ytealbihplfpgeaa.dd dtT; rw [e1, e2]; grind
    unfold rr
    rw [this, Int.neg_mul]
    have m1 := mul_pp (S.g hk) (S.dd hi)
    have m2 := mul_pp (S.dd hi) (S.g hi)
    omega
/-- The least end on the left among the first k; the greatest on the right. -/
def Hi (f : Nat → Int) (n i k : Nat) (hn hd : Int) : Prop := (hd = 0 ∧ hn = 0 ∧ ∀ m, m < k → ¬ 0 < Lf f i m) ∨ ∃ m, m < n ∧ 0 < Lf f i m ∧ hd = Lf f i m ∧ hn = rr f i m ∧ ∀ m', m' < k → 0 < Lf f i m' → 0 ≤ Dt f i m m'
def Lo (f : Nat → Int) (n i k : Nat) (ln ld : Int) : Prop := (ld = 0 ∧ ln = 0 ∧ ∀ m, m < k → ¬ Lf f i m < 0) ∨ ∃ m, m < n ∧ Lf f i m < 0 ∧ ld = -Lf f i m ∧ ln = -rr f i m ∧ ∀ m', m' < k → Lf f i m' < 0 → 0 ≤ Dt f i m' m
theorem Hi.keep {i k : Nat} {hn hd : Int} (h : Hi f n i k hn hd) (hc : ¬ 0 < Lf f i k) : Hi f n i (k + 1) hn hd := by
  rcases h with ⟨h1, h2, h3⟩ | ⟨m, h1, h2, h3, h4, h5⟩
  · exact .inl ⟨h1, h2, fun m hm => by by_cases e : m = k; rw [e]; exact hc; exact h3 m (by omega)⟩
  · exact .inr ⟨m, h1, h2, h3, h4, fun m' hm' hl => by by_cases e : m' = k; rw [e] at hl; exact absurd hl hc; exact h5 m' (by omega) hl⟩
theorem Hi.first {i k : Nat} {hn : Int} (h : Hi f n i k hn 0) (hk : k < n) (hc : 0 < Lf f i k) : Hi f n i (k + 1) (rr f i k) (Lf f i k) := by
  refine .inr ⟨k, hk, hc, rfl, rfl, fun m' hm' hl => ?_⟩
  by_cases e : m' = k
  · rw [e, E_self2]; exact Int.le_refl _
  · rcases h with ⟨h1, h2, h3⟩ | ⟨m, h1, h2, h3, -⟩
    · exact absurd hl (h3 m' (by omega))
    · omega
theorem Hi.upd (S : SOk n f) {i k : Nat} {hn hd : Int} (hi : i < n) (h : Hi f n i k hn hd) (h0 : ¬ hd = 0) (hk : k < n) (hc : 0 < Lf f i k) (hl : rr f i k * hd < hn * Lf f i k) : Hi f n i (k + 1) (rr f i k) (Lf f i k) := by
  rcases h with ⟨h1, -⟩ | ⟨m, h1, h2, rfl, rfl, h5⟩
  · exact absurd h1 h0
  · have e1 : Dt f i m k < 0 := by
      have := dtq f i m k
      refine Int.not_le.1 fun c => ?_
      have := mul_nn c (Int.le_of_lt (S.dd hi))
      omega
    refine .inr ⟨k, hk, hc, rfl, rfl, fun m' hm' hl' => ?_⟩
    by_cases e : m' = k
    · rw [e, E_self2]; exact Int.le_refl _
    · have h6 := h5 m' (by omega) hl'
      have p := P4 f i k m' m
      have s1 := E_swap f i m k
      have s2 := E_swap f i m m'
      rw [s1, s2, Int.neg_mul, Int.mul_neg] at p
      have m1 := mul_mp e1 hl'
      have m2 := mul_nn (Int.le_of_lt hc) h6
      exact nn_left (b := Lf f i m) (by omega) h2
theorem Hi.stay (S : SOk n f) {i k : Nat} {hn hd : Int} (hi : i < n) (h : Hi f n i k hn hd) (h0 : ¬ hd = 0) (hl : ¬ rr f i k * hd < hn * Lf f i k) : Hi f n i (k + 1) hn hd := by
  rcases h with ⟨h1, -⟩ | ⟨m, h1, h2, rfl, rfl, h5⟩
  · exact absurd h1 h0
  · refine .inr ⟨m, h1, h2, rfl, rfl, fun m' hm' hl' => ?_⟩
    by_cases e : m' = k
    · have := dtq f i m k
      rw [e]
      exact nn_left (b := Go.Proofs.Ytealbihplfpgeaa.dd f i i) (by omega) (S.dd hi)
    · exact h5 m' (by omega) hl'
theorem Lo.keep {i k : Nat} {ln ld : Int} (h : Lo f n i k ln ld) (hc : ¬ Lf f i k < 0) : Lo f n i (k + 1) ln ld := by
  rcases h with ⟨h1, h2, h3⟩ | ⟨m, h1, h2, h3, h4, h5⟩
  · exact .inl ⟨h1, h2, fun m hm => by by_cases e : m = k; rw [e]; exact hc; exact h3 m (by omega)⟩
  · exact .inr ⟨m, h1, h2, h3, h4, fun m' hm' hl => by by_cases e : m' = k; rw [e] at hl; exact absurd hl hc; exact h5 m' (by omega) hl⟩
theorem Lo.first {i k : Nat} {ln : Int} (h : Lo f n i k ln 0) (hk : k < n) (hc : Lf f i k < 0) : Lo f n i (k + 1) (-rr f i k) (-Lf f i k) := by
  refine .inr ⟨k, hk, hc, rfl, rfl, fun m' hm' hl => ?_⟩
  by_cases e : m' = k
  · rw [e, E_self2]; exact Int.le_refl _
  · rcases h with ⟨h1, h2, h3⟩ | ⟨m, h1, h2, h3, -⟩
    · exact absurd hl (h3 m' (by omega))
    · omega
theorem lo_eq (f : Nat → Int) (i m k : Nat) : -rr f i k * -Lf f i m - -Lf f i k * -rr f i m = Dt f i m k * dd f i i := by
  have := dtq f i m k
  rw [Int.neg_mul_neg, Int.neg_mul_neg, Int.mul_comm (Lf f i k)]
  omega
theorem Lo.upd (S : SOk n f) {i k : Nat} {ln ld : Int} (hi : i < n) (h : Lo f n i k ln ld) (h0 : ¬ ld = 0) (hk : k < n) (hc : Lf f i k < 0) (hl : -Lf f i k * ln < -rr f i k * ld) : Lo f n i (k + 1) (-rr f i k) (-Lf f i k) := by
  rcases h with ⟨h1, -⟩ | ⟨m, h1, h2, rfl, rfl, h5⟩
  · exact absurd h1 h0
  · have q := lo_eq f i m k
    have e1 : 0 < Dt f i m k := pos_left (b := Go.Proofs.Ytealbihplfpgeaa.dd f i i) (by omega) (S.dd hi)
    refine .inr ⟨k, hk, hc, rfl, rfl, fun m' hm' hl' => ?_⟩
    by_cases e : m' = k
    · rw [e, E_self2]; exact Int.le_refl _
    · have h6 := h5 m' (by omega) hl'
      have p := P4 f i m' k m
      have s1 := E_swap f i m k
      rw [s1, Int.mul_neg] at p
      have m1 := mul_nz h6 (Int.le_of_lt hc)
      have m2 := mul_mp hl' e1
      exact Int.le_of_lt (pos_neg (b := Lf f i m) (by omega) h2)
theorem Lo.stay (S : SOk n f) {i k : Nat} {ln ld : Int} (hi : i < n) (h : Lo f n i k ln ld) (h0 : ¬ ld = 0) (hl : ¬ -Lf f i k * ln < -rr f i k * ld) : Lo f n i (k + 1) ln ld := by
  rcases h with ⟨h1, -⟩ | ⟨m, h1, h2, rfl, rfl, h5⟩
  · exact absurd h1 h0
  · refine .inr ⟨m, h1, h2, rfl, rfl, fun m' hm' hl' => ?_⟩
    by_cases e : m' = k
    · have q := lo_eq f i m k
      have s := E_swap f i m k
      have : Dt f i m k ≤ 0 := np_left (b := Go.Proofs.Ytealbihplfpgeaa.dd f i i) (by omega) (S.dd hi)
      rw [e]
      omega
    · exact h5 m' (by omega) hl'
theorem Hi.in (S : SOk n f) {i k : Nat} {hn hd : Int} (hi : i < n) (h : Hi f n i k hn hd) : (-10000000 ≤ hn ∧ hn ≤ 10000000) ∧ (-5000 ≤ hd ∧ hd ≤ 5000) := by
  rcases h with ⟨rfl, rfl, -⟩ | ⟨m, h1, h2, rfl, rfl, -⟩
  · omega
  · exact ⟨(S.rr_in hi h1).2.2, S.L_in hi h1⟩
theorem Lo.in (S : SOk n f) {i k : Nat} {ln ld : Int} (hi : i < n) (h : Lo f n i k ln ld) : (-10000000 ≤ ln ∧ ln ≤ 10000000) ∧ (-5000 ≤ ld ∧ ld ≤ 5000) := by
  rcases h with ⟨rfl, rfl, -⟩ | ⟨m, h1, h2, rfl, rfl, -⟩
  · omega
  · have := (S.rr_in hi h1).2.2
    have := S.L_in hi h1
    omega
theorem SOk.tellsSh (S : SOk n f) {i : Nat} {hn hd ln ld : Int} (hi : i < n) (h : Hi f n i n hn hd) (l : Lo f n i n ln ld) : Tells (decide (ln * hd < hn * ld)) (Sh f n i) := by
  obtain ⟨k0, hk0, lk0⟩ := S.left i hi
  obtain ⟨m0, hm0, lm0⟩ := S.rightN hi
  rcases h with ⟨-, -, h3⟩ | ⟨k, hk, lk, rfl, rfl, h5⟩
  · exact absurd lk0 (h3 k0 hk0)
  rcases l with ⟨-, -, h3⟩ | ⟨m, hm, lm, rfl, rfl, l5⟩
  · exact absurd lm0 (h3 m0 hm0)
  have q := dtq f i k m
  have e : (-rr f i m * Lf f i k < rr f i k * -Lf f i m) ↔ 0 < Dt f i k m := by
    rw [Int.neg_mul, Int.mul_neg]
    constructor
    · intro c
      exact pos_left (b := Go.Proofs.Ytealbihplfpgeaa.dd f i i) (by omega) (S.dd hi)
    · intro c
      have := mul_pp c (S.dd hi)
      omega
  unfold Tells
  rw [decide_eq_true_iff, e]
  constructor
  · intro c k' m' hk' hm' lk' lm'
    have a1 := h5 k' hk' lk'
    have a2 := l5 m' hm' lm'
    have p := P4 f i k' m k
    have s1 := E_swap f i k k'
    have s2 := E_swap f i k m
    rw [s1, s2, Int.neg_mul, Int.mul_neg] at p
    have m1 := mul_nz a1 (Int.le_of_lt lm)
    have m2 := mul_pp lk' c
    have b1 : 0 < Dt f i k' m := pos_left (b := Lf f i k) (by omega) lk
    have p' := P4 f i k' m' m
    have m3 := mul_pm b1 lm'
    have m4 := mul_nn (Int.le_of_lt lk') a2
    exact pos_neg (b := Lf f i m) (by omega) lm
  · intro c
    exact c k m hk hm lk lm
end Shape
set_option maxRecDepth 100000 in
set_option maxHeartbeats 8000000 in
theorem shows_any {w : World} {g n c : Nat} {f : Nat → Int} (S : SOk n f) (h : Trips w g n f) {i : Nat} (hi : i < n) (b : Bool) (hb : Tells b (Sh f n i)) :
    Calls Try.prog 55 #[.slice (some ⟨g, 0, none⟩) n c, .int .i64 i] w fun e w' => e = .returned (.bool b) ∧ Below w.heap.size w w' := by
  have hn' : (n : Int) ≤ 40 := by have := S.hi; omega
  have hlt : (i : Int) < (n : Int) := by omega
  have ri := Rt.in (S.right i hi)
  have hq := h.1
  obtain ⟨c0, c1, c2⟩ := h.open i hi
  obtain ⟨V, hV, A0, B, -⟩ := boxed w 35 #[.int .i64 (f (i * 3)), .int .i64 (f (i * 3 + 1)), .int .i64 (f (i * 3 + 2))]
  obtain ⟨d0, d1, d2, -⟩ := A0.open3
  obtain ⟨Q, hQ⟩ : ∃ Q, dd f i i = Q := ⟨_, rfl⟩
  go_enter Try.func55, Try.ntmps55
  go_wp2_with fail
  refine (dot_any _ _ _ _ _ _ _ ri.1 ri.2.1 ri.1 ri.2.1).mono ?_
  rintro e w1 ⟨rfl, b1⟩
  rw [show dtT (f (i * 3)) (f (i * 3 + 1)) (f (i * 3)) (f (i * 3 + 1)) = Q from hQ]
  replace A0 := A0.below b1
  replace B := B.trans (b1.mono B.size)
  clear d0 d1 d2 c0 c1 c2 hV b1 hq
  go_wp2
  go_loopw [7, 8, 9, 10, 11] (fun p q r s t wr => ∃ (ln ld hn hd : Int) (k : Nat), p = .int .i64 ln ∧ q = .int .i64 ld ∧ r = .int .i64 hn ∧ s = .int .i64 hd ∧ t = .int .i64 k ∧ k ≤ n ∧ Lo f n i k ln ld ∧ Hi f n i k hn hd ∧ At 35 wr w.heap.size #[.int .i64 (f (i * 3)), .int .i64 (f (i * 3 + 1)), .int .i64 (f (i * 3 + 2))] ∧ Below w.heap.size w wr) (fun _ _ _ _ t _ => n - (intOf t).toNat)
  case atStart => exact ⟨0, 0, 0, 0, 0, rfl, rfl, rfl, rfl, rfl, Nat.zero_le _, .inl ⟨rfl, rfl, fun m hm => by omega⟩, .inl ⟨rfl, rfl, fun m hm => by omega⟩, A0, B⟩
  case round =>
    clear A0 B
    obtain ⟨ln, ld, hn, hd, k, rfl, rfl, rfl, rfl, rfl, hk', hlo, hhi, A0, B⟩ := hrel
    have hin := hhi.in S hi
    have lin := hlo.in S hi
    by_cases hk : k < n
    · have hklt : (k : Int) < (n : Int) := by omega
      by_cases hself : k = i
      · subst hself
        have z : Lf f k k = 0 := L_self f k
        have H1 := hlo.keep (by omega)
        have H2 := hhi.keep (by omega)
        clear hlo hhi hb hin lin z
        go_wp2
        exact ⟨⟨ln, ld, hn, hd, k + 1, rfl, rfl, rfl, rfl, by go_num, by omega, H1, H2, A0, B⟩, by simp [intOf]; omega⟩
      · have hself' : ¬ (k : Int) = (i : Int) := by omega
        have hself2 : ((k : Int) == (i : Int)) = false := by rw [beq_eq_false_iff_ne]; exact hself'
        have rk := Rt.in (S.right k hk)
        have L := h.below B
        have dz := S.rr_opp hi hk hself
        have lc := S.L_in hi hk
        obtain ⟨r1, r2, r3⟩ := S.rr_in hi hk
        have k1 := fun z => hlo.keep (k := k) z
        have k2 := fun z => hhi.keep (k := k) z
        have u1 := fun a b c => hhi.upd S hi a hk b c
        have u2 := fun a b c => hlo.upd S hi a hk b c
        have s1 := fun a b => hhi.stay S hi (k := k) a b
        have s2 := fun a b => hlo.stay S hi (k := k) a b
        have f1 : hd = 0 → 0 < Lf f i k → Hi f n i (k + 1) (rr f i k) (Lf f i k) := fun a b => by subst a; exact hhi.first hk b
        have f2 : ld = 0 → Lf f i k < 0 → Lo f n i (k + 1) (-rr f i k) (-Lf f i k) := fun a b => by subst a; exact hlo.first hk b
        obtain ⟨C, hC⟩ : ∃ C, Lf f i k = C := ⟨_, rfl⟩
        obtain ⟨R, hR⟩ : ∃ C, rr f i k = C := ⟨_, rfl⟩
        obtain ⟨E, hE⟩ : ∃ C, dd f i k = C := ⟨_, rfl⟩
        have hR' : f (k * 3 + 2) * dd f i i - dd f i k * f (i * 3 + 2) = R := hR
        rw [hQ, hE] at hR'
        rw [hQ] at r1
        rw [hE] at r2
        rw [hC] at dz lc k1 k2 u1 u2 s1 s2 f1 f2
        rw [hR] at dz r3 u1 u2 s1 s2 f1 f2
        obtain ⟨m1, hm1⟩ : ∃ m, f (k * 3 + 2) * Q = m := ⟨_, rfl⟩
        obtain ⟨m2, hm2⟩ : ∃ m, E * f (i * 3 + 2) = m := ⟨_, rfl⟩
        rw [hm1] at r1 hR'
        rw [hm2] at r2 hR'
        have w1 : IntKind.i64.wrap m1 = m1 := IntWalk.i64_in _ (by omega)
        have w2 : IntKind.i64.wrap m2 = m2 := IntWalk.i64_in _ (by omega)
        have w3 : IntKind.i64.wrap R = R := IntWalk.i64_in _ (by omega)
        have HF : Hid (((¬ C < 0 → Lo f n i (k + 1) ln ld) ∧ (¬ 0 < C → Hi f n i (k + 1) hn hd)) ∧ ((¬ hd = 0 → 0 < C → R * hd < hn * C → Hi f n i (k + 1) R C) ∧ (¬ ld = 0 → C < 0 → -C * ln < -R * ld → Lo f n i (k + 1) (-R) (-C))) ∧ ((¬ hd = 0 → ¬ R * hd < hn * C → Hi f n i (k + 1) hn hd) ∧ (¬ ld = 0 → ¬ -C * ln < -R * ld → Lo f n i (k + 1) ln ld)) ∧ ((hd = 0 → 0 < C → Hi f n i (k + 1) R C) ∧ (ld = 0 → C < 0 → Lo f n i (k + 1) (-R) (-C))) ∧ (C = 0 → 0 < R)) := ⟨⟨k1, k2⟩, ⟨u1, u2⟩, ⟨s1, s2⟩, ⟨f1, f2⟩, dz⟩
        clear k1 k2 u1 u2 s1 s2 f1 f2 dz hlo hhi hb
        go_wp2_with fail
        obtain ⟨u0, hu0, bb⟩ : ∃ uu, wr.drew = uu ∧ Below wr.heap.size wr uu := ⟨_, rfl, (Below.refl _ _).drew⟩
        replace L := L.below bb
        replace A0 := A0.below bb
        replace B := B.trans (bb.mono B.size)
        clear bb
        refine wp_region_held_drew (S := Kb u0) (by kernel_rfl) (by rw [hu0]; exact Below.refl _ _) (fun hHeld => ?_)
        rw [hu0] at hHeld ⊢
        clear hu0
        have bu : Kb u0 u0 := Below.refl _ _
        change wpAnyH _ _ _ _ _ 7 #[false, false, false, false, false, false, false] _ _
        refine wpAnyH_take (i := 0) (v := fV (f (i * 3)) (f (i * 3 + 1)) (f (i * 3 + 2))) rfl (by kernel_rfl) (by kernel_rfl) (by kernel_rfl) (fun _ _ _ h => h) (Or.inl ⟨by kernel_rfl, ?_⟩) hHeld ?_
        · intro w' hSw; obtain ⟨z0, z1, z2, -⟩ := (A0.below hSw).open3; go_simp
        try simp only [Act.put, List.setIfInBounds_toArray, List.set_cons_zero, List.set_cons_succ, List.getElem_toArray, List.getElem_cons_zero]
        refine wpAnyH_take (i := 1) (v := .slice (some ⟨g, 0, none⟩) n c) rfl (by kernel_rfl) (by kernel_rfl) (by kernel_rfl) (fun _ _ _ h => h) (Or.inl ⟨by kernel_rfl, ?_⟩) hHeld ?_
        · intro w' hSw; go_simp
        try simp only [Act.put, List.setIfInBounds_toArray, List.set_cons_zero, List.set_cons_succ, List.getElem_toArray, List.getElem_cons_succ, List.getElem_cons_zero]
        refine wpAnyH_take (i := 2) (v := .int .i64 (k : Int)) rfl (by kernel_rfl) (by kernel_rfl) (by kernel_rfl) (fun _ _ _ h => h) (Or.inl ⟨by kernel_rfl, ?_⟩) hHeld ?_
        · intro w' hSw; go_simp
        try simp only [Act.put, List.setIfInBounds_toArray, List.set_cons_zero, List.set_cons_succ, List.getElem_toArray, List.getElem_cons_succ, List.getElem_cons_zero]
        refine wpAnyH_take (i := 3) (v := .pointer (some ⟨g, k * 3, none⟩)) rfl (by kernel_rfl) (by kernel_rfl) (by kernel_rfl) (fun _ _ _ h => h) (Or.inl ⟨by kernel_rfl, ?_⟩) hHeld ?_
        · intro w' hSw; go_simp
        try simp only [Act.put, List.setIfInBounds_toArray, List.set_cons_zero, List.set_cons_succ, List.getElem_toArray, List.getElem_cons_succ, List.getElem_cons_zero]
        refine wpAnyH_take (i := 4) (v := fV (f (k * 3)) (f (k * 3 + 1)) (f (k * 3 + 2))) rfl (by kernel_rfl) (by kernel_rfl) (by kernel_rfl) (fun _ _ _ h => h) (Or.inl ⟨by kernel_rfl, ?_⟩) hHeld ?_
        · intro w' hSw; have zz := (L.below hSw).open k hk; obtain ⟨z0, z1, z2⟩ := zz; go_simp
        try simp only [Act.put, List.setIfInBounds_toArray, List.set_cons_zero, List.set_cons_succ, List.getElem_toArray, List.getElem_cons_succ, List.getElem_cons_zero]
        refine wpAnyH_ready (rs := [5]) (by kernel_rfl) (by simp) ?_
        refine AllReadyH.cons rfl (fun KK hK' => ?_) AllReadyH.nil
        go_simp
        refine (cross_any _ _ _ _ _ _ _ ri.1 ri.2.1 rk.1 rk.2.1).mono ?_
        rintro e u1 ⟨rfl, bb⟩
        rw [show cr (f (i * 3)) (f (i * 3 + 1)) (f (k * 3)) (f (k * 3 + 1)) = C from hC]
        replace bu : Kb u0 u1 := bu.trans (bb.mono bu.size)
        clear bb
        try go_wp2_with fail
        clear hHeld
        refine hK'.out _ _ bu (fun hHeld => ?_)
        clear hK' KK
        try simp only [List.setIfInBounds_toArray, List.set_cons_zero, List.set_cons_succ]
        refine wpAnyH_ready (rs := [6]) (by kernel_rfl) (by simp) ?_
        refine AllReadyH.cons rfl (fun KK hK' => ?_) AllReadyH.nil
        go_simp
        clear hHeld
        refine hK'.out _ _ (bu) (fun hHeld => ?_)
        clear hK' KK
        try simp only [List.setIfInBounds_toArray, List.set_cons_zero, List.set_cons_succ]
        refine wpAnyH_done (by kernel_rfl) ?_ _
        clear hHeld
        replace B := B.trans (Below.mono bu B.size)
        replace L := L.below bu
        replace A0 := A0.below bu
        clear bu
        go_wp2_with fail
        obtain ⟨v0, hu0, bb⟩ : ∃ uu, u1.drew = uu ∧ Below u1.heap.size u1 uu := ⟨_, rfl, (Below.refl _ _).drew⟩
        replace L := L.below bb
        replace A0 := A0.below bb
        replace B := B.trans (bb.mono B.size)
        clear bb
        refine wp_region_held_drew (S := Kb v0) (by kernel_rfl) (by rw [hu0]; exact Below.refl _ _) (fun hHeld => ?_)
        rw [hu0] at hHeld ⊢
        clear hu0
        have bu : Kb v0 v0 := Below.refl _ _
        change wpAnyH _ _ _ _ _ 18 #[false, false, false, false, false, false, false, false, false, false, false, false, false, false, false, false, false, false] _ _
        refine wpAnyH_take (i := 0) (v := .slice (some ⟨g, 0, none⟩) n c) rfl (by kernel_rfl) (by kernel_rfl) (by kernel_rfl) (fun _ _ _ h => h) (Or.inl ⟨by kernel_rfl, ?_⟩) hHeld ?_
        · intro w' hSw; go_simp
        try simp only [Act.put, List.setIfInBounds_toArray, List.set_cons_zero, List.set_cons_succ, List.getElem_toArray, List.getElem_cons_zero]
        refine wpAnyH_take (i := 1) (v := .int .i64 (k : Int)) rfl (by kernel_rfl) (by kernel_rfl) (by kernel_rfl) (fun _ _ _ h => h) (Or.inl ⟨by kernel_rfl, ?_⟩) hHeld ?_
        · intro w' hSw; go_simp
        try simp only [Act.put, List.setIfInBounds_toArray, List.set_cons_zero, List.set_cons_succ, List.getElem_toArray, List.getElem_cons_succ, List.getElem_cons_zero]
        refine wpAnyH_take (i := 2) (v := .pointer (some ⟨g, k * 3, none⟩)) rfl (by kernel_rfl) (by kernel_rfl) (by kernel_rfl) (fun _ _ _ h => h) (Or.inl ⟨by kernel_rfl, ?_⟩) hHeld ?_
        · intro w' hSw; go_simp
        try simp only [Act.put, List.setIfInBounds_toArray, List.set_cons_zero, List.set_cons_succ, List.getElem_toArray, List.getElem_cons_succ, List.getElem_cons_zero]
        refine wpAnyH_take (i := 3) (v := .pointer (some ⟨g, k * 3 + 2, none⟩)) rfl (by kernel_rfl) (by kernel_rfl) (by kernel_rfl) (fun _ _ _ h => h) (Or.inl ⟨by kernel_rfl, ?_⟩) hHeld ?_
        · intro w' hSw; go_simp
        try simp only [Act.put, List.setIfInBounds_toArray, List.set_cons_zero, List.set_cons_succ, List.getElem_toArray, List.getElem_cons_succ, List.getElem_cons_zero]
        refine wpAnyH_take (i := 4) (v := .int .i64 (f (k * 3 + 2))) rfl (by kernel_rfl) (by kernel_rfl) (by kernel_rfl) (fun _ _ _ h => h) (Or.inl ⟨by kernel_rfl, ?_⟩) hHeld ?_
        · intro w' hSw; have zz := (L.below hSw).open k hk; obtain ⟨z0, z1, z2⟩ := zz; go_simp
        try simp only [Act.put, List.setIfInBounds_toArray, List.set_cons_zero, List.set_cons_succ, List.getElem_toArray, List.getElem_cons_succ, List.getElem_cons_zero]
        refine wpAnyH_take (i := 5) (v := .int .i64 Q) rfl (by kernel_rfl) (by kernel_rfl) (by kernel_rfl) (fun _ _ _ h => h) (Or.inl ⟨by kernel_rfl, ?_⟩) hHeld ?_
        · intro w' hSw; go_simp
        try simp only [Act.put, List.setIfInBounds_toArray, List.set_cons_zero, List.set_cons_succ, List.getElem_toArray, List.getElem_cons_succ, List.getElem_cons_zero]
        refine wpAnyH_take (i := 6) (v := .int .i64 m1) rfl (by kernel_rfl) (by kernel_rfl) (by kernel_rfl) (fun _ _ _ h => h) (Or.inl ⟨by kernel_rfl, ?_⟩) hHeld ?_
        · intro w' hSw; go_simp
        try simp only [Act.put, List.setIfInBounds_toArray, List.set_cons_zero, List.set_cons_succ, List.getElem_toArray, List.getElem_cons_succ, List.getElem_cons_zero]
        refine wpAnyH_take (i := 7) (v := fV (f (i * 3)) (f (i * 3 + 1)) (f (i * 3 + 2))) rfl (by kernel_rfl) (by kernel_rfl) (by kernel_rfl) (fun _ _ _ h => h) (Or.inl ⟨by kernel_rfl, ?_⟩) hHeld ?_
        · intro w' hSw; obtain ⟨z0, z1, z2, -⟩ := (A0.below hSw).open3; go_simp
        try simp only [Act.put, List.setIfInBounds_toArray, List.set_cons_zero, List.set_cons_succ, List.getElem_toArray, List.getElem_cons_succ, List.getElem_cons_zero]
        refine wpAnyH_take (i := 8) (v := .slice (some ⟨g, 0, none⟩) n c) rfl (by kernel_rfl) (by kernel_rfl) (by kernel_rfl) (fun _ _ _ h => h) (Or.inl ⟨by kernel_rfl, ?_⟩) hHeld ?_
        · intro w' hSw; go_simp
        try simp only [Act.put, List.setIfInBounds_toArray, List.set_cons_zero, List.set_cons_succ, List.getElem_toArray, List.getElem_cons_succ, List.getElem_cons_zero]
        refine wpAnyH_take (i := 9) (v := .int .i64 (k : Int)) rfl (by kernel_rfl) (by kernel_rfl) (by kernel_rfl) (fun _ _ _ h => h) (Or.inl ⟨by kernel_rfl, ?_⟩) hHeld ?_
        · intro w' hSw; go_simp
        try simp only [Act.put, List.setIfInBounds_toArray, List.set_cons_zero, List.set_cons_succ, List.getElem_toArray, List.getElem_cons_succ, List.getElem_cons_zero]
        refine wpAnyH_take (i := 10) (v := .pointer (some ⟨g, k * 3, none⟩)) rfl (by kernel_rfl) (by kernel_rfl) (by kernel_rfl) (fun _ _ _ h => h) (Or.inl ⟨by kernel_rfl, ?_⟩) hHeld ?_
        · intro w' hSw; go_simp
        try simp only [Act.put, List.setIfInBounds_toArray, List.set_cons_zero, List.set_cons_succ, List.getElem_toArray, List.getElem_cons_succ, List.getElem_cons_zero]
        refine wpAnyH_take (i := 11) (v := fV (f (k * 3)) (f (k * 3 + 1)) (f (k * 3 + 2))) rfl (by kernel_rfl) (by kernel_rfl) (by kernel_rfl) (fun _ _ _ h => h) (Or.inl ⟨by kernel_rfl, ?_⟩) hHeld ?_
        · intro w' hSw; have zz := (L.below hSw).open k hk; obtain ⟨z0, z1, z2⟩ := zz; go_simp
        try simp only [Act.put, List.setIfInBounds_toArray, List.set_cons_zero, List.set_cons_succ, List.getElem_toArray, List.getElem_cons_succ, List.getElem_cons_zero]
        refine wpAnyH_take (i := 13) (v := .pointer (some ⟨w.heap.size, 2, none⟩)) rfl (by kernel_rfl) (by kernel_rfl) (by kernel_rfl) (fun _ _ _ h => h) (Or.inl ⟨by kernel_rfl, ?_⟩) hHeld ?_
        · intro w' hSw; go_simp
        try simp only [Act.put, List.setIfInBounds_toArray, List.set_cons_zero, List.set_cons_succ, List.getElem_toArray, List.getElem_cons_succ, List.getElem_cons_zero]
        refine wpAnyH_take (i := 14) (v := .int .i64 (f (i * 3 + 2))) rfl (by kernel_rfl) (by kernel_rfl) (by kernel_rfl) (fun _ _ _ h => h) (Or.inl ⟨by kernel_rfl, ?_⟩) hHeld ?_
        · intro w' hSw; obtain ⟨z0, z1, z2, -⟩ := (A0.below hSw).open3; go_simp
        try simp only [Act.put, List.setIfInBounds_toArray, List.set_cons_zero, List.set_cons_succ, List.getElem_toArray, List.getElem_cons_succ, List.getElem_cons_zero]
        refine wpAnyH_ready (rs := [12]) (by kernel_rfl) (by simp) ?_
        refine AllReadyH.cons rfl (fun KK hK' => ?_) AllReadyH.nil
        go_simp
        refine (dot_any _ _ _ _ _ _ _ ri.1 ri.2.1 rk.1 rk.2.1).mono ?_
        rintro e v1 ⟨rfl, bb⟩
        rw [show dtT (f (i * 3)) (f (i * 3 + 1)) (f (k * 3)) (f (k * 3 + 1)) = E from hE]
        replace bu : Kb v0 v1 := bu.trans (bb.mono bu.size)
        clear bb
        try go_wp2_with fail
        clear hHeld
        refine hK'.out _ _ bu (fun hHeld => ?_)
        clear hK' KK
        try simp only [List.setIfInBounds_toArray, List.set_cons_zero, List.set_cons_succ]
        refine wpAnyH_take (i := 15) (v := .int .i64 m2) rfl (by kernel_rfl) (by kernel_rfl) (by kernel_rfl) (fun _ _ _ h => h) (Or.inl ⟨by kernel_rfl, ?_⟩) hHeld ?_
        · intro w' hSw; go_simp
        try simp only [Act.put, List.setIfInBounds_toArray, List.set_cons_zero, List.set_cons_succ, List.getElem_toArray, List.getElem_cons_succ, List.getElem_cons_zero]
        refine wpAnyH_take (i := 16) (v := .int .i64 R) rfl (by kernel_rfl) (by kernel_rfl) (by kernel_rfl) (fun _ _ _ h => h) (Or.inl ⟨by kernel_rfl, ?_⟩) hHeld ?_
        · intro w' hSw; go_simp
        try simp only [Act.put, List.setIfInBounds_toArray, List.set_cons_zero, List.set_cons_succ, List.getElem_toArray, List.getElem_cons_succ, List.getElem_cons_zero]
        refine wpAnyH_ready (rs := [17]) (by kernel_rfl) (by simp) ?_
        refine AllReadyH.cons rfl (fun KK hK' => ?_) AllReadyH.nil
        go_simp
        clear hHeld
        refine hK'.out _ _ (bu) (fun hHeld => ?_)
        clear hK' KK
        try simp only [List.setIfInBounds_toArray, List.set_cons_zero, List.set_cons_succ]
        refine wpAnyH_done (by kernel_rfl) ?_ _
        clear hHeld
        replace B := B.trans (Below.mono bu B.size)
        replace A0 := A0.below bu
        clear bu L
        obtain ⟨⟨k1, k2⟩, ⟨u1, u2⟩, ⟨s1, s2⟩, ⟨f1, f2⟩, dz⟩ := HF.out
        clear HF hC hR hE hR' hm1 hm2 w1 w2 w3 r1 r2
        have b1 := mul_bound r3 hin.2
        have b2 := mul_bound hin.1 lc
        have b3 := mul_bound (x := -R) (X := 10000000) (by omega) lin.2
        have b4 := mul_bound (x := -C) (X := 5000) (by omega) lin.1
        rcases Int.lt_trichotomy C 0 with hc | hc | hc
        · have hc1 : ¬ 0 < C := by omega
          have hc2 : ¬ C = 0 := by omega
          have hc3 : (C == 0) = false := by rw [beq_eq_false_iff_ne]; exact hc2
          have H2 := k2 (by omega)
          by_cases hz : ld = 0
          · have H1 := f2 hz hc
            subst hz
            clear k1 k2 u1 u2 s1 s2 f1 f2 dz b1 b2 b3 b4
            go_wp2
            exact ⟨⟨-R, -C, hn, hd, k + 1, rfl, rfl, rfl, rfl, by go_num, by omega, H1, H2, A0, B⟩, by simp [intOf]; omega⟩
          · have hz' : (ld == 0) = false := by rw [beq_eq_false_iff_ne]; exact hz
            by_cases hl : -C * ln < -R * ld
            · have H1 := u2 hz hc hl
              clear k1 k2 u1 u2 s1 s2 f1 f2 dz
              go_wp2
              exact ⟨⟨-R, -C, hn, hd, k + 1, rfl, rfl, rfl, rfl, by go_num, by omega, H1, H2, A0, B⟩, by simp [intOf]; omega⟩
            · have H1 := s2 hz (by omega)
              clear k1 k2 u1 u2 s1 s2 f1 f2 dz
              go_wp2
              exact ⟨⟨ln, ld, hn, hd, k + 1, rfl, rfl, rfl, rfl, by go_num, by omega, H1, H2, A0, B⟩, by simp [intOf]; omega⟩
        · have H1 := k1 (by omega)
          have H2 := k2 (by omega)
          have hR0 : ¬ R < 0 := by have := dz hc; omega
          subst hc
          clear k1 k2 u1 u2 s1 s2 f1 f2 dz b1 b2 b3 b4
          go_wp2
          exact ⟨⟨ln, ld, hn, hd, k + 1, rfl, rfl, rfl, rfl, by go_num, by omega, H1, H2, A0, B⟩, by simp [intOf]; omega⟩
        · have hc1 : ¬ C < 0 := by omega
          have hc2 : ¬ C = 0 := by omega
          have hc3 : (C == 0) = false := by rw [beq_eq_false_iff_ne]; exact hc2
          have H1 := k1 (by omega)
          by_cases hz : hd = 0
          · have H2 := f1 hz hc
            subst hz
            clear k1 k2 u1 u2 s1 s2 f1 f2 dz b1 b2 b3 b4
            go_wp2
            exact ⟨⟨ln, ld, R, C, k + 1, rfl, rfl, rfl, rfl, by go_num, by omega, H1, H2, A0, B⟩, by simp [intOf]; omega⟩
          · have hz' : (hd == 0) = false := by rw [beq_eq_false_iff_ne]; exact hz
            by_cases hl : R * hd < hn * C
            · have H2 := u1 hz hc hl
              clear k1 k2 u1 u2 s1 s2 f1 f2 dz
              go_wp2
              exact ⟨⟨ln, ld, R, C, k + 1, rfl, rfl, rfl, rfl, by go_num, by omega, H1, H2, A0, B⟩, by simp [intOf]; omega⟩
            · have H2 := s1 hz (by omega)
              clear k1 k2 u1 u2 s1 s2 f1 f2 dz
              go_wp2
              exact ⟨⟨ln, ld, hn, hd, k + 1, rfl, rfl, rfl, rfl, by go_num, by omega, H1, H2, A0, B⟩, by simp [intOf]; omega⟩
    · have hklt : ¬ (k : Int) < (n : Int) := by omega
      obtain rfl : k = n := by omega
      have hT := S.tellsSh hi hhi hlo
      have e : b = decide (ln * hd < hn * ld) := by rw [Bool.eq_iff_iff]; exact hb.trans hT.symm
      have b1 := mul_bound lin.1 hin.2
      have b2 := mul_bound hin.1 lin.2
      clear hT hlo hhi hb
      subst e
      go_wp2
      go_ret
      exact ⟨rfl, B⟩
end Go.Proofs.Ytealbihplfpgeaa
