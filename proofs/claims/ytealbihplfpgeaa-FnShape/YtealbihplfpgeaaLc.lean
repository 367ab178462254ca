/-
  The corners one after the other are seen one after the other. Mathematics alone: no function of the program.
-/
import Derived.Test.YtealbihplfpgeaaKp
namespace Go.Proofs.Ytealbihplfpgeaa
open Go.RowKit Go.Shelf Go.Sort Go.Lib

/-- Corner t, from facet a on. -/
noncomputable def cq (f : Nat → Int) (n a t : Nat) : Nat × Nat := (sq f n a t, sq f n a (t + 1))
/-- The corner's three numbers. -/
def t3 (f : Nat → Int) (p : Nat × Nat) : T3 := (gX f p, gY f p, gD f p)
theorem tn_L (f : Nat → Int) (a b : Nat) (p q : Nat × Nat) : Lf f a b * tn f p q = (ou f a p + f (a * 3 + 2) * gD f p) * (ou f b q + f (b * 3 + 2) * gD f q) - (ou f a q + f (a * 3 + 2) * gD f q) * (ou f b p + f (b * 3 + 2) * gD f p) := by
  unfold tn ou outT Lf cr; grind
theorem three_id (f : Nat → Int) (i : Nat) (p q c : Nat × Nat) : tn f c q * ou f i p + tn f p c * ou f i q - tn f p q * ou f i c = f (i * 3 + 2) * (tn f p q * gD f c - tn f c q * gD f p - tn f p c * gD f q) := by
  unfold tn ou outT; grind
theorem eqc_t3 {f : Nat → Int} {p q : Nat × Nat} : t3 f p = t3 f q ↔ eqc f p q := by
  unfold t3
  simp only [Prod.mk.injEq]
  exact Iff.rfl
section Shape
variable {n : Nat} {f : Nat → Int}
theorem eqc.cfR {o a b c : Nat × Nat} (h : eqc f a b) : Go.Proofs.Ytealbihplfpgeaa.cf f o c a < 0 ↔ Go.Proofs.Ytealbihplfpgeaa.cf f o c b < 0 := by
  rw [cf_lt, cf_lt, h.ht (o := o), h.right c]
theorem SOk.cqIn (S : SOk n f) {a : Nat} (ha : a < n) (sh : Sh f n a) (t : Nat) : cq f n a t ∈ allP f n n := by
  have h := S.sqIs ha sh t
  have q := S.nxtIs h.1
  exact mem_allP.2 (⟨h.1, q.1, S.vx h.1 h.2 q.1 q.2⟩ : (cq f n a t).1 < n ∧ (cq f n a t).2 < n ∧ Vx f n (cq f n a t).1 (cq f n a t).2)
theorem SOk.cqL (S : SOk n f) {a : Nat} (ha : a < n) (sh : Sh f n a) (t : Nat) : ou f (sq f n a t) (cq f n a t) = 0 ∧ ou f (sq f n a (t + 1)) (cq f n a t) = 0 := ⟨ou_zero (S.cqIn ha sh t) (Dt_l f _ _), ou_zero (S.cqIn ha sh t) (Dt_r f _ _)⟩
theorem SOk.cqTurn (S : SOk n f) {a : Nat} (ha : a < n) (sh : Sh f n a) (t : Nat) : 0 < tn f (cq f n a t) (cq f n a (t + 1)) := by
  obtain ⟨p1, p2⟩ := S.cqL ha sh t
  obtain ⟨q1, q2⟩ := S.cqL ha sh (t + 1)
  have hp := S.cqIn ha sh t
  have hq := S.cqIn ha sh (t + 1)
  have h0 := S.sqIs ha sh t
  have h1 := S.sqIs ha sh (t + 1)
  have h2 := S.sqIs ha sh (t + 2)
  have l1 : 0 < Lf f (sq f n a t) (sq f n a (t + 1)) := (S.nxtIs h0.1).2.1
  have l2 : 0 < Lf f (sq f n a (t + 1)) (sq f n a (t + 2)) := (S.nxtIs h1.1).2.1
  obtain ⟨p, ep⟩ : ∃ p, cq f n a t = p := ⟨_, rfl⟩
  obtain ⟨q, eq⟩ : ∃ q, cq f n a (t + 1) = q := ⟨_, rfl⟩
  rw [ep] at p1 p2 hp ⊢
  rw [eq] at q1 q2 hq ⊢
  generalize sq f n a t = i at *
  generalize sq f n a (t + 1) = b at *
  generalize sq f n a (t + 1 + 1) = c at *
  have d := h1.2 c i h2.1 h0.1 l2 (by have := L_swap f b i; omega)
  have z := ou_le hq h0.1
  have dq := (corner_red hq).2
  have dp := (corner_red hp).2
  have gb := S.g h1.1
  have zs : ou f i q < 0 := by
    refine Int.lt_iff_le_and_ne.2 ⟨z, fun e => ?_⟩
    have t3 := ou_three f b c i q
    rw [e, q1, q2] at t3
    have := mul_pp dq d
    omega
  have k := tn_L f i b p q
  rw [p1, p2, q1] at k
  have e : Lf f i b * tn f p q = -(ou f i q) * (f (b * 3 + 2) * gD f p) := by rw [k]; grind
  have m := mul_pp (show 0 < -(ou f i q) by omega) (mul_pp gb dp)
  exact pos_left (by rw [Int.mul_comm]; omega : 0 < tn f p q * Lf f i b) l1
/-- No corner is seen between two that end one stretch. -/
theorem SOk.noBetween (S : SOk n f) {p q c : Nat × Nat} (hp : p ∈ allP f n n) (hq : q ∈ allP f n n) (hc : c ∈ allP f n n) {b : Nat} (hb : b < n) (pb : ou f b p = 0) (qb : ou f b q = 0) (hpq : 0 < tn f p q) (h1 : 0 < tn f p c) (h2 : 0 < tn f c q) : False := by
  have w1 := three_id f b p q c
  rw [pb, qb] at w1
  generalize hW : tn f p q * gD f c - tn f c q * gD f p - tn f p c * gD f q = W at w1
  have ob := ou_le hc hb
  have gb := S.g hb
  have W0 : 0 ≤ W := by
    have m := mul_nz (Int.le_of_lt hpq) ob
    exact nn_left (a := W) (by rw [Int.mul_comm]; simp only [Int.mul_zero] at w1; omega : 0 ≤ W * f (b * 3 + 2)) gb
  have qc := mem_allP.1 hc
  have on : ∀ i, i < n → ou f i c = 0 → ou f i p = 0 ∧ ou f i q = 0 := fun i hi oi => by
    have w2 := three_id f i p q c
    rw [hW, oi, Int.mul_zero, Int.sub_zero] at w2
    have m1 := mul_nz (Int.le_of_lt h2) (ou_le hp hi)
    have m2 := mul_nz (Int.le_of_lt h1) (ou_le hq hi)
    have m3 := mul_nn (Int.le_of_lt (S.g hi)) W0
    have z1 : tn f c q * ou f i p = 0 := by omega
    have z2 : tn f p c * ou f i q = 0 := by omega
    exact ⟨by rcases Int.mul_eq_zero.1 z1 with k | k <;> omega, by rcases Int.mul_eq_zero.1 z2 with k | k <;> omega⟩
  obtain ⟨a1, a2⟩ := on c.1 qc.1 (ou_zero hc (Dt_l f _ _))
  obtain ⟨b1, b2⟩ := on c.2 qc.2.1 (ou_zero hc (Dt_r f _ _))
  have e := two_lines hp hq qc.2.2.1 a1 b1 a2 b2
  rw [e.left q, tn_self] at hpq
  omega
theorem between_a {o p c q : Nat × Nat} (hpq : 0 < tn f p q) (h1 : cf f o p c < 0) (h2 : cf f o c q < 0) : 0 < tn f p c ∧ 0 < tn f c q := by
  rw [cf_lt] at h1 h2
  have P := tn_P f o c p q
  have s := tn_swap f c p
  rcases ht_cases f o p with ⟨x, hx⟩ | ⟨x, nx, hx⟩ <;> rcases ht_cases f o c with ⟨y, hy⟩ | ⟨y, ny, hy⟩ <;> rcases ht_cases f o q with ⟨z, hz⟩ | ⟨z, nz, hz⟩ <;> try (exact ⟨by omega, by omega⟩)
  · -- 0 0 1
    have pc : 0 < tn f p c := by omega
    refine ⟨pc, ?_⟩
    have oc : 0 < tn f o c := by
      rcases hy with hy | hy
      · exfalso
        rw [← hy.right p] at pc
        have s2 := tn_swap f p o
        rcases hx with hx | hx
        · rw [← hx.right o, tn_self] at s2; omega
        · omega
      · exact hy
    have m1 := mul_pp oc hpq
    have m2 := mul_nn (show 0 ≤ -(tn f o q) by omega) (show 0 ≤ -(tn f c p) by omega)
    have m3 : tn f o q * tn f c p = -(tn f o q) * -(tn f c p) := by rw [Int.neg_mul_neg]
    have m4 : 0 < tn f c q * tn f o p := by rw [Int.mul_comm]; omega
    have op : 0 < tn f o p := by
      rcases hx with hx | hx
      · rw [← hx.right o, tn_self, Int.mul_zero] at m4; omega
      · exact hx
    exact pos_left m4 op
  · -- 0 1 1
    have cq' : 0 < tn f c q := by omega
    refine ⟨?_, cq'⟩
    refine Int.not_le.1 fun hn => ?_
    have m1 := mul_nz (Int.le_of_lt hpq) hy
    rw [Int.mul_comm] at m1
    have m2 := mul_zn hz (show 0 ≤ tn f c p by omega)
    rcases hx with hx | hx
    · rw [← hx.left q] at hpq; omega
    · have m3 := mul_pp hx cq'
      omega
theorem SOk.between_b (S : SOk n f) {o p c q : Nat × Nat} (ho : o ∈ allP f n n) (hc : c ∈ allP f n n) (hpq : 0 < tn f p q) (h1 : cf f o q p < 0) (h2 : cf f o p c < 0) : 0 < tn f p c ∧ 0 < tn f c q := by
  rw [cf_lt] at h1 h2
  have P := tn_P f o c p q
  have s := tn_swap f c p
  have s1 := tn_swap f p q
  rcases ht_cases f o p with ⟨x, hx⟩ | ⟨x, nx, hx⟩ <;> rcases ht_cases f o c with ⟨y, hy⟩ | ⟨y, ny, hy⟩ <;> rcases ht_cases f o q with ⟨z, hz⟩ | ⟨z, nz, hz⟩ <;> try (exfalso; omega)
  have pc : 0 < tn f p c := by omega
  refine ⟨pc, ?_⟩
  rcases hz with hz | hz
  · have s2 := tn_swap f o c
    have e := hz.right c
    rcases Int.lt_or_eq_of_le hy with h | h
    · omega
    · exfalso
      obtain ⟨k, t, kp, tz, e1, e2, eq⟩ := S.col ho hc h
      have k1 : k * tn f p c = t * tn f p o := by unfold tn; grind
      rw [hz.right p] at k1
      by_cases tp : 0 < t
      · exact ny (eq tp)
      · have m1 := mul_pp kp pc
        have m2 := mul_zn (show t ≤ 0 by omega) (Int.le_of_lt hpq)
        omega
  · have m1 := mul_zn hy (Int.le_of_lt hpq)
    have m2 := mul_pm hz (show tn f c p < 0 by omega)
    have m3 : tn f c q * tn f o p < 0 := by rw [Int.mul_comm]; omega
    have op : tn f o p < 0 := by
      rcases Int.lt_or_eq_of_le hx with h | h
      · exact h
      · rw [h, Int.mul_zero] at m3; omega
    exact pos_neg m3 op
/-- Corners that are seen one after the other: they are those of the facets one after the other. -/
theorem SOk.follows (S : SOk n f) {a m : Nat} (ha : a < n) (sh : Sh f n a) {o : Nat × Nat} (ho : o ∈ allP f n n) (h0 : eqc f o (cq f n a 0)) {k : Nat → Nat × Nat} (k1 : ∀ j, j < m → k j ∈ allP f n n) (k2 : ∀ i j, i < j → j < m → cf f o (k i) (k j) < 0) (k3 : ∀ c, c ∈ allP f n n → ∃ j, j < m ∧ eqc f c (k j)) : ∀ t, t < m → eqc f (k t) (cq f n a t)
  | 0, ht => by
    obtain ⟨j, hj, e⟩ := k3 o ho
    cases j with
    | zero => exact e.symm.trans h0
    | succ j =>
      exfalso
      have c := k2 0 (j + 1) (by omega) hj
      rw [← e.cfR, cf_lt] at c
      have s := tn_swap f o (k 0)
      have so := tn_self f o
      rcases ht_cases f o o with ⟨y, hy⟩ | ⟨y, ny, hy⟩
      · rcases ht_cases f o (k 0) with ⟨x, hx⟩ | ⟨x, nx, hx⟩
        · rcases hx with hx | hx
          · have := hx.left o
            omega
          · omega
        · omega
      · exact ny ⟨rfl, rfl, rfl⟩
  | t + 1, ht => by
    have ih := S.follows ha sh ho h0 k1 k2 k3 t (by omega)
    have hpq := S.cqTurn ha sh t
    have hp := S.cqIn ha sh t
    have hq := S.cqIn ha sh (t + 1)
    have pb := (S.cqL ha sh t).2
    have qb := (S.cqL ha sh (t + 1)).1
    have hb := (S.sqIs ha sh (t + 1)).1
    have hc := k1 (t + 1) ht
    have h1 := k2 t (t + 1) (by omega) ht
    rw [ih.cf] at h1
    obtain ⟨j, hj, e⟩ := k3 _ hq
    rcases Nat.lt_trichotomy j (t + 1) with h | h | h
    · exfalso
      by_cases ejt : j = t
      · rw [ejt] at e
        have e2 := e.trans ih
        rw [e2.right, tn_self] at hpq
        omega
      · have c := k2 j t (by omega) (by omega)
        rw [← e.cf, ih.cfR] at c
        obtain ⟨b1, b2⟩ := S.between_b ho hc hpq c h1
        exact S.noBetween hp hq hc hb pb qb hpq b1 b2
    · subst h
      exact e.symm
    · exfalso
      have c := k2 (t + 1) j h hj
      rw [← e.cfR] at c
      obtain ⟨b1, b2⟩ := between_a hpq h1 c
      exact S.noBetween hp hq hc hb pb qb hpq b1 b2
/-- Of three facets that show and meet in one corner two are one. -/
theorem SOk.two (S : SOk n f) {p : Nat × Nat} (hp : p ∈ allP f n n) {i k m : Nat} (hi : i < n) (hk : k < n) (hm : m < n) (si : Sh f n i) (sk : Sh f n k) (sm : Sh f n m) (oi : ou f i p = 0) (ok : ou f k p = 0) (om : ou f m p = 0) : i = k ∨ k = m ∨ i = m := by
  have dp := (corner_red hp).2
  have par : ∀ x y, x < n → y < n → ou f x p = 0 → ou f y p = 0 → Lf f x y = 0 → x = y := fun x y hx hy ox oy hl => by
    rcases S.line hx hy hl with e | ⟨e1, e2⟩
    · exact e.symm
    · exfalso
      have m1 := mul_pp (S.g hx) dp
      have m2 := mul_pp (S.g hy) dp
      unfold ou outT at ox oy
      rw [e1, e2] at oy
      grind
  have nd : ∀ x y z, x < n → y < n → z < n → Sh f n x → ou f x p = 0 → ou f y p = 0 → ou f z p = 0 → 0 < Lf f x y → ¬ Lf f x z < 0 := fun x y z hx hy hz sx ox oy oz l1 l2 => by
    have d := sx y z hy hz l1 l2
    have t := ou_three f x y z p
    rw [ox, oy, oz] at t
    have := mul_pp dp d
    omega
  by_cases e1 : Lf f i k = 0
  · exact .inl (par i k hi hk oi ok e1)
  by_cases e2 : Lf f k m = 0
  · exact .inr (.inl (par k m hk hm ok om e2))
  by_cases e3 : Lf f i m = 0
  · exact .inr (.inr (par i m hi hm oi om e3))
  exfalso
  have s1 := L_swap f i k
  have s2 := L_swap f k m
  have s3 := L_swap f i m
  have a1 := nd i k m hi hk hm si oi ok om
  have a2 := nd i m k hi hm hk si oi om ok
  have b1 := nd k i m hk hi hm sk ok oi om
  have b2 := nd k m i hk hm hi sk ok om oi
  have c1 := nd m i k hm hi hk sm om oi ok
  have c2 := nd m k i hm hk hi sm om ok oi
  rcases Int.lt_or_gt_of_ne e1 with x | x <;> rcases Int.lt_or_gt_of_ne e2 with y | y <;> rcases Int.lt_or_gt_of_ne e3 with z | z <;> omega
theorem SOk.nxInj (S : SOk n f) {i j j' : Nat} (hi : i < n) (hj : j < n) (hj' : j' < n) (sh : Sh f n j) (sh' : Sh f n j') (h : Nx f n j i) (h' : Nx f n j' i) : j = j' := by
  have s := L_swap f j j'
  have a : ¬ 0 < Lf f j j' := fun l => S.none hj sh hi h hj' sh' l h'.1
  have b : ¬ 0 < Lf f j' j := fun l => S.none hj' sh' hi h' hj sh l h.1
  rcases S.line hj hj' (by omega) with e | ⟨e1, e2⟩
  · exact e.symm
  · exfalso
    have := opp_R e1 e2 i
    have := h.1
    have := h'.1
    omega
theorem sq_add (a s : Nat) : ∀ t, sq f n a (s + t) = sq f n (sq f n a s) t
  | 0 => rfl
  | t + 1 => by
    show nxt f n (sq f n a (s + t)) = nxt f n (sq f n (sq f n a s) t)
    rw [sq_add a s t]
theorem cq_add (a s t : Nat) : cq f n a (s + t) = cq f n (sq f n a s) t := by
  unfold cq
  rw [sq_add, Nat.add_assoc, sq_add]
theorem shl_nodup : (shl f n).Nodup := List.Pairwise.filter _ List.nodup_range
theorem SOk.sqAll (S : SOk n f) {a : Nat} (ha : a < n) (sh : Sh f n a) {j : Nat} (hj : j < n) (shj : Sh f n j) : ∃ t, t < (shl f n).length ∧ sq f n a t = j :=
  S.cover (sq f n a) ⟨ha, sh⟩ (fun _ _ h _ => S.nxtIs h) hj shj
/-- Every corner is one of these. -/
theorem SOk.cqAll (S : SOk n f) {a : Nat} (ha : a < n) (sh : Sh f n a) {c : Nat × Nat} (hc : c ∈ allP f n n) : ∃ t, t < (shl f n).length ∧ eqc f c (cq f n a t) := by
  have q := mem_allP.1 hc
  obtain ⟨i, k, hi, hk, si, nx, d1, d2⟩ := S.corner q.1 q.2.1 q.2.2
  obtain ⟨t, ht, e⟩ := S.sqAll ha sh hi si
  have e2 : sq f n a (t + 1) = k := by
    have z := S.nxtIs hi
    have := S.nxOne hk z.1 nx z.2
    show nxt f n (sq f n a t) = k
    rw [e, this]
  have l := S.cqL ha sh t
  rw [e, e2] at l
  exact ⟨t, ht, two_lines hc (S.cqIn ha sh t) nx.1 (ou_zero hc d1) (ou_zero hc d2) l.1 l.2⟩
/-- There are as many corners as facets that show, and the facets go round. -/
theorem SOk.round (S : SOk n f) {a m : Nat} (ha : a < n) (sh : Sh f n a) {k : Nat → Nat × Nat} (kne : ∀ i j, i < j → j < m → ¬ eqc f (k i) (k j)) (k3 : ∀ c, c ∈ allP f n n → ∃ j, j < m ∧ eqc f c (k j)) (kq : ∀ t, t < m → eqc f (k t) (cq f n a t)) : m = (shl f n).length ∧ sq f n a m = a := by
  have inj : ∀ s t, s < t → t < m → sq f n a s ≠ sq f n a t := fun s t hst ht e => by
    refine kne s t hst ht ((kq s (by omega)).trans ?_)
    have : cq f n a s = cq f n a t := by
      unfold cq
      rw [show sq f n a (s + 1) = nxt f n (sq f n a s) from rfl, show sq f n a (t + 1) = nxt f n (sq f n a t) from rfl, e]
    rw [this]
    exact (kq t ht).symm
  have nx : ∀ t, 0 < Lf f (sq f n a t) (sq f n a (t + 1)) := fun t => (S.nxtIs (S.sqIs ha sh t).1).2.1
  have back : ∃ j, j < m ∧ sq f n a m = sq f n a j := by
    obtain ⟨j, hj, e⟩ := k3 _ (S.cqIn ha sh m)
    have e := e.trans (kq j hj)
    have lm := S.cqL ha sh m
    have lj := S.cqL ha sh j
    have tr : ∀ i, ou f i (cq f n a m) = 0 → ou f i (cq f n a j) = 0 := fun i h => by unfold ou at h ⊢; rw [← e.1, ← e.2.1, ← e.2.2]; exact h
    have x0 := S.sqIs ha sh j
    have x1 := S.sqIs ha sh (j + 1)
    have y0 := S.sqIs ha sh m
    have y1 := S.sqIs ha sh (m + 1)
    have l0 := nx j
    have l1 := nx m
    rcases S.two (S.cqIn ha sh j) x0.1 x1.1 y0.1 x0.2 x1.2 y0.2 lj.1 lj.2 (tr _ lm.1) with c | c | c
    · rw [← c, L_self] at l0; omega
    · by_cases hjm : j + 1 = m
      · exfalso
        rcases S.two (S.cqIn ha sh j) x0.1 y0.1 y1.1 x0.2 y0.2 y1.2 lj.1 (tr _ lm.1) (tr _ lm.2) with d | d | d
        · rw [c, ← d, L_self] at l0; omega
        · rw [← d, L_self] at l1; omega
        · rw [← d] at l1
          rw [c] at l0
          have := L_swap f (sq f n a j) (sq f n a m)
          omega
      · exact ⟨j + 1, by omega, c.symm⟩
    · exact ⟨j, hj, c.symm⟩
  obtain ⟨j, hj, e⟩ := back
  have j0 : j = 0 := by
    cases j with
    | zero => rfl
    | succ j =>
      exfalso
      obtain ⟨m', rfl⟩ : ∃ m', m = m' + 1 := ⟨m - 1, by omega⟩
      have x := S.sqIs ha sh m'
      have y := S.sqIs ha sh j
      have n1 := S.nxtIs x.1
      have n2 := S.nxtIs y.1
      have e' : nxt f n (sq f n a m') = nxt f n (sq f n a j) := e
      rw [← e'] at n2
      exact inj j m' (by omega) (by omega) (S.nxInj n1.1 y.1 x.1 y.2 x.2 n2.2 n1.2)
  subst j0
  have per : ∀ t, ∃ s, s < m ∧ sq f n a t = sq f n a s := fun t => by
    induction t with
    | zero => exact ⟨0, hj, rfl⟩
    | succ t ih =>
      obtain ⟨s, hs, es⟩ := ih
      have h1 : sq f n a (t + 1) = sq f n a (s + 1) := by show nxt f n (sq f n a t) = nxt f n (sq f n a s); rw [es]
      by_cases hsm : s + 1 = m
      · exact ⟨0, hj, by rw [h1, hsm, e]⟩
      · exact ⟨s + 1, by omega, h1⟩
  refine ⟨?_, e⟩
  have g1 : (shl f n).length ≤ ((List.range m).map (sq f n a)).length := nodup_le _ _ shl_nodup (fun x hx => by
    obtain ⟨h1, h2⟩ := mem_shl.1 hx
    obtain ⟨t, -, et⟩ := S.sqAll ha sh h1 h2
    obtain ⟨s, hs, es⟩ := per t
    exact List.mem_map.2 ⟨s, List.mem_range.2 hs, by rw [← es, et]⟩)
  have g2 : ((List.range m).map (sq f n a)).length ≤ (shl f n).length := nodup_le _ _ (by
    rw [List.nodup_iff_pairwise_ne, List.pairwise_map]
    refine List.Pairwise.imp_of_mem ?_ List.pairwise_lt_range
    intro x y hx hy hxy
    exact inj x y hxy (List.mem_range.1 hy)) (fun x hx => by
    obtain ⟨t, -, rfl⟩ := List.mem_map.1 hx
    exact mem_shl.2 (S.sqIs ha sh t))
  rw [List.length_map, List.length_range] at g1 g2
  omega
/-- What is kept is seen one after the other. -/
theorem SOk.keptSeen (S : SOk n f) {l : List (Nat × Nat)} {o : Nat × Nat} (hp : l.Perm (allP f n n)) (ho : o ∈ allP f n n) (hs : Seen f o l) : ∃ k : Nat → Nat × Nat, (∀ j, j < (kept f l).size → k j ∈ allP f n n ∧ (kept f l)[j]! = t3 f (k j)) ∧ (∀ i j, i < j → j < (kept f l).size → cf f o (k i) (k j) < 0) ∧ ∀ c, c ∈ allP f n n → ∃ j, j < (kept f l).size ∧ eqc f c (k j) := by
  have hm : ∀ j, j < (kept f l).size → ∃ p, p ∈ allP f n n ∧ (kept f l)[j]! = t3 f p := fun j hj => by
    obtain ⟨p, h1, h2⟩ := kept_mem hj
    exact ⟨p, hp.mem_iff.1 h1, h2⟩
  let k : Nat → Nat × Nat := fun j => @dite (Nat × Nat) (j < (kept f l).size) (Classical.propDecidable _) (fun h => Classical.choose (hm j h)) (fun _ => o)
  have hk : ∀ j, j < (kept f l).size → k j ∈ allP f n n ∧ (kept f l)[j]! = t3 f (k j) := fun j hj => by
    have e : k j = Classical.choose (hm j hj) := dif_pos hj
    rw [e]
    exact Classical.choose_spec (hm j hj)
  refine ⟨k, hk, fun i j hij hj => ?_, fun c hc => ?_⟩
  · have hpw : (compactUpTo (d3 f l) (d3 f l).size).Pairwise (fun x y => ∃ p q, x = t3 f p ∧ y = t3 f q ∧ cf f o p q < 0) := by
      unfold compactUpTo
      rw [List.pairwise_map]
      have h1 : ((List.range (d3 f l).size).filter (keeps (d3 f l))).Pairwise (· < ·) := List.Pairwise.filter _ List.pairwise_lt_range
      refine List.Pairwise.imp_of_mem ?_ h1
      intro x y hx hy hxy
      have hy' := List.mem_filter.1 hy
      have hyl : y < l.length := by have := List.mem_range.1 hy'.1; rwa [d3_size] at this
      have hxl : x < l.length := by omega
      have ne := S.keptApart hp ho hs hxy hyl hy'.2
      rw [Ne, d3_eq hxl hyl] at ne
      refine ⟨l[x], l[y], d3_get f l hxl, d3_get f l hyl, Classical.byContradiction fun h => ne ?_⟩
      have hs' := List.pairwise_iff_getElem.1 hs x y hxl hyl hxy
      exact S.tri ho (hp.mem_iff.1 (List.getElem_mem hxl)) (hp.mem_iff.1 (List.getElem_mem hyl)) h hs'
    obtain ⟨p, q, e1, e2, h⟩ := List.pairwise_iff_getElem.1 hpw i j (Nat.lt_trans hij hj) hj hij
    have h1 := (hk i (Nat.lt_trans hij hj)).2
    have h2 := (hk j hj).2
    rw [getElem!_pos (kept f l) i (Nat.lt_trans hij hj)] at h1
    rw [getElem!_pos (kept f l) j hj] at h2
    have x1 : eqc f p (k i) := eqc_t3.1 (e1.symm.trans h1)
    have x2 : eqc f q (k j) := eqc_t3.1 (e2.symm.trans h2)
    exact x1.cf.1 (x2.cfR.1 h)
  · obtain ⟨x, hx, e⟩ := List.mem_iff_getElem.1 (hp.mem_iff.2 hc)
    obtain ⟨j, hj, e'⟩ := kept_has (f := f) x hx
    refine ⟨j, hj, ?_⟩
    rw [← eqc_t3, ← (hk j hj).2, e', d3_get f l hx, e]
    rfl
/-- Both orders are one. -/
theorem SOk.cornersOne (S : SOk n f) {l : List (Nat × Nat)} {o : Nat × Nat} (hp : l.Perm (allP f n n)) (ho : o ∈ allP f n n) (hs : Seen f o l) (hL : LeastC f n o) {a r : Nat} (ha : a < n) (sh : Sh f n a)
    (hr : ∀ j, j < (shl f n).length → ¬ (gX f (cq f n a j) * gD f (cq f n a r) < gX f (cq f n a r) * gD f (cq f n a j) ∨ (gX f (cq f n a j) * gD f (cq f n a r) = gX f (cq f n a r) * gD f (cq f n a j) ∧ gY f (cq f n a j) * gD f (cq f n a r) < gY f (cq f n a r) * gD f (cq f n a j)))) :
    (kept f l).size = (shl f n).length ∧ (∀ t, t < (shl f n).length → (kept f l)[t]! = t3 f (cq f n a (r + t))) ∧ ∀ t, sq f n a (t + (shl f n).length) = sq f n a t := by
  obtain ⟨k, h1, h2, h3⟩ := S.keptSeen hp ho hs
  have hb := S.sqIs ha sh r
  have hcr := S.cqIn ha sh r
  have e0 : eqc f o (cq f n a r) := by
    obtain ⟨j, hj, e⟩ := S.cqAll ha sh ho
    have x := hr j hj
    have y := hL _ hcr
    rw [← e.1, ← e.2.1, ← e.2.2] at x
    obtain ⟨r1, d1⟩ := corner_red ho
    obtain ⟨r2, d2⟩ := corner_red hcr
    exact prop_same r1 r2 d1 d2 (by omega) (by omega)
  have kq := S.follows hb.1 hb.2 ho (by rw [← cq_add]; exact e0) (fun j hj => (h1 j hj).1) h2 h3
  have kne : ∀ i j, i < j → j < (kept f l).size → ¬ eqc f (k i) (k j) := fun i j hij hj e => by
    have c := h2 i j hij hj
    rw [e.cf, cf_lt, tn_self] at c
    omega
  obtain ⟨m1, m2⟩ := S.round hb.1 hb.2 kne h3 kq
  refine ⟨m1, fun t ht => ?_, fun t => ?_⟩
  · rw [(h1 t (by omega)).2, cq_add]
    exact eqc_t3.2 (kq t (by omega))
  · obtain ⟨s, hs', es⟩ := S.sqAll hb.1 hb.2 ha sh
    rw [m1] at m2
    have e : sq f n a (shl f n).length = a := by
      have z := sq_add (f := f) (n := n) (sq f n a r) s (shl f n).length
      rw [es, Nat.add_comm, sq_add, m2, es] at z
      exact z.symm
    rw [Nat.add_comm, sq_add, e]
end Shape
end Go.Proofs.Ytealbihplfpgeaa
