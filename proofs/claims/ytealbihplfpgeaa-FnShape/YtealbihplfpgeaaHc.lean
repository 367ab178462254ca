/-
  Where two lines meet, by the program and by the specification; what lies outside: walked.
-/
import Derived.Test.YtealbihplfpgeaaHb
namespace Go.Proofs.Ytealbihplfpgeaa
open Go.RowKit

theorem put3c {t : TypeId} {w : World} {q : Nat} {u0 u1 u2 : Value} (h : At t w q #[u0, u1, u2]) (v0 v1 v2 : Value) : At t (((w.setCell ⟨q, 0, none⟩ v0).setCell ⟨q, 1, none⟩ v1).setCell ⟨q, 2, none⟩ v2) q #[v0, v1, v2] := by
  have := ((h.set 0 v0).set 1 v1).set 2 v2
  simpa using this
/-- No more is held. -/
def AnyW (_ : World) : Prop := True
/-- How far a point lies outside of a facet. -/
def outT (a b c x y d : Int) : Int := a * x + b * y - c * d
theorem outside_any (a b c x y d : Int) (w : World) (ha : -50 ≤ a ∧ a ≤ 50) (hb : -50 ≤ b ∧ b ≤ 50) (hc : -1000 ≤ c ∧ c ≤ 1000) (hx : -100000 ≤ x ∧ x ≤ 100000) (hy : -100000 ≤ y ∧ y ≤ 100000) (hd : -5000 ≤ d ∧ d ≤ 5000) :
    Calls Try.prog 59 #[fV a b c, fV x y d] w fun e w' => e = .returned (.int .i64 (outT a b c x y d)) ∧ Below w.heap.size w w' := by
  have m1 := mul_bound ha hx
  have m2 := mul_bound hb hy
  have m3 := mul_bound hc hd
  obtain ⟨W, hW, b0, b1, bW, -⟩ := boxed2 w 35 33 #[.int .i64 a, .int .i64 b, .int .i64 c] #[.int .i64 x, .int .i64 y, .int .i64 d]
  obtain ⟨c0, c1, c2, -⟩ := b0.open3
  obtain ⟨d0, d1, d2, -⟩ := b1.open3
  go_enter Try.func59, Try.ntmps59
  go_wp2
  go_ret
  exact ⟨rfl, bW⟩
/-- None of the first k facets has the point outside. -/
def InTo (f : Nat → Int) (x y d : Int) (k : Nat) : Prop := ∀ i, i < k → outT (f (i * 3)) (f (i * 3 + 1)) (f (i * 3 + 2)) x y d ≤ 0
theorem isIn_any {w : World} {g n c : Nat} {f : Nat → Int} {x y d : Int} (h : Trips w g n f) (hn : n ≤ 1048576) (hr : ∀ i, i < n → Rt f i = true) (hx : -100000 ≤ x ∧ x ≤ 100000) (hy : -100000 ≤ y ∧ y ≤ 100000) (hd : -5000 ≤ d ∧ d ≤ 5000) (b : Bool) (hb : Tells b (InTo f x y d n)) :
    Calls Try.prog 65 #[fV x y d, .slice (some ⟨g, 0, none⟩) n c] w fun e w' => e = .returned (.bool b) ∧ Below w.heap.size w w' := by
  obtain ⟨W, hW, b0, bW, -⟩ := boxed w 33 #[.int .i64 x, .int .i64 y, .int .i64 d]
  go_enter Try.func65, Try.ntmps65
  go_wp2
  clear hW
  go_loopw [9] (fun s wr => ∃ k : Nat, k ≤ n ∧ s = .int .i64 k ∧ InTo f x y d k ∧ Below W.heap.size W wr) (fun s _ => n - (intOf s).toNat)
  case atStart => exact ⟨0, Nat.zero_le _, rfl, fun i hi => by omega, Below.refl _ _⟩
  case round =>
    obtain ⟨k, hk, rfl, hok, B⟩ := hrel
    have BB := bW.trans (B.mono bW.size)
    by_cases hlt : k < n
    · have hlt' : (k : Int) < (n : Int) := by omega
      have L := h.below BB
      have hq := L.1
      obtain ⟨c0, c1, c2⟩ := L.open k hlt
      clear L
      obtain ⟨V, hV, a1, bV, -⟩ := boxed wr 35 #[.int .i64 (f (k * 3)), .int .i64 (f (k * 3 + 1)), .int .i64 (f (k * 3 + 2))]
      have B' := B.trans (bV.mono B.size)
      obtain ⟨d0, d1, d2, -⟩ := a1.open3
      have a0 := b0.below B'
      obtain ⟨e0, e1, e2, -⟩ := a0.open3
      have rk := Rt.in (hr k hlt)
      have K1 := outside_any (f (k * 3)) (f (k * 3 + 1)) (f (k * 3 + 2)) x y d V rk.1 rk.2.1 (by omega) hx hy hd
      obtain ⟨o, ho⟩ : ∃ o, outT (f (k * 3)) (f (k * 3 + 1)) (f (k * 3 + 2)) x y d = o := ⟨_, rfl⟩
      rw [ho] at K1
      by_cases hl : 0 < o
      · obtain rfl : b = false := by
          rw [Bool.eq_false_iff]; intro e; have := hb.1 e k hlt; rw [ho] at this; omega
        clear hok hb b0 a0 a1 ho
        go_wp2_with fail
        refine K1.mono ?_
        rintro e w3 ⟨rfl, b3⟩
        clear K1
        go_wp2
        go_ret
        exact ⟨rfl, bW.trans ((B'.trans (b3.mono B'.size)).mono bW.size)⟩
      · have HO : InTo f x y d (k + 1) := fun i hi => by
          by_cases e : i = k
          · rw [e, ho]; omega
          · exact hok i (by omega)
        clear hok hb b0 a0 a1 ho
        go_wp2_with fail
        refine K1.mono ?_
        rintro e w3 ⟨rfl, b3⟩
        clear K1
        go_wp2
        exact ⟨⟨k + 1, by omega, by go_num, HO, B'.trans (b3.mono B'.size)⟩, by simp [intOf]; omega⟩
    · have hlt' : ¬ (k : Int) < (n : Int) := by omega
      obtain rfl : k = n := by omega
      obtain rfl : b = true := hb.2 hok
      go_wp2
      go_ret
      exact ⟨rfl, BB⟩
/-- The greatest divisor of three. -/
def gd3 (x y d : Int) : Int := ((Int.gcd ((Int.gcd x y : Nat) : Int) d : Nat) : Int)
def gTo (q : Nat → Int) : Nat → Int
  | 0 => 0
  | k + 1 => ((Int.gcd (gTo q k) (q k) : Nat) : Int)
theorem gTo3 (q : Nat → Int) : gTo q 3 = gd3 (q 0) (q 1) (q 2) := by
  simp [gTo, gd3, Int.gcd]
theorem gTo_le (q : Nat → Int) (hq : ∀ i, -100000 ≤ q i ∧ q i ≤ 100000) : ∀ k, 0 ≤ gTo q k ∧ gTo q k ≤ 100000
  | 0 => ⟨Int.le_refl _, by show (0 : Int) ≤ 100000; decide⟩
  | k + 1 => by
    have ih := gTo_le q hq k
    have h := hq k
    refine ⟨Int.natCast_nonneg _, ?_⟩
    show ((Int.gcd (gTo q k) (q k) : Nat) : Int) ≤ 100000
    by_cases e : q k = 0
    · rw [e, Int.gcd_zero_right]; omega
    · have := Nat.le_of_dvd (by omega) (Int.gcd_dvd_natAbs_right (gTo q k) (q k))
      omega
theorem divAll_any {w : World} {p : Nat} {q : Nat → Int} (h : Ints w p 0 3 q) (hp : p < w.heap.size) (hq : ∀ i, -100000 ≤ q i ∧ q i ≤ 100000) :
    Calls Try.prog 80 #[.slice (some ⟨p, 0, none⟩) 3 3] w fun e w' => e = .returned (.int .i64 (gd3 (q 0) (q 1) (q 2))) ∧ Below w.heap.size w w' := by
  rw [← gTo3]
  go_enter Try.func80, Try.ntmps80
  go_wp2
  go_loopw [3, 8] (fun s t wr => ∃ k : Nat, k ≤ 3 ∧ s = .int .i64 (gTo q k) ∧ t = .int .i64 k ∧ Below w.heap.size w wr) (fun _ t _ => 3 - (intOf t).toNat)
  case atStart => exact ⟨0, by omega, rfl, rfl, Below.refl _ _⟩
  case round =>
    obtain ⟨k, hk, rfl, rfl, B⟩ := hrel
    by_cases hlt : k < 3
    · have hlt' : (k : Int) < 3 := by omega
      have c0 := h.below hp B k hlt
      rw [Nat.zero_add] at c0
      have e1 := gTo_le q hq k
      have e2 := hq k
      have e3 : ((Int.gcd (gTo q k) (q k) : Nat) : Int) = gTo q (k + 1) := rfl
      have hpl := Nat.lt_of_lt_of_le hp B.size
      go_wp2_with fail
      refine (implGcd_any _ _ _ (by omega) (by omega)).mono ?_
      rintro e w3 ⟨rfl, b3⟩
      rw [e3]
      go_wp2
      exact ⟨⟨k + 1, by omega, rfl, by go_num, B.trans (b3.mono B.size)⟩, by simp [intOf]; omega⟩
    · have hlt' : ¬ (k : Int) < 3 := by omega
      obtain rfl : k = 3 := by omega
      go_wp2
      go_ret
      exact ⟨rfl, B⟩
def q3d (X Y D : Int) : Nat → Int := fun i => match i with | 0 => X | 1 => Y | 2 => D | _ => 0
theorem q3d_in {X Y D : Int} (hX : -100000 ≤ X ∧ X ≤ 100000) (hY : -100000 ≤ Y ∧ Y ≤ 100000) (hD : -100000 ≤ D ∧ D ≤ 100000) : ∀ i, -100000 ≤ q3d X Y D i ∧ q3d X Y D i ≤ 100000 := fun i => by
  rcases i with _ | _ | _ | i
  · exact hX
  · exact hY
  · exact hD
  · show -100000 ≤ (0 : Int) ∧ (0 : Int) ≤ 100000; omega
theorem divAll3 {w : World} {p : Nat} {X Y D : Int} (h : At 2 w p #[.int .i64 X, .int .i64 Y, .int .i64 D]) (hX : -100000 ≤ X ∧ X ≤ 100000) (hY : -100000 ≤ Y ∧ Y ≤ 100000) (hD : -100000 ≤ D ∧ D ≤ 100000) :
    Calls Try.prog 80 #[.slice (some ⟨p, 0, none⟩) 3 3] w fun e w' => e = .returned (.int .i64 (gd3 X Y D)) ∧ Below w.heap.size w w' :=
  divAll_any (q := q3d X Y D) (fun i hi => by
    rcases (by omega : i = 0 ∨ i = 1 ∨ i = 2) with rfl | rfl | rfl
    · exact h.cell 0 rfl
    · exact h.cell 1 rfl
    · exact h.cell 2 rfl) h.lt (q3d_in hX hY hD)
theorem gd3_le {X Y D : Int} (hX : -100000 ≤ X ∧ X ≤ 100000) (hY : -100000 ≤ Y ∧ Y ≤ 100000) (hD : -100000 ≤ D ∧ D ≤ 100000) : gd3 X Y D ≤ 100000 := by
  have := gTo_le (q3d X Y D) (q3d_in hX hY hD) 3
  rw [gTo3] at this
  exact this.2
def mX (b g d h : Int) : Int := g * d - h * b
def mY (a g c h : Int) : Int := a * h - c * g
/-- (x, y, d) is where the lines (a, b, g) and (c, c', h) meet, nothing above 1 dividing all three. -/
structure CN (a b g c c' h : Int) (k x y d : Int) : Prop where
  kE : k = gd3 (mX b g c' h) (mY a g c h) (cr a b c c')
  pos : 0 < k
  xE : mX b g c' h = k * x
  yE : mY a g c h = k * y
  dE : cr a b c c' = k * d
  dp : 0 < d
theorem tdiv_of {m k x : Int} (h : m = k * x) (hk : 0 < k) : m.tdiv k = x := by rw [h, Int.mul_tdiv_cancel_left _ (by omega)]
theorem cn_of {a b g c c' h : Int} (hl : 0 < cr a b c c') : ∃ k x y d, CN a b g c c' h k x y d := by
  have d1 : gd3 (mX b g c' h) (mY a g c h) (cr a b c c') ∣ cr a b c c' := Int.gcd_dvd_right _ _
  have d0 : gd3 (mX b g c' h) (mY a g c h) (cr a b c c') ∣ ((Int.gcd (mX b g c' h) (mY a g c h) : Nat) : Int) := Int.gcd_dvd_left _ _
  obtain ⟨x, hx⟩ := Int.dvd_trans d0 (Int.gcd_dvd_left (mX b g c' h) (mY a g c h))
  obtain ⟨y, hy⟩ := Int.dvd_trans d0 (Int.gcd_dvd_right (mX b g c' h) (mY a g c h))
  obtain ⟨d, hd⟩ := d1
  have kn : 0 ≤ gd3 (mX b g c' h) (mY a g c h) (cr a b c c') := Int.natCast_nonneg _
  have kp : 0 < gd3 (mX b g c' h) (mY a g c h) (cr a b c c') := by
    rcases Int.lt_or_eq_of_le kn with h | h
    · exact h
    · rw [← h, Int.zero_mul] at hd; omega
  exact ⟨_, x, y, d, rfl, kp, hx, hy, hd, pos_left (b := gd3 (mX b g c' h) (mY a g c h) (cr a b c c')) (by rw [Int.mul_comm, ← hd]; exact hl) kp⟩
theorem CN.in {a b g c c' h k x y d : Int} (q : CN a b g c c' h k x y d) (hm : -100000 ≤ mX b g c' h ∧ mX b g c' h ≤ 100000) (hn : -100000 ≤ mY a g c h ∧ mY a g c h ≤ 100000) (hl : cr a b c c' ≤ 5000) :
    (-100000 ≤ x ∧ x ≤ 100000) ∧ (-100000 ≤ y ∧ y ≤ 100000) ∧ (-5000 ≤ d ∧ d ≤ 5000) := by
  have big : ∀ {m z : Int}, m = k * z → z.natAbs ≤ m.natAbs := fun {m z} e => by
    have e2 : m.natAbs = k.natAbs * z.natAbs := by rw [e, Int.natAbs_mul]
    rw [e2]
    exact Nat.le_mul_of_pos_left _ (by have := q.pos; omega)
  have h1 := big q.xE
  have h2 := big q.yE
  have h3 := big q.dE
  have := q.dp
  have : 0 < cr a b c c' := by rw [q.dE]; exact mul_pp q.pos q.dp
  omega
theorem cr_in2 {a b c d : Int} (ha : -50 ≤ a ∧ a ≤ 50) (hb : -50 ≤ b ∧ b ≤ 50) (hc : -50 ≤ c ∧ c ≤ 50) (hd : -50 ≤ d ∧ d ≤ 50) : -5000 ≤ cr a b c d ∧ cr a b c d ≤ 5000 := by
  have m1 := mul_bound ha hd
  have m2 := mul_bound hb hc
  unfold cr
  omega
theorem m_in {b g d h : Int} (hb : -50 ≤ b ∧ b ≤ 50) (hg : -1000 ≤ g ∧ g ≤ 1000) (hd : -50 ≤ d ∧ d ≤ 50) (hh : -1000 ≤ h ∧ h ≤ 1000) : -100000 ≤ mX b g d h ∧ mX b g d h ≤ 100000 := by
  have m1 := mul_bound hg hd
  have m2 := mul_bound hh hb
  unfold mX
  omega
theorem m_in' {a g c h : Int} (ha : -50 ≤ a ∧ a ≤ 50) (hg : -1000 ≤ g ∧ g ≤ 1000) (hc : -50 ≤ c ∧ c ≤ 50) (hh : -1000 ≤ h ∧ h ≤ 1000) : -100000 ≤ mY a g c h ∧ mY a g c h ≤ 100000 := by
  have m1 := mul_bound ha hh
  have m2 := mul_bound hc hg
  unfold mY
  omega
set_option maxHeartbeats 3200000 in
theorem crossing_any (a b g c c' h k x y d : Int) (w : World) (ha : -50 ≤ a ∧ a ≤ 50) (hb : -50 ≤ b ∧ b ≤ 50) (hg : -1000 ≤ g ∧ g ≤ 1000) (hc : -50 ≤ c ∧ c ≤ 50) (hc' : -50 ≤ c' ∧ c' ≤ 50) (hh : -1000 ≤ h ∧ h ≤ 1000) (q : CN a b g c c' h k x y d) :
    Calls Try.prog 64 #[fV a b g, fV c c' h] w fun e w' => e = .returned (fV x y d) ∧ Below w.heap.size w w' := by
  have mx := m_in hb hg hc' hh
  have my := m_in' ha hg hc hh
  have mc := cr_in2 ha hb hc hc'
  have p1 := mul_bound hg hc'
  have p2 := mul_bound hh hb
  have p3 := mul_bound ha hh
  have p4 := mul_bound hc hg
  have w1 : IntKind.i64.wrap (g * c') = g * c' := IntWalk.i64_in _ (by omega)
  have w2 : IntKind.i64.wrap (h * b) = h * b := IntWalk.i64_in _ (by omega)
  have w3 : IntKind.i64.wrap (g * c' - h * b) = g * c' - h * b := IntWalk.i64_in _ (by omega)
  have w4 : IntKind.i64.wrap (a * h) = a * h := IntWalk.i64_in _ (by omega)
  have w5 : IntKind.i64.wrap (c * g) = c * g := IntWalk.i64_in _ (by omega)
  have w6 : IntKind.i64.wrap (a * h - c * g) = a * h - c * g := IntWalk.i64_in _ (by omega)
  have hk := q.kE
  have t1 := tdiv_of q.xE q.pos
  have t2 := tdiv_of q.yE q.pos
  have t3 := tdiv_of q.dE q.pos
  have kp := q.pos
  have kb : k ≤ 100000 := by rw [hk]; exact gd3_le mx my (by omega)
  have xin := q.in mx my mc.2
  clear p1 p2 p3 p4 q
  obtain ⟨X, hX⟩ : ∃ X, g * c' - h * b = X := ⟨_, rfl⟩
  obtain ⟨Y, hY⟩ : ∃ X, a * h - c * g = X := ⟨_, rfl⟩
  obtain ⟨D, hD⟩ : ∃ X, cr a b c c' = X := ⟨_, rfl⟩
  rw [show mX b g c' h = X from hX] at mx hk t1
  rw [show mY a g c h = Y from hY] at my hk t2
  rw [hD] at mc hk t3
  rw [hX] at w3
  rw [hY] at w6
  obtain ⟨P1, hP1⟩ : ∃ X, g * c' = X := ⟨_, rfl⟩
  obtain ⟨P2, hP2⟩ : ∃ X, h * b = X := ⟨_, rfl⟩
  obtain ⟨P3, hP3⟩ : ∃ X, a * h = X := ⟨_, rfl⟩
  obtain ⟨P4, hP4⟩ : ∃ X, c * g = X := ⟨_, rfl⟩
  rw [hP1] at w1 hX
  rw [hP2] at w2 hX
  rw [hP3] at w4 hY
  rw [hP4] at w5 hY
  obtain ⟨W, hW, A0, A1, A2, B, -⟩ := boxed3 w 35 35 33 #[.int .i64 a, .int .i64 b, .int .i64 g] #[.int .i64 c, .int .i64 c', .int .i64 h] #[.int .i64 0, .int .i64 0, .int .i64 0]
  go_enter Try.func64, Try.ntmps64
  go_wp2_with fail
  clear hW
  obtain ⟨u0, hu0, bb⟩ : ∃ uu, W.drew = uu ∧ Below W.heap.size W uu := ⟨_, rfl, (Below.refl _ _).drew⟩
  replace A0 := A0.below bb
  replace A1 := A1.below bb
  replace A2 := A2.below bb
  replace B := B.trans (bb.mono B.size)
  clear bb
  refine wp_region_held_drew (S := Kb u0) (by kernel_rfl) (by rw [hu0]; exact Below.refl _ _) (fun hHeld => ?_)
  rw [hu0] at hHeld ⊢
  clear hu0
  have bu : Kb u0 u0 := Below.refl _ _
  change wpAnyH _ _ _ _ _ 28 #[false, false, false, false, false, false, false, false, false, false, false, false, false, false, false, false, false, false, false, false, false, false, false, false, false, false, false, false] _ _
  refine wpAnyH_take (i := 0) (v := .pointer (some ⟨w.heap.size, 2, none⟩)) rfl (by kernel_rfl) (by kernel_rfl) (by kernel_rfl) (fun _ _ _ h => h) (Or.inl ⟨by kernel_rfl, ?_⟩) hHeld ?_
  · intro w' hSw; go_simp
  try simp only [Act.put, List.setIfInBounds_toArray, List.set_cons_zero, List.set_cons_succ, List.getElem_toArray, List.getElem_cons_zero]
  refine wpAnyH_take (i := 1) (v := .int .i64 g) rfl (by kernel_rfl) (by kernel_rfl) (by kernel_rfl) (fun _ _ _ h => h) (Or.inl ⟨by kernel_rfl, ?_⟩) hHeld ?_
  · intro w' hSw; obtain ⟨z0, z1, z2, -⟩ := (A0.below hSw).open3; go_simp
  try simp only [Act.put, List.setIfInBounds_toArray, List.set_cons_zero, List.set_cons_succ, List.getElem_toArray, List.getElem_cons_succ, List.getElem_cons_zero]
  refine wpAnyH_take (i := 2) (v := .pointer (some ⟨w.heap.size + 1, 1, none⟩)) rfl (by kernel_rfl) (by kernel_rfl) (by kernel_rfl) (fun _ _ _ h => h) (Or.inl ⟨by kernel_rfl, ?_⟩) hHeld ?_
  · intro w' hSw; go_simp
  try simp only [Act.put, List.setIfInBounds_toArray, List.set_cons_zero, List.set_cons_succ, List.getElem_toArray, List.getElem_cons_succ, List.getElem_cons_zero]
  refine wpAnyH_take (i := 3) (v := .int .i64 c') rfl (by kernel_rfl) (by kernel_rfl) (by kernel_rfl) (fun _ _ _ h => h) (Or.inl ⟨by kernel_rfl, ?_⟩) hHeld ?_
  · intro w' hSw; obtain ⟨z0, z1, z2, -⟩ := (A1.below hSw).open3; go_simp
  try simp only [Act.put, List.setIfInBounds_toArray, List.set_cons_zero, List.set_cons_succ, List.getElem_toArray, List.getElem_cons_succ, List.getElem_cons_zero]
  refine wpAnyH_take (i := 4) (v := .int .i64 P1) rfl (by kernel_rfl) (by kernel_rfl) (by kernel_rfl) (fun _ _ _ h => h) (Or.inl ⟨by kernel_rfl, ?_⟩) hHeld ?_
  · intro w' hSw; go_simp
  try simp only [Act.put, List.setIfInBounds_toArray, List.set_cons_zero, List.set_cons_succ, List.getElem_toArray, List.getElem_cons_succ, List.getElem_cons_zero]
  refine wpAnyH_take (i := 5) (v := .pointer (some ⟨w.heap.size + 1, 2, none⟩)) rfl (by kernel_rfl) (by kernel_rfl) (by kernel_rfl) (fun _ _ _ h => h) (Or.inl ⟨by kernel_rfl, ?_⟩) hHeld ?_
  · intro w' hSw; go_simp
  try simp only [Act.put, List.setIfInBounds_toArray, List.set_cons_zero, List.set_cons_succ, List.getElem_toArray, List.getElem_cons_succ, List.getElem_cons_zero]
  refine wpAnyH_take (i := 6) (v := .int .i64 h) rfl (by kernel_rfl) (by kernel_rfl) (by kernel_rfl) (fun _ _ _ h => h) (Or.inl ⟨by kernel_rfl, ?_⟩) hHeld ?_
  · intro w' hSw; obtain ⟨z0, z1, z2, -⟩ := (A1.below hSw).open3; go_simp
  try simp only [Act.put, List.setIfInBounds_toArray, List.set_cons_zero, List.set_cons_succ, List.getElem_toArray, List.getElem_cons_succ, List.getElem_cons_zero]
  refine wpAnyH_take (i := 7) (v := .pointer (some ⟨w.heap.size, 1, none⟩)) rfl (by kernel_rfl) (by kernel_rfl) (by kernel_rfl) (fun _ _ _ h => h) (Or.inl ⟨by kernel_rfl, ?_⟩) hHeld ?_
  · intro w' hSw; go_simp
  try simp only [Act.put, List.setIfInBounds_toArray, List.set_cons_zero, List.set_cons_succ, List.getElem_toArray, List.getElem_cons_succ, List.getElem_cons_zero]
  refine wpAnyH_take (i := 8) (v := .int .i64 b) rfl (by kernel_rfl) (by kernel_rfl) (by kernel_rfl) (fun _ _ _ h => h) (Or.inl ⟨by kernel_rfl, ?_⟩) hHeld ?_
  · intro w' hSw; obtain ⟨z0, z1, z2, -⟩ := (A0.below hSw).open3; go_simp
  try simp only [Act.put, List.setIfInBounds_toArray, List.set_cons_zero, List.set_cons_succ, List.getElem_toArray, List.getElem_cons_succ, List.getElem_cons_zero]
  refine wpAnyH_take (i := 9) (v := .int .i64 P2) rfl (by kernel_rfl) (by kernel_rfl) (by kernel_rfl) (fun _ _ _ h => h) (Or.inl ⟨by kernel_rfl, ?_⟩) hHeld ?_
  · intro w' hSw; go_simp
  try simp only [Act.put, List.setIfInBounds_toArray, List.set_cons_zero, List.set_cons_succ, List.getElem_toArray, List.getElem_cons_succ, List.getElem_cons_zero]
  refine wpAnyH_take (i := 10) (v := .int .i64 X) rfl (by kernel_rfl) (by kernel_rfl) (by kernel_rfl) (fun _ _ _ h => h) (Or.inl ⟨by kernel_rfl, ?_⟩) hHeld ?_
  · intro w' hSw; go_simp
  try simp only [Act.put, List.setIfInBounds_toArray, List.set_cons_zero, List.set_cons_succ, List.getElem_toArray, List.getElem_cons_succ, List.getElem_cons_zero]
  refine wpAnyH_take (i := 11) (v := .pointer (some ⟨w.heap.size, 0, none⟩)) rfl (by kernel_rfl) (by kernel_rfl) (by kernel_rfl) (fun _ _ _ h => h) (Or.inl ⟨by kernel_rfl, ?_⟩) hHeld ?_
  · intro w' hSw; go_simp
  try simp only [Act.put, List.setIfInBounds_toArray, List.set_cons_zero, List.set_cons_succ, List.getElem_toArray, List.getElem_cons_succ, List.getElem_cons_zero]
  refine wpAnyH_take (i := 12) (v := .int .i64 a) rfl (by kernel_rfl) (by kernel_rfl) (by kernel_rfl) (fun _ _ _ h => h) (Or.inl ⟨by kernel_rfl, ?_⟩) hHeld ?_
  · intro w' hSw; obtain ⟨z0, z1, z2, -⟩ := (A0.below hSw).open3; go_simp
  try simp only [Act.put, List.setIfInBounds_toArray, List.set_cons_zero, List.set_cons_succ, List.getElem_toArray, List.getElem_cons_succ, List.getElem_cons_zero]
  refine wpAnyH_take (i := 13) (v := .pointer (some ⟨w.heap.size + 1, 2, none⟩)) rfl (by kernel_rfl) (by kernel_rfl) (by kernel_rfl) (fun _ _ _ h => h) (Or.inl ⟨by kernel_rfl, ?_⟩) hHeld ?_
  · intro w' hSw; go_simp
  try simp only [Act.put, List.setIfInBounds_toArray, List.set_cons_zero, List.set_cons_succ, List.getElem_toArray, List.getElem_cons_succ, List.getElem_cons_zero]
  refine wpAnyH_take (i := 14) (v := .int .i64 h) rfl (by kernel_rfl) (by kernel_rfl) (by kernel_rfl) (fun _ _ _ h => h) (Or.inl ⟨by kernel_rfl, ?_⟩) hHeld ?_
  · intro w' hSw; obtain ⟨z0, z1, z2, -⟩ := (A1.below hSw).open3; go_simp
  try simp only [Act.put, List.setIfInBounds_toArray, List.set_cons_zero, List.set_cons_succ, List.getElem_toArray, List.getElem_cons_succ, List.getElem_cons_zero]
  refine wpAnyH_take (i := 15) (v := .int .i64 P3) rfl (by kernel_rfl) (by kernel_rfl) (by kernel_rfl) (fun _ _ _ h => h) (Or.inl ⟨by kernel_rfl, ?_⟩) hHeld ?_
  · intro w' hSw; go_simp
  try simp only [Act.put, List.setIfInBounds_toArray, List.set_cons_zero, List.set_cons_succ, List.getElem_toArray, List.getElem_cons_succ, List.getElem_cons_zero]
  refine wpAnyH_take (i := 16) (v := .pointer (some ⟨w.heap.size + 1, 0, none⟩)) rfl (by kernel_rfl) (by kernel_rfl) (by kernel_rfl) (fun _ _ _ h => h) (Or.inl ⟨by kernel_rfl, ?_⟩) hHeld ?_
  · intro w' hSw; go_simp
  try simp only [Act.put, List.setIfInBounds_toArray, List.set_cons_zero, List.set_cons_succ, List.getElem_toArray, List.getElem_cons_succ, List.getElem_cons_zero]
  refine wpAnyH_take (i := 17) (v := .int .i64 c) rfl (by kernel_rfl) (by kernel_rfl) (by kernel_rfl) (fun _ _ _ h => h) (Or.inl ⟨by kernel_rfl, ?_⟩) hHeld ?_
  · intro w' hSw; obtain ⟨z0, z1, z2, -⟩ := (A1.below hSw).open3; go_simp
  try simp only [Act.put, List.setIfInBounds_toArray, List.set_cons_zero, List.set_cons_succ, List.getElem_toArray, List.getElem_cons_succ, List.getElem_cons_zero]
  refine wpAnyH_take (i := 18) (v := .pointer (some ⟨w.heap.size, 2, none⟩)) rfl (by kernel_rfl) (by kernel_rfl) (by kernel_rfl) (fun _ _ _ h => h) (Or.inl ⟨by kernel_rfl, ?_⟩) hHeld ?_
  · intro w' hSw; go_simp
  try simp only [Act.put, List.setIfInBounds_toArray, List.set_cons_zero, List.set_cons_succ, List.getElem_toArray, List.getElem_cons_succ, List.getElem_cons_zero]
  refine wpAnyH_take (i := 19) (v := .int .i64 g) rfl (by kernel_rfl) (by kernel_rfl) (by kernel_rfl) (fun _ _ _ h => h) (Or.inl ⟨by kernel_rfl, ?_⟩) hHeld ?_
  · intro w' hSw; obtain ⟨z0, z1, z2, -⟩ := (A0.below hSw).open3; go_simp
  try simp only [Act.put, List.setIfInBounds_toArray, List.set_cons_zero, List.set_cons_succ, List.getElem_toArray, List.getElem_cons_succ, List.getElem_cons_zero]
  refine wpAnyH_take (i := 20) (v := .int .i64 P4) rfl (by kernel_rfl) (by kernel_rfl) (by kernel_rfl) (fun _ _ _ h => h) (Or.inl ⟨by kernel_rfl, ?_⟩) hHeld ?_
  · intro w' hSw; go_simp
  try simp only [Act.put, List.setIfInBounds_toArray, List.set_cons_zero, List.set_cons_succ, List.getElem_toArray, List.getElem_cons_succ, List.getElem_cons_zero]
  refine wpAnyH_take (i := 21) (v := .int .i64 Y) rfl (by kernel_rfl) (by kernel_rfl) (by kernel_rfl) (fun _ _ _ h => h) (Or.inl ⟨by kernel_rfl, ?_⟩) hHeld ?_
  · intro w' hSw; go_simp
  try simp only [Act.put, List.setIfInBounds_toArray, List.set_cons_zero, List.set_cons_succ, List.getElem_toArray, List.getElem_cons_succ, List.getElem_cons_zero]
  refine wpAnyH_take (i := 22) (v := fV a b g) rfl (by kernel_rfl) (by kernel_rfl) (by kernel_rfl) (fun _ _ _ h => h) (Or.inl ⟨by kernel_rfl, ?_⟩) hHeld ?_
  · intro w' hSw; obtain ⟨z0, z1, z2, -⟩ := (A0.below hSw).open3; go_simp
  try simp only [Act.put, List.setIfInBounds_toArray, List.set_cons_zero, List.set_cons_succ, List.getElem_toArray, List.getElem_cons_succ, List.getElem_cons_zero]
  refine wpAnyH_take (i := 23) (v := fV c c' h) rfl (by kernel_rfl) (by kernel_rfl) (by kernel_rfl) (fun _ _ _ h => h) (Or.inl ⟨by kernel_rfl, ?_⟩) hHeld ?_
  · intro w' hSw; obtain ⟨z0, z1, z2, -⟩ := (A1.below hSw).open3; go_simp
  try simp only [Act.put, List.setIfInBounds_toArray, List.set_cons_zero, List.set_cons_succ, List.getElem_toArray, List.getElem_cons_succ, List.getElem_cons_zero]
  refine wpAnyH_ready (rs := [24]) (by kernel_rfl) (by simp) ?_
  refine AllReadyH.cons rfl (fun KK hK' => ?_) AllReadyH.nil
  go_simp
  refine (turnTo_any _ _ _ _ _ _ _ ha hb hc hc').mono ?_
  rintro e u1 ⟨rfl, bb⟩
  rw [hD]
  replace bu : Kb u0 u1 := bu.trans (bb.mono bu.size)
  clear bb
  try go_wp2_with fail
  clear hHeld
  refine hK'.out _ _ bu (fun hHeld => ?_)
  clear hK' KK
  try simp only [List.setIfInBounds_toArray, List.set_cons_zero, List.set_cons_succ]
  refine wpAnyH_ready (rs := [25]) (by kernel_rfl) (by simp) ?_
  refine AllReadyH.cons rfl (fun KK hK' => ?_) AllReadyH.nil
  go_simp
  clear hHeld
  refine hK'.out _ _ (bu) (fun hHeld => ?_)
  clear hK' KK
  try simp only [List.setIfInBounds_toArray, List.set_cons_zero, List.set_cons_succ]
  refine wpAnyH_ready (rs := [26]) (by kernel_rfl) (by simp) ?_
  refine AllReadyH.cons rfl (fun KK hK' => ?_) AllReadyH.nil
  go_simp
  clear hHeld
  refine hK'.out _ _ (bu) (fun hHeld => ?_)
  clear hK' KK
  try simp only [List.setIfInBounds_toArray, List.set_cons_zero, List.set_cons_succ]
  refine wpAnyH_ready (rs := [27]) (by kernel_rfl) (by simp) ?_
  refine AllReadyH.cons rfl (fun KK hK' => ?_) AllReadyH.nil
  go_simp
  clear hHeld
  refine hK'.out _ _ (bu) (fun hHeld => ?_)
  clear hK' KK
  try simp only [List.setIfInBounds_toArray, List.set_cons_zero, List.set_cons_succ]
  refine wpAnyH_done (by kernel_rfl) ?_ _
  clear hHeld
  replace B := B.trans (Below.mono bu B.size)
  replace A2 := A2.below bu
  clear bu A0 A1 w1 w2 w3 w4 w5 w6 hP1 hP2 hP3 hP4 hX hY hD
  obtain ⟨V, hV, av, bV, -⟩ := boxed u1 2 #[.int .i64 X, .int .i64 Y, .int .i64 D]
  go_wp2_with fail
  refine (divAll3 av mx my (by omega)).mono ?_
  rintro e u2 ⟨rfl, b2⟩
  replace B := B.trans ((bV.trans (b2.mono bV.size)).mono B.size)
  rw [show gd3 X Y D = k from hk.symm]
  replace A2 := A2.below (bV.trans (b2.mono bV.size))
  clear hV av bV b2 hk
  obtain ⟨y0, y1, y2, y3, y4, y5⟩ := A2.open3
  have hk0 : ¬ k = 0 := by omega
  have wx : IntKind.i64.wrap x = x := IntWalk.i64_in _ (by omega)
  have wy : IntKind.i64.wrap y = y := IntWalk.i64_in _ (by omega)
  have wd : IntKind.i64.wrap d = d := IntWalk.i64_in _ (by omega)
  go_wp2
  obtain ⟨v0, hu0, bb⟩ : ∃ uu, u2.drew = uu ∧ Below u2.heap.size u2 uu := ⟨_, rfl, (Below.refl _ _).drew⟩
  replace A2 := A2.below bb
  replace B := B.trans (bb.mono B.size)
  clear bb
  refine wp_region_held_drew (S := AnyW) (by kernel_rfl) trivial (fun hHeld => ?_)
  rw [hu0] at hHeld ⊢
  clear hu0
  change wpAnyH _ _ _ _ _ 11 #[false, false, false, false, false, false, false, false, false, false, false] _ _
  refine wpAnyH_take (i := 0) (v := .int .i64 X) rfl (by kernel_rfl) (by kernel_rfl) (by kernel_rfl) (fun _ _ _ h => h) (Or.inl ⟨by kernel_rfl, ?_⟩) hHeld ?_
  · intro w' hSw; go_simp
  try simp only [Act.put, List.setIfInBounds_toArray, List.set_cons_zero, List.set_cons_succ, List.getElem_toArray, List.getElem_cons_zero]
  refine wpAnyH_take (i := 1) (v := .int .i64 k) rfl (by kernel_rfl) (by kernel_rfl) (by kernel_rfl) (fun _ _ _ h => h) (Or.inl ⟨by kernel_rfl, ?_⟩) hHeld ?_
  · intro w' hSw; go_simp
  try simp only [Act.put, List.setIfInBounds_toArray, List.set_cons_zero, List.set_cons_succ, List.getElem_toArray, List.getElem_cons_succ, List.getElem_cons_zero]
  refine wpAnyH_take (i := 2) (v := .int .i64 x) rfl (by kernel_rfl) (by kernel_rfl) (by kernel_rfl) (fun _ _ _ h => h) (Or.inl ⟨by kernel_rfl, ?_⟩) hHeld ?_
  · intro w' hSw; go_simp
  try simp only [Act.put, List.setIfInBounds_toArray, List.set_cons_zero, List.set_cons_succ, List.getElem_toArray, List.getElem_cons_succ, List.getElem_cons_zero]
  refine wpAnyH_take (i := 3) (v := .int .i64 Y) rfl (by kernel_rfl) (by kernel_rfl) (by kernel_rfl) (fun _ _ _ h => h) (Or.inl ⟨by kernel_rfl, ?_⟩) hHeld ?_
  · intro w' hSw; go_simp
  try simp only [Act.put, List.setIfInBounds_toArray, List.set_cons_zero, List.set_cons_succ, List.getElem_toArray, List.getElem_cons_succ, List.getElem_cons_zero]
  refine wpAnyH_take (i := 4) (v := .int .i64 k) rfl (by kernel_rfl) (by kernel_rfl) (by kernel_rfl) (fun _ _ _ h => h) (Or.inl ⟨by kernel_rfl, ?_⟩) hHeld ?_
  · intro w' hSw; go_simp
  try simp only [Act.put, List.setIfInBounds_toArray, List.set_cons_zero, List.set_cons_succ, List.getElem_toArray, List.getElem_cons_succ, List.getElem_cons_zero]
  refine wpAnyH_take (i := 5) (v := .int .i64 y) rfl (by kernel_rfl) (by kernel_rfl) (by kernel_rfl) (fun _ _ _ h => h) (Or.inl ⟨by kernel_rfl, ?_⟩) hHeld ?_
  · intro w' hSw; go_simp
  try simp only [Act.put, List.setIfInBounds_toArray, List.set_cons_zero, List.set_cons_succ, List.getElem_toArray, List.getElem_cons_succ, List.getElem_cons_zero]
  refine wpAnyH_take (i := 6) (v := .int .i64 D) rfl (by kernel_rfl) (by kernel_rfl) (by kernel_rfl) (fun _ _ _ h => h) (Or.inl ⟨by kernel_rfl, ?_⟩) hHeld ?_
  · intro w' hSw; go_simp
  try simp only [Act.put, List.setIfInBounds_toArray, List.set_cons_zero, List.set_cons_succ, List.getElem_toArray, List.getElem_cons_succ, List.getElem_cons_zero]
  refine wpAnyH_take (i := 7) (v := .int .i64 k) rfl (by kernel_rfl) (by kernel_rfl) (by kernel_rfl) (fun _ _ _ h => h) (Or.inl ⟨by kernel_rfl, ?_⟩) hHeld ?_
  · intro w' hSw; go_simp
  try simp only [Act.put, List.setIfInBounds_toArray, List.set_cons_zero, List.set_cons_succ, List.getElem_toArray, List.getElem_cons_succ, List.getElem_cons_zero]
  refine wpAnyH_take (i := 8) (v := .int .i64 d) rfl (by kernel_rfl) (by kernel_rfl) (by kernel_rfl) (fun _ _ _ h => h) (Or.inl ⟨by kernel_rfl, ?_⟩) hHeld ?_
  · intro w' hSw; go_simp
  try simp only [Act.put, List.setIfInBounds_toArray, List.set_cons_zero, List.set_cons_succ, List.getElem_toArray, List.getElem_cons_succ, List.getElem_cons_zero]
  refine wpAnyH_take (i := 9) (v := fV x y d) rfl (by kernel_rfl) (by kernel_rfl) (by kernel_rfl) (fun _ _ _ h => h) (Or.inl ⟨by kernel_rfl, ?_⟩) hHeld ?_
  · intro w' hSw; go_simp
  try simp only [Act.put, List.setIfInBounds_toArray, List.set_cons_zero, List.set_cons_succ, List.getElem_toArray, List.getElem_cons_succ, List.getElem_cons_zero]
  clear y0 y1 y2 y3 y4 y5
  obtain ⟨y0, y1, y2, y3, y4, y5⟩ := A2.open3
  refine wpAnyH_ready (rs := [10]) (by kernel_rfl) (by simp) ?_
  refine AllReadyH.cons rfl (fun KK hK' => ?_) AllReadyH.nil
  go_simp
  clear hHeld
  refine hK'.out _ _ (trivial) (fun hHeld => ?_)
  clear hK' KK
  try simp only [List.setIfInBounds_toArray, List.set_cons_zero, List.set_cons_succ]
  refine wpAnyH_done (by kernel_rfl) ?_ _
  clear hHeld
  go_wp2
  obtain ⟨p0, p1, p2, -⟩ := (put3c A2 (.int .i64 x) (.int .i64 y) (.int .i64 d)).open3
  exact bodyPost_ret (v := fV x y d) (by simp [results, Try.results64, go_sem, p0, p1, p2]) rfl ⟨rfl, ((B.setCell (Nat.le_add_right _ 2) _).setCell (Nat.le_add_right _ 2) _).setCell (Nat.le_add_right _ 2) _⟩
end Go.Proofs.Ytealbihplfpgeaa
