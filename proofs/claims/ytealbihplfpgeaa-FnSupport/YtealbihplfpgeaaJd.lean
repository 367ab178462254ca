/-
  What Support tells of the corners, and of a facet that shows. Mathematics alone: no function of the program.
-/
import Derived.Test.YtealbihplfpgeaaHl
namespace Go.Proofs.Ytealbihplfpgeaa
open Go.RowKit

theorem red_parts {p q a b : Int} (hq : 0 < q) (ha : a = p.tdiv (Int.gcd p q : Nat)) (hb : b = q.tdiv (Int.gcd p q : Nat)) : ∃ g : Int, 0 < g ∧ p = g * a ∧ q = g * b ∧ 0 < b := by
  obtain ⟨x, hx⟩ := Int.gcd_dvd_left p q
  obtain ⟨y, hy⟩ := Int.gcd_dvd_right p q
  have gp : 0 < Int.gcd p q := Nat.pos_of_ne_zero (fun e => by rw [e] at hy; simp at hy; omega)
  have gp' : (0 : Int) < ((Int.gcd p q : Nat) : Int) := by omega
  have e1 : a = x := ha.trans (tdiv_of hx gp')
  have e2 : b = y := hb.trans (tdiv_of hy gp')
  rw [e1, e2]
  exact ⟨_, gp', hx, hy, pos_left (b := ((Int.gcd p q : Nat) : Int)) (by rw [Int.mul_comm, ← hy]; exact hq) gp'⟩
section Shape
variable {n : Nat} {f : Nat → Int}
/-- No corner lies further, and one as far. -/
theorem SupA.far {x y a b : Int} (h : SupA f n x y a b) (hb : ¬ b = 0) {a0 : Nat} (ha0 : a0 < n) (sh : Sh f n a0) :
    (SOk n f ∧ (-50 ≤ x ∧ x ≤ 50) ∧ (-50 ≤ y ∧ y ≤ 50)) ∧ 0 < b ∧ (∀ c, c ∈ sqP f n a0 (shl f n).length → vN f x y c * b ≤ a * vD f c) ∧ (∃ c, c ∈ sqP f n a0 (shl f n).length ∧ vN f x y c * b = a * vD f c) ∧ ∃ c, c ∈ allP f n n ∧ ∃ g : Int, 0 < g ∧ vN f x y c = g * a ∧ vD f c = g * b := by
  by_cases C : SOk n f ∧ (-50 ≤ x ∧ x ≤ 50) ∧ (-50 ≤ y ∧ y ≤ 50)
  · obtain ⟨p, q, s, e1, e2⟩ := h.1 C
    have S := C.1
    obtain ⟨g, gp, hp, hq, bp⟩ := red_parts s.pos e1 e2
    refine ⟨C, bp, fun c hc => ?_, ?_, ?_⟩
    · have k := s.2 c (S.sqP_in ha0 sh hc)
      rw [hp, hq] at k
      refine le_of_mul gp ?_
      have i1 : vN f x y c * b * g = vN f x y c * (g * b) := by grind
      have i2 : a * vD f c * g = g * a * vD f c := by grind
      omega
    · obtain ⟨c0, hc0, p0, q0⟩ := s.1
      obtain ⟨c', hc', hc2, u1, u2⟩ := S.told ha0 sh hc0
      refine ⟨c', hc', ?_⟩
      have e3 : vN f x y c0 * vD f c' = vN f x y c' * vD f c0 := by
        unfold vN
        generalize cX f c0.1 c0.2 = A at u1 ⊢
        generalize cY f c0.1 c0.2 = B at u2 ⊢
        generalize cX f c'.1 c'.2 = C' at u1 ⊢
        generalize cY f c'.1 c'.2 = D at u2 ⊢
        grind
      rw [← p0, ← q0, hp, hq] at e3
      refine Int.eq_of_mul_eq_mul_right (Int.ne_of_gt gp) ?_
      have i1 : vN f x y c' * b * g = vN f x y c' * (g * b) := by grind
      have i2 : a * vD f c' * g = g * a * vD f c' := by grind
      omega
    · obtain ⟨c0, hc0, p0, q0⟩ := s.1
      exact ⟨c0, hc0, g, gp, by rw [← p0]; exact hp, by rw [← q0]; exact hq⟩
  · exact absurd (h.2 C).2 hb
theorem vN_out {c : Nat × Nat} (k : Nat) : vN f (f (k * 3)) (f (k * 3 + 1)) c = outT (f (k * 3)) (f (k * 3 + 1)) (f (k * 3 + 2)) (cX f c.1 c.2) (cY f c.1 c.2) (cD f c.1 c.2) + f (k * 3 + 2) * vD f c := by
  unfold vN outT vD; omega
/-- Of a facet that shows its own normal tells its G. -/
theorem SupA.own {a b : Int} {k : Nat} (S : SOk n f) (hk : k < n) (sh : Sh f n k) (h : SupA f n (f (k * 3)) (f (k * 3 + 1)) a b) : a = f (k * 3 + 2) ∧ b = 1 := by
  have rk := Rt.in (S.right k hk)
  obtain ⟨p, q, s, e1, e2⟩ := h.1 ⟨S, rk.1, rk.2.1⟩
  have q1 := S.nxtIs hk
  have v := S.vx hk sh q1.1 q1.2
  have hin : ((k, nxt f n k) : Nat × Nat) ∈ allP f n n := mem_allP.2 ⟨hk, q1.1, v⟩
  have s2 : Sup f n (f (k * 3)) (f (k * 3 + 1)) (f (k * 3 + 2) * vD f (k, nxt f n k)) (vD f (k, nxt f n k)) := by
    refine ⟨⟨_, hin, ?_, rfl⟩, fun c hc => ?_⟩
    · rw [vN_out]
      have o := out_c q1.2.1 k
      rw [E_self] at o
      have z := z_left (by rw [o]; rfl) (cn_at q1.2.1).pos
      rw [z]; omega
    · obtain ⟨h1, h2, h3⟩ := mem_allP.1 hc
      have o := (in_vx (n := n) h3.1).2 h3 k hk
      have e := vN_out (f := f) (c := c) k
      have le : vN f (f (k * 3)) (f (k * 3 + 1)) c ≤ f (k * 3 + 2) * vD f c := by omega
      have m := Int.mul_le_mul_of_nonneg_right le (Int.le_of_lt (allP_pos hin))
      have i : f (k * 3 + 2) * vD f c * vD f (k, nxt f n k) = f (k * 3 + 2) * vD f (k, nxt f n k) * vD f c := by grind
      omega
  have u := s.one s2
  have u2 : p * 1 = f (k * 3 + 2) * q := by
    refine Int.eq_of_mul_eq_mul_right (Int.ne_of_gt (allP_pos hin)) ?_
    have i : f (k * 3 + 2) * q * vD f (k, nxt f n k) = f (k * 3 + 2) * vD f (k, nxt f n k) * q := by grind
    rw [Int.mul_one, u, i]
  have r := red_same s.pos (q' := 1) (by omega) u2
  rw [← e1, ← e2] at r
  simpa using r
end Shape
end Go.Proofs.Ytealbihplfpgeaa
