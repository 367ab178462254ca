/-
  Signs of numbers p and q roots of 3, by the specification: walked; and the law.
-/
import Derived.Test.YtpelbbkkdmlmiaaCh
import Derived.Test.YtpelbbkkdmlmiaaCg
namespace Go.Proofs.Ytpelbbkkdmlmiaa
open Go.RowKit

theorem sign_any (h m l : Int) (w : World) (hh : fits h) (hm : fits m) (hl : fits l) :
    Calls Try.prog 55 #[wV h m l] w fun e w' => e = .returned (.int .i64 (cmp3 (h * 281474976710656 + m * 16777216 + l) 0)) ∧ Below w.heap.size w w' := by
  have E := fun w => even_any h m l w hh hm hl
  have e0 : h * 281474976710656 + m * 16777216 + l = (h + (m + l / 16777216) / 16777216) * 281474976710656 + (m + l / 16777216) % 16777216 * 16777216 + l % 16777216 := by omega
  have m0 : 0 ≤ (m + l / 16777216) % 16777216 ∧ (m + l / 16777216) % 16777216 < 16777216 := by omega
  have l0 : 0 ≤ l % 16777216 ∧ l % 16777216 < 16777216 := by omega
  rw [e0]
  obtain ⟨H, eH⟩ : ∃ x, h + (m + l / 16777216) / 16777216 = x := ⟨_, rfl⟩
  obtain ⟨M, eM⟩ : ∃ x, (m + l / 16777216) % 16777216 = x := ⟨_, rfl⟩
  obtain ⟨L, eL⟩ : ∃ x, l % 16777216 = x := ⟨_, rfl⟩
  rw [eH, eM, eL] at E ⊢
  rw [eM] at m0
  rw [eL] at l0
  clear e0 eH eM eL hh hm hl
  obtain ⟨m1, m2⟩ := m0
  obtain ⟨l1, l2⟩ := l0
  obtain ⟨W, hW, B, bW, -⟩ := boxed w 89 #[.int .i64 h, .int .i64 m, .int .i64 l]
  obtain ⟨c0, c1, c2, g0, g1, g2⟩ := B.open3
  obtain ⟨R, hR⟩ : ∃ R, cmp3 (H * 281474976710656 + M * 16777216 + L) 0 = R := ⟨_, rfl⟩
  have HR : Hid (cmp3 (H * 281474976710656 + M * 16777216 + L) 0 = R) := hR
  rw [hR]
  clear hR
  go_enter Try.func55, Try.ntmps55
  go_wp2_with (fail)
  refine (E _).mono ?_
  rintro e w2 ⟨rfl, hb2⟩
  replace B := B.below hb2
  replace bW := bW.trans (hb2.mono bW.size)
  clear c0 c1 c2 g0 g1 g2 hW hb2 E
  obtain ⟨c0, c1, c2, g0, g1, g2⟩ := B.open3
  rcases (by omega : H < 0 ∨ 0 < H ∨ H = 0) with h0 | h0 | h0
  · go_wp2
    go_ret
    refine ⟨?_, ((bW.setCell (by show _ ≤ w.heap.size; omega) _).setCell (by show _ ≤ w.heap.size; omega) _).setCell (by show _ ≤ w.heap.size; omega) _⟩
    rw [← HR.out, cmp3, if_pos (by omega)]
    rfl
  · go_wp2
    go_ret
    refine ⟨?_, ((bW.setCell (by show _ ≤ w.heap.size; omega) _).setCell (by show _ ≤ w.heap.size; omega) _).setCell (by show _ ≤ w.heap.size; omega) _⟩
    rw [← HR.out, cmp3, if_neg (by omega), if_pos (by omega)]
    rfl
  · subst h0
    rcases (by omega : 0 < M ∨ M = 0) with h1 | h1
    · go_wp2
      go_ret
      refine ⟨?_, ((bW.setCell (by show _ ≤ w.heap.size; omega) _).setCell (by show _ ≤ w.heap.size; omega) _).setCell (by show _ ≤ w.heap.size; omega) _⟩
      rw [← HR.out, cmp3, if_neg (by omega), if_pos (by omega)]
      rfl
    · subst h1
      rcases (by omega : 0 < L ∨ L = 0) with h2 | h2
      · go_wp2
        go_ret
        refine ⟨?_, ((bW.setCell (by show _ ≤ w.heap.size; omega) _).setCell (by show _ ≤ w.heap.size; omega) _).setCell (by show _ ≤ w.heap.size; omega) _⟩
        rw [← HR.out, cmp3, if_neg (by omega), if_pos (by omega)]
        rfl
      · subst h2
        go_wp2
        go_ret
        refine ⟨?_, ((bW.setCell (by show _ ≤ w.heap.size; omega) _).setCell (by show _ ≤ w.heap.size; omega) _).setCell (by show _ ≤ w.heap.size; omega) _⟩
        rw [← HR.out]
        rfl
theorem limb_sq {a : Int} : a * a = (a / 16777216) * (a / 16777216) * 281474976710656 + (a / 16777216 * (a % 16777216) + a % 16777216 * (a / 16777216)) * 16777216 + a % 16777216 * (a % 16777216) := by
  have e := Int.mul_ediv_add_emod a 16777216
  obtain ⟨x, hx⟩ : ∃ x, a / 16777216 = x := ⟨_, rfl⟩
  obtain ⟨y, hy⟩ : ∃ y, a % 16777216 = y := ⟨_, rfl⟩
  rw [hx, hy] at e ⊢
  rw [← e]
  grind
set_option maxHeartbeats 1600000 in
theorem specSign_any (p q : Int) (w : World) : Calls Try.prog 40 #[.int .i64 p, .int .i64 q] w fun e w' => e = .returned (.int .i64 (sg p q)) ∧ Below w.heap.size w w' := by
  by_cases hp : inC p
  rotate_left
  · have hp' : ¬ (-1000000000000 ≤ p ∧ p ≤ 1000000000000) := hp
    rw [show sg p q = 0 from if_neg (fun h => hp h.1)]
    go_enter Try.func40, Try.ntmps40
    go_wp2_with (go_at_call 34; refine (in_any _ _ _ _).mono ?_; rintro e w2 ⟨rfl, rfl⟩)
    go_ret
    exact ⟨rfl, Below.refl _ _⟩
  by_cases hq : inC q
  rotate_left
  · have hp' : -1000000000000 ≤ p ∧ p ≤ 1000000000000 := hp
    have hq' : ¬ (-1000000000000 ≤ q ∧ q ≤ 1000000000000) := hq
    rw [show sg p q = 0 from if_neg (fun h => hq h.2)]
    go_enter Try.func40, Try.ntmps40
    go_wp2_with (go_at_call 34; refine (in_any _ _ _ _).mono ?_; rintro e w2 ⟨rfl, rfl⟩)
    go_ret
    exact ⟨rfl, Below.refl _ _⟩
  have hp' : -1000000000000 ≤ p ∧ p ≤ 1000000000000 := hp
  have hq' : -1000000000000 ≤ q ∧ q ≤ 1000000000000 := hq
  rw [show sg p q = rs p q from if_pos ⟨hp, hq⟩]
  by_cases h1 : 0 ≤ p ∧ 0 ≤ q ∧ 0 < p + q
  · rw [rs_pos h1.1 h1.2.1 h1.2.2]
    obtain ⟨u1, u2, u3⟩ := h1
    go_enter Try.func40, Try.ntmps40
    go_wp2_with (go_at_call 34; refine (in_any _ _ _ _).mono ?_; rintro e w2 ⟨rfl, rfl⟩)
    go_ret
    exact ⟨rfl, Below.refl _ _⟩
  by_cases h2 : p ≤ 0 ∧ q ≤ 0 ∧ p + q < 0
  · rw [rs_neg h2.1 h2.2.1 h2.2.2]
    obtain ⟨u1, u2, u3⟩ := h2
    go_enter Try.func40, Try.ntmps40
    go_wp2_with (go_at_call 34; refine (in_any _ _ _ _).mono ?_; rintro e w2 ⟨rfl, rfl⟩)
    all_goals
      go_ret
      exact ⟨rfl, Below.refl _ _⟩
  rw [rs_other h1 h2]
  obtain ⟨⟨u1, u2⟩, u3, u4⟩ := limbs hp
  obtain ⟨⟨v1, v2⟩, v3, v4⟩ := limbs hq
  have P := fun w => plus_any 0 0 0 1 p p w ⟨by decide, by decide⟩ ⟨by decide, by decide⟩ ⟨by decide, by decide⟩ (by decide) hp hp
  have s1 := limb_sq (a := p)
  have s2 := limb_sq (a := q)
  have b1 := mul_bound (x := p / 16777216) (y := p / 16777216) (M := 60000) (N := 60000) ⟨u1, u2⟩ ⟨u1, u2⟩
  have b2 := mul_bound (x := p / 16777216) (y := p % 16777216) (M := 60000) (N := 16777216) ⟨u1, u2⟩ (by omega)
  have b3 := mul_bound (x := p % 16777216) (y := p % 16777216) (M := 16777216) (N := 16777216) (by omega) (by omega)
  have b4 := mul_bound (x := q / 16777216) (y := q / 16777216) (M := 60000) (N := 60000) ⟨v1, v2⟩ ⟨v1, v2⟩
  have b5 := mul_bound (x := q / 16777216) (y := q % 16777216) (M := 60000) (N := 16777216) ⟨v1, v2⟩ (by omega)
  have b6 := mul_bound (x := q % 16777216) (y := q % 16777216) (M := 16777216) (N := 16777216) (by omega) (by omega)
  have c1 := Int.mul_comm (p / 16777216) (p % 16777216)
  have c2 := Int.mul_comm (q / 16777216) (q % 16777216)
  have d1 : -3 * (q / 16777216) * (q / 16777216) = -3 * (q / 16777216 * (q / 16777216)) := Int.mul_assoc _ _ _
  have d2 : -3 * (q % 16777216) * (q % 16777216) = -3 * (q % 16777216 * (q % 16777216)) := Int.mul_assoc _ _ _
  simp only [Int.zero_add, Int.one_mul] at P
  have Q := fun w => plus_any (p / 16777216 * (p / 16777216)) (p / 16777216 * (p % 16777216) + p % 16777216 * (p / 16777216)) (p % 16777216 * (p % 16777216)) (-3) q q w ⟨by omega, by omega⟩ ⟨by omega, by omega⟩ ⟨by omega, by omega⟩ (by decide) hq hq
  have S := fun w => sign_any (p / 16777216 * (p / 16777216) + -3 * (q / 16777216) * (q / 16777216)) (p / 16777216 * (p % 16777216) + p % 16777216 * (p / 16777216) + -3 * (q / 16777216 * (q % 16777216) + q % 16777216 * (q / 16777216))) (p % 16777216 * (p % 16777216) + -3 * (q % 16777216) * (q % 16777216)) w ⟨by omega, by omega⟩ ⟨by omega, by omega⟩ ⟨by omega, by omega⟩
  rw [show (p / 16777216 * (p / 16777216) + -3 * (q / 16777216) * (q / 16777216)) * 281474976710656 + (p / 16777216 * (p % 16777216) + p % 16777216 * (p / 16777216) + -3 * (q / 16777216 * (q % 16777216) + q % 16777216 * (q / 16777216))) * 16777216 + (p % 16777216 * (p % 16777216) + -3 * (q % 16777216) * (q % 16777216)) = p * p - 3 * (q * q) by omega] at S
  obtain ⟨x0, e0⟩ : ∃ x, p / 16777216 * (p / 16777216) = x := ⟨_, rfl⟩
  obtain ⟨x1, e1⟩ : ∃ x, p / 16777216 * (p % 16777216) + p % 16777216 * (p / 16777216) = x := ⟨_, rfl⟩
  obtain ⟨x2, e2⟩ : ∃ x, p % 16777216 * (p % 16777216) = x := ⟨_, rfl⟩
  rw [e0, e1, e2] at P Q S
  obtain ⟨y0, f0⟩ : ∃ x, x0 + -3 * (q / 16777216) * (q / 16777216) = x := ⟨_, rfl⟩
  obtain ⟨y1, f1⟩ : ∃ x, x1 + -3 * (q / 16777216 * (q % 16777216) + q % 16777216 * (q / 16777216)) = x := ⟨_, rfl⟩
  obtain ⟨y2, f2⟩ : ∃ x, x2 + -3 * (q % 16777216) * (q % 16777216) = x := ⟨_, rfl⟩
  rw [f0, f1, f2] at Q S
  have cn := cmp_num (p * p - 3 * (q * q))
  obtain ⟨z, hz⟩ : ∃ z, cmp3 (p * p - 3 * (q * q)) 0 = z := ⟨_, rfl⟩
  rw [hz] at S cn ⊢
  clear hz f0 f1 f2 e0 e1 e2 s1 s2 b1 b2 b3 b4 b5 b6 c1 c2 d1 d2 u1 u2 u3 u4 v1 v2 v3 v4
  have hc : (p < 0 ∧ 0 < q) ∨ (0 < p ∧ q < 0) ∨ (p = 0 ∧ q = 0) := by omega
  clear h1 h2 hp hq
  rcases hc with ⟨k1, k2⟩ | ⟨k1, k2⟩ | ⟨k1, k2⟩
  · rw [if_pos k1]
    go_enter Try.func40, Try.ntmps40
    go_wp2_with (first
      | (go_at_call 34; refine (in_any _ _ _ _).mono ?_; rintro e w2 ⟨rfl, rfl⟩)
      | (go_at_call_of 56 (wV x0 x1 x2); refine (Q _).mono ?_; rintro e w3 ⟨rfl, hb3⟩)
      | (go_at_call 56; refine (P _).mono ?_; rintro e w4 ⟨rfl, hb4⟩)
      | (go_at_call 55; refine (S _).mono ?_; rintro e w5 ⟨rfl, hb5⟩))
    all_goals
      go_ret
      exact ⟨rfl, (hb4.trans (hb3.mono hb4.size)).trans (hb5.mono (Nat.le_trans hb4.size hb3.size))⟩
  · rw [if_neg (by omega)]
    go_enter Try.func40, Try.ntmps40
    go_wp2_with (first
      | (go_at_call 34; refine (in_any _ _ _ _).mono ?_; rintro e w2 ⟨rfl, rfl⟩)
      | (go_at_call_of 56 (wV x0 x1 x2); refine (Q _).mono ?_; rintro e w3 ⟨rfl, hb3⟩)
      | (go_at_call 56; refine (P _).mono ?_; rintro e w4 ⟨rfl, hb4⟩)
      | (go_at_call 55; refine (S _).mono ?_; rintro e w5 ⟨rfl, hb5⟩))
    all_goals
      go_ret
      exact ⟨rfl, (hb4.trans (hb3.mono hb4.size)).trans (hb5.mono (Nat.le_trans hb4.size hb3.size))⟩
  · subst k1 k2
    rw [if_neg (by omega)]
    go_enter Try.func40, Try.ntmps40
    go_wp2_with (first
      | (go_at_call 34; refine (in_any _ _ _ _).mono ?_; rintro e w2 ⟨rfl, rfl⟩)
      | (go_at_call_of 56 (wV x0 x1 x2); refine (Q _).mono ?_; rintro e w3 ⟨rfl, hb3⟩)
      | (go_at_call 56; refine (P _).mono ?_; rintro e w4 ⟨rfl, hb4⟩)
      | (go_at_call 55; refine (S _).mono ?_; rintro e w5 ⟨rfl, hb5⟩))
    all_goals
      go_ret
      exact ⟨rfl, (hb4.trans (hb3.mono hb4.size)).trans (hb5.mono (Nat.le_trans hb4.size hb3.size))⟩
end Go.Proofs.Ytpelbbkkdmlmiaa
