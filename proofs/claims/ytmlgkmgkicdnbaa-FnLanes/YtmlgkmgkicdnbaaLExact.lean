/-
  Plain facts on rounding that loses nothing: a number that the format has is written as its own word; a number of few digits is written exactly. No program in sight.
-/
import Derived.Test.YtmlgkmgkicdnbaaLOrder
namespace Go.Proofs.Ytmlgkmgkicdnbaa.Fl
open Ieee

theorem log2_mul_pow {m : Nat} (h : m ≠ 0) (k : Nat) : (m * 2 ^ k).log2 = m.log2 + k := by
  have hp : 0 < 2 ^ k := Nat.two_pow_pos k
  have h0 : m * 2 ^ k ≠ 0 := Nat.mul_ne_zero h (by omega)
  refine (Nat.log2_eq_iff h0).2 ⟨?_, ?_⟩
  · rw [Nat.pow_add]; exact Nat.mul_le_mul_right _ (Nat.log2_self_le h)
  · rw [show m.log2 + k + 1 = (m.log2 + 1) + k by omega, Nat.pow_add]
    exact Nat.mul_lt_mul_of_pos_right Nat.lt_log2_self hp

theorem cut_zero (s : Bool) (n : Nat) : Toward.even.cut s n 0 = n := by
  simp [Toward.cut, Nat.mod_one]

theorem cut_exact (s : Bool) (M k : Nat) (h : M ≠ 0) : Toward.even.cut s (M * 2 ^ k) k = M := by
  have hl := log2_mul_pow h k
  have hmin : min k ((M * 2 ^ k).log2 + 2) = k := by rw [hl]; omega
  have hp : 0 < 2 ^ k := Nat.two_pow_pos k
  unfold Toward.cut
  simp only [hmin, Nat.one_shiftLeft]
  rw [Nat.mul_div_cancel _ hp, Nat.mul_mod_left]
  simp

/-- A rung's number, its significand and its place. -/
theorem rung_form (f : Format) (r : Nat) (hr : r ≠ 0) : ∃ (M : Nat) (P : Int), M ≠ 0 ∧ f.leastPlace ≤ P ∧ val f r = M * 2 ^ (P - f.leastPlace).toNat ∧
    (P - f.leastPlace).toNat * f.binade + M = r ∧ max (P + (M.log2 : Int) - f.fractionBits) f.leastPlace = P := by
  have hB := binade_pos f
  have eB : f.binade = 2 ^ f.fractionBits := rfl
  unfold val
  by_cases h : r < f.binade
  · rw [if_pos h]
    refine ⟨r, f.leastPlace, hr, by omega, by simp, by simp, ?_⟩
    have : r.log2 < f.fractionBits := (Nat.log2_lt hr).2 (by rw [← eB]; exact h)
    omega
  · rw [if_neg h]
    have hm := Nat.mod_lt r hB
    have hd := Nat.div_add_mod r f.binade
    have hq : 1 ≤ r / f.binade := (Nat.one_le_div_iff hB).2 (by omega)
    have hl : (f.binade + r % f.binade).log2 = f.fractionBits := (Nat.log2_eq_iff (by omega)).2 ⟨by rw [← eB]; omega, by rw [Nat.pow_succ, ← eB]; omega⟩
    refine ⟨f.binade + r % f.binade, f.leastPlace + ((r / f.binade - 1 : Nat) : Int), by omega, by omega, ?_, ?_, ?_⟩
    · congr 2; omega
    · have e : (f.leastPlace + ((r / f.binade - 1 : Nat) : Int) - f.leastPlace).toNat = r / f.binade - 1 := by omega
      rw [e]
      have : (r / f.binade - 1) * f.binade + f.binade = f.binade * (r / f.binade) := by
        rw [← Nat.succ_mul, Nat.mul_comm]; congr 1; omega
      omega
    · rw [hl]; omega

/-- A number that the format has is written as its own word. -/
theorem nearest_exact (f : Format) (s : Bool) {m r : Nat} {p c : Int} (hm : m ≠ 0) (hr : r < f.infRung) (hc : c ≤ p) (hc' : c ≤ f.leastPlace) (h : m * 2 ^ (p - c).toNat = val f r * 2 ^ (f.leastPlace - c).toNat) :
    f.nearest s m p = f.word s r := by
  have hr0 : r ≠ 0 := by
    intro e
    subst e
    rw [val_zero, Nat.zero_mul] at h
    exact absurd h (Nat.mul_ne_zero hm (Nat.pos_iff_ne_zero.1 (Nat.two_pow_pos _)))
  obtain ⟨M, P, hM, hP, hv, hrr, hmax⟩ := rung_form f r hr0
  rw [hv, Nat.mul_assoc, ← Nat.pow_add] at h
  have hPc : (P - f.leastPlace).toNat + (f.leastPlace - c).toNat = (P - c).toNat := by omega
  rw [hPc] at h
  have hl := congrArg Nat.log2 h
  rw [log2_mul_pow hm, log2_mul_pow hM] at hl
  have hlast : max (p + (m.log2 : Int) - f.fractionBits) f.leastPlace = P := by
    rw [← hmax]; congr 1; omega
  have hkept : Toward.even.cut s (m <<< (p - P).toNat) (P - p).toNat = M := by
    by_cases hp : P ≤ p
    · have e0 : (P - p).toNat = 0 := by omega
      rw [e0, cut_zero, shl_pow]
      have e1 : (p - c).toNat = (p - P).toNat + (P - c).toNat := by omega
      rw [e1, Nat.pow_add, ← Nat.mul_assoc] at h
      exact Nat.eq_of_mul_eq_mul_right (Nat.two_pow_pos _) h
    · have e0 : (p - P).toNat = 0 := by omega
      rw [e0, shl_pow, Nat.pow_zero, Nat.mul_one]
      have e1 : (P - c).toNat = (P - p).toNat + (p - c).toNat := by omega
      rw [e1, Nat.pow_add, ← Nat.mul_assoc] at h
      have e2 : m = M * 2 ^ (P - p).toNat := Nat.eq_of_mul_eq_mul_right (Nat.two_pow_pos _) h
      rw [e2]
      exact cut_exact s M _ hM
  unfold Format.nearest
  rw [if_neg hm]
  simp only [hlast, hkept, hrr]
  rw [Nat.min_eq_left (by omega)]

/-- A number of few digits, not too small, not too great, is written exactly. -/
theorem nearest_few (f : Format) (s : Bool) {m : Nat} {p : Int} (hm : m ≠ 0) (h1 : m.log2 ≤ f.fractionBits) (h2 : f.leastPlace ≤ p) (h3 : p + (m.log2 : Int) - f.fractionBits - f.leastPlace + 1 < 2 ^ f.exponentBits - 1) (h4 : 2 < 2 ^ f.exponentBits) :
    ∃ r, r < f.infRung ∧ f.nearest s m p = f.word s r ∧ val f r = m * 2 ^ (p - f.leastPlace).toNat := by
  have hB := binade_pos f
  have eB : f.binade = 2 ^ f.fractionBits := rfl
  have eI : f.infRung = (2 ^ f.exponentBits - 1) * f.binade := rfl
  -- the rung of the number N = m 2^(p - leastPlace)
  obtain ⟨N, hN⟩ : ∃ N, m * 2 ^ (p - f.leastPlace).toNat = N := ⟨_, rfl⟩
  have hN0 : N ≠ 0 := by rw [← hN]; exact Nat.mul_ne_zero hm (Nat.pos_iff_ne_zero.1 (Nat.two_pow_pos _))
  have hlN : N.log2 = m.log2 + (p - f.leastPlace).toNat := by rw [← hN]; exact log2_mul_pow hm _
  have key : ∃ r, r < f.infRung ∧ val f r = N := by
    by_cases hs : N < 2 * f.binade
    · refine ⟨N, ?_, ?_⟩
      · rw [eI]
        have : 2 * f.binade ≤ (2 ^ f.exponentBits - 1) * f.binade := Nat.mul_le_mul_right _ (by omega)
        omega
      · unfold val
        by_cases hb : N < f.binade
        · rw [if_pos hb]
        · rw [if_neg hb]
          have hq : N / f.binade = 1 := by
            apply Nat.div_eq_of_lt_le <;> omega
          have hd := Nat.div_add_mod N f.binade
          rw [hq] at hd ⊢
          simp; omega
    · -- many digits: N = K 2^k with K of a full significand
      have hL : f.fractionBits + 1 ≤ N.log2 := by
        have h5 : N < 2 ^ (N.log2 + 1) := Nat.lt_log2_self
        rcases Nat.lt_or_ge N.log2 (f.fractionBits + 1) with h6 | h6
        · have : 2 ^ (N.log2 + 1) ≤ 2 ^ (f.fractionBits + 1) := Nat.pow_le_pow_right (by omega) (by omega)
          rw [Nat.pow_succ 2 f.fractionBits, ← eB] at this
          omega
        · exact h6
      obtain ⟨k, hk⟩ : ∃ k, N.log2 = f.fractionBits + k := ⟨N.log2 - f.fractionBits, by omega⟩
      have hkp : k ≤ (p - f.leastPlace).toNat := by omega
      obtain ⟨K, hK⟩ : ∃ K, K = m * 2 ^ ((p - f.leastPlace).toNat - k) := ⟨_, rfl⟩
      have hNK : N = K * 2 ^ k := by
        rw [hK, Nat.mul_assoc, ← Nat.pow_add, ← hN]; congr 2; omega
      have hK0 : K ≠ 0 := by intro e; rw [e, Nat.zero_mul] at hNK; exact hN0 hNK
      have hlK : K.log2 = f.fractionBits := by
        have := log2_mul_pow hK0 k
        rw [← hNK, hk] at this; omega
      have hK1 : f.binade ≤ K := by rw [eB, ← hlK]; exact Nat.log2_self_le hK0
      have hK2 : K < 2 * f.binade := by
        have := @Nat.lt_log2_self K
        rw [hlK, Nat.pow_succ, ← eB] at this; omega
      refine ⟨k * f.binade + K, ?_, ?_⟩
      · rw [eI]
        have h7 : (k + 2) * f.binade ≤ (2 ^ f.exponentBits - 1) * f.binade := Nat.mul_le_mul_right _ (by
          have : ((2 ^ f.exponentBits : Nat) : Int) = 2 ^ f.exponentBits := by simp
          omega)
        rw [Nat.add_mul] at h7
        omega
      · have hq : (k * f.binade + K) / f.binade = k + 1 := by
          rw [Nat.mul_comm, Nat.mul_add_div hB]
          have : K / f.binade = 1 := by apply Nat.div_eq_of_lt_le <;> omega
          omega
        have hm2 : (k * f.binade + K) % f.binade = K - f.binade := by
          rw [Nat.mul_comm, Nat.mul_add_mod]
          have : K = f.binade + (K - f.binade) := by omega
          rw [this, Nat.add_mod_left, Nat.mod_eq_of_lt (by omega)]; omega
        unfold val
        rw [if_neg (by omega), hq, hm2, hNK]
        congr 1
        · omega
  obtain ⟨r, hr, hv⟩ := key
  refine ⟨r, hr, nearest_exact f s hm hr h2 (Int.le_refl _) ?_, hv.trans hN.symm⟩
  rw [hv, ← hN]; simp

end Go.Proofs.Ytmlgkmgkicdnbaa.Fl
