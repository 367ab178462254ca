/-
  Plain facts on the order of IEEE words: the whole number behind a word, and the rank that puts minus nought ahead of nought and NaN last. No program in sight.
-/
import Derived.Test.YtmlgkmgkicdnbaaMFloat
namespace Go.Proofs.Ytmlgkmgkicdnbaa.Fl
open Ieee

/-- The magnitude of a rung in units of the least place (infinity's as if it were a number). -/
def val (f : Format) (r : Nat) : Nat := if r < f.binade then r else (f.binade + r % f.binade) * 2 ^ (r / f.binade - 1)

theorem binade_pos (f : Format) : 0 < f.binade := Nat.two_pow_pos _

theorem val_succ (f : Format) (r : Nat) : val f r < val f (r + 1) := by
  have hB := binade_pos f
  unfold val
  generalize f.binade = B at hB
  by_cases h1 : r < B
  · rw [if_pos h1]
    by_cases h2 : r + 1 < B
    · rw [if_pos h2]; omega
    · have e : r + 1 = B := by omega
      rw [if_neg h2, e]
      simp [Nat.div_self hB]
      omega
  · rw [if_neg h1, if_neg (by omega)]
    have hq : 1 ≤ r / B := (Nat.one_le_div_iff hB).2 (by omega)
    have hm := Nat.mod_lt r hB
    have hd := Nat.div_add_mod r B
    by_cases h2 : r % B + 1 < B
    · have e1 : (r + 1) / B = r / B := by
        rw [← hd]
        rw [Nat.add_assoc, Nat.mul_add_div hB, Nat.mul_add_div hB, Nat.div_eq_of_lt h2, Nat.div_eq_of_lt hm]
      have e2 : (r + 1) % B = r % B + 1 := by
        conv => lhs; rw [← hd]
        rw [Nat.add_assoc, Nat.mul_add_mod, Nat.mod_eq_of_lt h2]
      rw [e1, e2]
      exact Nat.mul_lt_mul_of_pos_right (by omega) (Nat.two_pow_pos _)
    · have e : r % B + 1 = B := by omega
      have er : r + 1 = B * (r / B + 1) := by rw [Nat.mul_add]; omega
      have e1 : (r + 1) / B = r / B + 1 := by rw [er, Nat.mul_div_cancel_left _ hB]
      have e2 : (r + 1) % B = 0 := by rw [er, Nat.mul_mod_right]
      rw [e1, e2]
      have : r / B + 1 - 1 = (r / B - 1) + 1 := by omega
      rw [this, Nat.pow_succ, Nat.mul_comm (2 ^ _) 2, ← Nat.mul_assoc]
      exact Nat.mul_lt_mul_of_pos_right (by omega) (Nat.two_pow_pos _)

theorem val_mono (f : Format) {r s : Nat} (h : r < s) : val f r < val f s := by
  induction s with
  | zero => omega
  | succ n ih =>
    by_cases e : r = n
    · subst e; exact val_succ f r
    · exact Nat.lt_trans (ih (by omega)) (val_succ f n)

theorem val_zero (f : Format) : val f 0 = 0 := by unfold val; rw [if_pos (binade_pos f)]

theorem val_lt_iff (f : Format) (r s : Nat) : val f r < val f s ↔ r < s := by
  constructor
  · intro h
    rcases Nat.lt_trichotomy r s with h1 | h1 | h1
    · exact h1
    · subst h1; omega
    · have := val_mono f h1; omega
  · exact val_mono f

/-- The word as a whole number of the least place's units, with its sign. -/
def ival (f : Format) (x : Nat) : Int := if sgn f x then -(val f (rung f x) : Int) else (val f (rung f x) : Int)

theorem shl_pow (m k : Nat) : m <<< k = m * 2 ^ k := Nat.shiftLeft_eq m k

theorem signed_eq (s : Bool) (m u : Nat) : signed s m u = (if s then -(m : Int) else (m : Int)) * (2 ^ u : Nat) := by
  unfold signed
  rw [shl_pow]
  cases s <;> simp [Int.neg_mul]

theorem compare_scale (a b : Int) (c : Nat) (h : 0 < c) : compare (a * (c : Int)) (b * (c : Int)) = compare a b := by
  have hc : (0 : Int) < c := by omega
  rcases Int.lt_trichotomy a b with h1 | h1 | h1
  · rw [Int.compare_eq_lt.2 h1, Int.compare_eq_lt.2 (Int.mul_lt_mul_of_pos_right h1 hc)]
  · subst h1; simp
  · rw [Int.compare_eq_gt.2 h1, Int.compare_eq_gt.2 (Int.mul_lt_mul_of_pos_right h1 hc)]

/-- A number's datum in units of any place below it. -/
theorem signed_scaled (s : Bool) (m : Nat) (i lp base : Int) (h1 : base ≤ i) (h2 : lp ≤ base) :
    signed s m (i - base).toNat * ((2 ^ (base - lp).toNat : Nat) : Int) = signed s m (i - lp).toNat := by
  rw [signed_eq, signed_eq, Int.mul_assoc, ← Int.natCast_mul, ← Nat.pow_add]
  have : (i - base).toNat + (base - lp).toNat = (i - lp).toNat := by omega
  rw [this]

theorem rd_num {f : Format} {s : Bool} {r : Nat} {t m i} (h : rd f s r = .number t m i) : t = s ∧ f.leastPlace ≤ i ∧ val f r = m * 2 ^ (i - f.leastPlace).toNat ∧ (r < f.binade ∨ r < f.infRung) := by
  unfold rd at h
  unfold val
  split at h
  · rename_i hb
    cases h
    rw [if_pos hb]
    simp [hb]
  · rename_i hb
    split at h
    · cases h
      rw [if_neg hb]
      refine ⟨rfl, by omega, ?_, .inr ‹_›⟩
      have : (f.leastPlace + ((r / f.binade - 1 : Nat) : Int) - f.leastPlace).toNat = r / f.binade - 1 := by omega
      rw [this]
    · split at h <;> cases h

theorem rd_inf {f : Format} {s : Bool} {r : Nat} {t} (h : rd f s r = .infinity t) : t = s ∧ r = f.infRung ∧ f.binade ≤ r := by
  unfold rd at h
  split at h
  · cases h
  · split at h
    · cases h
    · split at h
      · rename_i hb _ he; cases h; exact ⟨rfl, he, by omega⟩
      · cases h

theorem compare_neg (a b : Int) : compare (-a) (-b) = compare b a := by
  rcases Int.lt_trichotomy a b with h1 | h1 | h1
  · rw [Int.compare_eq_gt.2 h1, Int.compare_eq_gt.2 (by omega)]
  · subst h1; simp
  · rw [Int.compare_eq_lt.2 h1, Int.compare_eq_lt.2 (by omega)]

/-- The order of two words that are no NaNs is that of their whole numbers. (The format's infinity lies above its subnormal numbers.) -/
theorem order_ival (f : Format) (hf : f.binade ≤ f.infRung) {x y : Nat} (hx : isn f x = false) (hy : isn f y = false) : f.order x y = some (compare (ival f x) (ival f y)) := by
  unfold isn at hx hy
  unfold Format.order ival
  rw [read_eq] at hx hy ⊢
  rw [read_eq f y]
  generalize sgn f x = s at *
  generalize sgn f y = t at *
  generalize rung f x = r at *
  generalize rung f y = q at *
  cases h1 : rd f s r with
  | nan _ _ => rw [h1] at hx; cases hx
  | number s' m i =>
    obtain ⟨rfl, hi, hv, hr⟩ := rd_num h1
    cases h2 : rd f t q with
    | nan _ _ => rw [h2] at hy; cases hy
    | number t' n j =>
      obtain ⟨rfl, hj, hw, hq⟩ := rd_num h2
      simp only [Datum.order]
      have e1 := signed_scaled s' m i f.leastPlace (min i j) (by omega) (by omega)
      have e2 := signed_scaled t' n j f.leastPlace (min i j) (by omega) (by omega)
      rw [← compare_scale _ _ (2 ^ (min i j - f.leastPlace).toNat) (Nat.two_pow_pos _), e1, e2, signed_eq, signed_eq, hv, hw]
      cases s' <;> cases t' <;> simp [Int.neg_mul]
    | infinity t' =>
      obtain ⟨rfl, hq, hb⟩ := rd_inf h2
      have hlt : val f r < val f q := val_mono f (by omega)
      simp only [Datum.order]
      cases t'
      · have : (if s' = true then -(val f r : Int) else (val f r : Int)) < (val f q : Int) := by split <;> omega
        simp [Int.compare_eq_lt.2 this]
      · have : -(val f q : Int) < (if s' = true then -(val f r : Int) else (val f r : Int)) := by split <;> omega
        simp [Int.compare_eq_gt.2 this]
  | infinity s' =>
    obtain ⟨rfl, hr, hb⟩ := rd_inf h1
    cases h2 : rd f t q with
    | nan _ _ => rw [h2] at hy; cases hy
    | number t' n j =>
      obtain ⟨rfl, hj, hw, hq⟩ := rd_num h2
      have hlt : val f q < val f r := val_mono f (by omega)
      simp only [Datum.order]
      cases s'
      · have : (if t' = true then -(val f q : Int) else (val f q : Int)) < (val f r : Int) := by split <;> omega
        simp [Int.compare_eq_gt.2 this]
      · have : -(val f r : Int) < (if t' = true then -(val f q : Int) else (val f q : Int)) := by split <;> omega
        simp [Int.compare_eq_lt.2 this]
    | infinity t' =>
      obtain ⟨rfl, hq, _⟩ := rd_inf h2
      have hlt : 0 < val f r := by have := val_mono f (show 0 < r by have := binade_pos f; omega); omega
      have e : q = r := by omega
      subst e
      simp only [Datum.order]
      cases s' <;> cases t'
      · simp
      · have : -(val f q : Int) < (val f q : Int) := by omega
        simp [Int.compare_eq_gt.2 this]
        rfl
      · have : -(val f q : Int) < (val f q : Int) := by omega
        simp [Int.compare_eq_lt.2 this]
        rfl
      · simp

theorem order_nan (f : Format) {x y : Nat} (h : isn f x = true ∨ isn f y = true) : f.order x y = none := by
  unfold isn at h
  unfold Format.order
  cases h1 : f.read x <;> cases h2 : f.read y <;> simp_all [Datum.order, Datum.isNaN]

end Go.Proofs.Ytmlgkmgkicdnbaa.Fl
