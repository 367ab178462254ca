/-
  Sums in lanes on floats without the bits of a NaN: what the lanes hold, and that noughts behind change nothing. No function of the program.
-/
import Derived.Test.YtmlgkmgkicdnbaaLWalkF
import Derived.Test.YtmlgkmgkicdnbaaLExact
namespace Go.Proofs.Ytmlgkmgkicdnbaa
open Go.RowKit Fl

def abp (x : Nat × Nat) : Option Nat × Option Nat := (ab .f64 x.1, ab .f64 x.2)
def addp (a b : Option Nat × Option Nat) : Option Nat × Option Nat := (opO .add .f64 a.1 b.1, opO .add .f64 a.2 b.2)
/-- Lane j behind the first k numbers. -/
def lane (f : Nat → Nat × Nat) : Nat → Nat → Option Nat × Option Nat
  | 0, _ => (some 0, some 0)
  | k + 1, j => if k % 4 = j then addp (lane f k j) (abp (f k)) else lane f k j
def total (f : Nat → Nat × Nat) (n : Nat) : Option Nat × Option Nat := addp (addp (lane f n 0) (lane f n 1)) (addp (lane f n 2) (lane f n 3))

theorem lane_congr {f g : Nat → Nat × Nat} {k : Nat} (h : ∀ i, i < k → f i = g i) (j : Nat) : lane f k j = lane g k j := by
  induction k with
  | zero => rfl
  | succ k ih =>
    unfold lane
    rw [ih (fun i hi => h i (by omega)), h k (by omega)]

theorem total_congr {f g : Nat → Nat × Nat} {n : Nat} (h : ∀ i, i < n → f i = g i) : total f n = total g n := by
  unfold total
  rw [lane_congr h, lane_congr h, lane_congr h, lane_congr h]

theorem signed_true (m u : Nat) : Ieee.signed true m u = -((m * 2 ^ u : Nat) : Int) := by unfold Ieee.signed; rw [shl_pow]; rfl

/-- Minus nought. -/
def mz : Nat := 9223372036854775808

/-- A float that is no minus nought stays itself when nought is added. -/
theorem add_nought {x : Nat} (hx : x < 2 ^ 64) (hn : isn Ieee.double x = false) (hm : x ≠ mz) : floatBits .add .f64 x 0 = some x := by
  show Ieee.double.add x 0 = some x
  have hself : Ieee.double.word (sgn Ieee.double x) (rung Ieee.double x) = x := by
    have hsw : Ieee.double.signWeight = 2 ^ 63 := rfl
    unfold Ieee.Format.word sgn rung
    rw [hsw]
    have hd := Nat.div_add_mod x (2 ^ 63)
    have hq : x / 2 ^ 63 = 0 ∨ x / 2 ^ 63 = 1 := by omega
    rcases hq with h | h <;> rw [h] <;> simp <;> omega
  have hz : Ieee.double.read 0 = .number false 0 Ieee.double.leastPlace := by decide +kernel
  unfold Ieee.Format.add
  rw [hz]
  unfold isn at hn
  have hr := read_eq Ieee.double x
  cases hd : Ieee.double.read x with
  | nan a b => rw [hd] at hn; cases hn
  | infinity t =>
    rw [hr] at hd
    obtain ⟨e1, e2, _⟩ := rd_inf hd
    simp only [Ieee.Datum.sum, Option.map]
    show some (Ieee.double.word t Ieee.double.infRung) = some x
    rw [e1, ← e2, hself]
  | number t m i =>
    have hd' := hd
    rw [hr] at hd'
    obtain ⟨e1, e2, e3, e4⟩ := rd_num hd'
    have hrx : rung Ieee.double x < Ieee.double.infRung := by have := dbl_ok; omega
    have hmin : min i Ieee.double.leastPlace = Ieee.double.leastPlace := by omega
    simp only [Ieee.Datum.sum, hmin]
    have hz0 : Ieee.signed false 0 (Ieee.double.leastPlace - Ieee.double.leastPlace).toNat = 0 := by simp [Ieee.signed]
    rw [hz0, Int.add_zero]
    by_cases hm0 : m = 0
    · subst hm0
      have hr0 : rung Ieee.double x = 0 := by
        rcases Nat.eq_zero_or_pos (rung Ieee.double x) with h | h
        · exact h
        · have := val_mono Ieee.double h
          rw [val_zero, e3, Nat.zero_mul] at this; omega
      have ht : t = false := by
        cases t
        · rfl
        · exfalso
          rw [← e1, hr0] at hself
          exact hm (by rw [← hself]; decide +kernel)
      subst ht
      have : x = 0 := by rw [← hself, hr0, ← e1]; decide +kernel
      subst this
      simp [Ieee.signed, Ieee.Format.write, Ieee.Format.nearest, Ieee.Format.word]
    · have hv : m * 2 ^ (i - Ieee.double.leastPlace).toNat ≠ 0 := Nat.mul_ne_zero hm0 (Nat.pos_iff_ne_zero.1 (Nat.two_pow_pos _))
      have hsg : Ieee.signed t m (i - Ieee.double.leastPlace).toNat = if t then -((m * 2 ^ (i - Ieee.double.leastPlace).toNat : Nat) : Int) else ((m * 2 ^ (i - Ieee.double.leastPlace).toNat : Nat) : Int) := by
        unfold Ieee.signed; rw [shl_pow]
      have hnearest : Ieee.double.nearest t (m * 2 ^ (i - Ieee.double.leastPlace).toNat) Ieee.double.leastPlace = x := by
        rw [nearest_exact Ieee.double t hv hrx (Int.le_refl _) (Int.le_refl _) (by rw [e3]), e1, hself]
      rw [hsg]
      generalize m * 2 ^ (i - Ieee.double.leastPlace).toNat = N at *
      have hN : (0 : Int) < (N : Int) := by omega
      cases t
      · have h1 : ¬ ((N : Int) = 0) := by omega
        have h2 : ¬ ((N : Int) < 0) := by omega
        rw [if_neg Bool.false_ne_true, if_neg h1]
        simp only [h2, decide_false, Int.natAbs_natCast, Option.map]
        show some (Ieee.double.nearest false N _) = some x
        rw [hnearest]
      · have h1 : ¬ (-(N : Int) = 0) := by omega
        have h2 : (-(N : Int) < 0) := by omega
        rw [if_pos rfl, if_neg h1]
        simp only [h2, decide_true, Int.natAbs_neg, Int.natAbs_natCast, Option.map]
        show some (Ieee.double.nearest true N _) = some x
        rw [hnearest]

theorem nearest_pos (f : Ieee.Format) (s : Bool) {m : Nat} {p : Int} (hm : m ≠ 0) (hp : f.leastPlace ≤ p) (hi : 0 < f.infRung) : ∃ r, 0 < r ∧ r ≤ f.infRung ∧ f.nearest s m p = f.word s r := by
  have hB := binade_pos f
  unfold Ieee.Format.nearest
  rw [if_neg hm]
  refine ⟨_, ?_, Nat.min_le_right .., rfl⟩
  refine Nat.lt_min.2 ⟨?_, hi⟩
  by_cases h : max (p + (m.log2 : Int) - f.fractionBits) f.leastPlace ≤ p
  · have e : (max (p + (m.log2 : Int) - f.fractionBits) f.leastPlace - p).toNat = 0 := by omega
    rw [e, cut_zero, shl_pow]
    have : 0 < m * 2 ^ (p - max (p + (m.log2 : Int) - f.fractionBits) f.leastPlace).toNat := Nat.mul_pos (by omega) (Nat.two_pow_pos _)
    omega
  · have h1 : 1 ≤ (max (p + (m.log2 : Int) - f.fractionBits) f.leastPlace - f.leastPlace).toNat := by omega
    have h2 : f.binade ≤ (max (p + (m.log2 : Int) - f.fractionBits) f.leastPlace - f.leastPlace).toNat * f.binade := Nat.le_mul_of_pos_left _ (by omega)
    omega

/-- No minus nought, no NaN's bits. -/
def Good (v : Option Nat) : Prop := ∀ a, v = some a → a < 2 ^ 64 ∧ isn Ieee.double a = false ∧ a ≠ mz

theorem word_mz {s : Bool} {r : Nat} (hr : 0 < r) (hi : r ≤ Ieee.double.infRung) : Ieee.double.word s r ≠ mz := by
  have h1 : Ieee.double.infRung = 9218868437227405312 := by decide +kernel
  have h2 : Ieee.double.signWeight = 9223372036854775808 := by decide +kernel
  rw [h1] at hi
  unfold Ieee.Format.word mz
  rw [h2]
  cases s <;> simp <;> omega

theorem good_add {v x : Option Nat} (h : Good v) : Good (opO .add .f64 v x) := by
  intro r hr
  cases v with
  | none => cases hr
  | some a =>
    cases x with
    | none => cases hr
    | some b =>
      have hr : floatBits .add .f64 a b = some r := hr
      obtain ⟨ha, hn, hm⟩ := h a rfl
      refine ⟨?_, floatBits_isn hr, ?_⟩
      · have := floatBits_wf hr
        simpa [Lit.wf] using this
      · have hi0 : 0 < Ieee.double.infRung := by decide +kernel
        have hr : ((Ieee.double.read a).sum (Ieee.double.read b)).map Ieee.double.write = some r := hr
        have era := read_eq Ieee.double a
        have erb := read_eq Ieee.double b
        cases h1 : Ieee.double.read a with
        | nan s t => rw [h1] at hr; simp [Ieee.Datum.sum] at hr
        | infinity s =>
          rw [h1] at hr
          cases h2 : Ieee.double.read b with
          | nan t u => rw [h2] at hr; simp [Ieee.Datum.sum] at hr
          | infinity t =>
            rw [h2] at hr
            simp only [Ieee.Datum.sum] at hr
            split at hr
            · cases hr; exact word_mz hi0 (Nat.le_refl _)
            · cases hr
          | number t n j =>
            rw [h2] at hr
            simp only [Ieee.Datum.sum, Option.map] at hr
            cases hr; exact word_mz hi0 (Nat.le_refl _)
        | number s m i =>
          rw [h1] at hr
          cases h2 : Ieee.double.read b with
          | nan t u => rw [h2] at hr; simp [Ieee.Datum.sum] at hr
          | infinity t =>
            rw [h2] at hr
            simp only [Ieee.Datum.sum, Option.map] at hr
            cases hr; exact word_mz hi0 (Nat.le_refl _)
          | number t n j =>
            rw [h2] at hr
            rw [era] at h1
            rw [erb] at h2
            obtain ⟨e1, e2, e3, _⟩ := rd_num h1
            obtain ⟨_, g2, _, _⟩ := rd_num h2
            simp only [Ieee.Datum.sum, Option.map] at hr
            generalize hb : min i j = base at hr
            generalize htot : Ieee.signed s m (i - base).toNat + Ieee.signed t n (j - base).toNat = tot at hr
            by_cases h0 : tot = 0
            · rw [if_pos h0, h0] at hr
              simp only [Option.some.injEq] at hr
              have hw : Ieee.double.write (.number (s && t) 0 base) = Ieee.double.word (s && t) 0 := by simp [Ieee.Format.write, Ieee.Format.nearest]
              have hr' : Ieee.double.word (s && t) 0 = r := by rw [← hw]; exact hr
              intro hmz
              have hst : (s && t) = true := by
                cases hst : (s && t)
                · rw [hst, hmz] at hr'; exact absurd hr' (by decide +kernel)
                · rfl
              have hs : s = true := by simp at hst; exact hst.1
              have ht : t = true := by simp at hst; exact hst.2
              subst hs ht
              have hm0 : m = 0 := by
                rw [signed_true, signed_true, h0] at htot
                have f3 : m * 2 ^ (i - base).toNat = 0 := by omega
                rcases Nat.mul_eq_zero.1 f3 with f4 | f4
                · exact f4
                · exact absurd f4 (Nat.pos_iff_ne_zero.1 (Nat.two_pow_pos _))
              have hr0 : rung Ieee.double a = 0 := by
                rcases Nat.eq_zero_or_pos (rung Ieee.double a) with h | h
                · exact h
                · have := val_mono Ieee.double h
                  rw [val_zero, e3, hm0, Nat.zero_mul] at this; omega
              apply hm
              have hsw : Ieee.double.signWeight = 2 ^ 63 := rfl
              unfold rung at hr0
              unfold sgn at e1
              rw [hsw] at hr0 e1
              unfold mz
              have hd := Nat.div_add_mod a (2 ^ 63)
              have hq : a / 2 ^ 63 = 0 ∨ a / 2 ^ 63 = 1 := by omega
              rcases hq with hq | hq
              · rw [hq] at e1; simp at e1
              · omega
            · rw [if_neg h0] at hr
              simp only [Option.some.injEq] at hr
              obtain ⟨ρ, p1, p2, p3⟩ := nearest_pos Ieee.double (decide (tot < 0)) (m := tot.natAbs) (p := base) (by omega) (by omega) hi0
              have hr' : Ieee.double.nearest (decide (tot < 0)) tot.natAbs base = r := hr
              rw [← hr', p3]
              exact word_mz p1 p2

theorem good_zero : Good (some 0) := by
  intro a h
  cases h
  exact ⟨by decide, isn_zero, by decide⟩

theorem good_lane (f : Nat → Nat × Nat) (k j : Nat) : Good (lane f k j).1 ∧ Good (lane f k j).2 := by
  induction k with
  | zero => exact ⟨good_zero, good_zero⟩
  | succ k ih =>
    unfold lane
    split
    · exact ⟨good_add ih.1, good_add ih.2⟩
    · exact ih

theorem good_nought {v : Option Nat} (h : Good v) : opO .add .f64 v (some 0) = v := by
  cases v with
  | none => rfl
  | some a =>
    obtain ⟨h1, h2, h3⟩ := h a rfl
    show floatBits .add .f64 a 0 = some a
    exact add_nought h1 h2 h3

theorem abp_zero : abp (0, 0) = (some 0, some 0) := by
  have : ab .f64 0 = some 0 := by
    show (if isn Ieee.double 0 = true then none else some 0) = some 0
    rw [isn_zero]; rfl
  unfold abp; rw [this]

/-- Four noughts behind change no sum. -/
theorem total_noughts {f g : Nat → Nat × Nat} {n : Nat} (h : ∀ i, i < n → f i = g i) (hz : ∀ i, n ≤ i → i < n + 4 → g i = (0, 0)) : total f n = total g (n + 4) := by
  have key : ∀ j, j < 4 → lane g (n + 4) j = lane f n j := by
    intro j hj
    have hg := good_lane f n j
    have e0 := lane_congr h j
    have hzero : ∀ v : Option Nat × Option Nat, Good v.1 → Good v.2 → addp v (abp (0, 0)) = v := by
      intro v g1 g2
      unfold addp
      rw [abp_zero]
      simp only
      rw [good_nought g1, good_nought g2]
    have step : ∀ k, n ≤ k → k < n + 4 → ∀ v, lane g k j = v → Good v.1 → Good v.2 → lane g (k + 1) j = v := by
      intro k hk1 hk2 v hv g1 g2
      unfold lane
      rw [hv, hz k hk1 hk2]
      split
      · exact hzero v g1 g2
      · rfl
    have s1 := step n (by omega) (by omega) _ e0.symm hg.1 hg.2
    have s2 := step (n + 1) (by omega) (by omega) _ s1 hg.1 hg.2
    have s3 := step (n + 2) (by omega) (by omega) _ s2 hg.1 hg.2
    exact step (n + 3) (by omega) (by omega) _ s3 hg.1 hg.2
  unfold total
  rw [key 0 (by omega), key 1 (by omega), key 2 (by omega), key 3 (by omega)]

end Go.Proofs.Ytmlgkmgkicdnbaa
