/-
  Floats of two widths converted. No function of the program.
-/
import Derived.Test.YtmlgkmgkicdnbaaMFv
import Derived.Test.YtmlgkmgkicdnbaaMExact
namespace Go.Proofs.Ytmlgkmgkicdnbaa
open Go.RowKit Fl

/-- What a conversion between the widths gives in the world w (where the language leaves it open, what the tape tells). -/
def cfv (s k : FloatKind) (b : Nat) (w : World) : Nat :=
  if s = k then b else
  match s.decode b with
  | .nan _ _ => (Question.nanConv k b).cut (w.tape w.drawn (.nanConv k b))
  | .infinity t => k.encode (.infinity t)
  | .number t m e => if (k.decode (k.encode (.number t m e))).isInfinity then (Question.floatToFloat b).cut (w.tape w.drawn (.floatToFloat b)) else k.encode (.number t m e)
/-- How often it asks the tape. -/
def cfd (s k : FloatKind) (b : Nat) : Nat :=
  if s = k then 0 else
  match s.decode b with
  | .nan _ _ => 1
  | .infinity _ => 0
  | .number t m e => if (k.decode (k.encode (.number t m e))).isInfinity then 1 else 0

section
variable {P : Program}
theorem run_f2f (s k : FloatKind) (b : Nat) (w : World) : (Conv.floatToFloat s b k).run P w = .ok (.float k (cfv s k b w)) (w.drewN (cfd s k b)) := by
  unfold Conv.floatToFloat cfv cfd
  by_cases h : s = k
  · subst h; simp [World.drewN]
  · simp only [h, if_false]
    cases hd : s.decode b with
    | nan _ _ => simp [Question.forced, World.drewN]
    | infinity t => simp [World.drewN]
    | number t m e =>
      by_cases hi : (k.decode (k.encode (.number t m e))).isInfinity = true
      · simp [hi, Question.forced, World.drewN]
      · simp [hi, World.drewN]
theorem run_convert_ff (src dst : TypeId) (s k : FloatKind) (b : Nat) (w : World) (hs : (P.underlying src).isSome = true) (hd : P.underlying dst = some (.float k)) :
    (convert src dst (.float s b)).run P w = .ok (.float k (cfv s k b w)) (w.drewN (cfd s k b)) := by
  obtain ⟨u, hs'⟩ := Option.isSome_iff_exists.1 hs
  cases u <;> simp [convert, run_underlying hs', run_underlying hd, run_f2f]
theorem run_convert_cc (src dst : TypeId) (s k : FloatKind) (a b : Nat) (w : World) (hs : (P.underlying src).isSome = true) (hd : P.underlying dst = some (.complex k)) :
    (convert src dst (.complex s a b)).run P w = .ok (.complex k (cfv s k a w) (cfv s k b (w.drewN (cfd s k a)))) (w.drewN (cfd s k a + cfd s k b)) := by
  obtain ⟨u, hs'⟩ := Option.isSome_iff_exists.1 hs
  cases u <;> simp [convert, run_underlying hs', run_underlying hd, Conv.complexToComplex, run_f2f]
end

/-- What is handed back by a conversion. -/
def CR (s k : FloatKind) (b r : Nat) : Prop := ∃ w, r = cfv s k b w
theorem cut_conv_nan (k : FloatKind) (b t : Nat) : isn k.format ((Question.nanConv k b).cut t) = true := by
  cases k
  · exact nan_cut .f32 0 0 t
  · exact nan_cut .f64 0 0 t
theorem word_self {f : Ieee.Format} {x : Nat} (h : x < 2 * f.signWeight) : f.word (sgn f x) (rung f x) = x := by
  unfold Ieee.Format.word sgn rung
  have hd := Nat.div_add_mod x f.signWeight
  have hq : x / f.signWeight < 2 := Nat.div_lt_of_lt_mul (by omega)
  generalize x / f.signWeight = q at *
  generalize x % f.signWeight = r at *
  have hq' : q = 0 ∨ q = 1 := by omega
  rcases hq' with rfl | rfl
  · simp at hd ⊢; omega
  · simp at hd ⊢; omega
/-- A narrow float widened: its word, where it is no NaN. -/
def wid (x : Nat) : Nat := FloatKind.f64.encode (FloatKind.f32.decode x)
theorem single_ok : Ieee.single.binade ≤ Ieee.single.infRung := by decide
theorem widen_num {x : Nat} {t : Bool} {m : Nat} {e : Int} (h : Ieee.single.read x = .number t m e) :
    ∃ r, r < Ieee.double.infRung ∧ Ieee.double.nearest t m e = Ieee.double.word t r ∧ val Ieee.double r = m * 2 ^ (e - Ieee.double.leastPlace).toNat ∧ Ieee.double.leastPlace ≤ e := by
  rw [read_eq] at h
  have hlp : Ieee.single.leastPlace = -149 := by decide
  have hlpd : Ieee.double.leastPlace = -1074 := by decide
  have hB : Ieee.single.binade = 2 ^ 23 := by decide
  have hI : Ieee.single.infRung = 255 * 2 ^ 23 := by decide
  obtain ⟨_, he, _, hr⟩ := rd_num h
  have hbound : m < 2 ^ 24 ∧ e ≤ 104 := by
    unfold rd at h
    split at h
    · cases h; rw [hlp]; omega
    · split at h
      · cases h
        have := Nat.mod_lt (rung Ieee.single x) (binade_pos Ieee.single)
        rw [hB] at this
        refine ⟨by rw [hB]; omega, ?_⟩
        rw [hlp, hB]
        have h5 : rung Ieee.single x / 2 ^ 23 < 255 := Nat.div_lt_of_lt_mul (by omega)
        omega
      · split at h <;> cases h
  by_cases hm : m = 0
  · subst hm
    refine ⟨0, by decide, ?_, ?_, by omega⟩
    · simp [Ieee.Format.nearest]
    · rw [val_zero]; simp
  · have hl : m.log2 < 24 := (Nat.log2_lt hm).2 hbound.1
    obtain ⟨r, h1, h2, h3⟩ := nearest_few Ieee.double t (p := e) hm (by show m.log2 ≤ 52; omega) (by omega) (by rw [hlpd]; show e + (m.log2 : Int) - ((52 : Nat) : Int) - -1074 + 1 < 2 ^ 11 - 1; omega) (by decide)
    exact ⟨r, h1, h2, h3, by omega⟩
theorem isn_of {f : Ieee.Format} {x : Nat} {d : Ieee.Datum} (h : f.read x = d) : isn f x = d.isNaN := by unfold isn; rw [h]
theorem cfv_num {s k : FloatKind} (hsk : s ≠ k) {b : Nat} {t : Bool} {m : Nat} {e : Int} (hd : s.format.read b = .number t m e) (hni : (k.decode (k.encode (.number t m e))).isInfinity = false) (w : World) : cfv s k b w = k.encode (.number t m e) := by
  unfold cfv
  rw [if_neg hsk, show s.decode b = .number t m e from hd]
  dsimp only
  rw [hni, if_neg (by decide)]
theorem cfv_inf {s k : FloatKind} (hsk : s ≠ k) {b : Nat} {t : Bool} (hd : s.format.read b = .infinity t) (w : World) : cfv s k b w = k.encode (.infinity t) := by
  unfold cfv
  rw [if_neg hsk, show s.decode b = .infinity t from hd]
theorem cfv_nan {s k : FloatKind} (hsk : s ≠ k) {b : Nat} {t : Bool} {m : Nat} (hd : s.format.read b = .nan t m) (w : World) : isn k.format (cfv s k b w) = true := by
  unfold cfv
  rw [if_neg hsk, show s.decode b = .nan t m from hd]
  exact cut_conv_nan k b _
theorem encode_inf (k : FloatKind) (t : Bool) : k.encode (.infinity t) = k.format.word t k.format.infRung := rfl
theorem isn_encode_inf (k : FloatKind) (t : Bool) : isn k.format (k.encode (.infinity t)) = false := by
  rw [encode_inf]; exact isn_word k.format t (Nat.le_refl _)
theorem not_inf_word {f : Ieee.Format} {t : Bool} {r : Nat} (hr : r < f.infRung) : (f.read (f.word t r)).isInfinity = false := by
  have hlt := f.infRung_lt
  rw [read_word _ _ (by omega)]
  unfold rd
  split
  · rfl
  · first | rfl | (rw [if_pos hr]; rfl)
theorem widen_CR {x r : Nat} (h : CR .f32 .f64 x r) : (isn Ieee.single x = true ∧ isn Ieee.double r = true) ∨ (isn Ieee.single x = false ∧ r = wid x ∧ isn Ieee.double r = false) := by
  obtain ⟨w, rfl⟩ := h
  cases hx : Ieee.single.read x with
  | nan a b => exact .inl ⟨isn_of hx, cfv_nan (s := .f32) (k := .f64) (by decide) hx w⟩
  | infinity t =>
    have e := cfv_inf (s := .f32) (k := .f64) (by decide) hx w
    refine .inr ⟨isn_of hx, ?_, ?_⟩
    · rw [e]; unfold wid; rw [show FloatKind.f32.decode x = .infinity t from hx]
    · rw [e]; exact isn_encode_inf .f64 t
  | number t m p =>
    obtain ⟨r, h1, h2, h3, h4⟩ := widen_num hx
    have hw : FloatKind.f64.encode (.number t m p) = Ieee.double.word t r := h2
    have hni : (FloatKind.f64.decode (FloatKind.f64.encode (.number t m p))).isInfinity = false := by
      rw [hw]; exact not_inf_word h1
    have e := cfv_num (s := .f32) (k := .f64) (by decide) hx hni w
    refine .inr ⟨isn_of hx, ?_, ?_⟩
    · rw [e]; unfold wid; rw [show FloatKind.f32.decode x = .number t m p from hx]
    · rw [e, hw]; exact isn_word _ _ (Nat.le_of_lt h1)
/-- What was widened and is narrowed again is itself. -/
theorem back_CR {x r y : Nat} (hx : x < 2 ^ 32) (h1 : CR .f32 .f64 x r) (h2 : CR .f64 .f32 r y) : (isn Ieee.single x = true ∧ isn Ieee.single y = true) ∨ (isn Ieee.single x = false ∧ y = x) := by
  have hself : Ieee.single.word (sgn Ieee.single x) (rung Ieee.single x) = x := word_self (by show x < 2 * 2 ^ 31; omega)
  obtain ⟨w2, rfl⟩ := h2
  rcases widen_CR h1 with ⟨hn, hr⟩ | ⟨hn, hr, hrn⟩
  · refine .inl ⟨hn, ?_⟩
    unfold isn at hr
    cases hd : Ieee.double.read r with
    | nan a b => exact cfv_nan (s := .f64) (k := .f32) (by decide) hd w2
    | infinity t => rw [hd] at hr; cases hr
    | number t m e => rw [hd] at hr; cases hr
  · refine .inr ⟨hn, ?_⟩
    unfold wid at hr
    cases hd : Ieee.single.read x with
    | nan a b => rw [isn_of hd] at hn; cases hn
    | infinity t =>
      rw [show FloatKind.f32.decode x = .infinity t from hd] at hr
      have e1 : Ieee.double.read r = .infinity t := by
        rw [hr, encode_inf]
        show Ieee.double.read (Ieee.double.word t Ieee.double.infRung) = _
        rw [read_word _ _ Ieee.double.infRung_lt]
        cases t <;> decide +kernel
      rw [cfv_inf (s := .f64) (k := .f32) (by decide) e1 w2]
      have hd' := hd
      rw [read_eq] at hd'
      obtain ⟨e2, e3, _⟩ := rd_inf hd'
      rw [encode_inf]
      show Ieee.single.word t Ieee.single.infRung = x
      rw [e2, ← e3]; exact hself
    | number t m e =>
      rw [show FloatKind.f32.decode x = .number t m e from hd] at hr
      obtain ⟨ρ, g1, g2, g3, g4⟩ := widen_num hd
      have hlt := Ieee.double.infRung_lt
      have hw : FloatKind.f64.encode (.number t m e) = Ieee.double.word t ρ := g2
      rw [hw] at hr
      have hrd : Ieee.double.read r = rd Ieee.double t ρ := by rw [hr]; exact read_word _ _ (by omega)
      have hd' := hd
      rw [read_eq] at hd'
      obtain ⟨e2, e3, e4, e5⟩ := rd_num hd'
      have hrx : rung Ieee.single x < Ieee.single.infRung := by have := single_ok; omega
      cases hq : rd Ieee.double t ρ with
      | nan a b => have := rd_nan Ieee.double t ρ; rw [hq] at this; simp [Ieee.Datum.isNaN] at this; omega
      | infinity a => obtain ⟨_, q2, _⟩ := rd_inf hq; omega
      | number t' m' e' =>
        obtain ⟨q1, q2, q3, _⟩ := rd_num hq
        subst q1
        have henc : FloatKind.f32.encode (.number t' m' e') = x := by
          show Ieee.single.nearest t' m' e' = x
          by_cases hm : m' = 0
          · subst hm
            rw [Nat.zero_mul] at q3
            rw [q3] at g3
            have hm0 : m = 0 := by
              rcases Nat.eq_zero_or_pos m with h | h
              · exact h
              · exact absurd g3.symm (Nat.mul_ne_zero (by omega) (Nat.pos_iff_ne_zero.1 (Nat.two_pow_pos _)))
            have hr0 : rung Ieee.single x = 0 := by
              rcases Nat.eq_zero_or_pos (rung Ieee.single x) with h | h
              · exact h
              · have := val_mono Ieee.single h
                rw [val_zero, e4, hm0, Nat.zero_mul] at this; omega
            have : Ieee.single.nearest t' 0 e' = Ieee.single.word t' 0 := by simp [Ieee.Format.nearest]
            rw [this, e2, ← hr0]; exact hself
          · have hle : Ieee.double.leastPlace ≤ Ieee.single.leastPlace := by decide
            have hex : (e - Ieee.double.leastPlace).toNat = (e - Ieee.single.leastPlace).toNat + (Ieee.single.leastPlace - Ieee.double.leastPlace).toNat := by omega
            have heq : m' * 2 ^ (e' - Ieee.double.leastPlace).toNat = val Ieee.single (rung Ieee.single x) * 2 ^ (Ieee.single.leastPlace - Ieee.double.leastPlace).toNat := by
              rw [← q3, g3, e4, hex, Nat.pow_add, Nat.mul_assoc]
            rw [nearest_exact Ieee.single t' hm hrx q2 hle heq, e2]; exact hself
        have hni : (FloatKind.f32.decode (FloatKind.f32.encode (.number t' m' e'))).isInfinity = false := by
          rw [henc, show FloatKind.f32.decode x = .number t' m e from hd]; rfl
        rw [cfv_num (s := .f64) (k := .f32) (by decide) (hrd.trans hq) hni w2]
        exact henc
theorem cfv_lt32 (b : Nat) (w : World) : cfv .f64 .f32 b w < 2 ^ 32 := by
  unfold cfv
  rw [if_neg (by decide)]
  split
  · exact isn_lt .f32 0 0 _
  · exact Ieee.Format.write_lt Ieee.single _
  · split
    · exact Nat.mod_lt _ (by decide)
    · exact Ieee.Format.write_lt Ieee.single _

theorem ab_widened {x y r1 r2 : Nat} (h : (isn Ieee.single x = true ∧ isn Ieee.single y = true) ∨ (isn Ieee.single x = false ∧ y = x)) (h1 : CR .f32 .f64 y r1) (h2 : CR .f32 .f64 x r2) : ab .f64 r1 = ab .f64 r2 := by
  have e1 : ab .f64 r1 = if isn Ieee.double r1 then none else some r1 := rfl
  have e2 : ab .f64 r2 = if isn Ieee.double r2 then none else some r2 := rfl
  rw [e1, e2]
  rcases h with ⟨hx, hy⟩ | ⟨hx, rfl⟩
  · rcases widen_CR h1 with ⟨_, g1⟩ | ⟨g1, _⟩
    · rcases widen_CR h2 with ⟨_, g2⟩ | ⟨g2, _⟩
      · rw [g1, g2]; rfl
      · rw [hx] at g2; cases g2
    · rw [hy] at g1; cases g1
  · rcases widen_CR h1 with ⟨g1, _⟩ | ⟨_, g1, g1'⟩
    · rw [hx] at g1; cases g1
    · rcases widen_CR h2 with ⟨g2, _⟩ | ⟨_, g2, g2'⟩
      · rw [hx] at g2; cases g2
      · rw [g1', g2', g1, g2]

end Go.Proofs.Ytmlgkmgkicdnbaa
