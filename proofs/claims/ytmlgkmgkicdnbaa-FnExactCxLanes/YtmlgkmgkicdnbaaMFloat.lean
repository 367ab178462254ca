/-
  Plain facts on IEEE words: a float taken without the bits of a NaN ('ab'), the operations on such values, and how they stand to each other. No program in sight.
-/
import Ieee.Arith
import Derived.Laws.FloatArith
namespace Go.Proofs.Ytmlgkmgkicdnbaa.Fl
open Ieee

theorem sum_comm (a b : Datum) : a.sum b = b.sum a := by
  cases a <;> cases b <;> simp only [Datum.sum]
  · rename_i s m i t n j
    rw [Int.min_comm i j, Int.add_comm, Bool.and_comm]
  · rename_i s t
    by_cases h : s = t
    · subst h; rfl
    · rw [if_neg h, if_neg (Ne.symm h)]

theorem product_comm (a b : Datum) : a.product b = b.product a := by
  cases a <;> cases b <;> simp only [Datum.product]
  · rw [Bool.xor_comm, Nat.mul_comm, Int.add_comm]
  · rw [Bool.xor_comm]

theorem product_opposite (a b : Datum) : a.product b.opposite = (a.product b).map Datum.opposite := by
  cases a <;> cases b <;> simp only [Datum.product, Datum.opposite, Option.map] <;> try simp
  all_goals (split <;> rfl)

/-- A rung and a sign, read. -/
def rd (f : Format) (neg : Bool) (r : Nat) : Datum :=
  if r < f.binade then .number neg r f.leastPlace
  else if r < f.infRung then .number neg (f.binade + r % f.binade) (f.leastPlace + (r / f.binade - 1 : Nat))
  else if r = f.infRung then .infinity neg
  else .nan neg (r - f.infRung)

def sgn (f : Format) (x : Nat) : Bool := x / f.signWeight % 2 == 1
def rung (f : Format) (x : Nat) : Nat := x % f.signWeight

theorem read_eq (f : Format) (x : Nat) : f.read x = rd f (sgn f x) (rung f x) := rfl

theorem rd_not (f : Format) (s : Bool) (r : Nat) : rd f (!s) r = (rd f s r).opposite := by
  unfold rd
  split
  · rfl
  · split
    · rfl
    · split <;> rfl

theorem sgn_word (f : Format) (s : Bool) {r : Nat} (h : r < f.signWeight) : sgn f (f.word s r) = s := by
  have hp : 0 < f.signWeight := Nat.two_pow_pos _
  unfold sgn
  cases s
  · simp only [Format.word, Bool.false_eq_true, if_false]
    rw [Nat.div_eq_of_lt h]; rfl
  · simp only [Format.word, if_true]
    rw [Nat.add_div_left _ hp, Nat.div_eq_of_lt h]; rfl

theorem rung_word (f : Format) (s : Bool) {r : Nat} (h : r < f.signWeight) : rung f (f.word s r) = r := by
  unfold rung
  cases s
  · simp only [Format.word, Bool.false_eq_true, if_false]
    exact Nat.mod_eq_of_lt h
  · simp only [Format.word, if_true]
    rw [Nat.add_mod_left, Nat.mod_eq_of_lt h]

theorem read_word (f : Format) (s : Bool) {r : Nat} (h : r < f.signWeight) : f.read (f.word s r) = rd f s r := by
  rw [read_eq, sgn_word f s h, rung_word f s h]

theorem rd_nan (f : Format) (s : Bool) (r : Nat) : (rd f s r).isNaN = decide (f.binade ≤ r ∧ f.infRung < r) := by
  have hb : f.binade ≤ r → f.binade ≤ r := id
  unfold rd
  split
  · simp [Datum.isNaN]; omega
  · split
    · simp [Datum.isNaN]; omega
    · split
      · simp [Datum.isNaN]; omega
      · simp [Datum.isNaN]; omega

/-- Is the word a NaN? -/
def isn (f : Format) (x : Nat) : Bool := (f.read x).isNaN

theorem isn_word (f : Format) (s : Bool) {r : Nat} (h : r ≤ f.infRung) : isn f (f.word s r) = false := by
  have := f.infRung_lt
  rw [isn, read_word f s (by omega), rd_nan]
  simp; omega

theorem isn_nearest (f : Format) (s : Bool) (m : Nat) (p : Int) : isn f (f.nearest s m p) = false := by
  unfold Format.nearest
  dsimp only
  split
  · exact isn_word f s (Nat.zero_le _)
  · exact isn_word f s (Nat.min_le_right ..)

theorem isn_write (f : Format) (d : Datum) (h : d.isNaN = false) : isn f (f.write d) = false := by
  cases d with
  | number s m p => exact isn_nearest f s m p
  | infinity s => exact isn_word f s (Nat.le_refl _)
  | nan s t => cases h

theorem sum_nan {a b d : Datum} (h : a.sum b = some d) : d.isNaN = false := by
  cases a <;> cases b <;> simp only [Datum.sum] at h <;> first | (cases h; rfl) | cases h | skip
  split at h
  · cases h; rfl
  · cases h

theorem product_nan {a b d : Datum} (h : a.product b = some d) : d.isNaN = false := by
  cases a <;> cases b <;> simp only [Datum.product] at h <;> first | (cases h; rfl) | cases h | skip
  all_goals
    split at h
    · cases h
    · cases h; rfl

theorem quotient_nan {n : Nat} {a b d : Datum} (h : a.quotient n b = some d) : d.isNaN = false := by
  cases a <;> cases b <;> simp only [Datum.quotient] at h <;> first | (cases h; rfl) | cases h | skip
  split at h
  · split at h
    · cases h
    · cases h; rfl
  · cases h; rfl

theorem sum_of_nan {a b : Datum} (h : a.isNaN = true ∨ b.isNaN = true) : a.sum b = none := by
  cases a <;> cases b <;> simp_all [Datum.sum, Datum.isNaN]
theorem product_of_nan {a b : Datum} (h : a.isNaN = true ∨ b.isNaN = true) : a.product b = none := by
  cases a <;> cases b <;> simp_all [Datum.product, Datum.isNaN]
theorem quotient_of_nan {n : Nat} {a b : Datum} (h : a.isNaN = true ∨ b.isNaN = true) : a.quotient n b = none := by
  cases a <;> cases b <;> simp_all [Datum.quotient, Datum.isNaN]
theorem opposite_nan (a : Datum) : a.opposite.isNaN = a.isNaN := by cases a <;> rfl

/-- A float without the bits of a NaN. -/
def ab (k : FloatKind) (x : Nat) : Option Nat := if isn k.format x then none else some x

/-- An operation on such values. -/
def opO (op : BinOp) (k : FloatKind) (x y : Option Nat) : Option Nat := x.bind fun a => y.bind fun b => floatBits op k a b

theorem floatBits_isn {op : BinOp} {k : FloatKind} {x y r : Nat} (h : floatBits op k x y = some r) : isn k.format r = false := by
  have key : ∀ {d : Option Datum}, (∀ e, d = some e → e.isNaN = false) → d.map k.format.write = some r → isn k.format r = false := by
    intro d hd hm
    cases d with
    | none => cases hm
    | some e => cases hm; exact isn_write _ _ (hd e rfl)
  unfold floatBits at h
  split at h
  · exact key (fun _ => sum_nan) h
  · exact key (fun _ => sum_nan) h
  · exact key (fun _ => product_nan) h
  · exact key (fun _ => quotient_nan) h
  · cases h

theorem floatBits_of_isn {op : BinOp} {k : FloatKind} {x y : Nat} (h : isn k.format x = true ∨ isn k.format y = true) : floatBits op k x y = none := by
  unfold floatBits
  unfold isn at h
  split
  · rw [Format.add, sum_of_nan h]; rfl
  · rw [Format.sub, sum_of_nan (by rw [opposite_nan]; exact h)]; rfl
  · rw [Format.mul, product_of_nan h]; rfl
  · rw [Format.div, quotient_of_nan h]; rfl
  · rfl

/-- What a float operation of the program hands back: the bits that IEEE fixes, or some NaN. -/
def FR (op : BinOp) (k : FloatKind) (x y r : Nat) : Prop := floatBits op k x y = some r ∨ floatBits op k x y = none ∧ isn k.format r = true

theorem FR.ab_eq {op : BinOp} {k : FloatKind} {x y r : Nat} (h : FR op k x y r) : ab k r = opO op k (ab k x) (ab k y) := by
  unfold ab opO
  rcases h with h | ⟨h, hn⟩
  · by_cases hx : isn k.format x = true
    · rw [floatBits_of_isn (.inl hx)] at h; cases h
    · by_cases hy : isn k.format y = true
      · rw [floatBits_of_isn (.inr hy)] at h; cases h
      · simp [hx, hy, floatBits_isn h, h]
  · by_cases hx : isn k.format x = true
    · simp [hx, hn]
    · by_cases hy : isn k.format y = true
      · simp [hy, hn]
      · simp [hx, hy, hn, h]

theorem opO_add_comm (k : FloatKind) (x y : Option Nat) : opO .add k x y = opO .add k y x := by
  cases x <;> cases y <;> simp [opO, floatBits, Format.add, sum_comm]
theorem opO_mul_comm (k : FloatKind) (x y : Option Nat) : opO .mul k x y = opO .mul k y x := by
  cases x <;> cases y <;> simp [opO, floatBits, Format.mul, product_comm]

/-! ### Negation -/
theorem neg_sgn (f : Format) (x : Nat) : sgn f (x ^^^ 2 ^ (f.exponentBits + f.fractionBits)) = !(sgn f x) := by
  unfold sgn Format.signWeight
  generalize f.exponentBits + f.fractionBits = n
  have h1 : (x / 2 ^ n % 2 == 1) = x.testBit n := by
    rw [Nat.testBit_eq_decide_div_mod_eq]; rfl
  have h2 : ((x ^^^ 2 ^ n) / 2 ^ n % 2 == 1) = (x ^^^ 2 ^ n).testBit n := by
    rw [Nat.testBit_eq_decide_div_mod_eq]; rfl
  rw [h1, h2, Nat.testBit_xor, Nat.testBit_two_pow_self]
  simp

theorem neg_rung (f : Format) (x : Nat) : rung f (x ^^^ 2 ^ (f.exponentBits + f.fractionBits)) = rung f x := by
  unfold rung Format.signWeight
  rw [Nat.xor_mod_two_pow, Nat.mod_self, Nat.xor_zero]

theorem read_neg (k : FloatKind) (x : Nat) : k.format.read (Op.negFloat k x) = (k.format.read x).opposite := by
  unfold Op.negFloat
  rw [read_eq, read_eq, neg_sgn, neg_rung, rd_not]

theorem even_cut (s : Bool) (n d : Nat) : Toward.even.cut s n d = Toward.even.cut false n d := rfl

theorem nearest_rung (f : Format) (m : Nat) (p : Int) : ∃ r, r ≤ f.infRung ∧ ∀ s, f.nearest s m p = f.word s r := by
  unfold Format.nearest
  dsimp only
  split
  · exact ⟨0, Nat.zero_le _, fun _ => rfl⟩
  · exact ⟨_, Nat.min_le_right .., fun s => by rw [even_cut s]⟩

theorem read_write_opposite (f : Format) (d : Datum) (h : d.isNaN = false) : f.read (f.write d.opposite) = (f.read (f.write d)).opposite := by
  have hi := f.infRung_lt
  cases d with
  | number s m p =>
    obtain ⟨r, hr, e⟩ := nearest_rung f m p
    show f.read (f.nearest (!s) m p) = (f.read (f.nearest s m p)).opposite
    rw [e, e, read_word f _ (by omega), read_word f _ (by omega), rd_not]
  | infinity s =>
    show f.read (f.word (!s) f.infRung) = (f.read (f.word s f.infRung)).opposite
    rw [read_word f _ hi, read_word f _ hi, rd_not]
  | nan s t => cases h

/-- A number and its opposite together are nought. -/
theorem sum_opposite (s : Bool) (m : Nat) (i : Int) : (Datum.number (!s) m i).sum (Datum.number s m i) = some (.number false 0 i) := by
  have h : signed (!s) m (i - min i i).toNat + signed s m (i - min i i).toNat = 0 := by
    unfold signed; cases s <;> simp <;> omega
  simp only [Datum.sum]
  rw [h]
  simp

/-- 'x - x' is 0 just for a number. -/
theorem finite_of_sub {k : FloatKind} {x r : Nat} (h : FR .sub k x x r) (h0 : k.format.order r 0 = some .eq) : ∃ s m i, k.format.read x = .number s m i := by
  rcases h with h | ⟨h, hn⟩
  · unfold floatBits Format.sub at h
    simp only at h
    cases hx : k.format.read x with
    | number s m i => exact ⟨s, m, i, rfl⟩
    | infinity s => rw [hx] at h; simp [Datum.opposite, Datum.sum] at h
    | nan s t => rw [hx] at h; simp [Datum.sum] at h
  · unfold Format.order at h0
    unfold isn at hn
    cases hr : k.format.read r <;> rw [hr] at hn h0
    · cases hn
    · cases hn
    · simp [Datum.order] at h0

/-- The heart of the conjugate's product: a (-b) and b a together are nought, where a b is finite. -/
theorem conj_nought {k : FloatKind} {a b x u v r : Nat} (hx : FR .mul k a b x) (hu : FR .mul k a (Op.negFloat k b) u) (hv : FR .mul k b a v) (hr : FR .add k u v r) {s m i} (hf : k.format.read x = .number s m i) : r = 0 := by
  have hxn : isn k.format x = false := by unfold isn; rw [hf]; rfl
  replace hx : floatBits .mul k a b = some x := by
    rcases hx with hx | ⟨_, hx⟩
    · exact hx
    · rw [hx] at hxn; cases hxn
  unfold floatBits Format.mul at hx
  simp only at hx
  cases hp : (k.format.read a).product (k.format.read b) with
  | none => rw [hp] at hx; cases hx
  | some d =>
    rw [hp] at hx
    cases hx
    have hd := product_nan hp
    have eu : u = k.format.write d.opposite := by
      rcases hu with hu | ⟨hu, _⟩
      · unfold floatBits Format.mul at hu
        simp only [read_neg, product_opposite, hp] at hu
        cases hu; rfl
      · unfold floatBits Format.mul at hu
        simp only [read_neg, product_opposite, hp] at hu
        cases hu
    have ev : v = k.format.write d := by
      rcases hv with hv | ⟨hv, _⟩
      · unfold floatBits Format.mul at hv
        simp only [product_comm (k.format.read b), hp] at hv
        cases hv; rfl
      · unfold floatBits Format.mul at hv
        simp only [product_comm (k.format.read b), hp] at hv
        cases hv
    subst eu ev
    have hs : (k.format.read (k.format.write d.opposite)).sum (k.format.read (k.format.write d)) = some (.number false 0 i) := by
      rw [read_write_opposite _ _ hd, hf]
      exact sum_opposite s m i
    rcases hr with hr | ⟨hr, _⟩
    · unfold floatBits Format.add at hr
      simp only [hs] at hr
      cases hr
      show k.format.nearest false 0 i = 0
      simp [Format.nearest, Format.word]
    · unfold floatBits Format.add at hr
      simp only [hs] at hr
      cases hr

end Go.Proofs.Ytmlgkmgkicdnbaa.Fl
