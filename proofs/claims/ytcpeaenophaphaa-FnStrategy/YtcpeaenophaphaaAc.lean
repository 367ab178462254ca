/-
  Sets of small numbers as words of bits; lists that rise. No function of the program.
-/
import Derived.Test.YtcpeaenophaphaaAa
import Derived.Lib.SmallJoins
import Derived.Laws.BitsAllLaws
namespace Go.Proofs.Ytcpeaenophaphaa
open Go.RowKit

/-- The bits below K at which P holds. -/
noncomputable def msk (P : Nat → Prop) : Nat → Nat
  | 0 => 0
  | K + 1 => msk P K ||| (@ite _ (P K) (Classical.propDecidable _) (2 ^ K) 0)
theorem msk_bit (P : Nat → Prop) (K r : Nat) : (msk P K).testBit r = true ↔ (r < K ∧ P r) := by
  induction K with
  | zero => simp [msk]
  | succ K ih =>
    rw [msk, Nat.testBit_or, Bool.or_eq_true, ih]
    by_cases h : P K
    · rw [if_pos h, Nat.testBit_two_pow, decide_eq_true_eq]
      constructor
      · rintro (⟨h1, h2⟩ | rfl)
        · exact ⟨by omega, h2⟩
        · exact ⟨by omega, h⟩
      · rintro ⟨h1, h2⟩
        by_cases e : K = r
        · exact .inr e
        · exact .inl ⟨by omega, h2⟩
    · rw [if_neg h, Nat.zero_testBit]
      constructor
      · rintro (⟨h1, h2⟩ | h3)
        · exact ⟨by omega, h2⟩
        · cases h3
      · rintro ⟨h1, h2⟩
        by_cases e : r = K
        · subst e; exact absurd h2 h
        · exact .inl ⟨by omega, h2⟩
theorem msk_lt (P : Nat → Prop) (K : Nat) : msk P K < 2 ^ K := by
  induction K with
  | zero => simp [msk]
  | succ K ih =>
    rw [msk]
    have h2 : (2 : Nat) ^ K < 2 ^ (K + 1) := by rw [Nat.pow_succ]; have := Nat.two_pow_pos K; omega
    by_cases h : P K
    · rw [if_pos h]; exact Nat.or_lt_two_pow (by omega) h2
    · rw [if_neg h]; exact Nat.or_lt_two_pow (by omega) (Nat.two_pow_pos _)
theorem bool_iff {a b : Bool} (h : a = true ↔ b = true) : a = b := by cases a <;> cases b <;> simp_all
theorem msk_or (P Q : Nat → Prop) (K : Nat) : msk P K ||| msk Q K = msk (fun r => P r ∨ Q r) K := by
  refine Nat.eq_of_testBit_eq fun r => bool_iff ?_
  rw [Nat.testBit_or, Bool.or_eq_true, msk_bit, msk_bit, msk_bit]
  constructor
  · rintro (⟨h, h1⟩ | ⟨h, h1⟩)
    · exact ⟨h, .inl h1⟩
    · exact ⟨h, .inr h1⟩
  · rintro ⟨h, h1 | h1⟩
    · exact .inl ⟨h, h1⟩
    · exact .inr ⟨h, h1⟩
theorem msk_and (P Q : Nat → Prop) (K : Nat) : msk P K &&& msk Q K = msk (fun r => P r ∧ Q r) K := by
  refine Nat.eq_of_testBit_eq fun r => bool_iff ?_
  rw [Nat.testBit_and, Bool.and_eq_true, msk_bit, msk_bit, msk_bit]
  constructor
  · rintro ⟨⟨h, h1⟩, h2, h3⟩
    exact ⟨h, h1, h3⟩
  · rintro ⟨h, h1, h2⟩
    exact ⟨⟨h, h1⟩, h, h2⟩
theorem msk_inj {P Q : Nat → Prop} {K : Nat} : msk P K = msk Q K ↔ ∀ r, r < K → (P r ↔ Q r) := by
  constructor
  · intro h r hr
    have h1 := msk_bit P K r
    rw [h, msk_bit] at h1
    constructor
    · intro h2; exact (h1.2 ⟨hr, h2⟩).2
    · intro h2; exact (h1.1 ⟨hr, h2⟩).2
  · intro h
    refine Nat.eq_of_testBit_eq fun r => bool_iff ?_
    rw [msk_bit, msk_bit]
    constructor
    · rintro ⟨h1, h2⟩; exact ⟨h1, (h r h1).1 h2⟩
    · rintro ⟨h1, h2⟩; exact ⟨h1, (h r h1).2 h2⟩
theorem msk_congr {P Q : Nat → Prop} {K : Nat} (h : ∀ r, r < K → (P r ↔ Q r)) : msk P K = msk Q K := msk_inj.2 h
theorem msk_none {P : Nat → Prop} {K : Nat} (h : ∀ r, r < K → ¬ P r) : msk P K = 0 := by
  refine Nat.eq_of_testBit_eq fun r => bool_iff ?_
  rw [msk_bit, Nat.zero_testBit]
  constructor
  · rintro ⟨h1, h2⟩; exact absurd h2 (h r h1)
  · intro h; cases h
theorem msk_some {P : Nat → Prop} {K r : Nat} (hr : r < K) (h : P r) : msk P K ≠ 0 := by
  intro e
  have := (msk_bit P K r).2 ⟨hr, h⟩
  rw [e, Nat.zero_testBit] at this
  cases this
theorem msk_zero {P : Nat → Prop} {K : Nat} : msk P K = 0 ↔ ∀ r, r < K → ¬ P r := by
  constructor
  · intro h r hr h1; exact msk_some hr h1 h
  · exact msk_none
theorem msk_one {x K : Nat} (h : x < K) : 2 ^ x = msk (fun r => r = x) K := by
  refine Nat.eq_of_testBit_eq fun r => bool_iff ?_
  rw [msk_bit, Nat.testBit_two_pow, decide_eq_true_eq]
  constructor
  · rintro rfl; exact ⟨h, rfl⟩
  · rintro ⟨_, rfl⟩; rfl
theorem msk_succ_yes {P : Nat → Prop} {K : Nat} (h : P K) : msk P (K + 1) = msk P K + 2 ^ K := by
  have := Nat.two_pow_add_eq_or_of_lt (msk_lt P K) 1
  rw [msk, if_pos h, Nat.or_comm]
  rw [Nat.mul_one] at this
  rw [← this, Nat.add_comm]
theorem msk_succ_no {P : Nat → Prop} {K : Nat} (h : ¬ P K) : msk P (K + 1) = msk P K := by
  rw [msk, if_neg h, Nat.or_zero]
theorem add_eq_or (a b : Nat) (h : a &&& b = 0) : a + b = a ||| b := by
  induction a using Nat.div2Induction generalizing b with
  | ind a ih =>
    by_cases ha : a = 0
    · subst ha; simp
    have h0 : (a &&& b) / 2 = a / 2 &&& b / 2 := Nat.and_div_two
    have h1 : (a ||| b) / 2 = a / 2 ||| b / 2 := Nat.or_div_two
    have h2 : (a &&& b) % 2 = 0 := by rw [h]
    have ih' := ih (by omega) (b / 2) (by rw [← h0, h])
    have hm : (a ||| b) % 2 = a % 2 + b % 2 := by
      have e1 := Nat.testBit_or a b 0
      have e2 := Nat.testBit_and a b 0
      simp only [Nat.testBit_zero] at e1 e2
      rcases Nat.mod_two_eq_zero_or_one a with p | p <;> rcases Nat.mod_two_eq_zero_or_one b with q | q <;> rcases Nat.mod_two_eq_zero_or_one (a ||| b) with s | s <;> simp [p, q, s, h2] at e1 e2 ⊢
    omega
theorem msk_add {P Q : Nat → Prop} {K : Nat} (h : ∀ r, r < K → ¬ (P r ∧ Q r)) : msk P K + msk Q K = msk (fun r => P r ∨ Q r) K := by
  rw [add_eq_or _ _ (by rw [msk_and]; exact msk_none h), msk_or]
theorem u64_or_nat (a b : Nat) (ha : a < 18446744073709551616) (hb : b < 18446744073709551616) : bits .or .u64 (a : Int) (b : Int) = ((a ||| b : Nat) : Int) := by
  have hx : a ||| b < 2 ^ 64 := Nat.or_lt_two_pow (by omega) (by omega)
  show IntKind.u64.wrap ((BitVec.ofInt 64 (a : Int) ||| BitVec.ofInt 64 (b : Int)).toNat : Int) = _
  rw [BitVec.toNat_or, ofInt_u64 a (by omega), ofInt_u64 b (by omega)]
  simp only [IntKind.wrap, IntKind.bits, IntKind.signed, Bool.false_and, Bool.false_eq_true, if_false]
  omega
theorem u64_and_nat (a b : Nat) (ha : a < 18446744073709551616) (hb : b < 18446744073709551616) : bits .and .u64 (a : Int) (b : Int) = ((a &&& b : Nat) : Int) := by
  have hx : a &&& b < 2 ^ 64 := Nat.and_lt_two_pow _ (by omega)
  show IntKind.u64.wrap ((BitVec.ofInt 64 (a : Int) &&& BitVec.ofInt 64 (b : Int)).toNat : Int) = _
  rw [BitVec.toNat_and, ofInt_u64 a (by omega), ofInt_u64 b (by omega)]
  simp only [IntKind.wrap, IntKind.bits, IntKind.signed, Bool.false_and, Bool.false_eq_true, if_false]
  omega
theorem i64_and_nat (a b : Nat) (ha : a < 4611686018427387904) (hb : b < 4611686018427387904) : bits .and .i64 (a : Int) (b : Int) = ((a &&& b : Nat) : Int) := by
  have hx : a &&& b < 2 ^ 62 := Nat.and_lt_two_pow _ (by omega)
  show IntKind.i64.wrap ((BitVec.ofInt 64 (a : Int) &&& BitVec.ofInt 64 (b : Int)).toNat : Int) = _
  rw [BitVec.toNat_and, ofInt_u64 a (by omega), ofInt_u64 b (by omega), IntKind.wrap_i64]
  omega
theorem mor (P Q : Nat → Prop) : bits .or .u64 ((msk P 64 : Nat) : Int) ((msk Q 64 : Nat) : Int) = ((msk (fun r => P r ∨ Q r) 64 : Nat) : Int) := by
  rw [u64_or_nat _ _ (msk_lt P 64) (msk_lt Q 64), msk_or]
theorem mand (P Q : Nat → Prop) : bits .and .u64 ((msk P 64 : Nat) : Int) ((msk Q 64 : Nat) : Int) = ((msk (fun r => P r ∧ Q r) 64 : Nat) : Int) := by
  rw [u64_and_nat _ _ (msk_lt P 64) (msk_lt Q 64), msk_and]
theorem shl_one (x : Nat) (h : x < 64) : IntKind.u64.wrap (1 * 2 ^ (x : Int).toNat) = ((msk (fun r => r = x) 64 : Nat) : Int) := by
  rw [← msk_one h]
  have h1 : (2 : Nat) ^ x < 2 ^ 64 := Nat.pow_lt_pow_right (by decide) h
  have h2 : ((2 : Int) ^ (x : Int).toNat) = ((2 ^ x : Nat) : Int) := by simp
  rw [Int.one_mul, h2]
  generalize (2 : Nat) ^ x = y at *
  simp only [IntKind.wrap, IntKind.bits, IntKind.signed, Bool.false_and, Bool.false_eq_true, if_false]
  omega
/-- Numbers from 0 on and below E, rising. -/
def Ris (n : Nat) (f : Nat → Int) (E : Int) : Prop := (∀ j, j < n → 0 ≤ f j ∧ f j < E) ∧ ∀ j, j + 1 < n → f j < f (j + 1)
theorem Ris.zero (f : Nat → Int) (E : Int) : Ris 0 f E := ⟨fun _ hj => absurd hj (Nat.not_lt_zero _), fun _ hj => absurd hj (Nat.not_lt_zero _)⟩
theorem Ris.less {n m : Nat} {f : Nat → Int} {E : Int} (h : Ris n f E) (hm : m ≤ n) : Ris m f E := ⟨fun j hj => h.1 j (by omega), fun j hj => h.2 j (by omega)⟩
theorem Ris.next {k : Nat} {f : Nat → Int} {E L : Int} (h : Ris k f E) (hL : (k = 0 ∧ L = 0) ∨ ∃ i, k = i + 1 ∧ L = f i + 1) (h1 : L ≤ f k) (h2 : f k < E) : Ris (k + 1) f E := by
  have h0 : 0 ≤ f k := by
    rcases hL with ⟨_, rfl⟩ | ⟨i, rfl, rfl⟩
    · exact h1
    · have := (h.1 i (by omega)).1; omega
  refine ⟨fun j hj => ?_, fun j hj => ?_⟩
  · by_cases e : j = k
    · subst e; exact ⟨h0, h2⟩
    · exact h.1 j (by omega)
  · by_cases e : j + 1 = k
    · rcases hL with ⟨rfl, _⟩ | ⟨i, rfl, rfl⟩
      · omega
      · obtain rfl : j = i := by omega
        omega
    · exact h.2 j (by omega)
theorem Ris.lt {n : Nat} {f : Nat → Int} {E : Int} (h : Ris n f E) : ∀ j i, i < j → j < n → f i < f j := by
  intro j
  induction j with
  | zero => intro i hi; omega
  | succ j ih =>
    intro i hi hj
    by_cases e : i = j
    · subst e; exact h.2 i hj
    · have := ih i (by omega) (by omega)
      have := h.2 j hj
      omega
noncomputable def risB (n : Nat) (f : Nat → Int) (E : Int) : Bool := @decide (Ris n f E) (Classical.propDecidable _)
theorem risB_yes {n : Nat} {f : Nat → Int} {E : Int} (h : Ris n f E) : risB n f E = true := by simp [risB, h]
theorem risB_no {n : Nat} {f : Nat → Int} {E : Int} (h : ¬ Ris n f E) : risB n f E = false := by simp [risB, h]
/-- Reflection r stands among the first c numbers of list i. -/
def Hs (f : Nat → Nat → Int) (i c r : Nat) : Prop := ∃ t, t < c ∧ f i t = (r : Int)
/-- Exposures as they should be. -/
def ExOk (N : Nat) (n : Nat → Nat) (f : Nat → Nat → Int) : Prop := N ≤ 12 ∧ ∀ i, i < N → Ris (n i) (f i) 64
noncomputable def exB (N : Nat) (n : Nat → Nat) (f : Nat → Nat → Int) : Bool := @decide (ExOk N n f) (Classical.propDecidable _)
theorem exB_yes {N : Nat} {n : Nat → Nat} {f : Nat → Nat → Int} (h : ExOk N n f) : exB N n f = true := by simp [exB, h]
theorem exB_no {N : Nat} {n : Nat → Nat} {f : Nat → Nat → Int} (h : ¬ ExOk N n f) : exB N n f = false := by simp [exB, h]
/-- Words of bits, N of them. -/
def U64s (w : World) (g N : Nat) (m : Nat → Nat) : Prop := ∃ cur : Array Value, At 51 w g cur ∧ cur.size = N ∧ ∀ i, i < N → cur[i]? = some (.int .u64 (m i : Int))
theorem U64s.below {w w' : World} {g N : Nat} {m : Nat → Nat} (h : U64s w g N m) (hb : Below w.heap.size w w') : U64s w' g N m := by
  obtain ⟨cur, h1, h2⟩ := h
  exact ⟨cur, h1.below hb, h2⟩
theorem U64s.lt {w : World} {g N : Nat} {m : Nat → Nat} (h : U64s w g N m) : g < w.heap.size := by
  obtain ⟨cur, h1, -⟩ := h
  exact h1.lt
theorem U64s.open {w : World} {g N : Nat} {m : Nat → Nat} (h : U64s w g N m) {i : Nat} (hi : i < N) : w.cell? ⟨g, i, none⟩ = some (.int .u64 (m i : Int)) ∧ w.frozen? ⟨g, i, none⟩ = false := by
  obtain ⟨cur, h1, h2, h3⟩ := h
  exact ⟨h1.cell i (h3 i hi), h1.frozen i⟩
theorem U64s.set {w : World} {g N k x : Nat} {m m' : Nat → Nat} (h : U64s w g N m) (hk : k < N) (e1 : m' k = x) (e2 : ∀ i, i < N → i ≠ k → m' i = m i) : U64s (w.setCell ⟨g, k, none⟩ (.int .u64 (x : Int))) g N m' := by
  obtain ⟨cur, h1, h2, h3⟩ := h
  refine ⟨_, h1.set k _, by simpa using h2, fun i hi => ?_⟩
  by_cases e : i = k
  · subst e
    rw [Array.getElem?_setIfInBounds, if_pos rfl, if_pos (by omega), e1]
  · rw [Array.getElem?_setIfInBounds, if_neg (by omega), e2 i hi e]
    exact h3 i hi
theorem U64s.congr {w : World} {g N : Nat} {m m' : Nat → Nat} (h : U64s w g N m) (e : ∀ i, i < N → m i = m' i) : U64s w g N m' := by
  obtain ⟨cur, h1, h2, h3⟩ := h
  exact ⟨cur, h1, h2, fun i hi => by rw [← e i hi]; exact h3 i hi⟩
end Go.Proofs.Ytcpeaenophaphaa
