/-
  Heaps: what lies best first. Mathematics alone; and lists of records of e cells each. No function of the program.
-/
import Derived.Test.YtcpeaenophaphaaKit
import Derived.Maps.AppendAt
import Derived.Lib.SliceRun
namespace Go.Proofs.Ytcpeaenophaphaa
open Go.RowKit

/-- A strict weak order. -/
structure Swo {T : Type} (lt : T → T → Prop) : Prop where
  irr : ∀ x, ¬ lt x x
  tr : ∀ x y z, lt x y → lt y z → lt x z
  neg : ∀ x y z, ¬ lt x y → ¬ lt y z → ¬ lt x z
theorem Swo.asy {T : Type} {lt : T → T → Prop} (h : Swo lt) {x y : T} (h1 : lt x y) : ¬ lt y x := fun h2 => h.irr x (h.tr x y x h1 h2)
/-- Two places exchanged. -/
def sw {T : Type} (f : Nat → T) (i j : Nat) : Nat → T := fun k => if k = i then f j else if k = j then f i else f k
theorem sw_l {T : Type} (f : Nat → T) (i j : Nat) : sw f i j i = f j := if_pos rfl
theorem sw_r {T : Type} (f : Nat → T) (i j : Nat) : sw f i j j = f i := by
  unfold sw
  by_cases e : j = i
  · rw [if_pos e, e]
  · rw [if_neg e, if_pos rfl]
theorem sw_o {T : Type} (f : Nat → T) {i j k : Nat} (h1 : k ≠ i) (h2 : k ≠ j) : sw f i j k = f k := by unfold sw; rw [if_neg h1, if_neg h2]
/-- None is better than what lies above it. -/
def Hp {T : Type} (lt : T → T → Prop) (n : Nat) (f : Nat → T) : Prop := ∀ i, 0 < i → i < n → ¬ lt (f i) (f ((i - 1) / 2))
theorem Hp.best {T : Type} {lt : T → T → Prop} (s : Swo lt) {n : Nat} {f : Nat → T} (h : Hp lt n f) : ∀ i, i < n → ¬ lt (f i) (f 0) := by
  intro i
  induction i using Nat.strongRecOn with
  | ind i ih =>
    intro hi
    by_cases e : i = 0
    · subst e; exact s.irr _
    · exact s.neg _ _ _ (h i (by omega) hi) (ih ((i - 1) / 2) (by omega) (by omega))
/-- A heap but for what lies at one place, which may be too good for it. -/
def Up {T : Type} (lt : T → T → Prop) (n : Nat) (f : Nat → T) (a : Nat) : Prop :=
  (∀ i, 0 < i → i < n → i ≠ a → ¬ lt (f i) (f ((i - 1) / 2))) ∧ ∀ i, 0 < i → i < n → (i - 1) / 2 = a → 0 < a → ¬ lt (f i) (f ((a - 1) / 2))
theorem Up.done {T : Type} {lt : T → T → Prop} {n : Nat} {f : Nat → T} {a : Nat} (h : Up lt n f a) (h0 : a = 0 ∨ ¬ lt (f a) (f ((a - 1) / 2))) : Hp lt n f := by
  intro i h1 h2
  by_cases e : i = a
  · subst e
    rcases h0 with h0 | h0
    · omega
    · exact h0
  · exact h.1 i h1 h2 e
theorem Up.step {T : Type} {lt : T → T → Prop} (s : Swo lt) {n : Nat} {f : Nat → T} {a : Nat} (h : Up lt n f a) (ha : a < n) (h0 : 0 < a) (hl : lt (f a) (f ((a - 1) / 2))) : Up lt n (sw f a ((a - 1) / 2)) ((a - 1) / 2) := by
  obtain ⟨p, hp⟩ : ∃ p, (a - 1) / 2 = p := ⟨_, rfl⟩
  rw [hp] at hl ⊢
  have hpa : p < a := by omega
  refine ⟨fun i h1 h2 h3 => ?_, fun i h1 h2 h3 h4 => ?_⟩
  · by_cases e : i = a
    · subst e
      rw [hp, sw_l, sw_r]
      exact s.asy hl
    · rw [sw_o f e h3]
      by_cases e1 : (i - 1) / 2 = a
      · rw [e1, sw_l]
        have := h.2 i h1 h2 e1 h0
        rwa [hp] at this
      · by_cases e2 : (i - 1) / 2 = p
        · rw [e2, sw_r]
          intro hh
          have := h.1 i h1 h2 e
          rw [e2] at this
          exact this (s.tr _ _ _ hh hl)
        · rw [sw_o f e1 e2]
          exact h.1 i h1 h2 e
  · have e1 : (p - 1) / 2 ≠ a := by omega
    have e2 : (p - 1) / 2 ≠ p := by omega
    rw [sw_o f e1 e2]
    have hpp := h.1 p h4 (by omega) (by omega)
    by_cases e : i = a
    · subst e; rw [sw_l]; exact hpp
    · rw [sw_o f e (by omega)]
      have := h.1 i h1 h2 e
      rw [h3] at this
      exact s.neg _ _ _ this hpp
/-- A heap but for what lies at one place, which may be too bad for it. -/
def Dn {T : Type} (lt : T → T → Prop) (n : Nat) (f : Nat → T) (a : Nat) : Prop :=
  (∀ i, 0 < i → i < n → (i - 1) / 2 ≠ a → ¬ lt (f i) (f ((i - 1) / 2))) ∧ ∀ i, 0 < i → i < n → (i - 1) / 2 = a → 0 < a → ¬ lt (f i) (f ((a - 1) / 2))
theorem Dn.start {T : Type} {lt : T → T → Prop} {n : Nat} {f g : Nat → T} (h : Hp lt (n + 1) f) (hg : ∀ i, 0 < i → i < n → g i = f i) : Dn lt n g 0 := by
  refine ⟨fun i h1 h2 h3 => ?_, fun i _ _ _ h4 => by omega⟩
  rw [hg i h1 h2, hg _ (by omega) (by omega)]
  exact h i h1 (by omega)
theorem Dn.done {T : Type} {lt : T → T → Prop} {n : Nat} {f : Nat → T} {a : Nat} (h : Dn lt n f a) (h0 : ∀ i, 0 < i → i < n → (i - 1) / 2 = a → ¬ lt (f i) (f a)) : Hp lt n f := by
  intro i h1 h2
  by_cases e : (i - 1) / 2 = a
  · rw [e]; exact h0 i h1 h2 e
  · exact h.1 i h1 h2 e
theorem Dn.step {T : Type} {lt : T → T → Prop} (s : Swo lt) {n : Nat} {f : Nat → T} {a b : Nat} (h : Dn lt n f a) (hb0 : 0 < b) (hb : b < n) (hba : (b - 1) / 2 = a) (hbest : ∀ i, 0 < i → i < n → (i - 1) / 2 = a → ¬ lt (f i) (f b)) (hl : lt (f b) (f a)) : Dn lt n (sw f b a) b := by
  refine ⟨fun i h1 h2 h3 => ?_, fun i h1 h2 h3 h4 => ?_⟩
  · by_cases e : (i - 1) / 2 = a
    · rw [e, sw_r]
      by_cases e1 : i = b
      · subst e1; rw [sw_l]; exact s.asy hl
      · rw [sw_o f e1 (by omega)]; exact hbest i h1 h2 e
    · rw [sw_o f h3 e]
      by_cases e1 : i = a
      · subst e1; rw [sw_r]; exact h.2 b hb0 hb hba h1
      · rw [sw_o f (show i ≠ b by intro hh; subst hh; exact e hba) e1]
        exact h.1 i h1 h2 e
  · rw [hba, sw_r, sw_o f (show i ≠ b by omega) (show i ≠ a by omega)]
    have := h.1 i h1 h2 (by omega)
    rwa [h3] at this
/-- All apart. -/
def Inj {T : Type} (n : Nat) (f : Nat → T) : Prop := ∀ i j, i < n → j < n → f i = f j → i = j
def Mem {T : Type} (n : Nat) (f : Nat → T) (x : T) : Prop := ∃ i, i < n ∧ f i = x
/-- The same things, in another order. -/
def Rg {T : Type} (n : Nat) (f g : Nat → T) : Prop := (Inj n f → Inj n g) ∧ ∀ x, Mem n g x ↔ Mem n f x
theorem Rg.refl {T : Type} (n : Nat) (f : Nat → T) : Rg n f f := ⟨id, fun _ => Iff.rfl⟩
theorem Rg.trans {T : Type} {n : Nat} {f g h : Nat → T} (a : Rg n f g) (b : Rg n g h) : Rg n f h := ⟨fun x => b.1 (a.1 x), fun x => (b.2 x).trans (a.2 x)⟩
/-- The place that comes to k. -/
def tp (i j k : Nat) : Nat := if k = i then j else if k = j then i else k
theorem tp_lt {i j k n : Nat} (hi : i < n) (hj : j < n) (hk : k < n) : tp i j k < n := by
  unfold tp; split
  · exact hj
  · split
    · exact hi
    · exact hk
theorem tp_tp (i j k : Nat) : tp i j (tp i j k) = k := by
  unfold tp; split
  · split
    · omega
    · first | (split <;> omega) | omega
  · split
    · split
      · omega
      · omega
    · first | (split <;> first | omega | (split <;> omega)) | omega
theorem sw_tp {T : Type} (f : Nat → T) (i j k : Nat) : sw f i j k = f (tp i j k) := by
  unfold sw tp; split
  · rfl
  · split <;> rfl
theorem rg_sw {T : Type} {n : Nat} (f : Nat → T) {i j : Nat} (hi : i < n) (hj : j < n) : Rg n f (sw f i j) := by
  refine ⟨fun h a b ha hb e => ?_, fun x => ⟨?_, ?_⟩⟩
  · rw [sw_tp, sw_tp] at e
    have := h _ _ (tp_lt hi hj ha) (tp_lt hi hj hb) e
    have h2 := congrArg (tp i j) this
    rwa [tp_tp, tp_tp] at h2
  · rintro ⟨k, hk, rfl⟩
    exact ⟨_, tp_lt hi hj hk, (sw_tp f i j k).symm⟩
  · rintro ⟨k, hk, rfl⟩
    refine ⟨tp i j k, tp_lt hi hj hk, ?_⟩
    rw [sw_tp, tp_tp]
def upd {T : Type} (f : Nat → T) (k : Nat) (x : T) : Nat → T := fun i => if i = k then x else f i
theorem upd_at {T : Type} (f : Nat → T) (k : Nat) (x : T) : upd f k x k = x := if_pos rfl
theorem upd_o {T : Type} (f : Nat → T) {k i : Nat} (x : T) (h : i ≠ k) : upd f k x i = f i := if_neg h
theorem sw_upd {T : Type} (f : Nat → T) (i j : Nat) : upd (upd f i (f j)) j (f i) = sw f i j := by
  funext k
  by_cases e : k = j
  · subst e; rw [upd_at, sw_r]
  · rw [upd_o _ _ e]
    by_cases e1 : k = i
    · subst e1; rw [upd_at, sw_l]
    · rw [upd_o _ _ e1, sw_o f e1 e]
theorem mem_put {T : Type} (n : Nat) (f : Nat → T) (x y : T) : Mem (n + 1) (upd f n x) y ↔ (Mem n f y ∨ y = x) := by
  constructor
  · rintro ⟨i, hi, rfl⟩
    by_cases e : i = n
    · subst e; exact .inr (upd_at _ _ _)
    · exact .inl ⟨i, by omega, (upd_o _ _ e).symm⟩
  · rintro (⟨i, hi, rfl⟩ | rfl)
    · exact ⟨i, by omega, upd_o _ _ (by omega)⟩
    · exact ⟨n, by omega, upd_at _ _ _⟩
theorem inj_put {T : Type} {n : Nat} {f : Nat → T} {x : T} (h : Inj n f) (hx : ¬ Mem n f x) : Inj (n + 1) (upd f n x) := by
  intro i j hi hj e
  by_cases e1 : i = n
  · by_cases e2 : j = n
    · omega
    · rw [e1, upd_at, upd_o _ _ e2] at e
      exact absurd ⟨j, by omega, e.symm⟩ hx
  · by_cases e2 : j = n
    · rw [e2, upd_at, upd_o _ _ e1] at e
      exact absurd ⟨i, by omega, e⟩ hx
    · rw [upd_o _ _ e1, upd_o _ _ e2] at e
      exact h i j (by omega) (by omega) e
theorem up_put {T : Type} {lt : T → T → Prop} {n : Nat} {f : Nat → T} (h : Hp lt n f) (x : T) : Up lt (n + 1) (upd f n x) n := by
  refine ⟨fun i h1 h2 h3 => ?_, fun i h1 h2 h3 h4 => by omega⟩
  rw [upd_o _ _ h3, upd_o _ _ (by omega)]
  exact h i h1 (by omega)
theorem mem_take {T : Type} {n : Nat} {f : Nat → T} (h : Inj (n + 1) f) (y : T) : Mem n (upd f 0 (f n)) y ↔ (Mem (n + 1) f y ∧ y ≠ f 0) := by
  constructor
  · rintro ⟨i, hi, rfl⟩
    by_cases e : i = 0
    · subst e
      rw [upd_at]
      exact ⟨⟨n, by omega, rfl⟩, fun hh => by have := h n 0 (by omega) (by omega) hh; omega⟩
    · rw [upd_o _ _ e]
      exact ⟨⟨i, by omega, rfl⟩, fun hh => e (h i 0 (by omega) (by omega) hh)⟩
  · rintro ⟨⟨i, hi, rfl⟩, h2⟩
    by_cases e0 : i = 0
    · subst e0; exact absurd rfl h2
    by_cases e : i = n
    · subst e; exact ⟨0, by omega, upd_at _ _ _⟩
    · exact ⟨i, by omega, upd_o _ _ e0⟩
theorem inj_take {T : Type} {n : Nat} {f : Nat → T} (h : Inj (n + 1) f) : Inj n (upd f 0 (f n)) := by
  intro i j hi hj e
  by_cases e1 : i = 0
  · by_cases e2 : j = 0
    · omega
    · rw [e1, upd_at, upd_o _ _ e2] at e
      have := h n j (by omega) (by omega) e; omega
  · by_cases e2 : j = 0
    · rw [e2, upd_at, upd_o _ _ e1] at e
      have := h i n (by omega) (by omega) e; omega
    · rw [upd_o _ _ e1, upd_o _ _ e2] at e
      exact h i j (by omega) (by omega) e
/-- The cells of the first n records. -/
def hC {T : Type} (en : T → List Value) (f : Nat → T) : Nat → List Value
  | 0 => []
  | n + 1 => hC en f n ++ en (f n)
theorem hC_len {T : Type} {en : T → List Value} {e : Nat} (he : ∀ x, (en x).length = e) (f : Nat → T) (n : Nat) : (hC en f n).length = n * e := by
  induction n with
  | zero => simp [hC]
  | succ n ih => rw [hC, List.length_append, ih, he, Nat.succ_mul]
theorem hC_at {T : Type} {en : T → List Value} {e : Nat} (he : ∀ x, (en x).length = e) (f : Nat → T) {n i j : Nat} (hi : i < n) (hj : j < e) : (hC en f n)[i * e + j]? = (en (f i))[j]? := by
  induction n with
  | zero => omega
  | succ n ih =>
    have hl := hC_len he f n
    rw [hC]
    by_cases h : i = n
    · subst h
      rw [List.getElem?_append_right (by omega), hl]
      congr 1
      omega
    · have : i * e + e ≤ n * e := by rw [← Nat.succ_mul]; exact Nat.mul_le_mul_right e (by omega)
      rw [List.getElem?_append_left (by omega)]
      exact ih (by omega)
theorem hC_congr {T : Type} {en : T → List Value} {f g : Nat → T} {n : Nat} (h : ∀ i, i < n → f i = g i) : hC en f n = hC en g n := by
  induction n with
  | zero => rfl
  | succ n ih => rw [hC, hC, ih (fun i hi => h i (by omega)), h n (by omega)]
theorem hC_take {T : Type} {en : T → List Value} {e : Nat} (he : ∀ x, (en x).length = e) (f : Nat → T) {n m : Nat} (h : m ≤ n) : (hC en f n).take (m * e) = hC en f m := by
  induction n with
  | zero => obtain rfl : m = 0 := by omega
            simp [hC]
  | succ n ih =>
    have hl := hC_len he f n
    by_cases h1 : m = n + 1
    · subst h1
      rw [List.take_of_length_le (by rw [hC_len he]; exact Nat.le_refl _)]
    · have : m * e ≤ n * e := Nat.mul_le_mul_right e (by omega)
      rw [hC, List.take_append_of_le_length (by omega)]
      exact ih (by omega)
theorem hC_all {T : Type} {en : T → List Value} (h1 : ∀ x, ∀ u ∈ en x, u.oneCell' = true) (f : Nat → T) (n : Nat) : ∀ u ∈ hC en f n, u.oneCell' = true := by
  induction n with
  | zero => intro u hu; cases hu
  | succ n ih =>
    intro u hu
    rw [hC] at hu
    rcases List.mem_append.1 hu with h | h
    · exact ih u h
    · exact h1 _ u h
/-- A list of records, read. -/
theorem own_cell {T : Type} {en : T → List Value} {e : Nat} (he : ∀ x, (en x).length = e) {w : World} {B : Nat} {t : TypeId} {g n c : Nat} {f : Nat → T} (h : w.ownsRow B t e (.slice (some ⟨g, 0, none⟩) n c) n (hC en f n)) {i j : Nat} {u : Value} (hi : i < n) (hu : (en (f i))[j]? = some u) : w.cell? ⟨g, i * e + j, none⟩ = some u ∧ w.frozen? ⟨g, i * e + j, none⟩ = false := by
  have hj : j < e := by rw [← he (f i)]; exact (List.getElem?_eq_some_iff.1 hu).1
  rcases h.2 with ⟨h1, _⟩ | ⟨g', c', cur, h1, hb, hh, hc1, hc2, hsz, ht⟩
  · cases h1
  · simp only [Value.slice.injEq, Option.some.injEq, Addr.mk.injEq] at h1
    obtain ⟨⟨rfl, -, -⟩, -, rfl⟩ := h1
    have a1 := hC_at he f hi hj
    have hlt : i * e + j < n * e := by
      have : i * e + e ≤ n * e := by rw [← Nat.succ_mul]; exact Nat.mul_le_mul_right e (by omega)
      omega
    rw [← ht, List.getElem?_take_of_lt hlt, hu] at a1
    refine ⟨by simpa [World.cell?, hh] using a1, by simp [World.frozen?, hh]⟩
theorem own_lt {w : World} {B : Nat} {t : TypeId} {e g n c : Nat} {xs : List Value} (h : w.ownsRow B t e (.slice (some ⟨g, 0, none⟩) n c) n xs) : B ≤ g ∧ g < w.heap.size ∧ n ≤ c ∧ c ≤ maxLen := by
  rcases h.2 with ⟨h1, _⟩ | ⟨g', c', cur, h1, hb, hh, hc1, hc2, hsz, ht⟩
  · cases h1
  · simp only [Value.slice.injEq, Option.some.injEq, Addr.mk.injEq] at h1
    obtain ⟨⟨rfl, -, -⟩, -, rfl⟩ := h1
    exact ⟨hb, (Array.getElem?_eq_some_iff.1 hh).1, hc1, hc2⟩
/-- One cell written. -/
theorem own_set {w : World} {B : Nat} {t : TypeId} {e g n c : Nat} {xs : List Value} (h : w.ownsRow B t e (.slice (some ⟨g, 0, none⟩) n c) n xs) (i : Nat) (u : Value) : (w.setCell ⟨g, i, none⟩ u).ownsRow B t e (.slice (some ⟨g, 0, none⟩) n c) n (xs.set i u) := by
  refine ⟨by rw [List.length_set]; exact h.1, ?_⟩
  rcases h.2 with ⟨h1, _⟩ | ⟨g', c', cur, h1, hb, hh, hc1, hc2, hsz, ht⟩
  · cases h1
  · simp only [Value.slice.injEq, Option.some.injEq, Addr.mk.injEq] at h1
    obtain ⟨⟨rfl, -, -⟩, -, rfl⟩ := h1
    have ha : At t w g cur := hh
    refine .inr ⟨g, c, _, rfl, hb, ha.set i u, hc1, hc2, by simpa using hsz, ?_⟩
    rw [Array.toList_setIfInBounds, ← ht, List.take_set]
theorem own_setO {w : World} {B q i : Nat} {e : TypeId} {k : Nat} {v : Value} {n : Nat} {xs : List Value} (h : w.ownsRow B e k v n xs) (hq : v.ownBlock ≠ some q) (x : Value) : (w.setCell ⟨q, i, none⟩ x).ownsRow B e k v n xs := by
  refine ⟨h.1, h.2.imp id ?_⟩
  rintro ⟨g, cap, cur, rfl, h1, h2, h3⟩
  exact ⟨g, cap, cur, rfl, h1, (Below.heap_setCell _ _ _ _ (fun e => hq (congrArg some e))).trans h2, h3⟩
theorem own_bel {w w' : World} {B : Nat} {e : TypeId} {k : Nat} {v : Value} {n : Nat} {xs : List Value} (h : w.ownsRow B e k v n xs) (hb : Below w.heap.size w w') : w'.ownsRow B e k v n xs := by
  refine ⟨h.1, h.2.imp id ?_⟩
  rintro ⟨g, cap, cur, rfl, h1, h2, h3⟩
  exact ⟨g, cap, cur, rfl, h1, (hb.block g (Array.getElem?_eq_some_iff.1 h2).1).trans h2, h3⟩
theorem own_ge {w : World} {base : Nat} {e : TypeId} {size : Nat} {v : Value} {n : Nat} {xs : List Value} (h : w.ownsRow base e size v n xs) {j : Nat} (hj : v.ownBlock = some j) : base ≤ j ∧ j < w.heap.size := by
  rcases h.2 with ⟨rfl, _⟩ | ⟨g, cap, cur, rfl, hb, hh, _⟩
  · cases hj
  · cases hj; exact ⟨hb, (Array.getElem?_eq_some_iff.1 hh).1⟩
/-- The first m of them. -/
theorem own_cut {T : Type} {en : T → List Value} {e : Nat} (he : ∀ x, (en x).length = e) {w : World} {B : Nat} {t : TypeId} {g n m c : Nat} {f : Nat → T} (h : w.ownsRow B t e (.slice (some ⟨g, 0, none⟩) n c) n (hC en f n)) (hm : m ≤ n) : w.ownsRow B t e (.slice (some ⟨g, 0, none⟩) m c) m (hC en f m) := by
  refine ⟨hC_len he f m, ?_⟩
  rcases h.2 with ⟨h1, _⟩ | ⟨g', c', cur, h1, hb, hh, hc1, hc2, hsz, ht⟩
  · cases h1
  · simp only [Value.slice.injEq, Option.some.injEq, Addr.mk.injEq] at h1
    obtain ⟨⟨rfl, -, -⟩, -, rfl⟩ := h1
    refine .inr ⟨g, c, cur, rfl, hb, hh, by omega, hc2, hsz, ?_⟩
    rw [← hC_take he f hm, ← ht, List.take_take, Nat.min_eq_left (Nat.mul_le_mul_right e hm)]
/-- A record written, cell by cell. -/
theorem hC_put {T : Type} {en : T → List Value} {e : Nat} (he : ∀ x, (en x).length = e) (f : Nat → T) {n k : Nat} (x : T) (xs : List Value) (hl : xs.length = n * e) (hx : ∀ i j, i < n → j < e → xs[i * e + j]? = if i = k then (en x)[j]? else (en (f i))[j]?) : xs = hC en (upd f k x) n := by
  refine List.ext_getElem? fun p => ?_
  by_cases hp : p < n * e
  · have he0 : 0 < e := by rcases Nat.eq_zero_or_pos e with h | h; subst h; simp at hp; exact h
    have hi : p / e < n := Nat.div_lt_of_lt_mul (by rw [Nat.mul_comm]; exact hp)
    have hj : p % e < e := Nat.mod_lt _ he0
    have e1 : p / e * e + p % e = p := by rw [Nat.mul_comm]; exact Nat.div_add_mod p e
    have h1 := hx _ _ hi hj
    have h2 := hC_at he (upd f k x) hi hj
    rw [e1] at h1 h2
    rw [h1, h2]
    by_cases e3 : p / e = k
    · rw [if_pos e3, e3, upd_at]
    · rw [if_neg e3, upd_o _ _ e3]
  · rw [List.getElem?_eq_none (by omega), List.getElem?_eq_none (by rw [hC_len he]; omega)]
end Go.Proofs.Ytcpeaenophaphaa
