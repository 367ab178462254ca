/-
  Rows that are cut are balanced; the stretches of a cut row follow one another like a chain.
-/
import Derived.Test.YtnkmiljnilmicaaTm
import Derived.Test.YtnkmiljnilmicaaTf
namespace Go.Proofs.Ytnkmiljnilmicaa
open Go.RowKit

theorem nf_scale (x k c : Int) : nf (c * x) (c * k) = c * c * nf x k := by unfold nf; grind
/-- Below the golden line both: the mixed term is below nought. -/
theorem mix_neg {g a h n : Int} (hga : nf g a < 0) (hhn : nf h n < 0) (n0 : 0 < n) (ag : a ≤ g) (g2 : g < 2 * a) (h0 : 0 ≤ h) : 2 * g * h - g * n - h * a - 2 * a * n < 0 := by
  refine Int.lt_of_not_ge fun hc => ?_
  have e : n * (g + 2 * a) ≤ (2 * g - a) * h := by grind
  have p1 : 0 < 2 * g - a := by omega
  have k1 : (2 * g - a) * n ≤ n * (g + 2 * a) := by rw [Int.mul_comm]; exact Int.mul_le_mul_of_nonneg_left (by omega) (by omega)
  have k0 : 0 ≤ (2 * g - a) * h := Int.mul_nonneg (by omega) h0
  have m := nf_mono (x := n * (g + 2 * a)) (y := (2 * g - a) * h) (k := (2 * g - a) * n) e (by omega)
  have s1 : nf ((2 * g - a) * h) ((2 * g - a) * n) = (2 * g - a) * (2 * g - a) * nf h n := nf_scale _ _ _
  have s2 : nf (n * (g + 2 * a)) ((2 * g - a) * n) = n * n * (-5 * nf g a) := by unfold nf; grind
  have q1 : (2 * g - a) * (2 * g - a) * nf h n < 0 := Int.mul_neg_of_pos_of_neg (Int.mul_pos p1 p1) hhn
  have q2 : 0 < n * n * (-5 * nf g a) := Int.mul_pos (Int.mul_pos n0 n0) (by omega)
  omega
/-- Above the golden line both: the mixed term is above nought. -/
theorem mix_pos {g a h n : Int} (hga : 0 < nf g a) (hhn : 0 < nf h n) (a0 : 0 < a) (n0 : 0 < n) (ag : a ≤ g) (g3 : g ≤ 3 * a) (h0 : 0 ≤ h) : 0 < 2 * g * h - g * n - h * a - 2 * a * n := by
  refine Int.lt_of_not_ge fun hc => ?_
  have e : (2 * g - a) * h ≤ n * (g + 2 * a) := by grind
  have p1 : 0 < 2 * g - a := by omega
  have k1 : (2 * g - a) * n ≤ n * (g + 2 * a) := by rw [Int.mul_comm]; exact Int.mul_le_mul_of_nonneg_left (by omega) (by omega)
  have k0 : 0 ≤ (2 * g - a) * h := Int.mul_nonneg (by omega) h0
  have m := nf_mono (x := (2 * g - a) * h) (y := n * (g + 2 * a)) (k := (2 * g - a) * n) e (by omega)
  have s1 : nf ((2 * g - a) * h) ((2 * g - a) * n) = (2 * g - a) * (2 * g - a) * nf h n := nf_scale _ _ _
  have s2 : nf (n * (g + 2 * a)) ((2 * g - a) * n) = n * n * (-5 * nf g a) := by unfold nf; grind
  have q1 : 0 < (2 * g - a) * (2 * g - a) * nf h n := Int.mul_pos (Int.mul_pos p1 p1) hhn
  have q2 : n * n * (-5 * nf g a) < 0 := Int.mul_neg_of_pos_of_neg (Int.mul_pos n0 n0) (by omega)
  omega
theorem isG.add {a n g h m : Int} (x : isG a g) (y : isG n h) (z : isG (a + n) m) : m = g + h ∨ m = g + h + 1 := by
  obtain ⟨x1, x2, x3, x4, x5, x6⟩ := x
  obtain ⟨y1, y2, y3, y4, y5, y6⟩ := y
  obtain ⟨z1, z2, z3, z4, z5, z6⟩ := z
  have b1 := mix_neg x5 y5 y1 x2 x3 (by omega)
  have b2 := mix_pos x6 y6 x1 y1 (by omega) (by omega) (by omega)
  have e1 : nf (g + h) (a + n) = nf g a + nf h n + (2 * g * h - g * n - h * a - 2 * a * n) := by unfold nf; grind
  have e2 : nf (g + h + 2) (a + n) = nf (g + 1) a + nf (h + 1) n + (2 * (g + 1) * (h + 1) - (g + 1) * n - (h + 1) * a - 2 * a * n) := by unfold nf; grind
  have c1 : ¬ m < g + h := fun e => by
    have := nf_mono (x := m + 1) (y := g + h) (k := a + n) (by omega) (by omega); omega
  have c2 : ¬ g + h + 2 ≤ m := fun e => by
    have := nf_mono (x := g + h + 2) (y := m) (k := a + n) (by omega) (by omega); omega
  omega

theorem gol_add {a n : Int} (ha : 0 < a) (hn : 0 < n) (h : a + n ≤ 1000000000) : gol (a + n) = gol a + gol n ∨ gol (a + n) = gol a + gol n + 1 :=
  (gol_isG ha (by omega)).add (gol_isG hn (by omega)) (gol_isG (by omega) h)
theorem gol_next {k : Int} (hk : 0 < k) (h : k + 1 ≤ 1000000000) : gol (k + 1) = gol k + 1 ∨ gol (k + 1) = gol k + 2 := (gol_isG hk (by omega)).next (gol_isG (by omega) h)
theorem cutR_get (f : Int) (n : Nat) : ∀ k (h : k < (cutR f n).length), (cutR f n)[k] = cutL f k := by
  induction n with
  | zero => intro k h; simp [cutR] at h
  | succ n ih =>
    intro k h
    rw [cutR_len] at h
    have hl := cutR_len f n
    by_cases e : k = n
    · subst e
      simp only [cutR]
      rw [List.getElem_append_right (by omega)]
      simp
    · simp only [cutR]
      rw [List.getElem_append_left (by omega)]
      exact ih k (by omega)
theorem la_cut {f : Int} (h0 : 0 ≤ f) (h1 : f ≤ 100000000) {m : Nat} (hm : m ≤ 20000) : ∀ k, k ≤ m → la (tx (cutR f m)) k = gol (f + k + 1) - gol (f + 1) - k := by
  intro k
  induction k with
  | zero => intro _; simp [la]
  | succ k ih =>
    intro hk
    have hl := cutR_len f m
    rw [la, ih (by omega), tx_sb _ k (by omega), cutR_get f m k (by omega)]
    have nx := gol_next (k := f + k + 1) (by omega) (by omega)
    unfold cutL
    rw [show f + (k : Int) + 2 = f + k + 1 + 1 by omega, show f + ((k + 1 : Nat) : Int) + 1 = f + k + 1 + 1 by omega]
    rcases nx with e | e
    · rw [if_pos e.symm, if_neg (by decide), e]
      push_cast
      omega
    · rw [if_neg (show ¬ gol (f + (k : Int) + 1) + 1 = gol (f + k + 1 + 1) by omega), if_pos (by decide), e]
      push_cast
      omega
/-- A row that is cut is balanced. -/
theorem cut_balanced {f : Int} (h0 : 0 ≤ f) (h1 : f ≤ 100000000) {m : Nat} (hm : m ≤ 20000) (n : Nat) : ¬ unev (tx (cutR f m)) n := by
  rintro ⟨i, j, hi, hj, hd⟩
  rw [tx_size, cutR_len] at hi hj
  unfold ln at hd
  rw [la_cut h0 h1 hm (n + i) hi, la_cut h0 h1 hm i (by omega), la_cut h0 h1 hm (n + j) hj, la_cut h0 h1 hm j (by omega)] at hd
  by_cases hn : n = 0
  · subst hn
    simp only [Nat.zero_add] at hd
    omega
  · have a1 := gol_add (a := f + i + 1) (n := n) (by omega) (by omega) (by omega)
    have a2 := gol_add (a := f + j + 1) (n := n) (by omega) (by omega) (by omega)
    rw [show f + (i : Int) + 1 + n = f + ((n + i : Nat) : Int) + 1 by omega] at a1
    rw [show f + (j : Int) + 1 + n = f + ((n + j : Nat) : Int) + 1 by omega] at a2
    omega
/-- Whether the stretch of j letters from place a on has one L more than it must. -/
def cj (a : Int) (j : Nat) : Bool := decide (gol (a + j) = gol a + gol j + 1)
theorem cj_is {a : Int} {j : Nat} (ha : 0 < a) (h : a + j ≤ 1000000000) (hj : 0 < j) : gol (a + j) = gol a + gol j + (if cj a j = true then 1 else 0) := by
  rcases gol_add (a := a) (n := (j : Int)) ha (by omega) h with e | e
  · rw [show cj a j = false by unfold cj; exact decide_eq_false (by omega), e]; simp
  · rw [show cj a j = true by unfold cj; exact decide_eq_true e, e]; simp
/-- Of two places one has all that the other has. -/
theorem cj_chain {a b : Int} (hb : 0 < b) (hab : b < a) (k : Nat) (h : a + k ≤ 1000000000) : (∀ j, 0 < j → j ≤ k → cj b j = true → cj a j = true) ∨ (∀ j, 0 < j → j ≤ k → cj a j = true → cj b j = true) := by
  have hd := gol_add (a := b) (n := a - b) hb (by omega) (by omega)
  rw [show b + (a - b) = a by omega] at hd
  rcases hd with e | e
  · refine .inl fun j hj hjk hc => ?_
    have x := of_decide_eq_true hc
    have y := gol_add (a := b + j) (n := a - b) (by omega) (by omega) (by omega)
    have z := gol_add (a := a) (n := (j : Int)) (by omega) (by omega) (by omega)
    rw [show b + (j : Int) + (a - b) = a + j by omega] at y
    exact decide_eq_true (by omega)
  · refine .inr fun j hj hjk hc => ?_
    have x := of_decide_eq_true hc
    have y := gol_add (a := b + j) (n := a - b) (by omega) (by omega) (by omega)
    have z := gol_add (a := b) (n := (j : Int)) (by omega) (by omega) (by omega)
    rw [show b + (j : Int) + (a - b) = a + j by omega] at y
    exact decide_eq_true (by omega)
/-- How many of the numbers from 1 to k have p. -/
def cntB (p : Nat → Bool) : Nat → Nat
  | 0 => 0
  | k + 1 => cntB p k + (if p (k + 1) = true then 1 else 0)
theorem cntB_le (p : Nat → Bool) (k : Nat) : cntB p k ≤ k := by
  induction k with
  | zero => exact Nat.le_refl _
  | succ k ih => unfold cntB; split <;> omega
theorem cntB_sub {p q : Nat → Bool} {k : Nat} (h : ∀ j, 0 < j → j ≤ k → p j = true → q j = true) : cntB p k ≤ cntB q k ∧ (cntB p k = cntB q k → ∀ j, 0 < j → j ≤ k → p j = q j) := by
  induction k with
  | zero => exact ⟨Nat.le_refl _, fun _ j h1 h2 => by omega⟩
  | succ k ih =>
    obtain ⟨h1, h2⟩ := ih (fun j hj hk => h j hj (by omega))
    have hk := h (k + 1) (by omega) (by omega)
    unfold cntB
    cases ep : p (k + 1) <;> cases eq : q (k + 1)
    · refine ⟨by simp; omega, fun e j hj hjk => ?_⟩
      by_cases ej : j = k + 1
      · rw [ej, ep, eq]
      · exact h2 (by simp at e; omega) j hj (by omega)
    · refine ⟨by simp; omega, fun e => ?_⟩
      simp at e; omega
    · rw [ep, eq] at hk; exact absurd (hk rfl) (by decide)
    · refine ⟨by simp; omega, fun e j hj hjk => ?_⟩
      by_cases ej : j = k + 1
      · rw [ej, ep, eq]
      · exact h2 (by simp at e; omega) j hj (by omega)
/-- Two stretches of k letters with as many are the same. -/
theorem cut_same {f : Int} (h0 : 0 ≤ f) (h1 : f ≤ 100000000) {k i i' : Nat} (hk : i + k ≤ 20000) (hk' : i' + k ≤ 20000) (hc : cntB (cj (f + i + 1)) k = cntB (cj (f + i' + 1)) k) : ∀ j, j < k → cutL f (i + j) = cutL f (i' + j) := by
  have same : ∀ j, 0 < j → j ≤ k → cj (f + i + 1) j = cj (f + i' + 1) j := by
    intro j hj hjk
    rcases Nat.lt_trichotomy i i' with e | e | e
    · rcases cj_chain (a := f + i' + 1) (b := f + i + 1) (by omega) (by omega) k (by omega) with s | s
      · exact (cntB_sub s).2 hc j hj hjk
      · exact ((cntB_sub s).2 hc.symm j hj hjk).symm
    · rw [e]
    · rcases cj_chain (a := f + i + 1) (b := f + i' + 1) (by omega) (by omega) k (by omega) with s | s
      · exact ((cntB_sub s).2 hc.symm j hj hjk).symm
      · exact (cntB_sub s).2 hc j hj hjk
  intro j hj
  have val : ∀ (u : Nat), u + k ≤ 20000 → ∀ v, v ≤ k → gol (f + u + 1 + v) = gol (f + u + 1) + (if v = 0 then 0 else gol v + (if cj (f + u + 1) v = true then 1 else 0)) := by
    intro u hu v hv
    by_cases z : v = 0
    · subst z; simp
    · rw [if_neg z, cj_is (by omega) (by omega) (by omega)]; omega
  have a1 := val i hk j (by omega)
  have a2 := val i hk (j + 1) (by omega)
  have b1 := val i' hk' j (by omega)
  have b2 := val i' hk' (j + 1) (by omega)
  rw [if_neg (by omega)] at a2 b2
  have s2 := same (j + 1) (by omega) (by omega)
  rw [s2] at a2
  have d1 : (if j = 0 then (0 : Int) else gol j + (if cj (f + i + 1) j = true then 1 else 0)) = (if j = 0 then (0 : Int) else gol j + (if cj (f + i' + 1) j = true then 1 else 0)) := by
    by_cases z : j = 0
    · rw [if_pos z, if_pos z]
    · rw [if_neg z, if_neg z, same j (by omega) (by omega)]
  rw [d1] at a1
  unfold cutL
  rw [show f + ((i + j : Nat) : Int) + 1 = f + i + 1 + j by omega, show f + ((i + j : Nat) : Int) + 2 = f + i + 1 + ((j + 1 : Nat) : Int) by omega, show f + ((i' + j : Nat) : Int) + 1 = f + i' + 1 + j by omega, show f + ((i' + j : Nat) : Int) + 2 = f + i' + 1 + ((j + 1 : Nat) : Int) by omega, a1, a2, b1, b2]
  obtain ⟨A, hA⟩ : ∃ A, gol (f + i + 1) = A := ⟨_, rfl⟩
  obtain ⟨B, hB⟩ : ∃ B, gol (f + i' + 1) = B := ⟨_, rfl⟩
  obtain ⟨x, hx⟩ : ∃ x, (if j = 0 then (0 : Int) else gol j + (if cj (f + i' + 1) j = true then 1 else 0)) = x := ⟨_, rfl⟩
  obtain ⟨y, hy⟩ : ∃ y, gol ((j + 1 : Nat) : Int) + (if cj (f + i' + 1) (j + 1) = true then 1 else 0) = y := ⟨_, rfl⟩
  rw [hA, hB, hx, hy]
  clear hA hB hx hy a1 a2 b1 b2 d1 s2 val same hc
  by_cases z : x + 1 = y
  · rw [if_pos (by omega), if_pos (by omega)]
  · rw [if_neg (by omega), if_neg (by omega)]
theorem nodup_lt : ∀ (n : Nat) (l : List Nat), l.Nodup → (∀ x ∈ l, x < n) → l.length ≤ n := by
  intro n
  induction n with
  | zero =>
    intro l _ h
    cases l with
    | nil => exact Nat.le_refl _
    | cons x l => exact absurd (h x (List.mem_cons_self ..)) (by omega)
  | succ n ih =>
    intro l hn h
    have h1 := ih (l.erase n) (hn.erase n) (fun x hx => by
      have hne : x ≠ n := fun e => by subst e; exact (List.Nodup.not_mem_erase hn) hx
      have := h x (List.mem_of_mem_erase hx)
      omega)
    have h2 := List.length_erase (a := n) (l := l)
    by_cases hm : n ∈ l
    · rw [if_pos hm] at h2; omega
    · rw [if_neg hm] at h2; omega
/-- At most k + 1 stretches of k letters stand in a row that is cut. -/
theorem cut_factors {f : Int} (h0 : 0 ≤ f) (h1 : f ≤ 100000000) {k : Nat} (D : List (List UInt8)) (hD : D.Nodup) (hall : ∀ s ∈ D, ∃ i : Nat, i + k ≤ 20000 ∧ s = (List.range k).map fun j => cutL f (i + j)) : D.length ≤ k + 1 := by
  have pick : ∀ s, ∃ i : Nat, s ∈ D → i + k ≤ 20000 ∧ s = (List.range k).map fun j => cutL f (i + j) := fun s => by
    by_cases hs : s ∈ D
    · obtain ⟨i, hi⟩ := hall s hs
      exact ⟨i, fun _ => hi⟩
    · exact ⟨0, fun h => absurd h hs⟩
  obtain ⟨I, hI⟩ : ∃ I : List UInt8 → Nat, ∀ s, s ∈ D → I s + k ≤ 20000 ∧ s = (List.range k).map fun j => cutL f (I s + j) := ⟨fun s => Classical.choose (pick s), fun s => Classical.choose_spec (pick s)⟩
  have hl := nodup_lt (k + 1) (D.map fun s => cntB (cj (f + (I s : Nat) + 1)) k) ?_ ?_
  · rw [List.length_map] at hl; exact hl
  · refine List.pairwise_map.2 (hD.imp_of_mem fun {a b} ha hb hne e => hne ?_)
    obtain ⟨x1, x2⟩ := hI a ha
    obtain ⟨y1, y2⟩ := hI b hb
    have same := cut_same h0 h1 x1 y1 e
    rw [x2, y2]
    exact List.map_congr_left fun j hj => same j (List.mem_range.1 hj)
  · intro x hx
    obtain ⟨s, -, rfl⟩ := List.mem_map.1 hx
    have := cntB_le (cj (f + (I s : Nat) + 1)) k
    omega
end Go.Proofs.Ytnkmiljnilmicaa
