/-
  The golden number in whole numbers; the row cut from 0 on is the row inflated from L.
-/
import Derived.Test.YtnkmiljnilmicaaTe
import Derived.Test.YtnkmiljnilmicaaTw
namespace Go.Proofs.Ytnkmiljnilmicaa
open Go.RowKit

def nf (g k : Int) : Int := g * g - g * k - k * k
theorem nf_ne_up : ∀ (n : Nat) (g k : Int), 0 < k → k ≤ n → nf g k ≠ 0 := by
  intro n
  induction n with
  | zero => intro g k h1 h2; omega
  | succ n ih =>
    intro g k h1 h2 h
    unfold nf at h
    obtain ⟨a, ha⟩ : ∃ a, g = 2 * a ∨ g = 2 * a + 1 := ⟨g / 2, by omega⟩
    obtain ⟨b, hb⟩ : ∃ b, k = 2 * b ∨ k = 2 * b + 1 := ⟨k / 2, by omega⟩
    rcases ha with rfl | rfl <;> rcases hb with rfl | rfl
    · refine ih a b (by omega) (by omega) ?_
      unfold nf
      grind
    · grind
    · grind
    · grind
theorem nf_ne {g k : Int} (h : 0 < k) : nf g k ≠ 0 := nf_ne_up k.toNat g k h (by omega)
theorem nf_mono {x y k : Int} (h : x ≤ y) (h2 : k ≤ y + x) : nf x k ≤ nf y k := by
  have := Int.mul_nonneg (show 0 ≤ y - x by omega) (show 0 ≤ y + x - k by omega)
  unfold nf
  grind
/-- g is the whole part of k times the golden number. -/
def isG (k g : Int) : Prop := 0 < k ∧ k ≤ g ∧ g < 2 * k ∧ 3 * k ≤ 2 * g + 1 ∧ nf g k < 0 ∧ 0 < nf (g + 1) k
theorem isG_of {k g : Int} (hk : 0 < k) (h1 : nf g k ≤ 0) (h2 : 0 < nf (g + 1) k) (h3 : 0 ≤ g) : isG k g := by
  have hn : nf g k < 0 := by have := nf_ne (g := g) hk; omega
  have a1 : ¬ g < k := fun h => by
    have := nf_mono (x := g + 1) (y := k) (k := k) (by omega) (by omega)
    have e : nf k k = - (k * k) := by unfold nf; omega
    have := Int.mul_pos hk hk
    omega
  have a2 : ¬ 2 * k ≤ g := fun h => by
    have := nf_mono (x := 2 * k) (y := g) (k := k) h (by omega)
    have e : nf (2 * k) k = k * k := by unfold nf; grind
    have := Int.mul_pos hk hk
    omega
  have a3 : ¬ 2 * g + 1 < 3 * k := fun h => by
    -- g + 1 ≤ 3k/2 gives nf (g+1) k < 0
    have := nf_mono (x := 2 * (g + 1)) (y := 3 * k) (k := 2 * k) (by omega) (by omega)
    have e1 : nf (2 * (g + 1)) (2 * k) = 4 * nf (g + 1) k := by unfold nf; grind
    have e2 : nf (3 * k) (2 * k) = - (k * k) := by unfold nf; grind
    have := Int.mul_pos hk hk
    omega
  exact ⟨hk, by omega, by omega, by omega, hn, h2⟩
theorem isG.eq {k g h : Int} (a : isG k g) (b : isG k h) : g = h := by
  obtain ⟨a1, a2, a3, a4, a5, a6⟩ := a
  obtain ⟨b1, b2, b3, b4, b5, b6⟩ := b
  by_cases e : g < h
  · have := nf_mono (x := g + 1) (y := h) (k := k) (by omega) (by omega); omega
  · by_cases e2 : h < g
    · have := nf_mono (x := h + 1) (y := g) (k := k) (by omega) (by omega); omega
    · omega
theorem isG.gg {n g : Int} (a : isG n g) : isG g (g + n - 1) := by
  obtain ⟨a1, a2, a3, a4, a5, a6⟩ := a
  have e1 : nf (g + n - 1) g = - nf g n - g - 2 * n + 1 := by unfold nf; grind
  have e2 : nf (g + n - 1 + 1) g = - nf g n := by unfold nf; grind
  have e3 : nf (g + 1) n = nf g n + 2 * g + 1 - n := by unfold nf; grind
  exact isG_of (by omega) (by omega) (by omega) (by omega)
theorem isG.gg1 {n g : Int} (a : isG n g) : isG (g + 1) (g + n + 1) := by
  obtain ⟨a1, a2, a3, a4, a5, a6⟩ := a
  have e1 : nf (g + n + 1) (g + 1) = - nf (g + 1) n := by unfold nf; grind
  have e2 : nf (g + n + 1 + 1) (g + 1) = - nf (g + 1) n + g + 2 * n + 2 := by unfold nf; grind
  have e3 : nf (g + 1) n = nf g n + 2 * g + 1 - n := by unfold nf; grind
  exact isG_of (by omega) (by omega) (by omega) (by omega)
theorem isG.next {k g h : Int} (a : isG k g) (b : isG (k + 1) h) : h = g + 1 ∨ h = g + 2 := by
  obtain ⟨a1, a2, a3, a4, a5, a6⟩ := a
  obtain ⟨b1, b2, b3, b4, b5, b6⟩ := b
  have e1 : nf (g + 1) (k + 1) = nf g k + g - 3 * k - 1 := by unfold nf; grind
  have e2 : nf (g + 3) (k + 1) = nf (g + 1) k + 3 * (g + 1) - 4 * k + 1 := by unfold nf; grind
  have c1 : ¬ h < g + 1 := fun e => by
    have := nf_mono (x := h + 1) (y := g + 1) (k := k + 1) (by omega) (by omega); omega
  have c2 : ¬ g + 3 ≤ h := fun e => by
    have := nf_mono (x := g + 3) (y := h) (k := k + 1) (by omega) (by omega); omega
  omega

theorem gol_isG {k : Int} (h0 : 0 < k) (h1 : k ≤ 1000000000) : isG k (gol k) := by
  unfold gol
  rw [if_pos ⟨by omega, h1⟩]
  have hk : 0 < k * k := Int.mul_pos h0 h0
  have hr := rt_root (5 * k * k) (by rw [Int.mul_assoc]; omega)
  obtain ⟨r, hR⟩ : ∃ r : Int, ((rt (5 * k * k).toNat : Nat) : Int) = r := ⟨_, rfl⟩
  rw [hR] at hr ⊢
  obtain ⟨r0, r1, r2⟩ := hr
  have h2 : 2 * k < r + 1 := lt_of_sq (by omega) (by have e : 2 * k * (2 * k) = 4 * (k * k) := by grind
                                                     rw [Int.mul_assoc] at r2; omega)
  obtain ⟨g, hg⟩ : ∃ g, (k + r) / 2 = g := ⟨_, rfl⟩
  rw [hg]
  have g1 : 2 * g - k ≤ r := by omega
  have g2 : r + 1 ≤ 2 * (g + 1) - k := by omega
  have s1 := sq_le (a := 2 * g - k) (b := r) (by omega) g1
  have s2 := sq_le (a := r + 1) (b := 2 * (g + 1) - k) (by omega) g2
  have e1 : (2 * g - k) * (2 * g - k) = 4 * nf g k + 5 * k * k := by unfold nf; grind
  have e2 : (2 * (g + 1) - k) * (2 * (g + 1) - k) = 4 * nf (g + 1) k + 5 * k * k := by unfold nf; grind
  exact isG_of h0 (by omega) (by omega) (by omega)
theorem gol_one : gol 1 = 1 := ((gol_isG (k := 1) (by decide) (by decide)).eq (isG_of (by decide) (by decide) (by decide) (by decide)))
theorem gol_two : gol 2 = 3 := ((gol_isG (k := 2) (by decide) (by decide)).eq (isG_of (by decide) (by decide) (by decide) (by decide)))
/-- The row cut from 0 on, inflated once, is a row cut from 0 on. -/
theorem infl_cut (m : Nat) (hm : m ≤ 1000000) : ∃ q : Nat, (q : Int) = gol (m + 1) - 1 ∧ infl (cutR 0 m) = cutR 0 q := by
  induction m with
  | zero => exact ⟨0, by simp [gol_one], rfl⟩
  | succ m ih =>
    obtain ⟨q, hq, hc⟩ := ih (by omega)
    have a := gol_isG (k := (m : Int) + 1) (by omega) (by omega)
    have b := gol_isG (k := (m : Int) + 1 + 1) (by omega) (by omega)
    have hG : gol ((m : Int) + 1) = (q : Int) + 1 := by omega
    rw [hG] at a
    have c := gol_isG (k := (q : Int) + 1) (by omega) (by have := a.2.2.1; omega)
    have d := gol_isG (k := (q : Int) + 1 + 1) (by omega) (by have := a.2.2.1; omega)
    have c' := c.eq a.gg
    have d' := d.eq a.gg1
    have l1 : cutL 0 q = 76 := by
      unfold cutL
      rw [show (0 : Int) + q + 1 = (q : Int) + 1 by omega, show (0 : Int) + q + 2 = (q : Int) + 1 + 1 by omega, c', d', if_neg (by omega)]
    have hl : infl (cutR 0 (m + 1)) = cutR 0 q ++ inf1 (cutL 0 m) := by rw [cutR, infl_add, hc]
    rcases a.next b with e | e
    · refine ⟨q + 1, by push_cast; rw [e]; omega, ?_⟩
      rw [hl, cutR, l1]
      unfold cutL
      rw [show (0 : Int) + m + 1 = (m : Int) + 1 by omega, show (0 : Int) + m + 2 = (m : Int) + 1 + 1 by omega, hG, e, if_pos rfl]
      rfl
    · rw [e] at b
      have f := gol_isG (k := (q : Int) + 1 + 2) (by omega) (by have := a.2.2.1; omega)
      have f' := f.eq b.gg
      have l2 : cutL 0 (q + 1) = 83 := by
        unfold cutL
        rw [show (0 : Int) + ((q + 1 : Nat) : Int) + 1 = (q : Int) + 1 + 1 by omega, show (0 : Int) + ((q + 1 : Nat) : Int) + 2 = (q : Int) + 1 + 2 by omega, d', f', if_pos (by omega)]
      refine ⟨q + 1 + 1, by push_cast; rw [e]; omega, ?_⟩
      rw [hl, cutR, cutR, l1, l2]
      unfold cutL
      rw [show (0 : Int) + m + 1 = (m : Int) + 1 by omega, show (0 : Int) + m + 2 = (m : Int) + 1 + 1 by omega, hG, e, if_neg (by omega)]
      simp [inf1]
/-- How many letters are L. -/
def cnt76 (L : List UInt8) : Nat := (L.filter (· == 76)).length
theorem infl_counts (L : List UInt8) (h : ∀ b ∈ L, b = 76 ∨ b = 83) : (infl L).length = L.length + cnt76 L ∧ cnt76 (infl L) = L.length := by
  induction L with
  | nil => exact ⟨rfl, rfl⟩
  | cons b L ih =>
    obtain ⟨h1, h2⟩ := ih (fun x hx => h x (List.mem_cons_of_mem _ hx))
    have e : infl (b :: L) = inf1 b ++ infl L := by simp [infl]
    rw [e]
    unfold cnt76 at *
    rcases h b (List.mem_cons_self ..) with rfl | rfl
    · simp [inf1, h2]; omega
    · simp [inf1, h2]; omega
theorem infl_letters (L : List UInt8) : ∀ b ∈ infl L, b = 76 ∨ b = 83 := by
  intro b hb
  simp only [infl, List.mem_flatMap] at hb
  obtain ⟨a, -, hb⟩ := hb
  unfold inf1 at hb
  by_cases e : a = 76
  · rw [if_pos e] at hb; simpa using hb
  · rw [if_neg e] at hb; simp at hb; exact .inl hb
/-- How many letters, and how many L, the row has. -/
def fibs : Nat → Nat × Nat
  | 0 => (1, 1)
  | k + 1 => ((fibs k).1 + (fibs k).2, (fibs k).1)
theorem it_counts (k : Nat) : (it [76] k).length = (fibs k).1 ∧ cnt76 (it [76] k) = (fibs k).2 ∧ ∀ b ∈ it [76] k, b = 76 ∨ b = 83 := by
  induction k with
  | zero => exact ⟨rfl, rfl, fun b hb => by simp [it] at hb; exact .inl hb⟩
  | succ k ih =>
    obtain ⟨h1, h2, h3⟩ := ih
    have := infl_counts _ h3
    exact ⟨by show (infl (it [76] k)).length = _; rw [this.1, h1, h2]; rfl, by show cnt76 (infl (it [76] k)) = _; rw [this.2, h1]; rfl, infl_letters _⟩
theorem fibs_le : ∀ k, k ≤ 20 → (fibs k).1 ≤ 20000 ∧ 0 < (fibs k).1 := by decide
theorem it_cut (k : Nat) (hk : k ≤ 20) : it [76] k = cutR 0 (it [76] k).length := by
  induction k with
  | zero =>
    show [76] = cutR 0 1
    rw [cutR, cutR]
    unfold cutL
    rw [show (0 : Int) + ((0 : Nat) : Int) + 1 = 1 by omega, show (0 : Int) + ((0 : Nat) : Int) + 2 = 2 by omega, gol_one, gol_two]
    rfl
  | succ k ih =>
    have h1 := ih (by omega)
    obtain ⟨q, -, hq⟩ := infl_cut (it [76] k).length (by rw [(it_counts k).1]; have := (fibs_le k (by omega)).1; omega)
    rw [← h1] at hq
    have e : it [76] (k + 1) = cutR 0 q := hq
    rw [e, cutR_len]
end Go.Proofs.Ytnkmiljnilmicaa
