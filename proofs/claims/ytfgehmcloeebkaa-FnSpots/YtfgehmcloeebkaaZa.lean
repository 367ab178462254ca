/-
  Steps read from bytes; what Unsqueeze tells. No function of the program.
-/
import Derived.Test.YtfgehmcloeebkaaYa
namespace Go.Proofs.Ytfgehmcloeebkaa
open Go.RowKit

/-- A step with its sign. -/
def unf (v : Int) : Int := if v % 2 = 1 then -((v + 1) / 2) else v / 2
/-- The step that begins at p, and how many bytes it has. -/
def st (F : Nat → Int) (n p : Nat) : Option (Int × Nat) :=
  if p < n then
    if F p < 128 then some (unf (F p), 1)
    else if p + 1 < n then
      if F (p + 1) < 128 then (if F (p + 1) = 0 then none else some (unf (F p - 128 + 128 * F (p + 1)), 2))
      else if p + 2 < n then
        if F (p + 2) < 128 then (if F (p + 2) = 0 then none else some (unf (F p - 128 + 128 * (F (p + 1) - 128) + 16384 * F (p + 2)), 3)) else none
      else none
    else none
  else none
theorem st_in {F : Nat → Int} {n p : Nat} (hF : ∀ i, i < n → 0 ≤ F i ∧ F i ≤ 255) {s : Int} {c : Nat} (h : st F n p = some (s, c)) : (-1100000 ≤ s ∧ s ≤ 1100000) ∧ 1 ≤ c ∧ c ≤ 3 ∧ p + c ≤ n := by
  unfold st at h
  repeat' split at h
  all_goals
    first
    | (cases h; done)
    | (simp only [Option.some.injEq, Prod.mk.injEq] at h
       obtain ⟨rfl, rfl⟩ := h
       refine ⟨?_, by omega, by omega, by omega⟩
       have h0 := hF p (by omega)
       try have h1 := hF (p + 1) (by omega)
       try have h2 := hF (p + 2) (by omega)
       unfold unf
       split <;> omega)
/-- After k pixels: how many bytes are read, the last pixel, the pixels. -/
def unS (F : Nat → Int) (n : Nat) : Nat → Option (Nat × Int × List Int)
  | 0 => some (2, 0, [])
  | k + 1 => match unS F n k with
    | none => none
    | some (p, a, P) => match st F n p with
      | none => none
      | some (s, c) => if 0 ≤ a + s ∧ a + s ≤ 65535 then some (p + c, a + s, P ++ [a + s]) else none
theorem unS_step {F : Nat → Int} {n k p c : Nat} {a s : Int} {P : List Int} (h : unS F n k = some (p, a, P)) (hs : st F n p = some (s, c)) (hr : 0 ≤ a + s ∧ a + s ≤ 65535) : unS F n (k + 1) = some (p + c, a + s, P ++ [a + s]) := by
  simp [unS, h, hs, hr]
theorem unS_none {F : Nat → Int} {n k p : Nat} {a : Int} {P : List Int} (h : unS F n k = some (p, a, P)) (hs : st F n p = none) : unS F n (k + 1) = none := by
  simp [unS, h, hs]
theorem unS_out {F : Nat → Int} {n k p c : Nat} {a s : Int} {P : List Int} (h : unS F n k = some (p, a, P)) (hs : st F n p = some (s, c)) (hr : ¬ (0 ≤ a + s ∧ a + s ≤ 65535)) : unS F n (k + 1) = none := by
  simp only [unS, h, hs, if_neg hr]
theorem unS_stays {F : Nat → Int} {n k : Nat} (h : unS F n k = none) : unS F n (k + 1) = none := by simp [unS, h]
theorem unS_far {F : Nat → Int} {n k j : Nat} (h : unS F n k = none) (hj : k ≤ j) : unS F n j = none := by
  induction j with
  | zero => rw [Nat.le_zero.1 hj] at h; exact h
  | succ j ih =>
    by_cases e : k = j + 1
    · rw [← e]; exact h
    · exact unS_stays (ih (by omega))
def hdr (F : Nat → Int) (n : Nat) : Prop := 2 ≤ n ∧ (1 ≤ F 0 ∧ F 0 ≤ 64) ∧ (1 ≤ F 1 ∧ F 1 ≤ 64)
/-- What Unsqueeze tells. -/
def UnT (F : Nat → Int) (n : Nat) (W H : Int) (len : Nat) (f : Nat → Int) (r : Int) : Prop :=
  ((¬ hdr F n ∧ r = 0) ∧ W = 0 ∧ H = 0 ∧ len = 0 ∧ f = fun _ => 0) ∨
  ((hdr F n ∧ ∃ k p a P, k < (F 0 * F 1).toNat ∧ unS F n k = some (p, a, P) ∧ unS F n (k + 1) = none ∧ r = (p : Int)) ∧ W = 0 ∧ H = 0 ∧ len = 0 ∧ f = fun _ => 0) ∨
  ((hdr F n ∧ ∃ p a P, unS F n (F 0 * F 1).toNat = some (p, a, P) ∧ p < n ∧ r = (p : Int)) ∧ W = 0 ∧ H = 0 ∧ len = 0 ∧ f = fun _ => 0) ∨
  (hdr F n ∧ ∃ p a P, unS F n (F 0 * F 1).toNat = some (p, a, P) ∧ ¬ p < n ∧ r = -1 ∧ W = F 0 ∧ H = F 1 ∧ len = (F 0 * F 1).toNat ∧ f = fun i => P.getD i 0)
theorem UnT.same {F : Nat → Int} {n : Nat} {W H W' H' : Int} {len len' : Nat} {f f' : Nat → Int} {r r' : Int} (h : UnT F n W H len f r) (k : UnT F n W' H' len' f' r') : W' = W ∧ H' = H ∧ len' = len ∧ f' = f ∧ r' = r := by
  rcases h with ⟨⟨h0, rfl⟩, rfl, rfl, rfl, rfl⟩ | ⟨⟨h0, k1, p1, a1, P1, hk1, e1, n1, rfl⟩, rfl, rfl, rfl, rfl⟩ | ⟨⟨h0, p1, a1, P1, e1, q1, rfl⟩, rfl, rfl, rfl, rfl⟩ | ⟨h0, p1, a1, P1, e1, q1, rfl, rfl, rfl, rfl, rfl⟩ <;>
    rcases k with ⟨⟨k0, rfl⟩, rfl, rfl, rfl, rfl⟩ | ⟨⟨k0, k2, p2, a2, P2, hk2, e2, n2, rfl⟩, rfl, rfl, rfl, rfl⟩ | ⟨⟨k0, p2, a2, P2, e2, q2, rfl⟩, rfl, rfl, rfl, rfl⟩ | ⟨k0, p2, a2, P2, e2, q2, rfl, rfl, rfl, rfl, rfl⟩
  all_goals
    first
    | exact ⟨rfl, rfl, rfl, rfl, rfl⟩
    | (exfalso; first | exact h0 k0 | exact k0 h0)
    | (rw [e1] at e2
       simp only [Option.some.injEq, Prod.mk.injEq] at e2
       obtain ⟨rfl, rfl, rfl⟩ := e2
       first | exact ⟨rfl, rfl, rfl, rfl, rfl⟩ | exact absurd q1 q2 | exact absurd q2 q1)
    | (exfalso; have := unS_far n1 (j := (F 0 * F 1).toNat) (by omega); rw [this] at e2; cases e2)
    | (exfalso; have := unS_far n2 (j := (F 0 * F 1).toNat) (by omega); rw [this] at e1; cases e1)
    | (have hk : k1 = k2 := by
         rcases Nat.lt_trichotomy k1 k2 with h | h | h
         · have := unS_far n1 (j := k2) (by omega); rw [this] at e2; cases e2
         · exact h
         · have := unS_far n2 (j := k1) (by omega); rw [this] at e1; cases e1
       subst hk
       rw [e1] at e2
       simp only [Option.some.injEq, Prod.mk.injEq] at e2
       obtain ⟨rfl, rfl, rfl⟩ := e2
       exact ⟨rfl, rfl, rfl, rfl, rfl⟩)
theorem unS_len {F : Nat → Int} {n k p : Nat} {a : Int} {P : List Int} (h : unS F n k = some (p, a, P)) : P.length = k ∧ (k = 0 → a = 0) ∧ (0 ≤ a ∧ a ≤ 65535) ∧ 2 ≤ p := by
  induction k generalizing p a P with
  | zero =>
    simp only [unS, Option.some.injEq, Prod.mk.injEq] at h
    obtain ⟨rfl, rfl, rfl⟩ := h
    exact ⟨rfl, fun _ => rfl, by omega, Nat.le_refl _⟩
  | succ k ih =>
    rcases h1 : unS F n k with _ | ⟨p1, a1, P1⟩
    · rw [unS_stays h1] at h; cases h
    · obtain ⟨l1, -, -, l2⟩ := ih h1
      rcases h2 : st F n p1 with _ | ⟨s, c⟩
      · rw [unS_none h1 h2] at h; cases h
      · by_cases hr : 0 ≤ a1 + s ∧ a1 + s ≤ 65535
        · rw [unS_step h1 h2 hr] at h
          simp only [Option.some.injEq, Prod.mk.injEq] at h
          obtain ⟨rfl, rfl, rfl⟩ := h
          exact ⟨by simp [l1], fun e => by omega, hr, by omega⟩
        · rw [unS_out h1 h2 hr] at h; cases h
/-- Bytes that came in. -/
def SrcB (w : World) (a : Option Addr) (n : Nat) (F : Nat → Int) : Prop := n = 0 ∨ ∃ b off, a = some ⟨b, off, none⟩ ∧ b < w.heap.size ∧ ∀ i, i < n → w.cell? ⟨b, off + i, none⟩ = some (.int .u8 (F i))
theorem SrcB.below {w w' : World} {a : Option Addr} {n : Nat} {F : Nat → Int} (h : SrcB w a n F) (hb : Below w.heap.size w w') : SrcB w' a n F := by
  refine h.imp id ?_
  rintro ⟨b, off, rfl, hlt, hr⟩
  exact ⟨b, off, rfl, Nat.lt_of_lt_of_le hlt hb.size, fun i hi => (hb.cell (p := ⟨b, off + i, none⟩) hlt).trans (hr i hi)⟩
end Go.Proofs.Ytfgehmcloeebkaa
