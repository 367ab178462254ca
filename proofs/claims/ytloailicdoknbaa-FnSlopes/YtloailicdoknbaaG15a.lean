/-
  A descent never rises: its mathematics. No function of the law.
-/
import Derived.Test.YtloailicdoknbaaD15e
namespace Go.Proofs.Ytloailicdoknbaa
open Go.RowKit

/-- A state that stands: its value is its list's. -/
def Sd (n : Nat) (f : Nat → Int) (x : Nat → Int) (d : Int) : Prop := okB n f x = true ∧ d = wv f x (n - 1)
theorem stp_sd {n : Nat} {f x : Nat → Int} {i : Nat} {y b d b' d' : Int} (h : stp n f x i y (some (b, d)) = some (b', d')) (hb : Sd n f (upd x i b) d) : Sd n f (upd x i b') d' ∧ d' ≤ d := by
  simp only [stp] at h
  split at h
  · split at h
    · next h2 =>
      split at h
      · next h3 =>
        simp only [Option.some.injEq, Prod.mk.injEq] at h
        obtain ⟨rfl, rfl⟩ := h
        exact ⟨⟨h2, rfl⟩, Int.le_of_lt h3⟩
      · simp only [Option.some.injEq, Prod.mk.injEq] at h
        obtain ⟨rfl, rfl⟩ := h
        exact ⟨hb, Int.le_refl _⟩
    · cases h
  · simp only [Option.some.injEq, Prod.mk.injEq] at h
    obtain ⟨rfl, rfl⟩ := h
    exact ⟨hb, Int.le_refl _⟩
theorem rsl_sd {n : Nat} {f x : Nat → Int} {i : Nat} {d : Int} (hx : Sd n f x d) : ∀ (t : Nat) (b d' : Int), rsl n f x i d t = some (b, d') → Sd n f (upd x i b) d' ∧ d' ≤ d
  | 0, b, d', h => by
    simp only [rsl, Option.some.injEq, Prod.mk.injEq] at h
    obtain ⟨rfl, rfl⟩ := h
    rw [upd_self]
    exact ⟨hx, Int.le_refl _⟩
  | t + 1, b, d', h => by
    rw [rsl] at h
    cases hr : rsl n f x i d t with
    | none => rw [hr] at h; cases h
    | some p =>
      obtain ⟨b0, d0⟩ := p
      rw [hr] at h
      obtain ⟨h1, h2⟩ := rsl_sd hx t b0 d0 hr
      obtain ⟨h3, h4⟩ := stp_sd h h1
      exact ⟨h3, Int.le_trans h4 h2⟩
theorem one_sd {n : Nat} {f x y : Nat → Int} {i : Nat} {d d' : Int} (hx : Sd n f x d) (h : one1 n f i (some (x, d)) = some (y, d')) : Sd n f y d' ∧ d' ≤ d := by
  cases hr : rsl n f x i d 2 with
  | none => rw [one_fail hr] at h; cases h
  | some p =>
    obtain ⟨b, d0⟩ := p
    rw [one_some hr] at h
    simp only [Option.some.injEq, Prod.mk.injEq] at h
    obtain ⟨rfl, rfl⟩ := h
    exact rsl_sd hx 2 b d0 hr
theorem sw_sd {n : Nat} {f x : Nat → Int} {d : Int} (hx : Sd n f x d) : ∀ (i : Nat) (y : Nat → Int) (d' : Int), sw n f (some (x, d)) i = some (y, d') → Sd n f y d' ∧ d' ≤ d
  | 0, y, d', h => by
    simp only [sw, Option.some.injEq, Prod.mk.injEq] at h
    obtain ⟨rfl, rfl⟩ := h
    exact ⟨hx, Int.le_refl _⟩
  | i + 1, y, d', h => by
    rw [sw] at h
    cases hr : sw n f (some (x, d)) i with
    | none => rw [hr] at h; cases h
    | some p =>
      obtain ⟨y0, d0⟩ := p
      rw [hr] at h
      obtain ⟨h1, h2⟩ := sw_sd hx i y0 d0 hr
      obtain ⟨h3, h4⟩ := one_sd h1 h
      exact ⟨h3, Int.le_trans h4 h2⟩
/-- After so many rounds: the list stands, and the round before stood and was no lower. -/
theorem rn_sd {n : Nat} {f x : Nat → Int} {inp : Nat} : ∀ (r : Nat) (y : Nat → Int) (d : Int), rn n f inp (st0 n f x) r = some (y, d) → okB n f x = true ∧ Sd n f y d ∧ d ≤ wv f x (n - 1)
  | 0, y, d, h => by
    simp only [rn, st0] at h
    split at h
    · next h1 =>
      simp only [Option.some.injEq, Prod.mk.injEq] at h
      obtain ⟨rfl, rfl⟩ := h
      exact ⟨h1, ⟨h1, rfl⟩, Int.le_refl _⟩
    · cases h
  | r + 1, y, d, h => by
    rw [rn] at h
    cases hr : rn n f inp (st0 n f x) r with
    | none => rw [hr, sw_none] at h; cases h
    | some p =>
      obtain ⟨y0, d0⟩ := p
      rw [hr] at h
      obtain ⟨h1, h2, h3⟩ := rn_sd r y0 d0 hr
      obtain ⟨h4, h5⟩ := sw_sd h2 inp y d h
      exact ⟨h1, h4, Int.le_trans h5 h3⟩
theorem rn_next {n : Nat} {f x : Nat → Int} {inp r : Nat} {y y' : Nat → Int} {d d' : Int} (h : rn n f inp (st0 n f x) r = some (y, d)) (h' : rn n f inp (st0 n f x) (r + 1) = some (y', d')) : d' ≤ d := by
  rw [rn, h] at h'
  exact (sw_sd (rn_sd r y d h).2.1 inp y' d' h').2
theorem wv_wrapA {f x : Nat → Int} {n k : Nat} (ok : wOk n f x) (hk : k < n) : IntKind.i64.wrap (wv f x k) = wv f x k := by
  obtain ⟨h1, h2⟩ := ok k hk
  rw [IntKind.wrap_i64]
  omega
end Go.Proofs.Ytloailicdoknbaa
