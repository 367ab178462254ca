/-
  What was measured is not measured once more: the mathematics.
-/
import Derived.Test.YtnjnffemidaopaaL17zj
import Derived.Test.YtnjnffemidaopaaL17y
namespace Go.Proofs.Ytnjnffemidaopaa
open Go.RowKit

theorem plc_one {n p p' : Nat} {f f' : Nat → Int} {s : Int} (h : Plc n f s p) (h' : Plc n f' s p') (e : ∀ i, f' (i * 3) = f (i * 3)) : p' = p := by
  obtain ⟨h1, h2, h3⟩ := h
  obtain ⟨k1, k2, k3⟩ := h'
  rcases Nat.lt_trichotomy p p' with hl | hl | hl
  · have a1 := k2 p hl
    have a2 := h3 p (Nat.le_refl _) (by omega)
    rw [e] at a1
    omega
  · exact hl.symm
  · have a1 := h2 p' hl
    have a2 := k3 p' (Nat.le_refl _) (by omega)
    rw [e] at a2
    omega
/-- A measurement that was done: what it was, and what it left. -/
theorem once_was {n m p j : Nat} {f g : Nat → Int} {T s o a : Int} {ys yj : Bool} {x : Int × LS} (hx : ToldD n f m g T 6 s o a p ys j yj x) (h0 : x.1 = 0) : LbOk x.2.n x.2.f x.2.m x.2.g x.2.T ∧ dOk 6 s o a ∧ Plc n f s p ∧ f (p * 3 + 1) = 3 ∧ j < m ∧ (∀ i, i < j → ¬ isJ g s o i) ∧ isJ g s o j ∧ x.2 = ⟨n, upd f (p * 3 + 2) (f (p * 3 + 2) - g (j * 4 + 2)), m, upd g (j * 4 + 3) 2, T + g (j * 4 + 2)⟩ := by
  rcases hx with ⟨hl, hf, rfl⟩ | ⟨-, rfl⟩
  case inr => exact absurd h0 (by decide)
  by_cases hd : dOk 6 s o a
  case neg => rw [outc_bad hd] at h0; cases h0
  by_cases hc : codeR n f m g 6 p ys j yj = 0
  case neg => rw [outc_no hd rfl hc] at h0; exact absurd h0 hc
  have hok := outc_ok (K := 6) (a := a) hl hf (T := T)
  rw [outc_yes hd hc] at hok ⊢
  unfold codeR at hc
  rw [if_neg (by decide), if_neg (by decide), if_neg (by decide), if_neg (by decide), if_neg (by decide), if_pos rfl] at hc
  cases yj
  · simp at hc
  by_cases hp3 : f (p * 3 + 1) ≠ 3
  · simp [hp3] at hc
  obtain ⟨j1, j2, j3⟩ := hf.jy rfl
  refine ⟨hok, hd, hf.pl, by omega, j1, j2, j3, ?_⟩
  show nxt n f m g T 6 s o a p j = _
  unfold nxt
  rw [if_neg (by decide), if_neg (by decide), if_neg (by decide), if_neg (by decide), if_neg (by decide), if_pos rfl]
theorem isJ_upd {g : Nat → Int} {j i : Nat} {s o v : Int} : isJ (upd g (j * 4 + 3) v) s o i ↔ isJ g s o i := by
  unfold isJ
  rw [upd_ne (by omega), upd_ne (by omega)]
theorem once_six {n m p j p2 j2 : Nat} {f g : Nat → Int} {T s o a : Int} {ys yj ys2 yj2 : Bool} {x y : Int × LS} (hx : ToldD n f m g T 6 s o a p ys j yj x) (h0 : x.1 = 0) (hy : ToldD x.2.n x.2.f x.2.m x.2.g x.2.T 6 s o a p2 ys2 j2 yj2 y) : y.1 = 7 := by
  obtain ⟨hok, hd, hp, h3, j1, jn, jy, e⟩ := once_was hx h0
  rcases hy with ⟨-, hf, rfl⟩ | ⟨h, -⟩
  case inr => exact absurd hok h
  rw [e] at hf ⊢
  simp only at hf ⊢
  have ep : p2 = p := plc_one hp hf.pl (fun i => upd_ne (by omega))
  subst ep
  cases yj2
  · exact absurd (isJ_upd.2 jy) (hf.jn rfl j j1)
  obtain ⟨k1, k2, k3⟩ := hf.jy rfl
  have ej : j2 = j := by
    rcases Nat.lt_trichotomy j2 j with h | h | h
    · exact absurd (isJ_upd.1 k3) (jn j2 h)
    · exact h
    · exact absurd (isJ_upd.2 jy) (k2 j h)
  subst ej
  have hc : codeR n (upd f (p2 * 3 + 2) (f (p2 * 3 + 2) - g (j2 * 4 + 2))) m (upd g (j2 * 4 + 3) 2) 6 p2 ys2 j2 true = 7 := by
    unfold codeR
    rw [if_neg (by decide), if_neg (by decide), if_neg (by decide), if_neg (by decide), if_neg (by decide), if_pos rfl, if_neg (by decide), if_neg (by rw [upd_ne (by omega)]; omega), if_pos (by rw [upd_eq]; decide)]
  rw [outc_no hd hc (by decide)]
theorem once_ask {n m p j p2 j2 : Nat} {f g : Nat → Int} {T s o a : Int} {ys yj ys2 yj2 : Bool} {x y : Int × LS} (hx : ToldD n f m g T 6 s o a p ys j yj x) (h0 : x.1 = 0) (hy : ToldD x.2.n x.2.f x.2.m x.2.g x.2.T 2 s o 1 p2 ys2 j2 yj2 y) : y.1 = 4 ∨ y.1 = 3 := by
  obtain ⟨hok, hd, hp, h3, j1, jn, jy, e⟩ := once_was hx h0
  rcases hy with ⟨-, hf, rfl⟩ | ⟨h, -⟩
  case inr => exact absurd hok h
  rw [e] at hf ⊢
  simp only at hf ⊢
  have hd2 : dOk 2 s o 1 := ⟨by omega, hd.2.1, fun h => by omega, fun _ => ⟨hd.2.2.2.2 (.inl rfl), by omega⟩, fun h => by omega⟩
  cases yj2
  · exact absurd (isJ_upd.2 jy) (hf.jn rfl j j1)
  by_cases hm : m = 300
  · right
    have hc : codeR n (upd f (p * 3 + 2) (f (p * 3 + 2) - g (j * 4 + 2))) m (upd g (j * 4 + 3) 2) 2 p2 ys2 j2 true = 3 := by
      unfold codeR
      rw [if_neg (by decide), if_pos rfl, if_pos hm]
    rw [outc_no hd2 hc (by decide)]
  · left
    have hc : codeR n (upd f (p * 3 + 2) (f (p * 3 + 2) - g (j * 4 + 2))) m (upd g (j * 4 + 3) 2) 2 p2 ys2 j2 true = 4 := by
      unfold codeR
      rw [if_neg (by decide), if_pos rfl, if_neg hm, if_pos rfl]
    rw [outc_no hd2 hc (by decide)]
end Go.Proofs.Ytnjnffemidaopaa
