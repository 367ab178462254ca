/-
  A lab told with a code, in a box of its own. No walk.
-/
import Derived.Test.YtnjnffemidaopaaL17r
namespace Go.Proofs.Ytnjnffemidaopaa
open Go.RowKit

theorem outc_le {n m p j : Nat} {f g : Nat → Int} {T K s o a : Int} {ys yj : Bool} (hn : n ≤ 100) (hm : m ≤ 300) : (outc n f m g T K s o a p ys j yj).2.n ≤ 101 ∧ (outc n f m g T K s o a p ys j yj).2.m ≤ 301 := by
  unfold outc
  split
  · split
    · unfold nxt
      repeat' split
      all_goals exact ⟨by simp; omega, by simp; omega⟩
    · exact ⟨by simp; omega, by simp; omega⟩
  · exact ⟨by simp; omega, by simp; omega⟩
theorem ToldD.le {n m p j : Nat} {f g : Nat → Int} {T K s o a : Int} {ys yj : Bool} {x : Int × LS} (h : ToldD n f m g T K s o a p ys j yj x) : x.2.n ≤ 101 ∧ x.2.m ≤ 301 := by
  rcases h with ⟨h1, -, rfl⟩ | ⟨-, rfl⟩
  · exact outc_le h1.1.1 h1.2.1.1
  · exact ⟨by simp [noL], by simp [noL]⟩
theorem ark_ls {K : Nat} {t : TypeId} {w : World} {lo hi : Nat} {a : Option Addr} {n c : Nat} {f : Nat → Int} (h : ArK K t w lo hi (.slice a n c) n f) : Ls K w a n f := by
  obtain ⟨a', c', e, -, L⟩ := h.ls
  simp only [Value.slice.injEq, true_and] at e
  obtain ⟨rfl, rfl⟩ := e
  exact L
/-- A lab told, in a box of its own, and its code. -/
def CutL (x : Int × LS) (wv : World) (s6 s7 : Value) (wc : World) : Prop := ∃ g6 sS cS sJ cJ, s6 = .pointer (some ⟨g6, 0, none⟩) ∧ s7 = .int .i64 x.1 ∧ At 27 wc g6 #[.slice sS x.2.n cS, .slice sJ x.2.m cJ, .int .i64 x.2.T] ∧ ArK 3 37 wc wv.heap.size wc.heap.size (.slice sS x.2.n cS) x.2.n x.2.f ∧ ArK 4 39 wc wv.heap.size wc.heap.size (.slice sJ x.2.m cJ) x.2.m x.2.g ∧ Below wv.heap.size wv wc
theorem ark_c {K : Nat} {t : TypeId} {w : World} {lo hi : Nat} {a : Option Addr} {n c : Nat} {f : Nat → Int} (h : ArK K t w lo hi (.slice a n c) n f) : a = none → n = 0 ∧ c = 0 := by
  rintro rfl
  rcases h with ⟨e, h⟩ | ⟨g, d, e, -⟩
  · simp only [Value.slice.injEq, true_and] at e
    exact ⟨h, e.2⟩
  · cases e
end Go.Proofs.Ytnjnffemidaopaa
