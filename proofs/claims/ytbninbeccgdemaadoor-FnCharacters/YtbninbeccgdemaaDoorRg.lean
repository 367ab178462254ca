/-
  Rows of rows of cyclotomic numbers: compared, marked, held. Walked.
-/
import Derived.Test.YtbninbeccgdemaaDoorRf
namespace Go.Proofs.YtbninbeccgdemaaDoor
open Go.RowKit

/-- n rows of n numbers, of their own memory from lo up to hi. -/
def Grid (w : World) (lo hi : Nat) (v : Value) (n : Nat) (F : Nat → Nat → Int) : Prop :=
  ∃ (go c : Nat) (G C : Nat → Nat) (cur : Array Value), v = .slice (some ⟨go, 0, none⟩) n c ∧ (lo ≤ go ∧ go < hi) ∧ At 34 w go cur ∧ (∀ k, k < n → cur[k]? = some (.slice (some ⟨G k, 0, none⟩) n (C k))) ∧
    (∀ k, k < n → lo ≤ G k ∧ G k < hi ∧ G k ≠ go ∧ n ≤ C k ∧ Laid4 w (G k) (C k) n (F k)) ∧ ∀ i k, i < n → k < n → i ≠ k → G i ≠ G k
theorem Grid.below {w w' : World} {lo hi : Nat} {v : Value} {n : Nat} {F : Nat → Nat → Int} (h : Grid w lo hi v n F) (hb : Below w.heap.size w w') : Grid w' lo hi v n F := by
  obtain ⟨go, c, G, C, cur, e, h1, h2, h3, h4, h5⟩ := h
  exact ⟨go, c, G, C, cur, e, h1, h2.below hb, h3, fun k hk => ⟨(h4 k hk).1, (h4 k hk).2.1, (h4 k hk).2.2.1, (h4 k hk).2.2.2.1, (h4 k hk).2.2.2.2.below hb⟩, h5⟩
theorem Grid.turn {w w' : World} {lo hi a b : Nat} {v : Value} {n : Nat} {F : Nat → Nat → Int} (h : Grid w a b v n F) (t : Turn lo hi w w') (hd : b ≤ lo ∨ hi ≤ a) : Grid w' a b v n F := by
  obtain ⟨go, c, G, C, cur, e, h1, h2, h3, h4, h5⟩ := h
  refine ⟨go, c, G, C, cur, e, h1, h2.turn t (by omega), h3, fun k hk => ?_, h5⟩
  obtain ⟨p1, p2, p3, p4, p5⟩ := h4 k hk
  exact ⟨p1, p2, p3, p4, p5.turn t (by omega)⟩
theorem Grid.shape {w : World} {lo hi : Nat} {v : Value} {n : Nat} {F : Nat → Nat → Int} (h : Grid w lo hi v n F) : ∃ a c, v = .slice a n c := by
  obtain ⟨go, c, G, C, cur, e, -⟩ := h
  exact ⟨_, c, e⟩
/-- The rows k of two such lists. -/
def Sc (o1 o2 k : Nat) (v1 v2 : Value) (w : World) : Prop := w.cell? ⟨o1, k, none⟩ = some v1 ∧ w.cell? ⟨o2, k, none⟩ = some v2
theorem sc_of {s t : TypeId} {w : World} {o1 o2 k : Nat} {v1 v2 : Value} {a1 a2 : Array Value} (h1 : At s w o1 a1) (h2 : At t w o2 a2) (e1 : a1[k]? = some v1) (e2 : a2[k]? = some v2) : Sc o1 o2 k v1 v2 w := ⟨h1.cell k e1, h2.cell k e2⟩
/-- The marks. -/
def mk4 (n k i : Nat) : Int := ((1 + 4 * n * k + i : Nat) : Int)
end Go.Proofs.YtbninbeccgdemaaDoor
