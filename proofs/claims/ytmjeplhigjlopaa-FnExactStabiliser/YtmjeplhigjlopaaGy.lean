/-
  The exact law of GroupOk, walked.
-/
import Derived.Test.YtmjeplhigjlopaaGx
import Derived.Test.YtmjeplhigjlopaaGf
namespace Go.Proofs.Ytmjeplhigjlopaa
open Go.RowKit

/-- A list that came in, opened. -/
theorem opsS_of {w : World} {x : Addr} {n : Nat} {V0 V1 : Nat → Value} (hc : ∀ i, i < n → w.cell? (x.add (i * 2)) = some (V0 i) ∧ w.cell? (x.add (i * 2 + 1)) = some (V1 i))
    (h0 : ∀ i, i < n → ∃ a len cap zs, V0 i = .slice a len cap ∧ IsRow .i64 w a len cap zs) (h1 : ∀ i, i < n → ∃ a len cap zs, V1 i = .slice a len cap ∧ IsRow .i64 w a len cap zs) : ∃ A, OpsS w (some x) n A := by
  have hch : ∀ i, ∃ D : OpD, i < n → ∃ a c b d, V0 i = .slice a D.n c ∧ V1 i = .slice b D.k d ∧ Src w a D.n D.f ∧ Src w b D.k D.h ∧ D.n ≤ maxLen ∧ D.k ≤ maxLen := by
    intro i
    by_cases hi : i < n
    · obtain ⟨a, l, c, zs, e, hr⟩ := h0 i hi
      obtain ⟨a', l', c', zs', e', hr'⟩ := h1 i hi
      obtain ⟨f, hf, hl, -⟩ := src_of hr
      obtain ⟨f', hf', hl', -⟩ := src_of hr'
      exact ⟨⟨l, f, l', f'⟩, fun _ => ⟨a, c, a', c', e, e', hf, hf', hl, hl'⟩⟩
    · exact ⟨⟨0, fun _ => 0, 0, fun _ => 0⟩, fun h => absurd h hi⟩
  refine ⟨fun i => (hch i).choose, ?_⟩
  by_cases hz : n = 0
  · exact .inl hz
  right
  obtain ⟨b, off, spot⟩ := x
  have hc0 := (hc 0 (by omega)).1
  have hspot : spot = none := by simpa [Addr.add] using World.cell?_spot hc0
  subst hspot
  refine ⟨b, off, rfl, ?_, fun i hi => ?_⟩
  · refine Nat.lt_of_not_le fun hb => ?_
    have : w.heap[b]? = none := Array.getElem?_eq_none hb
    simp [Addr.add, World.cell?, this] at hc0
  · obtain ⟨a, c, b', d, e, e', r⟩ := (hch i).choose_spec hi
    obtain ⟨c0, c1⟩ := hc i hi
    rw [Addr.add_lit, e] at c0
    rw [Addr.add_lit, e', ← Nat.add_assoc] at c1
    exact ⟨a, c, b', d, c0, c1, r⟩
end Go.Proofs.Ytmjeplhigjlopaa
