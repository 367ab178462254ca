/-
  A list of lists of numbers that came in, opened. No walk.
-/
import Derived.Test.YtcpeaenophaphaaAa
import Derived.ProofKit
import Derived.OpenShut
import Derived.Deep.SlicePairs
import Derived.Lib.SmallJoins
namespace Go.Proofs.Ytcpeaenophaphaa
open Go.ChangeShapes Go.WideShapes Go.ChangeAt Go.RowKit Go.Joins Go.Deep

theorem cellsOne : Try.prog.cellsOf 2 = 1 := by kernel_rfl
theorem cellsSl : Try.prog.cellsOf 25 = 1 := by kernel_rfl
/-- What a list of numbers that came in is. -/
def LnC (w : World) (cs : List Value) : Prop := ∃ a len cap f, cs = [.slice a len cap] ∧ Src w a len f ∧ len ≤ maxLen ∧ ∀ i, i < len → -9223372036854775808 ≤ f i ∧ f i ≤ 9223372036854775807
set_option maxRecDepth 100000 in
theorem line_of {T : Type} {enc : TypeId × Value → T} {w : World} {base : Nat} {held : Bool} {fuel : Nat} {cs : List Value} {x : DataW T × List MemPlace} (hc1 : cs.length = 1)
    (h : DataW.trod enc Try.prog w base (fun _ => true) held fuel 25 cs = some x) : LnC w cs := by
  match cs, hc1 with
  | [c0], _ =>
    rcases open_ints Try.underlying25 Try.underlying2 (by kernel_rfl) h with ⟨hcs, _⟩ | ⟨x, l, c, zs, hcs, _, hl, hm, hz, _, hcell, hwz⟩
    · exact ⟨none, 0, 0, fun _ => 0, hcs, .inl rfl, Nat.zero_le _, fun i hi => absurd hi (Nat.not_lt_zero _)⟩
    · obtain ⟨f, hf, hl, hw⟩ := src_of (w := w) (a := some x) (len := l) (cap := c) (zs := zs) (.inr ⟨_, rfl, hl, hm, by simpa using hz, hcell, hwz⟩)
      exact ⟨some x, l, c, f, hcs, hf, hl, hw⟩
set_option maxRecDepth 100000 in
theorem lists_of {T : Type} {enc : TypeId × Value → T} {w : World} {base : Nat} {held : Bool} {fuel : Nat} {p : Option Addr} {len cap : Nat} {x : DataW T × List MemPlace}
    (h : DataW.trod enc Try.prog w base (fun _ => true) held fuel 24 [.slice p len cap] = some x) : ∃ a c n f, LlS w p len a c n f ∧ len ≤ maxLen ∧ (∀ i, i < len → n i ≤ maxLen) ∧ ∀ i, i < len → ∀ j, j < n i → -9223372036854775808 ≤ f i j ∧ f i j ≤ 9223372036854775807 := by
  rcases Go.Deep.open_slice Try.underlying24 h with ⟨hc, _⟩ | ⟨ad, l, c, m, n, D, Pl, hc, _, hl, hm, hmm, _, each⟩
  · cases hc
    exact ⟨fun _ => none, fun _ => 0, fun _ => 0, fun _ _ => 0, .inl rfl, Nat.zero_le _, fun i hi => absurd hi (Nat.not_lt_zero _), fun i hi => absurd hi (Nat.not_lt_zero _)⟩
  · cases hc
    have hlm : len ≤ m := by rw [hmm]; split <;> omega
    rw [cellsSl] at each
    have ex : ∀ i, ∃ r : Option Addr × Nat × Nat × (Nat → Int), i < m → (w.cell? ((ad.add (i * 1)).add 0) = some (.slice r.1 r.2.1 r.2.2.1)) ∧ Src w r.1 r.2.1 r.2.2.2 ∧ r.2.1 ≤ maxLen ∧ ∀ j, j < r.2.1 → -9223372036854775808 ≤ r.2.2.2 j ∧ r.2.2.2 j ≤ 9223372036854775807 := by
      intro i
      by_cases hi : i < m
      · obtain ⟨cs, h1, h2⟩ := each i hi
        obtain ⟨_, hlen, hcell⟩ := World.cells?_some h1
        obtain ⟨a, n, c, f, rfl, hs, hn, hw⟩ := line_of hlen h2
        exact ⟨(a, n, c, f), fun _ => ⟨hcell 0 (by simp), hs, hn, hw⟩⟩
      · exact ⟨(none, 0, 0, fun _ => 0), fun h => absurd h hi⟩
    obtain ⟨r, ec⟩ : ∃ r : Nat → Option Addr × Nat × Nat × (Nat → Int), ∀ i, i < m → (w.cell? ((ad.add (i * 1)).add 0) = some (.slice (r i).1 (r i).2.1 (r i).2.2.1)) ∧ Src w (r i).1 (r i).2.1 (r i).2.2.2 ∧ (r i).2.1 ≤ maxLen ∧ ∀ j, j < (r i).2.1 → -9223372036854775808 ≤ (r i).2.2.2 j ∧ (r i).2.2.2 j ≤ 9223372036854775807 := ⟨fun i => Classical.choose (ex i), fun i => Classical.choose_spec (ex i)⟩
    refine ⟨fun i => (r i).1, fun i => (r i).2.2.1, fun i => (r i).2.1, fun i => (r i).2.2.2, ?_, Nat.le_trans hl hm, fun i hi => (ec i (by omega)).2.2.1, fun i hi => (ec i (by omega)).2.2.2⟩
    by_cases h0 : len = 0
    · exact .inl h0
    · obtain ⟨b, off, spot⟩ := ad
      have e0 := (ec 0 (by omega)).1
      have hspot : spot = none := by
        have := World.cell?_spot e0
        simpa [Addr.add] using this
      subst hspot
      have ha : ∀ i, ((⟨b, off, none⟩ : Addr).add (i * 1)).add 0 = ⟨b, off + i, none⟩ := fun i => by
        by_cases e : i = 0 <;> simp [Addr.add, e]
      simp only [ha] at ec e0
      exact .inr ⟨b, off, rfl, lt_of_cell e0, fun i hi => (ec i (by omega)).1, fun i hi => (ec i (by omega)).2.1⟩
end Go.Proofs.Ytcpeaenophaphaa
