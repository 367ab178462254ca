/-
  A list of items that came in, opened. No walk.
-/
import Derived.Test.YtdhfoekfejcceaaD16b
import Derived.ProofKit
import Derived.OpenShut
import Derived.SliceStrings
import Derived.Deep.SlicePairs
import Derived.Lib.SmallJoins
namespace Go.Proofs.Ytdhfoekfejcceaa
open Go.ChangeShapes Go.WideShapes Go.ChangeAt Go.RowKit Go.Joins Go.Deep

theorem cellsItem : Try.prog.cellsOf 63 = 3 := by kernel_rfl
theorem cellsOne : Try.prog.cellsOf 2 = 1 := by kernel_rfl
theorem cellsStr : Try.prog.cellsOf 9 = 1 := by kernel_rfl
theorem cellsSl : Try.prog.cellsOf 35 = 1 := by kernel_rfl
theorem strs_of {w : World} {a : Addr} {len cap : Nat} {ss : List ByteArray} (hl : len ≤ cap) (hz : ss.length = cap) (hc : ∀ i, i < ss.length → w.cell? (a.add i) = some (.string (ss.getD i ByteArray.empty))) (hs : ∀ s ∈ ss, s.size ≤ maxLen) : StS w (some a) len (fun i => ss.getD i ByteArray.empty) ∧ szAll len (fun i => ss.getD i ByteArray.empty) := by
  refine ⟨?_, fun i hi => hs _ (by simp [List.getD_eq_getElem?_getD, show i < ss.length by omega])⟩
  by_cases h0 : len = 0
  · exact .inl h0
  · obtain ⟨b, off, spot⟩ := a
    have e0 := hc 0 (by omega)
    have hspot : spot = none := by
      have := World.cell?_spot e0
      simpa [Addr.add] using this
    subst hspot
    have ha : ∀ i, ((⟨b, off, none⟩ : Addr).add i) = ⟨b, off + i, none⟩ := fun i => by
      by_cases e : i = 0 <;> simp [Addr.add, e]
    simp only [ha] at hc
    exact .inr ⟨b, off, rfl, lt_of_cell (hc 0 (by omega)), fun i hi => hc i (by omega)⟩
/-- What an item that came in is. -/
def ItC (w : World) (cs : List Value) : Prop := ∃ s a len cap f r, cs = [.string s, .slice a len cap, .int .i64 r] ∧ s.size ≤ maxLen ∧ StS w a len f ∧ szAll len f ∧ len ≤ maxLen
set_option maxRecDepth 100000 in
theorem item_of {T : Type} {enc : TypeId × Value → T} {w : World} {base : Nat} {held : Bool} {fuel : Nat} {cs : List Value} {x : DataW T × List MemPlace}
    (h : DataW.trod enc Try.prog w base (fun _ => true) held fuel 63 cs = some x) : ItC w cs := by
  obtain ⟨y0, y1, y2, n, hx, hl, t0, t1, t2⟩ := trod_struct3 Try.underlying63 h
  rw [cellsItem] at hl
  match cs, hl with
  | [c0, c1, c2], _ =>
    obtain ⟨s, f0, -, hs⟩ := DataW.trod_string Try.underlying9 t0
    obtain ⟨k1, f1, g1, -⟩ := DataW.trod_int Try.underlying2 t2
    simp [cellsOne, cellsStr] at f0 f1
    rcases open_strings Try.underlying35 Try.underlying9 (by kernel_rfl) t1 with ⟨hcs, _⟩ | ⟨x, l, c, zs, hcs, _, hl, hm, hz, _, hcell, hwz⟩
    · simp [cellsSl] at hcs
      exact ⟨s, none, 0, 0, fun _ => ByteArray.empty, k1, by rw [f0, f1, hcs], hs, .inl rfl, fun i hi => absurd hi (Nat.not_lt_zero _), Nat.zero_le _⟩
    · simp [cellsSl] at hcs
      obtain ⟨h1, h2⟩ := strs_of hl (by simpa using hz) hcell hwz
      exact ⟨s, some x, l, c, _, k1, by rw [f0, f1, hcs], hs, h1, h2, Nat.le_trans hl hm⟩
abbrev ItR := ByteArray × Option Addr × Nat × Nat × (Nat → ByteArray) × Int
set_option maxRecDepth 100000 in
theorem items_of {T : Type} {enc : TypeId × Value → T} {w : World} {base : Nat} {held : Bool} {fuel : Nat} {p : Option Addr} {len cap : Nat} {x : DataW T × List MemPlace}
    (h : DataW.trod enc Try.prog w base (fun _ => true) held fuel 22 [.slice p len cap] = some x) : ∃ nm a n c r f, ItS w p len nm a n c r f ∧ len ≤ maxLen ∧ (∀ i, i < len → n i ≤ maxLen) ∧ szAll len nm ∧ ∀ i, i < len → szAll (n i) (f i) := by
  rcases Go.Deep.open_slice Try.underlying22 h with ⟨hc, _⟩ | ⟨ad, l, c, m, n, D, Pl, hc, _, hl, hm, hmm, _, each⟩
  · cases hc
    exact ⟨fun _ => ByteArray.empty, fun _ => none, fun _ => 0, fun _ => 0, fun _ => 0, fun _ _ => ByteArray.empty, .inl rfl, Nat.zero_le _, fun i hi => absurd hi (Nat.not_lt_zero _), fun i hi => absurd hi (Nat.not_lt_zero _), fun i hi => absurd hi (Nat.not_lt_zero _)⟩
  · cases hc
    have hlm : len ≤ m := by rw [hmm]; split <;> omega
    rw [cellsItem] at each
    have ex : ∀ i, ∃ r : ItR, i < m → (w.cell? ((ad.add (i * 3)).add 0) = some (.string r.1) ∧ w.cell? ((ad.add (i * 3)).add 1) = some (.slice r.2.1 r.2.2.1 r.2.2.2.1) ∧ w.cell? ((ad.add (i * 3)).add 2) = some (.int .i64 r.2.2.2.2.2)) ∧ r.1.size ≤ maxLen ∧ StS w r.2.1 r.2.2.1 r.2.2.2.2.1 ∧ szAll r.2.2.1 r.2.2.2.2.1 ∧ r.2.2.1 ≤ maxLen := by
      intro i
      by_cases hi : i < m
      · obtain ⟨cs, h1, h2⟩ := each i hi
        obtain ⟨s, a, n, c, f, k, rfl, hs, hst, hsz, hn⟩ := item_of h2
        obtain ⟨_, hlen, hcell⟩ := World.cells?_some h1
        refine ⟨(s, a, n, c, f, k), fun _ => ⟨⟨?_, ?_, ?_⟩, hs, hst, hsz, hn⟩⟩
        · exact hcell 0 (by simp)
        · exact hcell 1 (by simp)
        · exact hcell 2 (by simp)
      · exact ⟨(ByteArray.empty, none, 0, 0, fun _ => ByteArray.empty, 0), fun h => absurd h hi⟩
    obtain ⟨r, ec⟩ : ∃ r : Nat → ItR, ∀ i, i < m → (w.cell? ((ad.add (i * 3)).add 0) = some (.string (r i).1) ∧ w.cell? ((ad.add (i * 3)).add 1) = some (.slice (r i).2.1 (r i).2.2.1 (r i).2.2.2.1) ∧ w.cell? ((ad.add (i * 3)).add 2) = some (.int .i64 (r i).2.2.2.2.2)) ∧ (r i).1.size ≤ maxLen ∧ StS w (r i).2.1 (r i).2.2.1 (r i).2.2.2.2.1 ∧ szAll (r i).2.2.1 (r i).2.2.2.2.1 ∧ (r i).2.2.1 ≤ maxLen := ⟨fun i => Classical.choose (ex i), fun i => Classical.choose_spec (ex i)⟩
    refine ⟨fun i => (r i).1, fun i => (r i).2.1, fun i => (r i).2.2.1, fun i => (r i).2.2.2.1, fun i => (r i).2.2.2.2.2, fun i => (r i).2.2.2.2.1, ?_, Nat.le_trans hl hm, fun i hi => (ec i (by omega)).2.2.2.2, fun i hi => (ec i (by omega)).2.1, fun i hi => (ec i (by omega)).2.2.2.1⟩
    by_cases h0 : len = 0
    · exact .inl h0
    · obtain ⟨b, off, spot⟩ := ad
      have e0 := (ec 0 (by omega)).1.1
      have hspot : spot = none := by
        have := World.cell?_spot e0
        simpa [Addr.add] using this
      subst hspot
      have ha : ∀ i j, ((⟨b, off, none⟩ : Addr).add i).add j = ⟨b, off + i + j, none⟩ := fun i j => by
        by_cases e : i = 0 <;> by_cases e2 : j = 0 <;> simp [Addr.add, e, e2]
      simp only [ha] at ec e0
      exact .inr ⟨b, off, rfl, lt_of_cell e0, fun i hi => by simpa using (ec i (by omega)).1.1, fun i hi => (ec i (by omega)).1.2.1, fun i hi => (ec i (by omega)).1.2.2, fun i hi => (ec i (by omega)).2.2.1⟩
end Go.Proofs.Ytdhfoekfejcceaa
