/-
  A list of frames that came in, opened. No walk.
-/
import Derived.Test.YtlofbgkefalpoaaUa
import Derived.ProofKit
import Derived.OpenShut
import Derived.Deep.SlicePairs
import Derived.Lib.SmallJoins
namespace Go.Proofs.Ytlofbgkefalpoaa
open Go.ChangeShapes Go.WideShapes Go.ChangeAt Go.RowKit Go.Joins Go.Deep

theorem cellsFrame : Try.prog.cellsOf 34 = 3 := by kernel_rfl
theorem cellsOne : Try.prog.cellsOf 2 = 1 := by kernel_rfl
theorem cellsSl : Try.prog.cellsOf 26 = 1 := by kernel_rfl
/-- What a frame that came in is. -/
def FrC (w : World) (cs : List Value) : Prop := ∃ W H a len cap f, cs = [.int .i64 W, .int .i64 H, .slice a len cap] ∧ Src w a len f ∧ len ≤ maxLen
set_option maxRecDepth 100000 in
theorem frame_of {T : Type} {enc : TypeId × Value → T} {w : World} {base : Nat} {held : Bool} {fuel : Nat} {cs : List Value} {x : DataW T × List MemPlace}
    (h : DataW.trod enc Try.prog w base (fun _ => true) held fuel 34 cs = some x) : FrC w cs := by
  obtain ⟨y0, y1, y2, n, hx, hl, t0, t1, t2⟩ := trod_struct3 Try.underlying34 h
  rw [cellsFrame] at hl
  match cs, hl with
  | [c0, c1, c2], _ =>
    obtain ⟨k0, f0, g0, -⟩ := DataW.trod_int Try.underlying2 t0
    obtain ⟨k1, f1, g1, -⟩ := DataW.trod_int Try.underlying2 t1
    simp [cellsOne] at f0 f1
    rcases open_ints Try.underlying26 Try.underlying2 (by kernel_rfl) t2 with ⟨hcs, _⟩ | ⟨x, l, c, zs, hcs, _, hl, hm, hz, _, hcell, hwz⟩
    · simp [cellsSl] at hcs
      exact ⟨k0, k1, none, 0, 0, fun _ => 0, by rw [f0, f1, hcs], .inl rfl, Nat.zero_le _⟩
    · simp [cellsSl] at hcs
      obtain ⟨f, hf, hl, -⟩ := src_of (w := w) (a := some x) (len := l) (cap := c) (zs := zs) (.inr ⟨_, rfl, hl, hm, by simpa using hz, hcell, hwz⟩)
      exact ⟨k0, k1, some x, l, c, f, by rw [f0, f1, hcs], hf, hl⟩
set_option maxRecDepth 100000 in
theorem frames_of {T : Type} {enc : TypeId × Value → T} {w : World} {base : Nat} {held : Bool} {fuel : Nat} {p : Option Addr} {len cap : Nat} {x : DataW T × List MemPlace}
    (h : DataW.trod enc Try.prog w base (fun _ => true) held fuel 40 [.slice p len cap] = some x) : ∃ a c W H n f, FrS w p len a c W H n f ∧ len ≤ maxLen ∧ ∀ i, i < len → n i ≤ maxLen := by
  rcases Go.Deep.open_slice Try.underlying40 h with ⟨hc, _⟩ | ⟨ad, l, c, m, n, D, Pl, hc, _, hl, hm, hmm, _, each⟩
  · cases hc
    exact ⟨fun _ => none, fun _ => 0, fun _ => 0, fun _ => 0, fun _ => 0, fun _ _ => 0, .inl rfl, Nat.zero_le _, fun i hi => absurd hi (Nat.not_lt_zero _)⟩
  · cases hc
    have hlm : len ≤ m := by rw [hmm]; split <;> omega
    rw [cellsFrame] at each
    have ex : ∀ i, ∃ r : Int × Int × Option Addr × Nat × Nat × (Nat → Int), i < m → (w.cell? ((ad.add (i * 3)).add 0) = some (.int .i64 r.1) ∧ w.cell? ((ad.add (i * 3)).add 1) = some (.int .i64 r.2.1) ∧ w.cell? ((ad.add (i * 3)).add 2) = some (.slice r.2.2.1 r.2.2.2.1 r.2.2.2.2.1)) ∧ Src w r.2.2.1 r.2.2.2.1 r.2.2.2.2.2 ∧ r.2.2.2.1 ≤ maxLen := by
      intro i
      by_cases hi : i < m
      · obtain ⟨cs, h1, h2⟩ := each i hi
        obtain ⟨W, H, a, n, c, f, rfl, hs, hn⟩ := frame_of h2
        obtain ⟨_, hlen, hcell⟩ := World.cells?_some h1
        refine ⟨(W, H, a, n, c, f), fun _ => ⟨⟨?_, ?_, ?_⟩, hs, hn⟩⟩
        · exact hcell 0 (by simp)
        · exact hcell 1 (by simp)
        · exact hcell 2 (by simp)
      · exact ⟨(0, 0, none, 0, 0, fun _ => 0), fun h => absurd h hi⟩
    obtain ⟨r, ec⟩ : ∃ r : Nat → Int × Int × Option Addr × Nat × Nat × (Nat → Int), ∀ i, i < m → (w.cell? ((ad.add (i * 3)).add 0) = some (.int .i64 (r i).1) ∧ w.cell? ((ad.add (i * 3)).add 1) = some (.int .i64 (r i).2.1) ∧ w.cell? ((ad.add (i * 3)).add 2) = some (.slice (r i).2.2.1 (r i).2.2.2.1 (r i).2.2.2.2.1)) ∧ Src w (r i).2.2.1 (r i).2.2.2.1 (r i).2.2.2.2.2 ∧ (r i).2.2.2.1 ≤ maxLen := ⟨fun i => Classical.choose (ex i), fun i => Classical.choose_spec (ex i)⟩
    refine ⟨fun i => (r i).2.2.1, fun i => (r i).2.2.2.2.1, fun i => (r i).1, fun i => (r i).2.1, fun i => (r i).2.2.2.1, fun i => (r i).2.2.2.2.2, ?_, Nat.le_trans hl hm, fun i hi => (ec i (by omega)).2.2⟩
    by_cases h0 : len = 0
    · exact .inl h0
    · obtain ⟨b, off, spot⟩ := ad
      have e0 := (ec 0 (by omega)).1.1
      have hspot : spot = none := by
        have := World.cell?_spot e0
        simpa [Addr.add] using this
      subst hspot
      have ha : ∀ i j, ((⟨b, off, none⟩ : Addr).add i).add j = ⟨b, off + i + j, none⟩ := fun i j => by
        by_cases e : i = 0 <;> by_cases e2 : j = 0 <;> simp [Addr.add, e, e2]
      simp only [ha] at ec e0
      exact .inr ⟨b, off, rfl, lt_of_cell e0, fun i hi => by simpa using (ec i (by omega)).1.1, fun i hi => (ec i (by omega)).1.2.1, fun i hi => (ec i (by omega)).1.2.2, fun i hi => (ec i (by omega)).2.1⟩
end Go.Proofs.Ytlofbgkefalpoaa
