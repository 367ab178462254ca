/-
  A list of Atom that came in, opened. No walk.
-/
import Derived.Test.YtgjhbkpocbihbaaGreatRAtom
import Derived.ProofKit
import Derived.OpenShut
import Derived.Deep.SlicePairs
import Derived.Lib.SmallJoins
namespace Go.Proofs.YtgjhbkpocbihbaaGreat
open Go.ChangeShapes Go.WideShapes Go.ChangeAt Go.RowKit Go.Joins Go.Deep

theorem cellsAtom : Tryz.prog.cellsOf 83 = 4 := by kernel_rfl
theorem cellsNumAtom : Tryz.prog.cellsOf 2 = 1 := by kernel_rfl
set_option maxRecDepth 100000 in
theorem rec_ofAtom {H : Type} {enc : TypeId × Value → H} {w : World} {base : Nat} {sp : Nat → Bool} {held : Bool} {fuel : Nat} {cs : List Value} {x : DataW H × List MemPlace}
    (h : DataW.trod enc Tryz.prog w base sp held fuel 83 cs = some x) : ∃ f : Nat → Int, cs = [.int .i64 (f 0), .int .i64 (f 1), .int .i64 (f 2), .int .i64 (f 3)] ∧ ∀ j, -9223372036854775808 ≤ f j ∧ f j ≤ 9223372036854775807 := by
  obtain ⟨y0, y1, y2, y3, n, hx, hl, t0, t1, t2, t3⟩ := trod_struct4 Tryz.underlying83 h
  rw [cellsAtom] at hl
  match cs, hl with
  | [c0, c1, c2, c3], _ =>
    obtain ⟨k0, f0, -, g0⟩ := DataW.trod_int Tryz.underlying2 t0
    obtain ⟨k1, f1, -, g1⟩ := DataW.trod_int Tryz.underlying2 t1
    obtain ⟨k2, f2, -, g2⟩ := DataW.trod_int Tryz.underlying2 t2
    obtain ⟨k3, f3, -, g3⟩ := DataW.trod_int Tryz.underlying2 t3
    simp [cellsNumAtom] at f0 f1 f2 f3
    exact ⟨fun i => [k0, k1, k2, k3].getD i 0, by rw [f0, f1, f2, f3]; rfl, fun j => match j with | 0 => wf64 g0 | 1 => wf64 g1 | 2 => wf64 g2 | 3 => wf64 g3 | _ + 4 => (by decide : (-9223372036854775808 : Int) ≤ 0 ∧ (0 : Int) ≤ 9223372036854775807)⟩
set_option maxRecDepth 100000 in
theorem recs_ofAtom {H : Type} {enc : TypeId × Value → H} {w : World} {base : Nat} {sp : Nat → Bool} {held : Bool} {fuel : Nat} {a : Option Addr} {len cap : Nat} {x : DataW H × List MemPlace}
    (h : DataW.trod enc Tryz.prog w base sp held fuel 40 [.slice a len cap] = some x) : ∃ f : Nat → Int, Src w a (len * 4) f ∧ len ≤ maxLen ∧ ∀ i, i < len * 4 → -9223372036854775808 ≤ f i ∧ f i ≤ 9223372036854775807 := by
  rcases Go.Deep.open_slice Tryz.underlying40 h with ⟨hc, _⟩ | ⟨ad, l, c, m, n, D, Pl, hc, _, hl, hm, hmm, _, each⟩
  · cases hc
    exact ⟨fun _ => 0, .inl (by omega), Nat.zero_le _, fun _ _ => by simp⟩
  · cases hc
    have hlm : len ≤ m := by rw [hmm]; split <;> omega
    rw [cellsAtom] at each
    have ex : ∀ i, ∃ g : Nat → Int, (i < m → ∀ j, j < 4 → w.cell? ((ad.add (i * 4)).add j) = some (.int .i64 (g j))) ∧ ∀ j, -9223372036854775808 ≤ g j ∧ g j ≤ 9223372036854775807 := by
      intro i
      by_cases hi : i < m
      · obtain ⟨cs, h1, h2⟩ := each i hi
        obtain ⟨g, rfl, hg⟩ := rec_ofAtom h2
        obtain ⟨_, hlen, hcell⟩ := World.cells?_some h1
        refine ⟨g, fun _ j hj => ?_, hg⟩
        have := hcell j (by simpa using hj)
        rw [this]
        rcases (by omega : j = 0 ∨ j = 1 ∨ j = 2 ∨ j = 3) with rfl | rfl | rfl | rfl <;> rfl
      · exact ⟨fun _ => 0, fun h => absurd h hi, fun _ => by simp⟩
    refine ⟨fun i => Classical.choose (ex (i / 4)) (i % 4), ?_, Nat.le_trans hl hm, fun i _ => (Classical.choose_spec (ex (i / 4))).2 _⟩
    have ec := fun i => (Classical.choose_spec (ex i)).1
    by_cases h0 : len = 0
    · exact .inl (by omega)
    · obtain ⟨b, off, spot⟩ := ad
      have e0 := ec 0 (by omega) 0 (by decide)
      have hspot : spot = none := by
        have := World.cell?_spot e0
        simpa [Addr.add] using this
      subst hspot
      have ha : ∀ i j, ((⟨b, off, none⟩ : Addr).add i).add j = ⟨b, off + i + j, none⟩ := fun i j => by
        by_cases e : i = 0 <;> by_cases e2 : j = 0 <;> simp [Addr.add, e, e2]
      refine .inr ⟨b, off, rfl, ?_, fun i hi => ?_⟩
      · rw [ha] at e0
        exact lt_of_cell e0
      · have := ec (i / 4) (by omega) (i % 4) (by omega)
        rw [ha, show off + i / 4 * 4 + i % 4 = off + i by omega] at this
        exact this
end Go.Proofs.YtgjhbkpocbihbaaGreat
