/-
  A list of structs of four numbers that came in, opened. No walk.
-/
import Derived.Test.YtohboecnhneolaaEa
import Derived.ProofKit
import Derived.OpenShut
import Derived.Deep.SlicePairs
import Derived.Lib.SmallJoins
namespace Go.Proofs.Ytohboecnhneolaa
open Go.ChangeShapes Go.WideShapes Go.ChangeAt Go.RowKit Go.Joins

theorem cellsAtom : Try.prog.cellsOf 33 = 4 := by kernel_rfl
theorem cellsNum : Try.prog.cellsOf 2 = 1 := by kernel_rfl
set_option maxRecDepth 100000 in
theorem four_any {H : Type} {enc : TypeId × Value → H} {w : World} {base : Nat} {sp : Nat → Bool} {held : Bool} {fuel : Nat} {cs : List Value} {x : DataW H × List MemPlace}
    (h : DataW.trod enc Try.prog w base sp held fuel 33 cs = some x) : ∃ f : Nat → Int, cs = [.int .i64 (f 0), .int .i64 (f 1), .int .i64 (f 2), .int .i64 (f 3)] := by
  obtain ⟨y0, y1, y2, y3, n, hx, hl, t0, t1, t2, t3⟩ := trod_struct4 Try.underlying33 h
  rw [cellsAtom] at hl
  match cs, hl with
  | [c0, c1, c2, c3], _ =>
    obtain ⟨k0, f0, g0, -⟩ := DataW.trod_int Try.underlying2 t0
    obtain ⟨k1, f1, g1, -⟩ := DataW.trod_int Try.underlying2 t1
    obtain ⟨k2, f2, g2, -⟩ := DataW.trod_int Try.underlying2 t2
    obtain ⟨k3, f3, g3, -⟩ := DataW.trod_int Try.underlying2 t3
    simp [cellsNum] at f0 f1 f2 f3
    exact ⟨fun i => match i with | 0 => k0 | 1 => k1 | 2 => k2 | _ => k3, by rw [f0, f1, f2, f3]; rfl⟩
set_option maxRecDepth 100000 in
theorem quads_of {H : Type} {enc : TypeId × Value → H} {w : World} {base : Nat} {sp : Nat → Bool} {held : Bool} {fuel : Nat} {a : Option Addr} {len cap : Nat} {x : DataW H × List MemPlace}
    (h : DataW.trod enc Try.prog w base sp held fuel 22 [.slice a len cap] = some x) : ∃ f, Src w a (len * 4) f ∧ len ≤ maxLen := by
  rcases Go.Deep.open_slice Try.underlying22 h with ⟨hc, _⟩ | ⟨ad, l, c, m, n, D, Pl, hc, _, hl, hm, hmm, _, each⟩
  · cases hc
    exact ⟨fun _ => 0, .inl rfl, Nat.zero_le _⟩
  · cases hc
    have hlm : len ≤ m := by rw [hmm]; split <;> omega
    rw [cellsAtom] at each
    have ex : ∀ i, ∃ g : Nat → Int, i < m → ∀ j, j < 4 → w.cell? ((ad.add (i * 4)).add j) = some (.int .i64 (g j)) := by
      intro i
      by_cases hi : i < m
      · obtain ⟨cs, h1, h2⟩ := each i hi
        obtain ⟨g, rfl⟩ := four_any h2
        obtain ⟨_, hlen, hcell⟩ := World.cells?_some h1
        refine ⟨g, fun _ j hj => ?_⟩
        have := hcell j (by simpa using hj)
        rw [this]
        rcases (by omega : j = 0 ∨ j = 1 ∨ j = 2 ∨ j = 3) with rfl | rfl | rfl | rfl <;> rfl
      · exact ⟨fun _ => 0, fun h => absurd h hi⟩
    refine ⟨fun i => Classical.choose (ex (i / 4)) (i % 4), ?_, Nat.le_trans hl hm⟩
    have ec := fun i => Classical.choose_spec (ex i)
    by_cases h0 : len = 0
    · exact .inl (by omega)
    · obtain ⟨b, off, spot⟩ := ad
      have e0 := ec 0 (by omega) 0 (by decide)
      have hspot : spot = none := by
        have := World.cell?_spot e0
        simpa [Addr.add] using this
      subst hspot
      have ha : ∀ i j, ((⟨b, off, none⟩ : Addr).add i).add j = ⟨b, off + i + j, none⟩ := fun i j => by
        by_cases e : i = 0 <;> by_cases e2 : j = 0 <;> simp [Addr.add, e, e2]
      refine .inr ⟨b, off, rfl, ?_, fun i hi => ?_⟩
      · rw [ha] at e0
        exact lt_of_cell e0
      · have := ec (i / 4) (by omega) (i % 4) (by omega)
        rw [ha, show off + i / 4 * 4 + i % 4 = off + i by omega] at this
        exact this
end Go.Proofs.Ytohboecnhneolaa
