/-
  A list of Merged that came in, opened. No walk.
-/
import Derived.Test.YtnlbnjdfkbhkhaaRMerged
import Derived.ProofKit
import Derived.OpenShut
import Derived.Deep.SlicePairs
import Derived.Lib.SmallJoins
namespace Go.Proofs.Ytnlbnjdfkbhkhaa
open Go.ChangeShapes Go.WideShapes Go.ChangeAt Go.RowKit Go.Joins Go.Deep

theorem cellsMerged : Try.prog.cellsOf 47 = 8 := by kernel_rfl
theorem cellsNumMerged : Try.prog.cellsOf 2 = 1 := by kernel_rfl
theorem trodS8 {H : Type} {enc : TypeId × Value → H} {P : Program} {w : World} {base : Nat} {spare : Nat → Bool} {held : Bool} {t : TypeId} {q0 q1 q2 q3 q4 q5 q6 q7 : Field} {fuel : Nat} {cs : List Value} {x : DataW H × List MemPlace} (ht : P.underlying t = some (.struct #[q0, q1, q2, q3, q4, q5, q6, q7])) (h : DataW.trod enc P w base spare held fuel t cs = some x) :
    ∃ n, cs.length = P.cellsOf t ∧ (∃ y, DataW.trod enc P w base spare held n q0.type ((cs.drop q0.offset).take (P.cellsOf q0.type)) = some y) ∧ (∃ y, DataW.trod enc P w base spare held n q1.type ((cs.drop q1.offset).take (P.cellsOf q1.type)) = some y) ∧ (∃ y, DataW.trod enc P w base spare held n q2.type ((cs.drop q2.offset).take (P.cellsOf q2.type)) = some y) ∧ (∃ y, DataW.trod enc P w base spare held n q3.type ((cs.drop q3.offset).take (P.cellsOf q3.type)) = some y) ∧ (∃ y, DataW.trod enc P w base spare held n q4.type ((cs.drop q4.offset).take (P.cellsOf q4.type)) = some y) ∧ (∃ y, DataW.trod enc P w base spare held n q5.type ((cs.drop q5.offset).take (P.cellsOf q5.type)) = some y) ∧ (∃ y, DataW.trod enc P w base spare held n q6.type ((cs.drop q6.offset).take (P.cellsOf q6.type)) = some y) ∧ (∃ y, DataW.trod enc P w base spare held n q7.type ((cs.drop q7.offset).take (P.cellsOf q7.type)) = some y) := by
  obtain ⟨xs, n, _, rfl, hl, hlen, hf⟩ := DataW.trod_struct ht h
  match xs, hlen with
  | [y0, y1, y2, y3, y4, y5, y6, y7], _ => exact ⟨n, hl, ⟨y0, by simpa using hf 0 q0 rfl⟩, ⟨y1, by simpa using hf 1 q1 rfl⟩, ⟨y2, by simpa using hf 2 q2 rfl⟩, ⟨y3, by simpa using hf 3 q3 rfl⟩, ⟨y4, by simpa using hf 4 q4 rfl⟩, ⟨y5, by simpa using hf 5 q5 rfl⟩, ⟨y6, by simpa using hf 6 q6 rfl⟩, ⟨y7, by simpa using hf 7 q7 rfl⟩⟩
set_option maxRecDepth 100000 in
theorem rec_ofMerged {H : Type} {enc : TypeId × Value → H} {w : World} {base : Nat} {sp : Nat → Bool} {held : Bool} {fuel : Nat} {cs : List Value} {x : DataW H × List MemPlace}
    (h : DataW.trod enc Try.prog w base sp held fuel 47 cs = some x) : ∃ f : Nat → Int, cs = [.int .i64 (f 0), .int .i64 (f 1), .int .i64 (f 2), .int .i64 (f 3), .int .i64 (f 4), .int .i64 (f 5), .int .i64 (f 6), .int .i64 (f 7)] ∧ ∀ j, -9223372036854775808 ≤ f j ∧ f j ≤ 9223372036854775807 := by
  obtain ⟨n, hl, ⟨y0, t0⟩, ⟨y1, t1⟩, ⟨y2, t2⟩, ⟨y3, t3⟩, ⟨y4, t4⟩, ⟨y5, t5⟩, ⟨y6, t6⟩, ⟨y7, t7⟩⟩ := trodS8 Try.underlying47 h
  rw [cellsMerged] at hl
  match cs, hl with
  | [c0, c1, c2, c3, c4, c5, c6, c7], _ =>
    obtain ⟨k0, f0, -, g0⟩ := DataW.trod_int Try.underlying2 t0
    obtain ⟨k1, f1, -, g1⟩ := DataW.trod_int Try.underlying2 t1
    obtain ⟨k2, f2, -, g2⟩ := DataW.trod_int Try.underlying2 t2
    obtain ⟨k3, f3, -, g3⟩ := DataW.trod_int Try.underlying2 t3
    obtain ⟨k4, f4, -, g4⟩ := DataW.trod_int Try.underlying2 t4
    obtain ⟨k5, f5, -, g5⟩ := DataW.trod_int Try.underlying2 t5
    obtain ⟨k6, f6, -, g6⟩ := DataW.trod_int Try.underlying2 t6
    obtain ⟨k7, f7, -, g7⟩ := DataW.trod_int Try.underlying2 t7
    simp [cellsNumMerged] at f0 f1 f2 f3 f4 f5 f6 f7
    exact ⟨fun i => [k0, k1, k2, k3, k4, k5, k6, k7].getD i 0, by rw [f0, f1, f2, f3, f4, f5, f6, f7]; rfl, fun j => match j with | 0 => wf64 g0 | 1 => wf64 g1 | 2 => wf64 g2 | 3 => wf64 g3 | 4 => wf64 g4 | 5 => wf64 g5 | 6 => wf64 g6 | 7 => wf64 g7 | _ + 8 => (by decide : (-9223372036854775808 : Int) ≤ 0 ∧ (0 : Int) ≤ 9223372036854775807)⟩
set_option maxRecDepth 100000 in
theorem recs_ofMerged {H : Type} {enc : TypeId × Value → H} {w : World} {base : Nat} {sp : Nat → Bool} {held : Bool} {fuel : Nat} {a : Option Addr} {len cap : Nat} {x : DataW H × List MemPlace}
    (h : DataW.trod enc Try.prog w base sp held fuel 22 [.slice a len cap] = some x) : ∃ f : Nat → Int, Src w a (len * 8) f ∧ len ≤ maxLen ∧ ∀ i, i < len * 8 → -9223372036854775808 ≤ f i ∧ f i ≤ 9223372036854775807 := by
  rcases Go.Deep.open_slice Try.underlying22 h with ⟨hc, _⟩ | ⟨ad, l, c, m, n, D, Pl, hc, _, hl, hm, hmm, _, each⟩
  · cases hc
    exact ⟨fun _ => 0, .inl (by omega), Nat.zero_le _, fun _ _ => by simp⟩
  · cases hc
    have hlm : len ≤ m := by rw [hmm]; split <;> omega
    rw [cellsMerged] at each
    have ex : ∀ i, ∃ g : Nat → Int, (i < m → ∀ j, j < 8 → w.cell? ((ad.add (i * 8)).add j) = some (.int .i64 (g j))) ∧ ∀ j, -9223372036854775808 ≤ g j ∧ g j ≤ 9223372036854775807 := by
      intro i
      by_cases hi : i < m
      · obtain ⟨cs, h1, h2⟩ := each i hi
        obtain ⟨g, rfl, hg⟩ := rec_ofMerged h2
        obtain ⟨_, hlen, hcell⟩ := World.cells?_some h1
        refine ⟨g, fun _ j hj => ?_, hg⟩
        have := hcell j (by simpa using hj)
        rw [this]
        rcases (by omega : j = 0 ∨ j = 1 ∨ j = 2 ∨ j = 3 ∨ j = 4 ∨ j = 5 ∨ j = 6 ∨ j = 7) with rfl | rfl | rfl | rfl | rfl | rfl | rfl | rfl <;> rfl
      · exact ⟨fun _ => 0, fun h => absurd h hi, fun _ => by simp⟩
    refine ⟨fun i => Classical.choose (ex (i / 8)) (i % 8), ?_, Nat.le_trans hl hm, fun i _ => (Classical.choose_spec (ex (i / 8))).2 _⟩
    have ec := fun i => (Classical.choose_spec (ex i)).1
    by_cases h0 : len = 0
    · exact .inl (by omega)
    · obtain ⟨b, off, spot⟩ := ad
      have e0 := ec 0 (by omega) 0 (by decide)
      have hspot : spot = none := by
        have := World.cell?_spot e0
        simpa [Addr.add] using this
      subst hspot
      have ha : ∀ i j, ((⟨b, off, none⟩ : Addr).add i).add j = ⟨b, off + i + j, none⟩ := fun i j => by
        by_cases e : i = 0 <;> by_cases e2 : j = 0 <;> simp [Addr.add, e, e2]
      refine .inr ⟨b, off, rfl, ?_, fun i hi => ?_⟩
      · rw [ha] at e0
        exact lt_of_cell e0
      · have := ec (i / 8) (by omega) (i % 8) (by omega)
        rw [ha, show off + i / 8 * 8 + i % 8 = off + i by omega] at this
        exact this
end Go.Proofs.Ytnlbnjdfkbhkhaa
