/-
  What the listed table gives the walks; and the door's own heap meets the condition. No walk.
-/
import Derived.Test.YtbninbeccgdemaaDoorCk
import Derived.ProofKit
import Derived.LaidMore
import Derived.OpenShut
import Derived.Stop.Joined
import Derived.Lib.SmallJoins
namespace Go.Proofs.YtbninbeccgdemaaDoor
open Go.ChangeShapes Go.WideShapes Go.ChangeAt Go.RowKit Go.Joins

abbrev laidR : List (String × DataW Unit) := [("loop.example/g00055/impl.rootPowers", Rows.laid_loop_example_g00055_impl_rootPowers)]
theorem gRoot : Tryd.prog.globalNamed "loop.example/g00055/impl.rootPowers" = some 0 := by kernel_rfl
theorem tRoot : (Tryd.prog.globals[0]?).map (·.type) = some 90 := by kernel_rfl
theorem cellsCyc : Tryd.prog.cellsOf 33 = 4 := by kernel_rfl
theorem cellsInt : Tryd.prog.cellsOf 2 = 1 := by kernel_rfl
set_option maxRecDepth 100000 in
theorem four {H : Type} {enc : TypeId × Value → H} {w : World} {base : Nat} {sp : Nat → Bool} {held : Bool} {fuel : Nat} {cs : List Value} {a b c d : Int} {ps : List MemPlace}
    (h : DataW.trod enc Tryd.prog w base sp held fuel 33 cs = some (.agg [.lit (.int .i64 a), .lit (.int .i64 b), .lit (.int .i64 c), .lit (.int .i64 d)], ps)) :
    cs = [.int .i64 a, .int .i64 b, .int .i64 c, .int .i64 d] := by
  obtain ⟨y0, y1, y2, y3, n, hx, hl, t0, t1, t2, t3⟩ := trod_struct4 Tryd.underlying33 h
  rw [cellsCyc] at hl
  match cs, hl with
  | [c0, c1, c2, c3], _ =>
    simp only [Prod.mk.injEq, DataW.agg.injEq, List.cons.injEq, and_true] at hx
    obtain ⟨⟨e0, e1, e2, e3⟩, -⟩ := hx
    obtain ⟨k0, f0, g0, -⟩ := DataW.trod_int Tryd.underlying2 t0
    obtain ⟨k1, f1, g1, -⟩ := DataW.trod_int Tryd.underlying2 t1
    obtain ⟨k2, f2, g2, -⟩ := DataW.trod_int Tryd.underlying2 t2
    obtain ⟨k3, f3, g3, -⟩ := DataW.trod_int Tryd.underlying2 t3
    rw [g0] at e0
    rw [g1] at e1
    rw [g2] at e2
    rw [g3] at e3
    simp at e0 e1 e2 e3
    subst e0 e1 e2 e3
    simp [cellsInt] at f0 f1 f2 f3
    rw [f0, f1, f2, f3]
def rowD (q : Nat) : DataW Unit := .agg [.lit (.int .i64 (rp (q * 4))), .lit (.int .i64 (rp (q * 4 + 1))), .lit (.int .i64 (rp (q * 4 + 2))), .lit (.int .i64 (rp (q * 4 + 3)))]
theorem laid_rows : (Rows.laid_loop_example_g00055_impl_rootPowers : DataW Unit) = .agg ((List.range 12).map rowD) := rfl
set_option maxRecDepth 100000 in
theorem tab_of {W : World} (h : laidMetH Tryd.prog laidR W) : Tab W := by
  rw [MakeChecks.laidMetH_plain _ _ _ (by kernel_rfl)] at h
  obtain ⟨ps, ⟨g, t, cs, fuel, p, q, hg, ht, hvar, hd, _, _⟩, _⟩ := h
  obtain rfl := Option.some.inj (gRoot.symm.trans hg)
  obtain rfl := Option.some.inj (tRoot.symm.trans ht)
  obtain ⟨xs, m, rfl, hx, hlen, hn, hel⟩ := DataW.trod_array Tryd.underlying90 hd
  rw [cellsCyc] at hel
  have hxs : xs.map (·.1) = (List.range 12).map rowD := by
    have := congrArg Prod.fst hx
    simp only [laid_rows, DataW.agg.injEq] at this
    exact this.symm
  have key : ∀ i, i < 48 → W.cell? ⟨0, i, none⟩ = some (.int .i64 (rp i)) := by
    intro i hi
    have hv := World.var?_cell hg hvar i
    rw [hv]
    obtain ⟨y, hy⟩ : ∃ y, xs[i / 4]? = some y := ⟨xs[i / 4]'(by omega), List.getElem?_eq_getElem (by omega)⟩
    have hy1 : y.1 = rowD (i / 4) := by
      have := congrArg (fun l => l[i / 4]?) hxs
      simp only [List.getElem?_map, hy, Option.map_some] at this
      rw [List.getElem?_range (by omega)] at this
      simpa using this
    have he := hel (i / 4) (by omega)
    rw [hy] at he
    obtain ⟨y1, y2⟩ := y
    simp only at hy1
    subst hy1
    have hf := four he
    have hg4 : cs[i]? = ((cs.toList.drop (i / 4 * 4)).take 4)[i % 4]? := by
      rw [List.getElem?_take_of_lt (by omega), List.getElem?_drop, show i / 4 * 4 + i % 4 = i by omega]
      simp
    rw [hg4, hf]
    rcases (by omega : i % 4 = 0 ∨ i % 4 = 1 ∨ i % 4 = 2 ∨ i % 4 = 3) with e | e | e | e <;> rw [e]
    · rw [show i = i / 4 * 4 by omega]; simp
    · rw [show i = i / 4 * 4 + 1 by omega]; simp; congr 2; omega
    · rw [show i = i / 4 * 4 + 2 by omega]; simp; congr 2; omega
    · rw [show i = i / 4 * 4 + 3 by omega]; simp; congr 2; omega
  exact ⟨lt_of_cell (key 0 (by decide)), key⟩
/-- The door's own heap meets the condition. -/
theorem door_met (os : Os) (args : Array Value) : laidMetH Tryd.prog laidR ((World.doorLaid Tryd.prog 400 os).forCall (fun _ _ => 0) ⟨#[], args, []⟩).memory :=
  laidMetH_of_parts3 (fuel := 8) (laidMet_of_run' 8 (by kernel_rfl) (by kernel_rfl)) (by kernel_rfl) (by kernel_rfl)
end Go.Proofs.YtbninbeccgdemaaDoor
