/-
  The exact law of structure factors: walked.
-/
import Derived.Test.YtmpakpdbkojkaaaDoorEg
import Derived.Test.YtmpakpdbkojkaaaDoorEc
namespace Go.Proofs.YtmpakpdbkojkaaaDoor
open Go.RowKit

theorem toHkl_any (a b c : Int) (w : World) : Calls Tryd.prog 12 #[hV a b c] w fun e w' => e = .returned (hV a b c) ∧ Below w.heap.size w w' := by
  go_enter Tryd.func12, Tryd.ntmps12
  go_wp2
  exact bodyPost_ret (v := hV a b c) (by simp [results, Tryd.results12, go_sem]) rfl ⟨rfl, (below_alloc _ _).trans (((below_alloc _ _).trans ((below_alloc _ _).mono (by simp))).mono (by simp))⟩
theorem eqCycB_any (a b c d : Int) (w : World) : Calls Tryd.prog 8 #[cV a b c d, cV a b c d] w fun e w' => e = .returned (.bool true) ∧ Below w.heap.size w w' := by
  obtain ⟨W, hW, b0, b1, bW, -⟩ := boxed2 w 24 24 #[.int .i64 a, .int .i64 b, .int .i64 c, .int .i64 d] #[.int .i64 a, .int .i64 b, .int .i64 c, .int .i64 d]
  obtain ⟨c0, c1, c2, c3, -⟩ := b0.open4
  obtain ⟨d0, d1, d2, d3, -⟩ := b1.open4
  go_enter Tryd.func8, Tryd.ntmps8
  go_wp2
  go_ret
  exact ⟨rfl, bW⟩
/-- What both tell. -/
theorem told_some {n : Nat} {f : Nat → Int} (h k l : Int) (hn : n ≤ 1048576) : ∃ (p q r s : Int) (v : Bool), (∀ (w : World) (g c : Nat), Quads w g n f → Calls Tryd.prog 23 #[.slice (some ⟨g, 0, none⟩) n c, hV h k l] w fun e w' => e = .returned (.tuple #[cV p q r s, .bool v]) ∧ Below w.heap.size w w') ∧
    (∀ (w : World) (g c : Nat), Quads w g n f → Tab w → Calls Tryd.prog 26 #[.slice (some ⟨g, 0, none⟩) n c, hV h k l] w fun e w' => e = .returned (.tuple #[cV p q r s, .bool v]) ∧ Below w.heap.size w w') := by
  by_cases ha : AOk n f
  · cases hh : hOk h k l
    · exact ⟨0, 0, 0, 0, false, fun w g c L => specExact_no h k l L hn true (by simp [ha]) (by simp [hh]), fun w g c L t => implExact_no h k l L hn t true (by simp [ha]) (by simp [hh])⟩
    · exact ⟨_, _, _, _, true, fun w g c L => specExact_yes h k l L ha hh, fun w g c L t => implExact_yes h k l L t ha hh⟩
  · exact ⟨0, 0, 0, 0, false, fun w g c L => specExact_no h k l L hn false (by simp [ha]) (by simp), fun w g c L t => implExact_no h k l L hn t false (by simp [ha]) (by simp)⟩
/-- What the law keeps: the reflection's box, the atoms that came in, the table. -/
def Lw (w : World) (a : Option Addr) (n : Nat) (f : Nat → Int) (h k l : Int) (wr : World) : Prop :=
  At 32 wr w.heap.size #[.int .i64 h, .int .i64 k, .int .i64 l] ∧ Src wr a (n * 4) f ∧ Tab wr ∧ Below w.heap.size w wr
theorem Lw.below {w wr wr' : World} {a : Option Addr} {n : Nat} {f : Nat → Int} {h k l : Int} (F : Lw w a n f h k l wr) (b : Below wr.heap.size wr wr') : Lw w a n f h k l wr' := by
  obtain ⟨f1, f2, f3, f4⟩ := F
  exact ⟨f1.below b, f2.below b, f3.below b, f4.trans (b.mono f4.size)⟩
/-- A box that is newer than V holds four numbers; all of V stands. -/
theorem below_fill {V wr : World} {p : Nat} (b : Below V.heap.size V wr) (hp : V.heap.size ≤ p) (v0 v1 v2 v3 : Value) : Below V.heap.size V ((((wr.setCell ⟨p, 0, none⟩ v0).setCell ⟨p, 1, none⟩ v1).setCell ⟨p, 2, none⟩ v2).setCell ⟨p, 3, none⟩ v3) := below_put4 b hp _ _ _ _
/-- Lw and what stands of V. -/
def Lv (w : World) (a : Option Addr) (n : Nat) (f : Nat → Int) (h k l : Int) (V wr : World) : Prop := Lw w a n f h k l V ∧ Below V.heap.size V wr
theorem Lv.lw {w V wr : World} {a : Option Addr} {n : Nat} {f : Nat → Int} {h k l : Int} (F : Lv w a n f h k l V wr) : Lw w a n f h k l wr := F.1.below F.2
theorem Lv.below {w V wr wr' : World} {a : Option Addr} {n : Nat} {f : Nat → Int} {h k l : Int} (F : Lv w a n f h k l V wr) (b : Below wr.heap.size wr wr') : Lv w a n f h k l V wr' := ⟨F.1, F.2.trans (b.mono F.2.size)⟩
theorem s_lt {w V wr : World} {a : Option Addr} {n : Nat} {f : Nat → Int} {h k l : Int} (F : Lv w a n f h k l V wr) : V.heap.size ≤ wr.heap.size := F.2.size
theorem s_fill {w V wr : World} {a : Option Addr} {n p : Nat} {f : Nat → Int} {h k l : Int} {t : TypeId} {u0 u1 u2 u3 : Value} (F : Lv w a n f h k l V wr) (hp : V.heap.size ≤ p) (rb : At t wr p #[u0, u1, u2, u3]) (v0 v1 v2 v3 : Value) :
    ∃ u, (((wr.setCell ⟨p, 0, none⟩ v0).setCell ⟨p, 1, none⟩ v1).setCell ⟨p, 2, none⟩ v2).setCell ⟨p, 3, none⟩ v3 = u ∧ At t u p #[v0, v1, v2, v3] ∧ Lv w a n f h k l V u :=
  ⟨_, rfl, put4_at rb _ _ _ _, F.1, below_put4 F.2 hp _ _ _ _⟩
/-- The reflection's cells. -/
def Rh (qh : Nat) (h k l : Int) (w : World) : Prop := w.cell? ⟨qh, 0, none⟩ = some (.int .i64 h) ∧ w.cell? ⟨qh, 1, none⟩ = some (.int .i64 k) ∧ w.cell? ⟨qh, 2, none⟩ = some (.int .i64 l)
theorem rh_of {w V wr : World} {a : Option Addr} {n : Nat} {f : Nat → Int} {h k l : Int} (F : Lv w a n f h k l V wr) : Rh w.heap.size h k l wr := by
  obtain ⟨b0, b1, b2, -⟩ := F.lw.1.open3
  exact ⟨b0, b1, b2⟩
end Go.Proofs.YtmpakpdbkojkaaaDoor
