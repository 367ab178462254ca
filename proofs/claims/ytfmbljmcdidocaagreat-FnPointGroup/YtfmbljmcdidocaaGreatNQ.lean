/-
  Ways back of operators by the specification, walked.
-/
import Derived.Test.YtfmbljmcdidocaaGreatML
import Derived.Test.YtfmbljmcdidocaaGreatME
import Derived.Test.YtfmbljmcdidocaaGreatNP
import Derived.Deep.AppendLies
namespace Go.Proofs.YtfmbljmcdidocaaGreat
open Go.RowKit

/-- The way back is told. -/
def backOk (n : Nat) (f : Nat → Int) (k : Nat) (h : Nat → Int) : Prop := isOp n f k h ∧ isR (backM f) (backV f h)
instance (n : Nat) (f : Nat → Int) (k : Nat) (h : Nat → Int) : Decidable (backOk n f k h) := by unfold backOk; infer_instance
theorem Kept.thenBelow {p : Nat} {w0 w w' : World} (h : Kept p w0 w) (hb : Below w0.heap.size w w') : Kept p w0 w' :=
  ⟨hb.os.trans h.os, hb.tape.trans h.tape, hb.output.trans h.output, Nat.le_trans h.size hb.size, fun k hk hp => (hb.block k hk).trans (h.block k hk hp)⟩
theorem ownBlock_geQ {w : World} {base : Nat} {e : TypeId} {size : Nat} {v : Value} {n : Nat} {xs : List Value} (h : w.ownsRow base e size v n xs) {j : Nat} (hj : v.ownBlock = some j) : base ≤ j := by
  rcases h.2 with ⟨rfl, _⟩ | ⟨g, cap, cur, rfl, hb, _⟩
  · cases hj
  · cases hj; exact hb
theorem Kept.grown {p : Nat} {w0 w w' : World} {v : Value} {n : Nat} {xs : List Value} (h : Kept p w0 w) (hg : w.grownBy w' v.ownBlock) (ho : w.ownsRow w0.heap.size 2 1 v n xs) : Kept p w0 w' :=
  ⟨hg.os.trans h.os, hg.tape.trans h.tape, hg.output.trans h.output, Nat.le_trans h.size hg.size, fun k hk hp => (hg.block k (Nat.lt_of_lt_of_le hk h.size) (fun e => by have := ownBlock_geQ ho e.symm; omega)).trans (h.block k hk hp)⟩
theorem own_belowQ {w w' : World} {B : Nat} {e : TypeId} {k : Nat} {v : Value} {n : Nat} {xs : List Value} (h : w.ownsRow B e k v n xs) (hb : Below w.heap.size w w') : w'.ownsRow B e k v n xs := by
  refine ⟨h.1, h.2.imp id ?_⟩
  rintro ⟨g, cap, cur, rfl, h1, h2, h3⟩
  exact ⟨g, cap, cur, rfl, h1, (hb.block g (Array.getElem?_eq_some_iff.1 h2).1).trans h2, h3⟩
theorem At.keptQ {t : TypeId} {w w' : World} {q p : Nat} {vs : Array Value} (h : At t w q vs) (hk : Kept p w w') (hp : q ≠ p) : At t w' q vs := (hk.block q h.lt hp).trans h
/-- What lies in memory while the way back's T is made. -/
structure BackSt (w : World) (f h : Nat → Int) (v1 v2 : Value) (q gm cm g3 n2 i : Nat) (wr : World) : Prop where
  d1 : At 31 wr w.heap.size #[v1, v2]
  d2 : At 31 wr n2 #[.slice none 0 0, .slice none 0 0]
  d6 : At 31 wr q #[.slice (some ⟨gm, 0, none⟩) 9 cm, .slice (some ⟨g3, 0, none⟩) 3 3]
  m9 : Made wr gm cm 9 (backM f)
  m3 : At 2 wr g3 (vA (vpart2 f h i))
  below : Below w.heap.size w wr
  apart : w.heap.size < n2 ∧ n2 < g3 ∧ g3 < q ∧ q < gm ∧ 9 ≤ cm ∧ cm ≤ maxLen
theorem BackSt.drew {w : World} {f h : Nat → Int} {v1 v2 : Value} {q gm cm g3 n2 i : Nat} {wr : World} (s : BackSt w f h v1 v2 q gm cm g3 n2 i wr) : BackSt w f h v1 v2 q gm cm g3 n2 i wr.drew :=
  ⟨s.d1, s.d2, s.d6, s.m9, s.m3, s.below.drew, s.apart⟩
theorem set_vpart2v (f h : Nat → Int) (n : Nat) (hn : n < 3) : (vA (vpart2 f h n)).setIfInBounds n (.int .i64 (backV f h n)) = vA (vpart2 f h (n + 1)) := by
  rcases (by omega : n = 0 ∨ n = 1 ∨ n = 2) with rfl | rfl | rfl <;> simp [vA, vpart2]
theorem vpart23v (f h : Nat → Int) : vA (vpart2 f h 3) = vA (backV f h) := by simp [vA, vpart2]
theorem BackSt.step {w : World} {f h : Nat → Int} {v1 v2 : Value} {q gm cm g3 n2 i : Nat} {wr : World} (s : BackSt w f h v1 v2 q gm cm g3 n2 i wr) (hi : i < 3) : BackSt w f h v1 v2 q gm cm g3 n2 (i + 1) (wr.setCell ⟨g3, i, none⟩ (.int .i64 (backV f h i))) := by
  have := s.apart
  exact ⟨s.d1.setOther (by omega) _, s.d2.setOther (by omega) _, s.d6.setOther (by omega) _, s.m9.setOther (by omega) _, set_vpart2v f h i hi ▸ s.m3.set i _, s.below.setCell (by show w.heap.size ≤ g3; omega) _, this⟩
/-- What the region reads. -/
def S13 (q1 : Nat) (tv : Value) (q : Nat) (mv nv : Value) (gm x y z : Nat) (A0 A1 A2 : Int) (b2 o2 : Nat) (T0 T1 T2 : Int) (w' : World) : Prop :=
  w'.cell? ⟨q1, 1, none⟩ = some tv ∧ w'.cell? ⟨q, 0, none⟩ = some mv ∧ w'.cell? ⟨q, 1, none⟩ = some nv ∧ w'.cell? ⟨gm, x, none⟩ = some (.int .i64 A0) ∧ w'.cell? ⟨gm, y, none⟩ = some (.int .i64 A1) ∧ w'.cell? ⟨gm, z, none⟩ = some (.int .i64 A2) ∧ w'.cell? ⟨b2, o2, none⟩ = some (.int .i64 T0) ∧ w'.cell? ⟨b2, o2 + 1, none⟩ = some (.int .i64 T1) ∧ w'.cell? ⟨b2, o2 + 2, none⟩ = some (.int .i64 T2)
theorem cell_far {w : World} {b o p i : Nat} {v u : Value} (h : w.cell? ⟨b, o, none⟩ = some v) (hb : b ≠ p) : (w.setCell ⟨p, i, none⟩ u).cell? ⟨b, o, none⟩ = some v := (World.cell?_of_block (w := w) (Below.heap_setCell _ _ _ _ hb)).trans h
theorem S13.set {q1 : Nat} {tv : Value} {q : Nat} {mv nv : Value} {gm x y z : Nat} {A0 A1 A2 : Int} {b2 o2 : Nat} {T0 T1 T2 : Int} {w' : World} (h : S13 q1 tv q mv nv gm x y z A0 A1 A2 b2 o2 T0 T1 T2 w') {p i : Nat} (h1 : q1 ≠ p) (h2 : q ≠ p) (h3 : gm ≠ p) (h4 : b2 ≠ p) (u : Value) : S13 q1 tv q mv nv gm x y z A0 A1 A2 b2 o2 T0 T1 T2 (w'.setCell ⟨p, i, none⟩ u) := by
  obtain ⟨s1, s2, s3, s4, s5, s6, s7, s8, s9⟩ := h
  exact ⟨cell_far s1 h1, cell_far s2 h2, cell_far s3 h2, cell_far s4 h3, cell_far s5 h3, cell_far s6 h3, cell_far s7 h4, cell_far s8 h4, cell_far s9 h4⟩
theorem backV_at (f h : Nat → Int) (i x y z : Nat) (hx : x = 3 * i) (hy : y = 3 * i + 1) (hz : z = 3 * i + 2) : -(backM f x * h 0 + backM f y * h 1 + backM f z * h 2) % 24 = backV f h i := by
  subst hx hy hz
  show _ = (-(0 + backM f (3 * i + 0) * h 0 + backM f (3 * i + 1) * h 1 + backM f (3 * i + 2) * h 2)) % 24
  rw [Int.zero_add]
  rfl
end Go.Proofs.YtfmbljmcdidocaaGreat
/-
  Ways back of operators by the specification, whatever is handed in, walked.
-/
namespace Go.Proofs.YtfmbljmcdidocaaGreat
open Go.RowKit

end Go.Proofs.YtfmbljmcdidocaaGreat
