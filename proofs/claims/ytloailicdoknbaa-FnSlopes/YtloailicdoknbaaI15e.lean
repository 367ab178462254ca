/-
  What the law draws: walked.
-/
import Derived.Test.YtloailicdoknbaaI15d
namespace Go.Proofs.Ytloailicdoknbaa
open Go.RowKit

theorem row_mono {w : World} {p p' : Nat} {a : Option Addr} {len : Nat} (h : Row w p a len) (hp : p ≤ p') : Row w p' a len :=
  ⟨h.1, h.2.imp id fun ⟨b, off, e, hb, hc⟩ => ⟨b, off, e, Nat.lt_of_lt_of_le hb hp, hc⟩⟩
theorem sm64 {l : List Int} (h : ∀ z ∈ l, is64 z) (i : Nat) : is64 (l.getD i 0) := by
  by_cases hi : i < l.length
  · exact h _ (by simp [List.getD_eq_getElem?_getD, hi])
  · rw [List.getD_eq_getElem?_getD, List.getElem?_eq_none (by omega)]
    show is64 0
    unfold is64
    omega
/-- A tape and a point that were drawn. -/
structure Dv (w w' : World) (g m b inp : Nat) (f x : Nat → Int) : Prop where
  t : Recs 3 w' g m f
  f64 : ∀ i, is64 (f i)
  x64 : ∀ i, is64 (x i)
  x : Ints w' b 0 inp x
  lt : b < w'.heap.size
  m2 : m ≤ 201
  i3 : inp ≤ 3
  b : Below w.heap.size w w'
theorem Dv.below {w w1 w2 : World} {g m b inp : Nat} {f x : Nat → Int} (h : Dv w w1 g m b inp f x) (hb : Below w1.heap.size w1 w2) : Dv w w2 g m b inp f x :=
  ⟨h.t.below hb, h.f64, h.x64, h.x.below h.lt hb, Nat.lt_of_lt_of_le h.lt hb.size, h.m2, h.i3, h.b.trans (hb.mono h.b.size)⟩
theorem Dv.kept {w w1 w2 : World} {g m b inp p : Nat} {f x : Nat → Int} (h : Dv w w1 g m b inp f x) (hk : Kept p w1 w2) (h1 : g ≠ p) (h2 : b ≠ p) (h3 : w.heap.size ≤ p) : Dv w w2 g m b inp f x :=
  ⟨h.t.kept hk h1, h.f64, h.x64, fun i hi => (hk.cell h2 h.lt).trans (h.x i hi), Nat.lt_of_lt_of_le h.lt hk.size, h.m2, h.i3, h.b.trans (hk.below h3 h.b.size)⟩
def DvP (w : World) (e : Ending) (w' : World) : Prop := ∃ (g m c b inp c2 : Nat) (f x : Nat → Int), e = .returned (.tuple #[.slice (some ⟨g, 0, none⟩) m c, .slice (some ⟨b, 0, none⟩) inp c2]) ∧ Dv w w' g m b inp f x
set_option maxRecDepth 100000 in
set_option maxHeartbeats 3200000 in
theorem drawValue_any {w : World} {a : Option Addr} {len cap : Nat} (hr : Row w w.heap.size a len) :
    Calls Try.prog 49 #[.slice a len cap] w (DvP w) := by
  go_enter Try.func49, Try.ntmps49
  go_wp2_with fail
  refine (new_any hr).mono ?_
  rintro e w1 ⟨rfl, b1, cu⟩
  have R : Dz w1 w1 w.heap.size a len cap := ⟨Kept.refl _ _, cu, cu.lt⟩
  clear cu
  go_wp2_with fail
  refine (below_dr R.st (4) (by omega) (by omega)).mono ?_
  rintro e w2 ⟨n, rfl, n0, n1, hd⟩
  replace R := R.draw hd
  clear hd
  obtain ⟨N, rfl⟩ : ∃ N : Nat, n = (N : Int) := ⟨n.toNat, by omega⟩
  go_wp2_with fail
  refine (drawAny_any R.cur (N : Int) (by omega) (by omega)).mono ?_
  rintro e w3 ⟨v, m, l, rfl, hm, T⟩
  obtain ⟨g, c, rfl⟩ := T.open
  go_wp2_with fail
  refine (drawXs_any T.cur N (by omega)).mono ?_
  rintro e w4 ⟨v2, l2, rfl, X⟩
  obtain ⟨b, c2, rfl⟩ := X.open
  have D : Dv w w4 g m b N (fun i => l.getD i 0) (fun i => l2.getD i 0) := by
    have e1 := own_lt T.own
    have e2 := T.pN
    have e3 := own_lt X.own
    refine ⟨T.recsD.kept X.kp (by omega), sm64 T.sm, sm64 X.sm, fun i hi => ?_, e3.2.1, hm, by omega, ?_⟩
    · rw [Nat.zero_add]
      exact (X.cell (by omega)).1
    · exact b1.trans ((R.kp.trans (T.kp.trans X.kp)).below (Nat.le_refl _) b1.size)
  clear T X R
  go_wp2
  exact bodyPost_ret (v := .tuple #[.slice (some ⟨g, 0, none⟩) m c, .slice (some ⟨b, 0, none⟩) N c2]) (by simp [results, Try.results49, go_sem]) rfl ⟨_, _, _, _, _, _, _, _, rfl, D⟩
theorem drawSlopesBack_any {w : World} {a : Option Addr} {len cap : Nat} (hr : Row w w.heap.size a len) :
    Calls Try.prog 26 #[.slice a len cap] w (DvP w) := by
  go_enter Try.func26, Try.ntmps26
  go_wp2_with fail
  refine (drawValue_any hr).mono ?_
  rintro e w1 ⟨g, m, c, b, inp, c2, f, x, rfl, D⟩
  go_wp2
  exact bodyPost_ret (v := .tuple #[.slice (some ⟨g, 0, none⟩) m c, .slice (some ⟨b, 0, none⟩) inp c2]) (by simp [results, Try.results26, go_sem]) rfl ⟨_, _, _, _, _, _, _, _, rfl, D⟩
end Go.Proofs.Ytloailicdoknbaa
