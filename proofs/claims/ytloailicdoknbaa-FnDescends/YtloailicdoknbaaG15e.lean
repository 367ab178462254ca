/-
  What the law draws: walked.
-/
import Derived.Test.YtloailicdoknbaaG15d
namespace Go.Proofs.Ytloailicdoknbaa
open Go.RowKit

theorem row_mono {w : World} {p p' : Nat} {a : Option Addr} {len : Nat} (h : Row w p a len) (hp : p ≤ p') : Row w p' a len :=
  ⟨h.1, h.2.imp id fun ⟨b, off, e, hb, hc⟩ => ⟨b, off, e, Nat.lt_of_lt_of_le hb hp, hc⟩⟩
/-- A tape and a point that were drawn. -/
structure Dv (w w' : World) (g m b inp : Nat) (f x : Nat → Int) : Prop where
  t : Recs 3 w' g m f
  x : Ints w' b 0 inp x
  lt : b < w'.heap.size
  m2 : m ≤ 201
  i3 : inp ≤ 3
  b : Below w.heap.size w w'
theorem Dv.below {w w1 w2 : World} {g m b inp : Nat} {f x : Nat → Int} (h : Dv w w1 g m b inp f x) (hb : Below w1.heap.size w1 w2) : Dv w w2 g m b inp f x :=
  ⟨h.t.below hb, h.x.below h.lt hb, Nat.lt_of_lt_of_le h.lt hb.size, h.m2, h.i3, h.b.trans (hb.mono h.b.size)⟩
theorem Dv.kept {w w1 w2 : World} {g m b inp p : Nat} {f x : Nat → Int} (h : Dv w w1 g m b inp f x) (hk : Kept p w1 w2) (h1 : g ≠ p) (h2 : b ≠ p) (h3 : w.heap.size ≤ p) : Dv w w2 g m b inp f x :=
  ⟨h.t.kept hk h1, fun i hi => (hk.cell h2 h.lt).trans (h.x i hi), Nat.lt_of_lt_of_le h.lt hk.size, h.m2, h.i3, h.b.trans (hk.below h3 h.b.size)⟩
def DvP (w : World) (e : Ending) (w' : World) : Prop := ∃ (g m c b inp c2 : Nat) (f x : Nat → Int), e = .returned (.tuple #[.slice (some ⟨g, 0, none⟩) m c, .slice (some ⟨b, 0, none⟩) inp c2]) ∧ Dv w w' g m b inp f x
set_option maxRecDepth 100000 in
set_option maxHeartbeats 3200000 in
theorem drawValue_any {w : World} {a : Option Addr} {len cap : Nat} (hr : Row w w.heap.size a len) :
    Calls Try.prog 49 #[.slice a len cap] w (DvP w) := by
  go_enter Try.func49, Try.ntmps49
  go_wp2_with fail
  refine (new_any hr).mono ?_
  rintro e w1 ⟨rfl, b1, cu⟩
  have R : Dz w1 w1 w.heap.size a len cap := ⟨Kept.refl _ _, cu, cu.lt⟩
  clear cu
  go_wp2_with fail
  refine (below_dr R.st (4) (by omega) (by omega)).mono ?_
  rintro e w2 ⟨n, rfl, n0, n1, hd⟩
  replace R := R.draw hd
  clear hd
  obtain ⟨N, rfl⟩ : ∃ N : Nat, n = (N : Int) := ⟨n.toNat, by omega⟩
  go_wp2_with fail
  refine (drawAny_any R.cur (N : Int) (by omega) (by omega)).mono ?_
  rintro e w3 ⟨v, m, l, rfl, hm, T⟩
  obtain ⟨g, c, rfl⟩ := T.open
  go_wp2_with fail
  refine (drawXs_any T.cur N (by omega)).mono ?_
  rintro e w4 ⟨v2, l2, rfl, X⟩
  obtain ⟨b, c2, rfl⟩ := X.open
  have D : Dv w w4 g m b N (fun i => l.getD i 0) (fun i => l2.getD i 0) := by
    have e1 := own_lt T.own
    have e2 := T.pN
    have e3 := own_lt X.own
    refine ⟨T.recsD.kept X.kp (by omega), fun i hi => ?_, e3.2.1, hm, by omega, ?_⟩
    · rw [Nat.zero_add]
      exact (X.cell (by omega)).1
    · exact b1.trans ((R.kp.trans (T.kp.trans X.kp)).below (Nat.le_refl _) b1.size)
  clear T X R
  go_wp2
  exact bodyPost_ret (v := .tuple #[.slice (some ⟨g, 0, none⟩) m c, .slice (some ⟨b, 0, none⟩) N c2]) (by simp [results, Try.results49, go_sem]) rfl ⟨_, _, _, _, _, _, _, _, rfl, D⟩
def DcP (w : World) (e : Ending) (w' : World) : Prop := ∃ (g m c b inp c2 : Nat) (f x : Nat → Int) (r : Int), e = .returned (.tuple #[.slice (some ⟨g, 0, none⟩) m c, .slice (some ⟨b, 0, none⟩) inp c2, .int .i64 r]) ∧ -1000 ≤ r ∧ r ≤ 1000 ∧ Dv w w' g m b inp f x
set_option maxRecDepth 100000 in
set_option maxHeartbeats 3200000 in
theorem drawDescent_any {w : World} {a : Option Addr} {len cap : Nat} (hr : Row w w.heap.size a len) :
    Calls Try.prog 30 #[.slice a len cap] w (DcP w) := by
  go_enter Try.func30, Try.ntmps30
  go_wp2_with fail
  refine (drawValue_any hr).mono ?_
  rintro e w1 ⟨g, m, c, b, inp, c2, f, x, rfl, D⟩
  have hr1 : Row w1 w1.heap.size a len := row_mono (hr.kept (.of_below D.b) (Nat.le_refl _)) D.b.size
  have g1 := D.t.1
  have g2 := D.lt
  have g3 := D.b.size
  go_wp2_with fail
  refine (new_any hr1).mono ?_
  rintro e w2 ⟨rfl, b2, cu⟩
  replace D := D.below b2
  obtain ⟨p, hp⟩ : ∃ p, w1.heap.size = p := ⟨_, rfl⟩
  rw [hp] at g1 g2 g3 cu ⊢
  have R : Dz w2 w2 p a len cap := ⟨Kept.refl _ _, cu, cu.lt⟩
  clear cu hr hr1 b2
  go_wp2_with fail
  refine (below_dr R.st (5) (by omega) (by omega)).mono ?_
  rintro e w3 ⟨r, rfl, r0, r1, hd⟩
  replace R := R.draw hd
  clear hd
  go_wp2_with fail
  refine (once_dr R.st 14 (by omega) (by omega)).mono ?_
  rintro e w4 ⟨b1, rfl, hd⟩
  replace R := R.draw hd
  clear hd
  cases b1
  · replace D := D.kept R.kp (by omega) (by omega) (by omega)
    clear R
    go_wp2
    exact bodyPost_ret (v := .tuple #[.slice (some ⟨g, 0, none⟩) m c, .slice (some ⟨b, 0, none⟩) inp c2, .int .i64 r]) (by simp [results, Try.results30, go_sem]) rfl ⟨_, _, _, _, _, _, _, _, _, rfl, by omega, by omega, D⟩
  · skip
    have hb4 : ∀ w, (Instr.buildSlice 23 3 #[(0, .int .i64 (-1)), (1, .int .i64 20), (2, .int .i64 21)]).run Try.prog w = .ok (.slice (some ⟨w.heap.size, 0, none⟩) 3 3) (w.alloc (.cells #[.int .i64 (-1), .int .i64 20, .int .i64 21] 2)) := fun _ => by kernel_rfl
    obtain ⟨V4, hV4, b4, bb4, -⟩ := boxed w4 2 #[.int .i64 (-1), .int .i64 20, .int .i64 21]
    have hp4 : p < w4.heap.size := R.cur.lt
    replace R := R.below bb4
    obtain ⟨q4, hq4⟩ : ∃ r, w4.heap.size = r := ⟨_, rfl⟩
    rw [hq4] at b4 hp4
    clear bb4
    go_wp2_with fail
    refine (below_dr R.st 3 (by omega) (by omega)).mono ?_
    rintro e w5 ⟨x9, rfl, x90, x91, hd⟩
    replace b4 := b4.keptP hd.1 (by omega)
    replace R := R.draw hd
    clear hd
    obtain ⟨i9, rfl⟩ : ∃ i9 : Nat, x9 = (i9 : Int) := ⟨x9.toNat, by omega⟩
    have c9 := lit_at (l := [-1, 20, 21]) b4 (i := i9) (by simp; omega)
    obtain ⟨y9, hy9⟩ : ∃ y, ([-1, 20, 21] : List Int).getD i9 0 = y := ⟨_, rfl⟩
    rw [hy9] at c9
    have hy : -1000 ≤ y9 ∧ y9 ≤ 1000 := by
      rcases (by omega : i9 = 0 ∨ i9 = 1 ∨ i9 = 2) with rfl | rfl | rfl <;> simp at hy9 <;> omega
    clear hy9
    replace D := D.kept R.kp (by omega) (by omega) (by omega)
    clear R
    go_wp2
    exact bodyPost_ret (v := .tuple #[.slice (some ⟨g, 0, none⟩) m c, .slice (some ⟨b, 0, none⟩) inp c2, .int .i64 y9]) (by simp [results, Try.results30, go_sem]) rfl ⟨_, _, _, _, _, _, _, _, _, rfl, hy.1, hy.2, D⟩
end Go.Proofs.Ytloailicdoknbaa
