/-
  Slopes back by the specification: walked.
-/
import Derived.Test.YtloailicdoknbaaH15a
import Derived.Test.YtloailicdoknbaaS15d
import Derived.StillTail
namespace Go.Proofs.Ytloailicdoknbaa
open Go.RowKit

theorem bk_inp {n inp : Nat} {f v : Nat → Int} {t i A : Nat} (hi : n - 1 - t = i) (h1 : f (i * 3) = 1) (h2 : f (i * 3 + 1) = (A : Int)) : bk n inp f v (t + 1) = upd (bk n inp f v t) A (mp (bk n inp f v t A + bk n inp f v t (inp + i))) := by
  rw [bk_one hi, h1, h2]
  simp [spM, bst, spF]
theorem bk_sum {n inp : Nat} {f v : Nat → Int} {t i A B : Nat} (hi : n - 1 - t = i) (h1 : f (i * 3) = 2) (h2 : f (i * 3 + 1) = (A : Int)) (h3 : f (i * 3 + 2) = (B : Int)) (D1 : Nat → Int) (hD : D1 = upd (bk n inp f v t) (inp + A) (mp (bk n inp f v t (inp + A) + bk n inp f v t (inp + i)))) : bk n inp f v (t + 1) = upd D1 (inp + B) (mp (D1 (inp + B) + bk n inp f v t (inp + i))) := by
  have a1 : ((inp : Int) + (A : Int)).toNat = inp + A := by omega
  have a2 : ((inp : Int) + (B : Int)).toNat = inp + B := by omega
  rw [bk_one hi, h1, h2, h3, hD]
  simp [spM, bst, spF, a1, a2]
theorem bk_prod {n inp : Nat} {f v : Nat → Int} {t i A B : Nat} (hi : n - 1 - t = i) (h1 : f (i * 3) = 3) (h2 : f (i * 3 + 1) = (A : Int)) (h3 : f (i * 3 + 2) = (B : Int)) (D1 : Nat → Int) (hD : D1 = upd (bk n inp f v t) (inp + A) (mp (bk n inp f v t (inp + A) + bk n inp f v t (inp + i) * v B))) : bk n inp f v (t + 1) = upd D1 (inp + B) (mp (D1 (inp + B) + bk n inp f v t (inp + i) * v A)) := by
  have a1 : ((inp : Int) + (A : Int)).toNat = inp + A := by omega
  have a2 : ((inp : Int) + (B : Int)).toNat = inp + B := by omega
  rw [bk_one hi, h1, h2, h3, hD]
  simp [spM, bst, spF, a1, a2]
theorem bk_min {n inp : Nat} {f v : Nat → Int} {t i A : Nat} (hi : n - 1 - t = i) (h1 : f (i * 3) = 4) (h2 : f (i * 3 + 1) = (A : Int)) : bk n inp f v (t + 1) = upd (bk n inp f v t) (inp + A) (mp (bk n inp f v t (inp + A) + 12289 - bk n inp f v t (inp + i))) := by
  have a1 : ((inp : Int) + (A : Int)).toNat = inp + A := by omega
  rw [bk_one hi, h1, h2, ← mp_minus]
  simp [spM, bst, spF, a1]
theorem bk_con {n inp : Nat} {f v : Nat → Int} {t i : Nat} (hi : n - 1 - t = i) (h1 : f (i * 3) = 5) : bk n inp f v (t + 1) = bk n inp f v t := by
  rw [bk_one hi, h1]
  simp [spM, bst]
theorem made_congr {w : World} {g c m : Nat} {x y : Nat → Int} (h : Made w g c m x) (e : ∀ j, j < m → x j = y j) : Made w g c m y := by
  obtain ⟨cur, h1, h2, h3⟩ := h
  exact ⟨cur, h1, h2, fun j hj => by rw [← e j hj]; exact h3 j hj⟩
theorem made_other {w : World} {g c m q i : Nat} {x : Nat → Int} (h : Made w g c m x) (hq : g ≠ q) (u : Value) : Made (w.setCell ⟨q, i, none⟩ u) g c m x := by
  obtain ⟨cur, h1, h2, h3⟩ := h
  exact ⟨cur, h1.setOther hq u, h2, h3⟩
/-- How the specification's two lists stand, and its values. -/
structure Bs (w wr : World) (qo qw gv inp n : Nat) (v D : Nat → Int) : Prop where
  mo : Made wr qo inp inp D
  mw : Made wr qw n n (fun j => D (inp + j))
  vi : Ints wr gv 0 n v
  vl : gv < wr.heap.size
  b : Below w.heap.size w wr
  h1 : w.heap.size ≤ qo
  h2 : w.heap.size ≤ qw
  h3 : qo ≠ qw
  h4 : gv ≠ qo
  h5 : gv ≠ qw
theorem Bs.below {w w1 w2 : World} {qo qw gv inp n : Nat} {v D : Nat → Int} (h : Bs w w1 qo qw gv inp n v D) (hb : Below w1.heap.size w1 w2) : Bs w w2 qo qw gv inp n v D :=
  ⟨made_below h.mo hb, made_below h.mw hb, h.vi.below h.vl hb, Nat.lt_of_lt_of_le h.vl hb.size, h.b.trans (hb.mono h.b.size), h.h1, h.h2, h.h3, h.h4, h.h5⟩
theorem ints_other {w : World} {g n q i : Nat} {x : Nat → Int} (h : Ints w g 0 n x) (hq : g ≠ q) (u : Value) : Ints (w.setCell ⟨q, i, none⟩ u) g 0 n x := fun j hj => by
  rw [World.cell?_of_block (w := w) (Below.heap_setCell _ _ _ _ hq)]
  exact h j hj
theorem Bs.putO {w w1 : World} {qo qw gv inp n : Nat} {v D : Nat → Int} (h : Bs w w1 qo qw gv inp n v D) {A : Nat} (hA : A < inp) (z : Int) : Bs w (w1.setCell ⟨qo, A, none⟩ (.int .i64 z)) qo qw gv inp n v (upd D A z) :=
  ⟨made_upd h.mo A z (Nat.le_refl _), made_congr (made_other h.mw (fun e => h.h3 e.symm) _) (fun j _ => by show D (inp + j) = upd D A z (inp + j); rw [upd, if_neg (by omega)]), ints_other h.vi h.h4 _, by simpa [World.setCell] using h.vl, h.b.setCell (p := ⟨qo, A, none⟩) h.h1 _, h.h1, h.h2, h.h3, h.h4, h.h5⟩
theorem Bs.putW {w w1 : World} {qo qw gv inp n : Nat} {v D : Nat → Int} (h : Bs w w1 qo qw gv inp n v D) (A : Nat) (z : Int) : Bs w (w1.setCell ⟨qw, A, none⟩ (.int .i64 z)) qo qw gv inp n v (upd D (inp + A) z) :=
  ⟨made_congr (made_other h.mo h.h3 _) (fun j hj => by rw [upd, if_neg (by omega)]), made_congr (made_upd h.mw A z (Nat.le_refl _)) (fun j _ => by show upd (fun j => D (inp + j)) A z j = upd D (inp + A) z (inp + j); unfold upd; by_cases e : j = A <;> simp [e]), ints_other h.vi h.h5 _, by simpa [World.setCell] using h.vl, h.b.setCell (p := ⟨qw, A, none⟩) h.h2 _, h.h1, h.h2, h.h3, h.h4, h.h5⟩
end Go.Proofs.Ytloailicdoknbaa
