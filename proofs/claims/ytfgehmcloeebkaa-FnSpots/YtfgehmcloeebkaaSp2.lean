/-
  A frame and a level drawn: walked.
-/
import Derived.Test.YtfgehmcloeebkaaZj
namespace Go.Proofs.Ytfgehmcloeebkaa
open Go.RowKit

/-- A frame and a level. -/
def DsP (w : World) (e : Ending) (w' : World) : Prop := ∃ W H v P lv, e = .returned (.tuple #[fV W H v, .int .i64 lv]) ∧ w'.ownsRow w.heap.size 2 1 v P.length (lI P) ∧ P.length ≤ 5000 ∧ -10 ≤ lv ∧ lv ≤ 70000 ∧ Below w.heap.size w w'
theorem At.keptZ {t : TypeId} {w w' : World} {p q : Nat} {vs : Array Value} (h : At t w q vs) (hk : Kept p w w') (hq : q ≠ p) : At t w' q vs := (hk.block q h.lt hq).trans h
theorem own_keptZ {w w' : World} {B p : Nat} {e : TypeId} {k : Nat} {v : Value} {n : Nat} {xs : List Value} (h : w.ownsRow B e k v n xs) (hk : Kept p w w') (hp : p < B) : w'.ownsRow B e k v n xs := by
  refine ⟨h.1, h.2.imp id ?_⟩
  rintro ⟨g, cap, cur, rfl, h1, h2, h3⟩
  exact ⟨g, cap, cur, rfl, h1, (hk.block g (Array.getElem?_eq_some_iff.1 h2).1 (by omega)).trans h2, h3⟩
theorem own_belZ {w w' : World} {B : Nat} {e : TypeId} {k : Nat} {v : Value} {n : Nat} {xs : List Value} (h : w.ownsRow B e k v n xs) (hb : Below w.heap.size w w') : w'.ownsRow B e k v n xs := by
  refine ⟨h.1, h.2.imp id ?_⟩
  rintro ⟨g, cap, cur, rfl, h1, h2, h3⟩
  exact ⟨g, cap, cur, rfl, h1, (hb.block g (Array.getElem?_eq_some_iff.1 h2).1).trans h2, h3⟩
set_option maxRecDepth 100000 in
set_option maxHeartbeats 3200000 in
theorem drawSpots_any {w : World} {a : Option Addr} {len cap : Nat} (hr : Row w w.heap.size a len) : Calls Try.prog 16 #[.slice a len cap] w (DsP w) := by
  obtain ⟨V, hV, b0, bW, -⟩ := boxed w 26 #[.int .i64 0, .int .i64 0, .slice none 0 0]
  have hlt := b0.lt
  go_enter Try.func16, Try.ntmps16
  go_wp2_with fail
  refine (new_any (hr.up bW)).mono ?_
  rintro e w1 ⟨rfl, bb, hc⟩
  replace b0 := b0.below bb
  have bW1 := bW.trans (bb.mono bW.size)
  have hp1 : V.heap.size < w1.heap.size := hc.lt
  clear hV bb
  obtain ⟨p, hp⟩ : ∃ p, V.heap.size = p := ⟨_, rfl⟩
  rw [hp] at hc hlt hp1 ⊢
  clear hp
  go_wp2_with fail
  refine (l12DrawAny_dr (w0 := w1) (Dr.start hc) (Nat.le_refl _)).mono ?_
  rintro e w2 ⟨W, H, v, P, rfl, hO, hP, hd⟩
  have b2 : At 26 w2 w.heap.size #[.int .i64 0, .int .i64 0, .slice none 0 0] := (hd.1.block _ b0.lt (by omega)).trans b0
  have hB : Below w.heap.size w w2 := bW1.trans (hd.1.below (by omega) bW1.size)
  have hc2 := hd.2
  have hsz := hd.1.size
  obtain ⟨av, cv', rfl⟩ : ∃ a c, v = .slice a P.length c := by
    rcases hO.2 with ⟨h1, h2⟩ | ⟨g, c, cur, e, _⟩
    · exact ⟨none, 0, by rw [h1, h2]⟩
    · exact ⟨some ⟨g, 0, none⟩, c, e⟩
  clear b0 hd hc bW bW1
  obtain ⟨V3, hV3, b5, bb, -⟩ := boxed w2 26 #[.int .i64 W, .int .i64 H, .slice av P.length cv']
  replace b2 := b2.below bb
  replace hO := own_belZ hO bb
  replace hB := hB.trans (bb.mono hB.size)
  have D : Dr V3 p a len cap V3 := Dr.start (hc2.kept bb)
  have hq5 : p < w2.heap.size ∧ w.heap.size < w2.heap.size ∧ w1.heap.size ≤ w2.heap.size := by omega
  obtain ⟨q5, hq⟩ : ∃ q, w2.heap.size = q := ⟨_, rfl⟩
  rw [hq] at b5 hq5
  clear bb hc2 hsz
  go_wp2_with fail
  refine (below_dr D 5 (by omega) (by omega)).mono ?_
  rintro e w4 ⟨x, rfl, x0, x1, hd⟩
  replace b2 := b2.keptZ hd.1 (by omega)
  replace b5 := b5.keptZ hd.1 (by omega)
  replace hO := own_keptZ hO hd.1 hp1
  replace hB := hB.trans (hd.1.below (by omega) hB.size)
  replace D : Dr w4 p a len cap w4 := Dr.start hd.2
  clear hd hV3 hq
  go_wp2_with fail
  refine (once_dr D 12 (by omega) (by omega)).mono ?_
  rintro e w6 ⟨b1, rfl, hd⟩
  replace b2 := b2.keptZ hd.1 (by omega)
  replace b5 := b5.keptZ hd.1 (by omega)
  replace hO := own_keptZ hO hd.1 hp1
  replace hB := hB.trans (hd.1.below (by omega) hB.size)
  replace D : Dr w6 p a len cap w6 := Dr.start hd.2
  clear hd
  cases b1
  · skip
    have hO2 := own_downZ (B' := w.heap.size) hO (by omega)
    have a7 := put3_at b2 (.int .i64 W) (.int .i64 H) (.slice av P.length cv')
    have hO7 := own_putZ (i := 2) (u := .slice av P.length cv') (own_putZ (i := 1) (u := .int .i64 H) (own_putZ (i := 0) (u := .int .i64 W) hO2 b2 (by decide)) (b2.set 0 _) (by decide)) ((b2.set 0 _).set 1 _) (by decide)
    have hB7 := below_put3 hB (Nat.le_refl _) (.int .i64 W) (.int .i64 H) (.slice av P.length cv')
    obtain ⟨d0, d1, d2, f0, f1, f2⟩ := b2.open3
    obtain ⟨e0, e1, e2, -⟩ := b5.open3
    obtain ⟨p0, p1, p2, -⟩ := a7.open3
    clear hO hO2 a7 hB
    generalize hW7 : ((w6.setCell ⟨w.heap.size, 0, none⟩ (.int .i64 W)).setCell ⟨w.heap.size, 1, none⟩ (.int .i64 H)).setCell ⟨w.heap.size, 2, none⟩ (.slice av P.length cv') = W7 at p0 p1 p2 hO7 hB7
    go_wp2
    exact bodyPost_ret (v := .tuple #[fV W H (.slice av P.length cv'), .int .i64 ((1 + x))]) (by simp [results, Try.results16, go_sem, p0, p1, p2]) rfl ⟨W, H, _, P, _, rfl, hO7, hP, by omega, by omega, hB7⟩
  · obtain ⟨V7, hV7, t7, bb, -⟩ := boxed w6 2 #[.int .i64 0, .int .i64 (-1), .int .i64 65535, .int .i64 65536]
    have hb4 : ∀ w, (Instr.buildSlice 24 4 #[(0, .int .i64 0), (1, .int .i64 (-1)), (2, .int .i64 65535), (3, .int .i64 65536)]).run Try.prog w = .ok (.slice (some ⟨w.heap.size, 0, none⟩) 4 4) (w.alloc (.cells #[.int .i64 0, .int .i64 (-1), .int .i64 65535, .int .i64 65536] 2)) := fun _ => by kernel_rfl
    have h67 : p < w6.heap.size := D.2.lt
    replace b2 := b2.below bb
    replace b5 := b5.below bb
    replace hO := own_belZ hO bb
    replace hB := hB.trans (bb.mono hB.size)
    replace D : Dr V7 p a len cap V7 := Dr.start (D.2.kept bb)
    obtain ⟨q7, hq7⟩ : ∃ q, w6.heap.size = q := ⟨_, rfl⟩
    rw [hq7] at t7 h67
    clear bb
    go_wp2_with fail
    refine (below_dr D 4 (by omega) (by omega)).mono ?_
    rintro e w8 ⟨y, rfl, y0, y1, hd⟩
    replace b2 := b2.keptZ hd.1 (by omega)
    replace b5 := b5.keptZ hd.1 (by omega)
    replace t7 := t7.keptZ hd.1 (by omega)
    replace hO := own_keptZ hO hd.1 hp1
    replace hB := hB.trans (hd.1.below (by omega) hB.size)
    clear hd D hV7 hq7 hb4
    obtain ⟨Z, hZ, hZ0, hZ1⟩ : ∃ Z : Int, w8.cell? ⟨q7, y.toNat, none⟩ = some (.int .i64 Z) ∧ -1 ≤ Z ∧ Z ≤ 65536 := by
      rcases (by omega : y = 0 ∨ y = 1 ∨ y = 2 ∨ y = 3) with rfl | rfl | rfl | rfl
      · exact ⟨_, t7.cell 0 rfl, by omega, by omega⟩
      · exact ⟨_, t7.cell 1 rfl, by omega, by omega⟩
      · exact ⟨_, t7.cell 2 rfl, by omega, by omega⟩
      · exact ⟨_, t7.cell 3 rfl, by omega, by omega⟩
    have hO2 := own_downZ (B' := w.heap.size) hO (by omega)
    have a7 := put3_at b2 (.int .i64 W) (.int .i64 H) (.slice av P.length cv')
    have hO7 := own_putZ (i := 2) (u := .slice av P.length cv') (own_putZ (i := 1) (u := .int .i64 H) (own_putZ (i := 0) (u := .int .i64 W) hO2 b2 (by decide)) (b2.set 0 _) (by decide)) ((b2.set 0 _).set 1 _) (by decide)
    have hB7 := below_put3 hB (Nat.le_refl _) (.int .i64 W) (.int .i64 H) (.slice av P.length cv')
    obtain ⟨d0, d1, d2, f0, f1, f2⟩ := b2.open3
    obtain ⟨e0, e1, e2, -⟩ := b5.open3
    obtain ⟨p0, p1, p2, -⟩ := a7.open3
    clear hO hO2 a7 hB
    generalize hW7 : ((w8.setCell ⟨w.heap.size, 0, none⟩ (.int .i64 W)).setCell ⟨w.heap.size, 1, none⟩ (.int .i64 H)).setCell ⟨w.heap.size, 2, none⟩ (.slice av P.length cv') = W7 at p0 p1 p2 hO7 hB7
    go_wp2
    exact bodyPost_ret (v := .tuple #[fV W H (.slice av P.length cv'), .int .i64 (Z)]) (by simp [results, Try.results16, go_sem, p0, p1, p2]) rfl ⟨W, H, _, P, _, rfl, hO7, hP, by omega, by omega, hB7⟩
end Go.Proofs.Ytfgehmcloeebkaa
