/-
  Frames drawn, lists compared: for FnSqueezed. Walked.
-/
import Derived.Test.YtfgehmcloeebkaaZi
import Derived.Test.YtfgehmcloeebkaaZg
import Derived.Test.YtfgehmcloeebkaaYc2
import Derived.Test.YtfgehmcloeebkaaLa
import Derived.ArgAppend
namespace Go.Proofs.Ytfgehmcloeebkaa
open Go.RowKit

theorem Row.up {w w' : World} {a : Option Addr} {len : Nat} (h : Row w w.heap.size a len) (hb : Below w.heap.size w w') : Row w' w'.heap.size a len := by
  refine ⟨h.1, h.2.imp id ?_⟩
  rintro ⟨b, off, e, hlt, hc⟩
  refine ⟨b, off, e, Nat.lt_of_lt_of_le hlt hb.size, fun j hj => ?_⟩
  obtain ⟨n, h0, h1, h2⟩ := hc j hj
  exact ⟨n, h0, h1, (hb.cell (p := ⟨b, off + j, none⟩) hlt).trans h2⟩
theorem own_downZ {w : World} {B B' : Nat} {e : TypeId} {k : Nat} {v : Value} {n : Nat} {xs : List Value} (h : w.ownsRow B e k v n xs) (hB : B' ≤ B) : w.ownsRow B' e k v n xs := by
  refine ⟨h.1, h.2.imp id ?_⟩
  rintro ⟨g, cap, cur, e, h1, h2⟩
  exact ⟨g, cap, cur, e, Nat.le_trans hB h1, h2⟩
theorem own_putZ {w : World} {B q i : Nat} {e t : TypeId} {k : Nat} {v u : Value} {n : Nat} {xs : List Value} {vs : Array Value} (h : w.ownsRow B e k v n xs) (ha : At t w q vs) (ht : t ≠ e) : (w.setCell ⟨q, i, none⟩ u).ownsRow B e k v n xs := by
  refine ⟨h.1, h.2.imp id ?_⟩
  rintro ⟨g, cap, cur, rfl, h1, h2, h3⟩
  refine ⟨g, cap, cur, rfl, h1, (Below.heap_setCell _ _ _ _ (show g ≠ q from fun e => ?_)).trans h2, h3⟩
  subst e
  have e2 := ha.symm.trans h2
  simp only [Option.some.injEq, Obj.cells.injEq] at e2
  exact ht e2.2.1
/-- A frame that is drawn. -/
def DfP (w : World) (e : Ending) (w' : World) : Prop := ∃ W H v P, e = .returned (fV W H v) ∧ w'.ownsRow w.heap.size 2 1 v P.length (lI P) ∧ P.length ≤ 5000 ∧ Below w.heap.size w w'
set_option maxRecDepth 100000 in
set_option maxHeartbeats 1600000 in
theorem drawFrame_any {w : World} {a : Option Addr} {len cap : Nat} (hr : Row w w.heap.size a len) : Calls Try.prog 36 #[.slice a len cap] w (DfP w) := by
  obtain ⟨V, hV, b0, bW, -⟩ := boxed w 26 #[.int .i64 0, .int .i64 0, .slice none 0 0]
  have hlt := b0.lt
  go_enter Try.func36, Try.ntmps36
  go_wp2_with fail
  refine (new_any (hr.up bW)).mono ?_
  rintro e w1 ⟨rfl, bb, hc⟩
  replace b0 := b0.below bb
  have bW1 := bW.trans (bb.mono bW.size)
  clear hV bb
  obtain ⟨p, hp⟩ : ∃ p, V.heap.size = p := ⟨_, rfl⟩
  rw [hp] at hc hlt ⊢
  clear hp
  go_wp2_with fail
  refine (l12DrawAny_dr (w0 := w1) (Dr.start hc) (Nat.le_refl _)).mono ?_
  rintro e w2 ⟨W, H, v, P, rfl, hO, hP, hd⟩
  have b2 : At 26 w2 w.heap.size #[.int .i64 0, .int .i64 0, .slice none 0 0] := (hd.1.block _ b0.lt (by omega)).trans b0
  have hB : Below w.heap.size w w2 := bW1.trans (hd.1.below (by omega) bW1.size)
  have hO2 := own_downZ (B' := w.heap.size) hO bW1.size
  have a7 := put3_at b2 (.int .i64 W) (.int .i64 H) v
  have hO7 := own_putZ (i := 2) (u := v) (own_putZ (i := 1) (u := .int .i64 H) (own_putZ (i := 0) (u := .int .i64 W) hO2 b2 (by decide)) (b2.set 0 _) (by decide)) ((b2.set 0 _).set 1 _) (by decide)
  have hB7 := below_put3 hB (Nat.le_refl _) (.int .i64 W) (.int .i64 H) v
  obtain ⟨d0, d1, d2, f0, f1, f2⟩ := b2.open3
  obtain ⟨p0, p1, p2, -⟩ := a7.open3
  clear b0 hd hc hO hO2 a7 hB bW bW1
  generalize hW7 : ((w2.setCell ⟨w.heap.size, 0, none⟩ (.int .i64 W)).setCell ⟨w.heap.size, 1, none⟩ (.int .i64 H)).setCell ⟨w.heap.size, 2, none⟩ v = W7 at p0 p1 p2 hO7 hB7
  obtain ⟨av, cv', rfl⟩ : ∃ a c, v = .slice a P.length c := by
    rcases hO7.2 with ⟨h1, h2⟩ | ⟨g, c, cur, e, _⟩
    · exact ⟨none, 0, by rw [h1, h2]⟩
    · exact ⟨some ⟨g, 0, none⟩, c, e⟩
  go_wp2
  exact bodyPost_ret (v := fV W H (.slice av P.length cv')) (by simp [results, Try.results36, go_sem, p0, p1, p2]) rfl ⟨W, H, _, P, rfl, hO7, hP, hB7⟩
set_option maxRecDepth 100000 in
set_option maxHeartbeats 1600000 in
theorem drawSq_any {w : World} {a : Option Addr} {len cap : Nat} (hr : Row w w.heap.size a len) : Calls Try.prog 10 #[.slice a len cap] w (DfP w) := by
  obtain ⟨V, hV, b0, bW, -⟩ := boxed w 26 #[.int .i64 0, .int .i64 0, .slice none 0 0]
  go_enter Try.func10, Try.ntmps10
  go_wp2_with fail
  refine (drawFrame_any (hr.up bW)).mono ?_
  rintro e w2 ⟨W, H, v, P, rfl, hO, hP, bb⟩
  have b2 := b0.below bb
  have hB := bW.trans (bb.mono bW.size)
  have hO2 := own_downZ (B' := w.heap.size) hO bW.size
  have a7 := put3_at b2 (.int .i64 W) (.int .i64 H) v
  have hO7 := own_putZ (i := 2) (u := v) (own_putZ (i := 1) (u := .int .i64 H) (own_putZ (i := 0) (u := .int .i64 W) hO2 b2 (by decide)) (b2.set 0 _) (by decide)) ((b2.set 0 _).set 1 _) (by decide)
  have hB7 := below_put3 hB (Nat.le_refl _) (.int .i64 W) (.int .i64 H) v
  obtain ⟨d0, d1, d2, f0, f1, f2⟩ := b2.open3
  obtain ⟨p0, p1, p2, -⟩ := a7.open3
  clear b0 bb hO hO2 a7 hB bW hV
  generalize hW7 : ((w2.setCell ⟨w.heap.size, 0, none⟩ (.int .i64 W)).setCell ⟨w.heap.size, 1, none⟩ (.int .i64 H)).setCell ⟨w.heap.size, 2, none⟩ v = W7 at p0 p1 p2 hO7 hB7
  obtain ⟨av, cv', rfl⟩ : ∃ a c, v = .slice a P.length c := by
    rcases hO7.2 with ⟨h1, h2⟩ | ⟨g, c, cur, e, _⟩
    · exact ⟨none, 0, by rw [h1, h2]⟩
    · exact ⟨some ⟨g, 0, none⟩, c, e⟩
  go_wp2
  exact bodyPost_ret (v := fV W H (.slice av P.length cv')) (by simp [results, Try.results10, go_sem, p0, p1, p2]) rfl ⟨W, H, _, P, rfl, hO7, hP, hB7⟩
/-- Two lists with the same numbers are the same. -/
theorem sameSrc_true {w : World} {a1 a2 : Option Addr} {n c1 c2 : Nat} {f h : Nat → Int} (h1 : Src w a1 n f) (h2 : Src w a2 n h) (hfh : ∀ i, i < n → f i = h i) (hn : n ≤ 1048576) :
    Calls Try.prog 15 #[.slice a1 n c1, .slice a2 n c2] w fun e w' => e = .returned (.bool true) ∧ Below w.heap.size w w' := by
  go_enter Try.func15, Try.ntmps15
  go_wp2
  go_loopw [5] (fun s wr => ∃ k : Nat, k ≤ n ∧ s = .int .i64 k ∧ Below w.heap.size w wr) (fun s _ => n - (intOf s).toNat)
  case atStart => exact ⟨0, Nat.zero_le _, rfl, Below.refl _ _⟩
  case round =>
    obtain ⟨k, hk, rfl, hbel⟩ := hrel
    by_cases hlt : k < n
    · have hlt' : (k : Int) < (n : Int) := by omega
      have hk0 : (0 : Int) ≤ (k : Int) := by omega
      rcases h1 with h0 | ⟨g1, o1, rfl, l1, r1⟩
      · omega
      rcases h2 with h0 | ⟨g2, o2, rfl, l2, r2⟩
      · omega
      have a0 := (hbel.cell (p := ⟨g1, o1 + k, none⟩) l1).trans (r1 k hlt)
      have a2 := (hbel.cell (p := ⟨g2, o2 + k, none⟩) l2).trans (r2 k hlt)
      rw [hfh k hlt] at a0
      go_wp2
      go_quiet (fail)
      go_wp2
      go_roundw
      case rel => exact ⟨k + 1, by omega, by go_num, below_drewN hbel _⟩
      case measure => simp [intOf]; omega
    · have hlt' : ¬ (k : Int) < (n : Int) := by omega
      go_wp2
      go_ret
      exact ⟨rfl, hbel⟩
theorem srcOwn {w : World} {B : Nat} {a : Option Addr} {c : Nat} {P : List Int} (h : w.ownsRow B 2 1 (.slice a P.length c) P.length (lI P)) : Src w a P.length (fun i => P.getD i 0) := by
  rcases h.2 with ⟨e, e2⟩ | ⟨g, c', cur, e, hb, hh, hc1, hc2, hsz, ht⟩
  · exact .inl e2
  · cases e
    refine .inr ⟨g, 0, rfl, (Array.getElem?_eq_some_iff.1 hh).1, fun i hi => ?_⟩
    have a1 : (lI P)[i]? = some (.int .i64 (P.getD i 0)) := by simp [lI, hi]
    rw [← ht, List.getElem?_take_of_lt (by omega)] at a1
    rw [Nat.zero_add]
    simpa [World.cell?, hh] using a1
theorem srcMade {w : World} {g c n : Nat} {f : Nat → Int} (h : Made w g c n f) : Src w (some ⟨g, 0, none⟩) n f := by
  obtain ⟨cur, h1, h2, h3⟩ := h
  exact .inr ⟨g, 0, rfl, h1.lt, fun i hi => by rw [Nat.zero_add]; exact h1.cell i (h3 i hi)⟩
theorem infoU8 : (Try.prog.info? 5).map (fun i => (i.zero, i.size, i.bytes)) = some (some (.int .u8 0), 1, 1) := by kernel_rfl
theorem ownB_src {w : World} {B g c n : Nat} {L : List Int} (h : w.ownsRow B 5 1 (.slice (some ⟨g, 0, none⟩) n c) n (bCl L)) : n ≤ c ∧ c ≤ maxLen ∧ SrcB w (some ⟨g, 0, none⟩) n (fun i => L.getD i 0) := by
  have hl := h.1
  rcases h.2 with ⟨e, e2⟩ | ⟨g', c', cur, e, hb, hh, hc1, hc2, hsz, ht⟩
  · cases e
  · simp only [Value.slice.injEq, Option.some.injEq, Addr.mk.injEq] at e
    obtain ⟨⟨rfl, -, -⟩, -, rfl⟩ := e
    refine ⟨hc1, hc2, .inr ⟨g, 0, rfl, (Array.getElem?_eq_some_iff.1 hh).1, fun i hi => ?_⟩⟩
    rw [bCl_len] at hl
    have a1 : (bCl L)[i]? = some (.int .u8 (L.getD i 0)) := by
      have : i < L.length := by omega
      simp [bCl, this]
    rw [← ht, List.getElem?_take_of_lt (by omega)] at a1
    rw [Nat.zero_add]
    simpa [World.cell?, hh] using a1
end Go.Proofs.Ytfgehmcloeebkaa
