/-
  Products of cyclotomic numbers by the program: walked.
-/
import Derived.Test.YtbninbeccgdemaaDoorMm
namespace Go.Proofs.YtbninbeccgdemaaDoor
open Go.RowKit

def big (x : Int) : Prop := -6000000000000000000 ≤ x ∧ x ≤ 6000000000000000000
theorem joined_any (h l : Int) (w : World) (hh : big h) (hl : big l) : Calls Tryd.prog 65 #[.int .i64 h, .int .i64 l] w fun e w' => e = .returned (.int .i64 (jn h l)) ∧ w = w' := by
  obtain ⟨h1, h2⟩ := hh
  obtain ⟨l1, l2⟩ := hl
  have D := fun w => qdown_any l 1000000 w ⟨by omega, by omega⟩ (by omega)
  have M := fun w => modulo_any l 1000000 w ⟨by omega, by omega⟩ (by omega)
  have k1 : IntKind.i64.wrap (h + l / 1000000) = h + l / 1000000 := by rw [IntKind.wrap_i64]; omega
  have D1 : -6000000000000 ≤ l / 1000000 ∧ l / 1000000 ≤ 6000000000000 := by omega
  have D2 : 0 ≤ l % 1000000 ∧ l % 1000000 < 1000000 := by omega
  have HJ : Hid (jn h l = min (max (h + l / 1000000) (-2000000)) 2000000 * 1000000 + l % 1000000) := rfl
  generalize l / 1000000 = lq at *
  generalize l % 1000000 = lr at *
  clear l1 l2
  go_enter Tryd.func65, Tryd.ntmps65
  go_wp2_with fail
  refine (D _).mono ?_
  rintro e w2 ⟨rfl, rfl⟩
  go_wp2_with (go_at_call 62; refine (M _).mono ?_; rintro e w2 ⟨rfl, rfl⟩)
  all_goals
    go_ret
    refine ⟨?_, rfl⟩
    rw [HJ.out]
    show Ending.returned (Value.int IntKind.i64 _) = _
    congr 2
    omega
theorem tabd_set {w : World} {q i : Nat} (h : Tab w) (hq : q ≠ 0) (v : Value) (d : Nat) : Tab ((w.setCell ⟨q, i, none⟩ v).drewN d) :=
  ⟨by simp [World.setCell, World.drewN]; exact h.1, fun j hj => (World.cell?_of_block (w := w) (Below.heap_setCell _ _ _ _ (Ne.symm hq))).trans (h.2 j hj)⟩
/-- The items of a product. -/
def itm (a b c d x y z u : Int) (t : Nat) : Int := pt a b c d (t / 4) * pt x y z u (t % 4)
set_option maxHeartbeats 1600000 in
theorem times_any (a b c d x y z u : Int) (w : World) (ht : Tab w) (hx : ∀ j, j < 4 → -1000000 ≤ pt a b c d j ∧ pt a b c d j ≤ 1000000) (hy : ∀ j, j < 4 → -1000000000000 ≤ pt x y z u j ∧ pt x y z u j ≤ 1000000000000) :
    Calls Tryd.prog 43 #[cV a b c d, cV x y z u] w fun e w' => e = .returned (cV (mulN (pt a b c d) (pt x y z u) 0) (mulN (pt a b c d) (pt x y z u) 1) (mulN (pt a b c d) (pt x y z u) 2) (mulN (pt a b c d) (pt x y z u) 3)) ∧ Below w.heap.size w w' := by
  obtain ⟨W, hW, b0, b1, b2, bW, sW⟩ := boxed3 w 33 33 33 #[.int .i64 a, .int .i64 b, .int .i64 c, .int .i64 d] #[.int .i64 x, .int .i64 y, .int .i64 z, .int .i64 u] #[.int .i64 0, .int .i64 0, .int .i64 0, .int .i64 0]
  obtain ⟨V, hV, b3, bV, -⟩ := boxed W 60 #[.int .i64 0, .int .i64 0, .int .i64 0, .int .i64 0, .int .i64 0, .int .i64 0, .int .i64 0, .int .i64 0, .int .i64 0, .int .i64 0, .int .i64 0, .int .i64 0]
  have t := (ht.below bW).below bV
  replace b0 := b0.below bV
  replace b1 := b1.below bV
  replace b2 := b2.below bV
  replace bW := bW.trans (bV.mono bW.size)
  obtain ⟨q, hq⟩ : ∃ q, W.heap.size = q := ⟨_, rfl⟩
  rw [hq] at b3 sW
  obtain ⟨c0, c1, c2, c3, -⟩ := b0.open4
  go_enter Tryd.func43, Tryd.ntmps43
  go_wp2_with (go_at_call 44; refine (numbers_any _ _ _ _ _).mono ?_; rintro e w3 ⟨rfl, hb3⟩)
  replace b1 := b1.below hb3
  replace b2 := b2.below hb3
  replace b3 := b3.below hb3
  replace t := t.below hb3
  replace bW := bW.trans (hb3.mono bW.size)
  clear hb3 hV hW bV ht b0 c0 c1 c2 c3 hq
  go_loopw [12] (fun s wr => ∃ i : Nat, i ≤ 4 ∧ s = .int .i64 i ∧ At 60 wr q (a12 (cnt (itm a b c d x y z u) pp (4 * i))) ∧ At 33 wr (w.heap.size + 1) #[.int .i64 x, .int .i64 y, .int .i64 z, .int .i64 u] ∧ At 33 wr (w.heap.size + 2) #[.int .i64 0, .int .i64 0, .int .i64 0, .int .i64 0] ∧ Tab wr ∧ Below w.heap.size w wr) (fun s _ => 4 - (intOf s).toNat)
  case atStart => exact ⟨0, Nat.zero_le _, rfl, b3, b1, b2, t, bW⟩
  case round =>
    clear b1 b2 b3 t bW
    obtain ⟨i, hi, rfl, b3, b1, b2, t, bW⟩ := hrel
    by_cases hlt : i < 4
    · have hlt' : (i : Int) < 4 := by omega
      have hix := fun w => ix4 a b c d i hlt w
      obtain ⟨c0, c1, c2, c3, -⟩ := b1.open4
      go_wp2_with (go_at_call 44; refine (numbers_any _ _ _ _ _).mono ?_; rintro e w4 ⟨rfl, hb4⟩)
      replace b1 := b1.below hb4
      replace b2 := b2.below hb4
      replace b3 := b3.below hb4
      replace t := t.below hb4
      replace bW := bW.trans (hb4.mono bW.size)
      clear hb4 c0 c1 c2 c3 hix
      go_loopw [18] (fun s wi => ∃ j : Nat, j ≤ 4 ∧ s = .int .i64 j ∧ At 60 wi q (a12 (cnt (itm a b c d x y z u) pp (4 * i + j))) ∧ At 33 wi (w.heap.size + 1) #[.int .i64 x, .int .i64 y, .int .i64 z, .int .i64 u] ∧ At 33 wi (w.heap.size + 2) #[.int .i64 0, .int .i64 0, .int .i64 0, .int .i64 0] ∧ Tab wi ∧ Below w.heap.size w wi) (fun s _ => 4 - (intOf s).toNat)
      case atStart => exact ⟨0, Nat.zero_le _, rfl, b3, b1, b2, t, bW⟩
      case round =>
        clear b1 b2 b3 t bW
        obtain ⟨j, hj, rfl, b3, b1, b2, t, bW⟩ := hrel
        by_cases hlj : j < 4
        · have hlj' : (j : Int) < 4 := by omega
          have hix := fun w => ix4 x y z u j hlj w
          have hpp : pp (4 * i + j) = i + j := by unfold pp; omega
          have hit : itm a b c d x y z u (4 * i + j) = pt a b c d i * pt x y z u j := by
            unfold itm
            rw [show (4 * i + j) / 4 = i by omega, show (4 * i + j) % 4 = j by omega]
          have hset := cnt_set (itm a b c d x y z u) pp (4 * i + j) (by omega)
          rw [hpp, hit] at hset
          have hnum : -4000000000000000000 ≤ cnt (itm a b c d x y z u) pp (4 * i + j) (i + j) ∧ cnt (itm a b c d x y z u) pp (4 * i + j) (i + j) ≤ 4000000000000000000 := mul_cnt hx hy (4 * i + j) (by omega) (i + j) (by omega)
          have hpr := prod_le (hx i hlt) (hy j hlj)
          have A := add_any (w := wr) (q := q) (i + j) ((i : Int) + (j : Int)) (pt a b c d i * pt x y z u j) (cnt (itm a b c d x y z u) pp (4 * i + j) (i + j)) ⟨by omega, by omega⟩ (by omega) (by omega) ⟨by omega, by omega⟩ b3 (a12_get _ _ (by omega))
          have HS : Hid ((a12 (cnt (itm a b c d x y z u) pp (4 * i + j))).setIfInBounds (i + j) (.int .i64 (cnt (itm a b c d x y z u) pp (4 * i + j) (i + j) + pt a b c d i * pt x y z u j)) = a12 (cnt (itm a b c d x y z u) pp (4 * i + j + 1))) := hset
          have H3 : Hid (At 60 wr q (a12 (cnt (itm a b c d x y z u) pp (4 * i + j)))) := b3
          clear hset b3 hnum hit hpp
          go_wp2_with (go_at_call 34; refine A.mono ?_; rintro e w5 ⟨rfl, dd, rfl⟩)
          refine ⟨⟨j + 1, by omega, by go_num, ?_, b1.setOther (by omega) _, b2.setOther (by omega) _, tabd_set t (by omega) _ dd, below_drewN (bW.setCell (by show _ ≤ q; omega) _) _⟩, by simp [intOf]; omega⟩
          have := H3.out.set (i + j) (.int .i64 (cnt (itm a b c d x y z u) pp (4 * i + j) (i + j) + pt a b c d i * pt x y z u j))
          rw [HS.out] at this
          exact this
        · have hlj' : ¬ (j : Int) < 4 := by omega
          obtain rfl : j = 4 := by omega
          go_wp2
          exact ⟨⟨i + 1, by omega, by go_num, b3, b1, b2, t, bW⟩, by simp [intOf]; omega⟩
    · have hlt' : ¬ (i : Int) < 4 := by omega
      obtain rfl : i = 4 := by omega
      have C := fun (w' : World) (h : Tab w') => cyc_any (w := w') (cnt (itm a b c d x y z u) pp 16) h (fun k hk => by have h1 : -4000000000000000000 ≤ cnt (itm a b c d x y z u) pp 16 k ∧ cnt (itm a b c d x y z u) pp 16 k ≤ 4000000000000000000 := mul_cnt hx hy 16 (by omega) k hk; omega) (mul_sums hx hy)
      have cs := fun i => cnt_sum (itm a b c d x y z u) pp i 16 (fun j hj => by unfold pp; omega)
      rw [cs 0, cs 1, cs 2, cs 3] at C
      clear cs
      have g0 := b3.cell 0 (a12_get (cnt (itm a b c d x y z u) pp 16) 0 (by decide))
      have g1 := b3.cell 1 (a12_get (cnt (itm a b c d x y z u) pp 16) 1 (by decide))
      have g2 := b3.cell 2 (a12_get (cnt (itm a b c d x y z u) pp 16) 2 (by decide))
      have g3 := b3.cell 3 (a12_get (cnt (itm a b c d x y z u) pp 16) 3 (by decide))
      have g4 := b3.cell 4 (a12_get (cnt (itm a b c d x y z u) pp 16) 4 (by decide))
      have g5 := b3.cell 5 (a12_get (cnt (itm a b c d x y z u) pp 16) 5 (by decide))
      have g6 := b3.cell 6 (a12_get (cnt (itm a b c d x y z u) pp 16) 6 (by decide))
      have g7 := b3.cell 7 (a12_get (cnt (itm a b c d x y z u) pp 16) 7 (by decide))
      have g8 := b3.cell 8 (a12_get (cnt (itm a b c d x y z u) pp 16) 8 (by decide))
      have g9 := b3.cell 9 (a12_get (cnt (itm a b c d x y z u) pp 16) 9 (by decide))
      have g10 := b3.cell 10 (a12_get (cnt (itm a b c d x y z u) pp 16) 10 (by decide))
      have g11 := b3.cell 11 (a12_get (cnt (itm a b c d x y z u) pp 16) 11 (by decide))
      go_wp2_with (fail)
      refine (C _ t).mono ?_
      rintro e w5 ⟨rfl, hb5⟩
      replace b2 := b2.below hb5
      replace bW := bW.trans (hb5.mono bW.size)
      clear hb5 C g0 g1 g2 g3 g4 g5 g6 g7 g8 g9 g10 g11 b3 t b1
      obtain ⟨d0, d1, d2, d3, f0, f1, f2, f3⟩ := b2.open4
      go_wp2
      all_goals first
        | contradiction
        | (obtain ⟨p0, p1, p2, p3, -⟩ := (put4_at b2 (.int .i64 (es (itm a b c d x y z u) pp 0 16)) (.int .i64 (es (itm a b c d x y z u) pp 1 16)) (.int .i64 (es (itm a b c d x y z u) pp 2 16)) (.int .i64 (es (itm a b c d x y z u) pp 3 16))).open4
           exact bodyPost_ret (v := cV (es (itm a b c d x y z u) pp 0 16) (es (itm a b c d x y z u) pp 1 16) (es (itm a b c d x y z u) pp 2 16) (es (itm a b c d x y z u) pp 3 16)) (by simp [results, Tryd.results43, go_sem, p0, p1, p2, p3]) rfl ⟨rfl, below_put4 bW (by omega) _ _ _ _⟩)
end Go.Proofs.YtbninbeccgdemaaDoor
