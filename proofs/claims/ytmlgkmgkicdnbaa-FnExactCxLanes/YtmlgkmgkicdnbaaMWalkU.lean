/-
  The program's sum in lanes, walked.
-/
import Derived.Test.YtmlgkmgkicdnbaaMLanes
import Derived.Test.YtmlgkmgkicdnbaaMWalkP
namespace Go.Proofs.Ytmlgkmgkicdnbaa
open Go.RowKit Fl

/-- A row of complex numbers at block b from off on. -/
def CxRow (w : World) (b off n : Nat) (f : Nat → Nat × Nat) : Prop :=
  ∀ i, i < n → w.cell? ⟨b, off + i * 2, none⟩ = some (.float .f64 (f i).1) ∧ w.cell? ⟨b, off + i * 2 + 1, none⟩ = some (.float .f64 (f i).2)
theorem run_cadd {P : Program} (t : TypeId) (a b c d : Nat) (w : World) : (binOp .add t (.complex .f64 a b) (.complex .f64 c d)).run P w = .ok (.complex .f64 (fv .add .f64 a c w) (fv .add .f64 b d (w.drewN (fd .add .f64 a c)))) (w.drewN (fd .add .f64 a c + fd .add .f64 b d)) := by
  have h : ∀ (x y : Nat) (w : World), (Op.Complex.arith .add .f64 x y).run P w = .ok (fv .add .f64 x y w) (w.drewN (fd .add .f64 x y)) := by
    intro x y w
    have h1 : (Op.floatArith .add .f64 x y).run P w = .ok (.float .f64 (fv .add .f64 x y w)) (w.drewN (fd .add .f64 x y)) := by
      have := run_fadd (P := P) t .f64 x y w
      simpa [binOp] using this
    simp [Op.Complex.arith, h1]
  simp [binOp, Op.complexOp, h]
/-- The four lanes in block q. -/
def LanesAt (w : World) (q : Nat) (c0 c1 c2 c3 : Nat × Nat) : Prop :=
  w.heap[q]? = some (.cells #[.complex .f64 c0.1 c0.2, .complex .f64 c1.1 c1.2, .complex .f64 c2.1 c2.2, .complex .f64 c3.1 c3.2] 57)
theorem LanesAt.open {w : World} {q : Nat} {c0 c1 c2 c3 : Nat × Nat} (h : LanesAt w q c0 c1 c2 c3) :
    (w.cell? ⟨q, 0, none⟩ = some (.complex .f64 c0.1 c0.2) ∧ w.cell? ⟨q, 1, none⟩ = some (.complex .f64 c1.1 c1.2) ∧ w.cell? ⟨q, 2, none⟩ = some (.complex .f64 c2.1 c2.2) ∧ w.cell? ⟨q, 3, none⟩ = some (.complex .f64 c3.1 c3.2)) ∧
    (w.frozen? ⟨q, 0, none⟩ = false ∧ w.frozen? ⟨q, 1, none⟩ = false ∧ w.frozen? ⟨q, 2, none⟩ = false ∧ w.frozen? ⟨q, 3, none⟩ = false) := by
  simp [World.cell?, World.frozen?, show w.heap[q]? = _ from h]
theorem LanesAt.below {w w' : World} {q : Nat} {c0 c1 c2 c3 : Nat × Nat} (h : LanesAt w q c0 c1 c2 c3) (hb : Below w.drew.heap.size w.drew w') : LanesAt w' q c0 c1 c2 c3 := (hb.block q (Array.getElem?_eq_some_iff.1 h).1).trans h
theorem LanesAt.set0 {w : World} {q : Nat} {c0 c1 c2 c3 : Nat × Nat} (h : LanesAt w q c0 c1 c2 c3) (a b : Nat) : LanesAt (w.setCell ⟨q, 0, none⟩ (.complex .f64 a b)) q (a, b) c1 c2 c3 := by
  simp [LanesAt, World.setCell, Array.getElem?_modify, show w.heap[q]? = _ from h]
theorem LanesAt.set1 {w : World} {q : Nat} {c0 c1 c2 c3 : Nat × Nat} (h : LanesAt w q c0 c1 c2 c3) (a b : Nat) : LanesAt (w.setCell ⟨q, 1, none⟩ (.complex .f64 a b)) q c0 (a, b) c2 c3 := by
  simp [LanesAt, World.setCell, Array.getElem?_modify, show w.heap[q]? = _ from h]
theorem LanesAt.set2 {w : World} {q : Nat} {c0 c1 c2 c3 : Nat × Nat} (h : LanesAt w q c0 c1 c2 c3) (a b : Nat) : LanesAt (w.setCell ⟨q, 2, none⟩ (.complex .f64 a b)) q c0 c1 (a, b) c3 := by
  simp [LanesAt, World.setCell, Array.getElem?_modify, show w.heap[q]? = _ from h]
theorem LanesAt.set3 {w : World} {q : Nat} {c0 c1 c2 c3 : Nat × Nat} (h : LanesAt w q c0 c1 c2 c3) (a b : Nat) : LanesAt (w.setCell ⟨q, 3, none⟩ (.complex .f64 a b)) q c0 c1 c2 (a, b) := by
  simp [LanesAt, World.setCell, Array.getElem?_modify, show w.heap[q]? = _ from h]
theorem Box.setOther {w : World} {p q i : Nat} {v0 v1 v : Value} (h : Box w q v0 v1) (hq : q ≠ p) : Box (w.setCell ⟨p, i, none⟩ v) q v0 v1 := (Below.heap_setCell _ _ _ _ hq).trans h
theorem lane_hit {f : Nat → Nat × Nat} {k j : Nat} (h : k % 4 = j) : lane f (k + 1) j = addp (lane f k j) (abp (f k)) := by
  show (if k % 4 = j then _ else _) = _
  rw [if_pos h]
theorem lane_miss {f : Nat → Nat × Nat} {k j : Nat} (h : k % 4 ≠ j) : lane f (k + 1) j = lane f k j := by
  show (if k % 4 = j then _ else _) = _
  rw [if_neg h]
theorem ab_fv (op : BinOp) (k : FloatKind) (x y : Nat) (w : World) : ab k (fv op k x y w) = opO op k (ab k x) (ab k y) := (fv_FR op k x y w).ab_eq
theorem join_any (a0 b0 a1 b1 a2 b2 a3 b3 : Nat) (w : World) :
    Calls Try.prog 31 #[.agg #[.complex .f64 a0 b0, .complex .f64 a1 b1, .complex .f64 a2 b2, .complex .f64 a3 b3]] w fun e w' => ∃ re im, e = .returned (.complex .f64 re im) ∧ (ab .f64 re, ab .f64 im) = addp (addp (abp (a0, b0)) (abp (a1, b1))) (addp (abp (a2, b2)) (abp (a3, b3))) ∧ Below w.heap.size w w' := by
  have hca := @run_cadd Try.prog
  go_enter Try.func31, Try.ntmps31
  go_wp2
  go_ret
  trace_state
  exact ⟨_, _, rfl, by simp only [ab_fv, addp, abp], below_drewN (below_alloc _ _) _⟩
set_option maxHeartbeats 1600000 in
theorem lanes_any {w : World} {b off n cap : Nat} {f : Nat → Nat × Nat} (hr : CxRow w b off n f) (hb : b < w.heap.size) (hn : n ≤ 4096) :
    Calls Try.prog 8 #[.slice (some ⟨b, off, none⟩) n cap] w fun e w' => ∃ re im, e = .returned (.agg #[.float .f64 re, .float .f64 im]) ∧ (ab .f64 re, ab .f64 im) = total f n ∧ Below w.heap.size w w' := by
  have hca := @run_cadd Try.prog
  have hn1 : ¬ (4096 : Int) < (n : Int) := by omega
  go_enter Try.func8, Try.ntmps8
  go_wp2
  have b0 : Box ((w.alloc (.cells #[.float .f64 0, .float .f64 0] 28)).alloc (.cells #[.complex .f64 0 0, .complex .f64 0 0, .complex .f64 0 0, .complex .f64 0 0] 57)) w.heap.size (.float .f64 0) (.float .f64 0) := (box_new _ _ _).below (below_alloc _ _)
  have l0 : LanesAt ((w.alloc (.cells #[.float .f64 0, .float .f64 0] 28)).alloc (.cells #[.complex .f64 0 0, .complex .f64 0 0, .complex .f64 0 0, .complex .f64 0 0] 57)) (w.heap.size + 1) (0, 0) (0, 0) (0, 0) (0, 0) := by
    have := heap_alloc_new (w.alloc (.cells #[.float .f64 0, .float .f64 0] 28)) (.cells #[.complex .f64 0 0, .complex .f64 0 0, .complex .f64 0 0, .complex .f64 0 0] 57)
    simpa [LanesAt] using this
  have B0 : Below w.heap.size w ((w.alloc (.cells #[.float .f64 0, .float .f64 0] 28)).alloc (.cells #[.complex .f64 0 0, .complex .f64 0 0, .complex .f64 0 0, .complex .f64 0 0] 57)) := (below_alloc _ _).trans ((below_alloc _ _).mono (by simp))
  go_loopw [11] (fun s wr => ∃ (k : Nat) (c0 c1 c2 c3 : Nat × Nat), k ≤ n ∧ s = .int .i64 k ∧ LanesAt wr (w.heap.size + 1) c0 c1 c2 c3 ∧ (abp c0 = lane f k 0 ∧ abp c1 = lane f k 1 ∧ abp c2 = lane f k 2 ∧ abp c3 = lane f k 3) ∧ Box wr w.heap.size (.float .f64 0) (.float .f64 0) ∧ Below w.heap.size w wr) (fun s _ => n - (intOf s).toNat)
  case atStart => exact ⟨0, (0, 0), (0, 0), (0, 0), (0, 0), Nat.zero_le _, rfl, l0, ⟨abp_zero, abp_zero, abp_zero, abp_zero⟩, b0, B0⟩
  case round =>
    clear b0 l0 B0
    obtain ⟨k, c0, c1, c2, c3, hk, rfl, hl, ha, hbox, hbel⟩ := hrel
    by_cases hlt : k < n
    · have hlt' : (k : Int) < (n : Int) := by omega
      obtain ⟨g0, g1⟩ := hr k hlt
      replace g0 := (hbel.cell (p := ⟨b, off + k * 2, none⟩) hb).trans g0
      replace g1 := (hbel.cell (p := ⟨b, off + k * 2 + 1, none⟩) hb).trans g1
      obtain ⟨⟨e0, e1, e2, e3⟩, ⟨f0, f1, f2, f3⟩⟩ := hl.open
      have hq1 : w.heap.size + 1 < wr.heap.size := (Array.getElem?_eq_some_iff.1 hl).1
      have hk4 : k % 4 = 0 ∨ k % 4 = 1 ∨ k % 4 = 2 ∨ k % 4 = 3 := by omega
      have HL : Hid (LanesAt wr (w.heap.size + 1) c0 c1 c2 c3) := hl
      have HBX : Hid (Box wr w.heap.size (.float .f64 0) (.float .f64 0)) := hbox
      have HA : Hid (abp c0 = lane f k 0 ∧ abp c1 = lane f k 1 ∧ abp c2 = lane f k 2 ∧ abp c3 = lane f k 3) := ha
      clear hl hbox ha
      rcases hk4 with h4 | h4 | h4 | h4
      · have h4' : (k : Int) % 4 = 0 := by omega
        have H4 : Hid (k % 4 = 0) := h4
        clear h4
        have hk0 : (0 : Int) ≤ (k : Int) := by omega
        have hk1 : (k : Int) ≤ 4096 := by omega
        have hmod : (k : Int).tmod 4 = 0 := by rw [Int.tmod_eq_emod_of_nonneg (by omega)]; exact h4'
        go_wp2
        go_region_with (go_at_call 29; refine (wideOf_any _ _ _).mono ?_; rintro e w2 ⟨rfl, hb2⟩; have z0 := (hb2.cell (p := ⟨w.heap.size + 1, 0, none⟩) hq1).trans e0; have y0 := (hb2.frozen (p := ⟨w.heap.size + 1, 0, none⟩) hq1).trans f0)
        all_goals
          go_wp2
          go_roundw
          case rel =>
            refine ⟨k + 1, (_, _), c1, c2, c3, by omega, by go_num, (HL.out.below hb2).set0 _ _, ⟨by rw [lane_hit H4.out, ← HA.out.1]; simp only [abp, addp, ab_fv], HA.out.2.1.trans (lane_miss (by rw [H4.out]; decide)).symm, HA.out.2.2.1.trans (lane_miss (by rw [H4.out]; decide)).symm, HA.out.2.2.2.trans (lane_miss (by rw [H4.out]; decide)).symm⟩, ((Box.below (w := wr.drew) HBX.out hb2).setOther (by omega)), ?_⟩
            exact below_drewN ((hbel.drew.trans (hb2.mono hbel.size)).setCell (Nat.le_succ _) _) _
          case measure => simp [intOf]; omega
      · have h4' : (k : Int) % 4 = 1 := by omega
        have H4 : Hid (k % 4 = 1) := h4
        clear h4
        have hk0 : (0 : Int) ≤ (k : Int) := by omega
        have hk1 : (k : Int) ≤ 4096 := by omega
        have hmod : (k : Int).tmod 4 = 1 := by rw [Int.tmod_eq_emod_of_nonneg (by omega)]; exact h4'
        go_wp2
        go_region_with (go_at_call 29; refine (wideOf_any _ _ _).mono ?_; rintro e w2 ⟨rfl, hb2⟩; have z0 := (hb2.cell (p := ⟨w.heap.size + 1, 1, none⟩) hq1).trans e1; have y0 := (hb2.frozen (p := ⟨w.heap.size + 1, 1, none⟩) hq1).trans f1)
        all_goals
          go_wp2
          go_roundw
          case rel =>
            refine ⟨k + 1, c0, (_, _), c2, c3, by omega, by go_num, (HL.out.below hb2).set1 _ _, ⟨HA.out.1.trans (lane_miss (by rw [H4.out]; decide)).symm, by rw [lane_hit H4.out, ← HA.out.2.1]; simp only [abp, addp, ab_fv], HA.out.2.2.1.trans (lane_miss (by rw [H4.out]; decide)).symm, HA.out.2.2.2.trans (lane_miss (by rw [H4.out]; decide)).symm⟩, ((Box.below (w := wr.drew) HBX.out hb2).setOther (by omega)), ?_⟩
            exact below_drewN ((hbel.drew.trans (hb2.mono hbel.size)).setCell (Nat.le_succ _) _) _
          case measure => simp [intOf]; omega
      · have h4' : (k : Int) % 4 = 2 := by omega
        have H4 : Hid (k % 4 = 2) := h4
        clear h4
        have hk0 : (0 : Int) ≤ (k : Int) := by omega
        have hk1 : (k : Int) ≤ 4096 := by omega
        have hmod : (k : Int).tmod 4 = 2 := by rw [Int.tmod_eq_emod_of_nonneg (by omega)]; exact h4'
        go_wp2
        go_region_with (go_at_call 29; refine (wideOf_any _ _ _).mono ?_; rintro e w2 ⟨rfl, hb2⟩; have z0 := (hb2.cell (p := ⟨w.heap.size + 1, 2, none⟩) hq1).trans e2; have y0 := (hb2.frozen (p := ⟨w.heap.size + 1, 2, none⟩) hq1).trans f2)
        all_goals
          go_wp2
          go_roundw
          case rel =>
            refine ⟨k + 1, c0, c1, (_, _), c3, by omega, by go_num, (HL.out.below hb2).set2 _ _, ⟨HA.out.1.trans (lane_miss (by rw [H4.out]; decide)).symm, HA.out.2.1.trans (lane_miss (by rw [H4.out]; decide)).symm, by rw [lane_hit H4.out, ← HA.out.2.2.1]; simp only [abp, addp, ab_fv], HA.out.2.2.2.trans (lane_miss (by rw [H4.out]; decide)).symm⟩, ((Box.below (w := wr.drew) HBX.out hb2).setOther (by omega)), ?_⟩
            exact below_drewN ((hbel.drew.trans (hb2.mono hbel.size)).setCell (Nat.le_succ _) _) _
          case measure => simp [intOf]; omega
      · have h4' : (k : Int) % 4 = 3 := by omega
        have H4 : Hid (k % 4 = 3) := h4
        clear h4
        have hk0 : (0 : Int) ≤ (k : Int) := by omega
        have hk1 : (k : Int) ≤ 4096 := by omega
        have hmod : (k : Int).tmod 4 = 3 := by rw [Int.tmod_eq_emod_of_nonneg (by omega)]; exact h4'
        go_wp2
        go_region_with (go_at_call 29; refine (wideOf_any _ _ _).mono ?_; rintro e w2 ⟨rfl, hb2⟩; have z0 := (hb2.cell (p := ⟨w.heap.size + 1, 3, none⟩) hq1).trans e3; have y0 := (hb2.frozen (p := ⟨w.heap.size + 1, 3, none⟩) hq1).trans f3)
        all_goals
          go_wp2
          go_roundw
          case rel =>
            refine ⟨k + 1, c0, c1, c2, (_, _), by omega, by go_num, (HL.out.below hb2).set3 _ _, ⟨HA.out.1.trans (lane_miss (by rw [H4.out]; decide)).symm, HA.out.2.1.trans (lane_miss (by rw [H4.out]; decide)).symm, HA.out.2.2.1.trans (lane_miss (by rw [H4.out]; decide)).symm, by rw [lane_hit H4.out, ← HA.out.2.2.2]; simp only [abp, addp, ab_fv]⟩, ((Box.below (w := wr.drew) HBX.out hb2).setOther (by omega)), ?_⟩
            exact below_drewN ((hbel.drew.trans (hb2.mono hbel.size)).setCell (Nat.le_succ _) _) _
          case measure => simp [intOf]; omega
    · have hlt' : ¬ (k : Int) < (n : Int) := by omega
      obtain rfl : k = n := by omega
      obtain ⟨⟨e0, e1, e2, e3⟩, -⟩ := hl.open
      obtain ⟨p0, p1, p2, p3⟩ := hbox.open
      go_wp2_with fail
      refine (join_any _ _ _ _ _ _ _ _ _).mono ?_
      rintro e w2 ⟨re, im, rfl, hre, hb2⟩
      replace hbox := hbox.below hb2
      replace hbel := hbel.trans (hb2.mono hbel.size)
      clear hb2
      go_wp2_with fail
      refine (cxOf_any _ _ _).mono ?_
      rintro e w3 ⟨rfl, hb3⟩
      replace hbox := hbox.below hb3
      replace hbel := hbel.trans (hb3.mono hbel.size)
      obtain ⟨q0, q1, q2, q3⟩ := hbox.open
      clear hb3
      go_wp2
      refine bodyPost_ret (v := .agg #[.float .f64 re, .float .f64 im]) (by simp [results, Try.results8, go_sem, q0, q1]) rfl ⟨_, _, rfl, ?_, (hbel.setCell (Nat.le_refl _) _).setCell (Nat.le_refl _) _⟩
      rw [hre]
      unfold total
      rw [← ha.1, ← ha.2.1, ← ha.2.2.1, ← ha.2.2.2]
end Go.Proofs.Ytmlgkmgkicdnbaa
