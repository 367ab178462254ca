/-
  The specification's sum in lanes, walked.
-/
import Derived.Test.YtmlgkmgkicdnbaaMWalkU
namespace Go.Proofs.Ytmlgkmgkicdnbaa
open Go.RowKit Fl

theorem l1Add_any (a b c d : Nat) (w : World) :
    Calls Try.prog 45 #[.agg #[.float .f64 a, .float .f64 b], .agg #[.float .f64 c, .float .f64 d]] w fun e w' => ∃ x y, e = .returned (.agg #[.float .f64 x, .float .f64 y]) ∧ (ab .f64 x = opO .add .f64 (ab .f64 a) (ab .f64 c) ∧ ab .f64 y = opO .add .f64 (ab .f64 b) (ab .f64 d)) ∧ Below w.heap.size w w' := by
  go_enter Try.func45, Try.ntmps45
  go_wp2
  exact bodyPost_ret (v := .agg #[.float .f64 _, .float .f64 _]) (by simp [results, Try.results45, go_sem]; exact ⟨rfl, rfl⟩) rfl ⟨_, _, rfl, ⟨ab_fv _ _ _ _ _, ab_fv _ _ _ _ _⟩, ((below_drewN ((((Below.refl _ _).alloc (Nat.le_refl _) _).alloc (by simp) _).alloc (by simp <;> omega) _) _).setCell (by simp <;> omega) _).setCell (by simp <;> omega) _⟩

/-- The four lanes of the specification in block q. -/
def Lanes8 (w : World) (q : Nat) (c0 c1 c2 c3 : Nat × Nat) : Prop :=
  w.heap[q]? = some (.cells #[.float .f64 c0.1, .float .f64 c0.2, .float .f64 c1.1, .float .f64 c1.2, .float .f64 c2.1, .float .f64 c2.2, .float .f64 c3.1, .float .f64 c3.2] 28)

theorem Lanes8.open {w : World} {q : Nat} {c0 c1 c2 c3 : Nat × Nat} (h : Lanes8 w q c0 c1 c2 c3) :
    (w.cell? ⟨q, 0, none⟩ = some (.float .f64 c0.1) ∧ w.cell? ⟨q, 1, none⟩ = some (.float .f64 c0.2) ∧ w.cell? ⟨q, 2, none⟩ = some (.float .f64 c1.1) ∧ w.cell? ⟨q, 3, none⟩ = some (.float .f64 c1.2) ∧ w.cell? ⟨q, 4, none⟩ = some (.float .f64 c2.1) ∧ w.cell? ⟨q, 5, none⟩ = some (.float .f64 c2.2) ∧ w.cell? ⟨q, 6, none⟩ = some (.float .f64 c3.1) ∧ w.cell? ⟨q, 7, none⟩ = some (.float .f64 c3.2)) ∧
    (∀ i, w.frozen? ⟨q, i, none⟩ = false) := by
  simp [World.cell?, World.frozen?, show w.heap[q]? = _ from h]

theorem Lanes8.below {w w' : World} {q : Nat} {c0 c1 c2 c3 : Nat × Nat} (h : Lanes8 w q c0 c1 c2 c3) (hb : Below w.heap.size w w') : Lanes8 w' q c0 c1 c2 c3 := (hb.block q (Array.getElem?_eq_some_iff.1 h).1).trans h
theorem Lanes8.set0 {w : World} {q : Nat} {c0 c1 c2 c3 : Nat × Nat} (h : Lanes8 w q c0 c1 c2 c3) (a b : Nat) : Lanes8 ((w.setCell ⟨q, 0, none⟩ (.float .f64 a)).setCell ⟨q, 1, none⟩ (.float .f64 b)) q (a, b) c1 c2 c3 := by
  simp [Lanes8, World.setCell, Array.getElem?_modify, show w.heap[q]? = _ from h]
theorem Lanes8.set1 {w : World} {q : Nat} {c0 c1 c2 c3 : Nat × Nat} (h : Lanes8 w q c0 c1 c2 c3) (a b : Nat) : Lanes8 ((w.setCell ⟨q, 2, none⟩ (.float .f64 a)).setCell ⟨q, 3, none⟩ (.float .f64 b)) q c0 (a, b) c2 c3 := by
  simp [Lanes8, World.setCell, Array.getElem?_modify, show w.heap[q]? = _ from h]
theorem Lanes8.set2 {w : World} {q : Nat} {c0 c1 c2 c3 : Nat × Nat} (h : Lanes8 w q c0 c1 c2 c3) (a b : Nat) : Lanes8 ((w.setCell ⟨q, 4, none⟩ (.float .f64 a)).setCell ⟨q, 5, none⟩ (.float .f64 b)) q c0 c1 (a, b) c3 := by
  simp [Lanes8, World.setCell, Array.getElem?_modify, show w.heap[q]? = _ from h]
theorem Lanes8.set3 {w : World} {q : Nat} {c0 c1 c2 c3 : Nat × Nat} (h : Lanes8 w q c0 c1 c2 c3) (a b : Nat) : Lanes8 ((w.setCell ⟨q, 6, none⟩ (.float .f64 a)).setCell ⟨q, 7, none⟩ (.float .f64 b)) q c0 c1 c2 (a, b) := by
  simp [Lanes8, World.setCell, Array.getElem?_modify, show w.heap[q]? = _ from h]

theorem make4 (w : World) : (Instr.makeSlice 24 (.int .i64 4) (.int .i64 4)).run Try.prog w = .ok (.slice (some ⟨w.heap.size, 0, none⟩) 4 4) (w.alloc (.cells #[.float .f64 0, .float .f64 0, .float .f64 0, .float .f64 0, .float .f64 0, .float .f64 0, .float .f64 0, .float .f64 0] 28)) := by kernel_rfl

/-- What the last region keeps. -/
def T8 (w0 : World) (p q : Nat) (c0 c1 c2 c3 : Nat × Nat) (w : World) : Prop :=
  Lanes8 w q c0 c1 c2 c3 ∧ (∃ v0 v1, Box w p v0 v1) ∧ (p ≠ q ∧ w0.heap.size ≤ p) ∧ Below w0.heap.size w0 w
theorem T8.call {w0 w w' : World} {p q : Nat} {c0 c1 c2 c3 : Nat × Nat} (h : T8 w0 p q c0 c1 c2 c3 w) (hb : Below w.heap.size w w') : T8 w0 p q c0 c1 c2 c3 w' := by
  obtain ⟨h1, ⟨v0, v1, h2⟩, h3, h4⟩ := h
  exact ⟨h1.below hb, ⟨v0, v1, h2.below hb⟩, h3, h4.trans (hb.mono h4.size)⟩
theorem T8.store {w0 w : World} {p q : Nat} {c0 c1 c2 c3 : Nat × Nat} (h : T8 w0 p q c0 c1 c2 c3 w) (a b : Value) : T8 w0 p q c0 c1 c2 c3 ((w.setCell ⟨p, 0, none⟩ a).setCell ⟨p, 1, none⟩ b) := by
  obtain ⟨h1, ⟨v0, v1, h2⟩, ⟨h3, h5⟩, h4⟩ := h
  refine ⟨?_, ⟨a, b, ?_⟩, ⟨h3, h5⟩, (h4.setCell h5 _).setCell h5 _⟩
  · exact (Below.heap_setCell _ _ _ _ (Ne.symm h3)).trans ((Below.heap_setCell _ _ _ _ (Ne.symm h3)).trans h1)
  · simp [Box, World.setCell, Array.getElem?_modify, show w.heap[p]? = _ from h2]
/-- What the last region reads. -/
abbrev S8 (w0 : World) (p q : Nat) (c0 c1 c2 c3 : Nat × Nat) (w : World) : Prop :=
  (w.cell? ⟨q, 0, none⟩ = some (.float .f64 c0.1) ∧ w.cell? ⟨q, 1, none⟩ = some (.float .f64 c0.2) ∧ w.cell? ⟨q, 2, none⟩ = some (.float .f64 c1.1) ∧ w.cell? ⟨q, 3, none⟩ = some (.float .f64 c1.2) ∧ w.cell? ⟨q, 4, none⟩ = some (.float .f64 c2.1) ∧ w.cell? ⟨q, 5, none⟩ = some (.float .f64 c2.2) ∧ w.cell? ⟨q, 6, none⟩ = some (.float .f64 c3.1) ∧ w.cell? ⟨q, 7, none⟩ = some (.float .f64 c3.2)) ∧
  (w.cell? ⟨p, 0, none⟩ = some (cv w p 0) ∧ w.cell? ⟨p, 1, none⟩ = some (cv w p 1) ∧ w.frozen? ⟨p, 0, none⟩ = false ∧ w.frozen? ⟨p, 1, none⟩ = false) ∧ T8 w0 p q c0 c1 c2 c3 w
theorem T8.say {w0 w : World} {p q : Nat} {c0 c1 c2 c3 : Nat × Nat} (h : T8 w0 p q c0 c1 c2 c3 w) : S8 w0 p q c0 c1 c2 c3 w := by
  obtain ⟨v0, v1, h2⟩ := h.2.1
  obtain ⟨b0, b1, b2, b3⟩ := h2.open
  exact ⟨h.1.open.1, ⟨by simp [cv, b0], by simp [cv, b1], b2, b3⟩, h⟩

set_option maxHeartbeats 1600000 in
theorem specLanes_any {w : World} {b off n cap : Nat} {f : Nat → Nat × Nat} (hr : CxRow w b off n f) (hb : b < w.heap.size) (hn : n ≤ 4096) :
    Calls Try.prog 21 #[.slice (some ⟨b, off, none⟩) n cap] w fun e w' => ∃ re im, e = .returned (.agg #[.float .f64 re, .float .f64 im]) ∧ (ab .f64 re, ab .f64 im) = total f n ∧ Below w.heap.size w w' := by
  have hmk := make4
  have hn1 : ¬ (4096 : Int) < (n : Int) := by omega
  go_enter Try.func21, Try.ntmps21
  go_wp2
  clear hmk
  have b0 : Box ((w.alloc (.cells #[.float .f64 0, .float .f64 0] 28)).alloc (.cells #[.float .f64 0, .float .f64 0, .float .f64 0, .float .f64 0, .float .f64 0, .float .f64 0, .float .f64 0, .float .f64 0] 28)) w.heap.size (.float .f64 0) (.float .f64 0) := (box_new _ _ _).below (below_alloc _ _)
  have l0 : Lanes8 ((w.alloc (.cells #[.float .f64 0, .float .f64 0] 28)).alloc (.cells #[.float .f64 0, .float .f64 0, .float .f64 0, .float .f64 0, .float .f64 0, .float .f64 0, .float .f64 0, .float .f64 0] 28)) (w.heap.size + 1) (0, 0) (0, 0) (0, 0) (0, 0) := by
    have := heap_alloc_new (w.alloc (.cells #[.float .f64 0, .float .f64 0] 28)) (.cells #[.float .f64 0, .float .f64 0, .float .f64 0, .float .f64 0, .float .f64 0, .float .f64 0, .float .f64 0, .float .f64 0] 28)
    simpa [Lanes8] using this
  have B0 : Below w.heap.size w ((w.alloc (.cells #[.float .f64 0, .float .f64 0] 28)).alloc (.cells #[.float .f64 0, .float .f64 0, .float .f64 0, .float .f64 0, .float .f64 0, .float .f64 0, .float .f64 0, .float .f64 0] 28)) := (below_alloc _ _).trans ((below_alloc _ _).mono (by simp))
  go_loopw [4] (fun s wr => ∃ (k : Nat) (c0 c1 c2 c3 : Nat × Nat), k ≤ n ∧ s = .int .i64 k ∧ Lanes8 wr (w.heap.size + 1) c0 c1 c2 c3 ∧ (abp c0 = lane f k 0 ∧ abp c1 = lane f k 1 ∧ abp c2 = lane f k 2 ∧ abp c3 = lane f k 3) ∧ Box wr w.heap.size (.float .f64 0) (.float .f64 0) ∧ Below w.heap.size w wr) (fun s _ => n - (intOf s).toNat)
  case atStart => exact ⟨0, (0, 0), (0, 0), (0, 0), (0, 0), Nat.zero_le _, rfl, l0, ⟨abp_zero, abp_zero, abp_zero, abp_zero⟩, b0, B0⟩
  case round =>
    clear b0 l0 B0
    obtain ⟨k, c0, c1, c2, c3, hk, rfl, hl, ha, hbox, hbel⟩ := hrel
    by_cases hlt : k < n
    · have hlt' : (k : Int) < (n : Int) := by omega
      obtain ⟨g0, g1⟩ := hr k hlt
      replace g0 := (hbel.cell (p := ⟨b, off + k * 2, none⟩) hb).trans g0
      replace g1 := (hbel.cell (p := ⟨b, off + k * 2 + 1, none⟩) hb).trans g1
      obtain ⟨⟨e0, e1, e2, e3, e4, e5, e6, e7⟩, hfz⟩ := hl.open
      have HF : Hid (∀ i, wr.frozen? ⟨w.heap.size + 1, i, none⟩ = false) := hfz
      have hq1 : w.heap.size + 1 < wr.heap.size := (Array.getElem?_eq_some_iff.1 hl).1
      have hk4 : k % 4 = 0 ∨ k % 4 = 1 ∨ k % 4 = 2 ∨ k % 4 = 3 := by omega
      have HL : Hid (Lanes8 wr (w.heap.size + 1) c0 c1 c2 c3) := hl
      have HBX : Hid (Box wr w.heap.size (.float .f64 0) (.float .f64 0)) := hbox
      have HA : Hid (abp c0 = lane f k 0 ∧ abp c1 = lane f k 1 ∧ abp c2 = lane f k 2 ∧ abp c3 = lane f k 3) := ha
      clear hl hbox ha hfz
      rcases hk4 with h4 | h4 | h4 | h4
      · have h4' : (k : Int) % 4 = 0 := by omega
        have H4 : Hid (k % 4 = 0) := h4
        clear h4 e2 e3 e4 e5 e6 e7
        have hk0 : (0 : Int) ≤ (k : Int) := by omega
        have hk1 : (k : Int) ≤ 4096 := by omega
        have hmod : (k : Int).tmod 4 = 0 := by rw [Int.tmod_eq_emod_of_nonneg (by omega)]; exact h4'
        go_wp2
        go_region_with (go_at_call 45; refine (l1Add_any _ _ _ _ _).mono ?_; rintro e w2 ⟨x, y, rfl, hx, hb2⟩; have z0 := (hb2.cell (p := ⟨w.heap.size + 1, 0, none⟩) hq1).trans e0; have z1 := (hb2.cell (p := ⟨w.heap.size + 1, 1, none⟩) hq1).trans e1; have y0 := (hb2.frozen (p := ⟨w.heap.size + 1, 0, none⟩) hq1).trans (HF.out 0); have y1 := (hb2.frozen (p := ⟨w.heap.size + 1, 1, none⟩) hq1).trans (HF.out 1))
        all_goals
          go_wp2
          go_roundw
          case rel =>
            refine ⟨k + 1, (_, _), c1, c2, c3, by omega, by go_num, Lanes8.set0 (Lanes8.below (w := wr.drew) HL.out hb2) _ _, ⟨by rw [lane_hit H4.out, ← HA.out.1]; simp only [abp, addp, hx.1, hx.2], HA.out.2.1.trans (lane_miss (by rw [H4.out]; decide)).symm, HA.out.2.2.1.trans (lane_miss (by rw [H4.out]; decide)).symm, HA.out.2.2.2.trans (lane_miss (by rw [H4.out]; decide)).symm⟩, ((Box.below (w := wr.drew) HBX.out hb2).setOther (by omega)).setOther (by omega), ?_⟩
            exact ((hbel.drew.trans (hb2.mono hbel.size)).setCell (Nat.le_succ _) _).setCell (Nat.le_succ _) _
          case measure => simp [intOf]; omega
      · have h4' : (k : Int) % 4 = 1 := by omega
        have H4 : Hid (k % 4 = 1) := h4
        clear h4 e0 e1 e4 e5 e6 e7
        have hk0 : (0 : Int) ≤ (k : Int) := by omega
        have hk1 : (k : Int) ≤ 4096 := by omega
        have hmod : (k : Int).tmod 4 = 1 := by rw [Int.tmod_eq_emod_of_nonneg (by omega)]; exact h4'
        go_wp2
        go_region_with (go_at_call 45; refine (l1Add_any _ _ _ _ _).mono ?_; rintro e w2 ⟨x, y, rfl, hx, hb2⟩; have z0 := (hb2.cell (p := ⟨w.heap.size + 1, 2, none⟩) hq1).trans e2; have z1 := (hb2.cell (p := ⟨w.heap.size + 1, 3, none⟩) hq1).trans e3; have y0 := (hb2.frozen (p := ⟨w.heap.size + 1, 2, none⟩) hq1).trans (HF.out 2); have y1 := (hb2.frozen (p := ⟨w.heap.size + 1, 3, none⟩) hq1).trans (HF.out 3))
        all_goals
          go_wp2
          go_roundw
          case rel =>
            refine ⟨k + 1, c0, (_, _), c2, c3, by omega, by go_num, Lanes8.set1 (Lanes8.below (w := wr.drew) HL.out hb2) _ _, ⟨HA.out.1.trans (lane_miss (by rw [H4.out]; decide)).symm, by rw [lane_hit H4.out, ← HA.out.2.1]; simp only [abp, addp, hx.1, hx.2], HA.out.2.2.1.trans (lane_miss (by rw [H4.out]; decide)).symm, HA.out.2.2.2.trans (lane_miss (by rw [H4.out]; decide)).symm⟩, ((Box.below (w := wr.drew) HBX.out hb2).setOther (by omega)).setOther (by omega), ?_⟩
            exact ((hbel.drew.trans (hb2.mono hbel.size)).setCell (Nat.le_succ _) _).setCell (Nat.le_succ _) _
          case measure => simp [intOf]; omega
      · have h4' : (k : Int) % 4 = 2 := by omega
        have H4 : Hid (k % 4 = 2) := h4
        clear h4 e0 e1 e2 e3 e6 e7
        have hk0 : (0 : Int) ≤ (k : Int) := by omega
        have hk1 : (k : Int) ≤ 4096 := by omega
        have hmod : (k : Int).tmod 4 = 2 := by rw [Int.tmod_eq_emod_of_nonneg (by omega)]; exact h4'
        go_wp2
        go_region_with (go_at_call 45; refine (l1Add_any _ _ _ _ _).mono ?_; rintro e w2 ⟨x, y, rfl, hx, hb2⟩; have z0 := (hb2.cell (p := ⟨w.heap.size + 1, 4, none⟩) hq1).trans e4; have z1 := (hb2.cell (p := ⟨w.heap.size + 1, 5, none⟩) hq1).trans e5; have y0 := (hb2.frozen (p := ⟨w.heap.size + 1, 4, none⟩) hq1).trans (HF.out 4); have y1 := (hb2.frozen (p := ⟨w.heap.size + 1, 5, none⟩) hq1).trans (HF.out 5))
        all_goals
          go_wp2
          go_roundw
          case rel =>
            refine ⟨k + 1, c0, c1, (_, _), c3, by omega, by go_num, Lanes8.set2 (Lanes8.below (w := wr.drew) HL.out hb2) _ _, ⟨HA.out.1.trans (lane_miss (by rw [H4.out]; decide)).symm, HA.out.2.1.trans (lane_miss (by rw [H4.out]; decide)).symm, by rw [lane_hit H4.out, ← HA.out.2.2.1]; simp only [abp, addp, hx.1, hx.2], HA.out.2.2.2.trans (lane_miss (by rw [H4.out]; decide)).symm⟩, ((Box.below (w := wr.drew) HBX.out hb2).setOther (by omega)).setOther (by omega), ?_⟩
            exact ((hbel.drew.trans (hb2.mono hbel.size)).setCell (Nat.le_succ _) _).setCell (Nat.le_succ _) _
          case measure => simp [intOf]; omega
      · have h4' : (k : Int) % 4 = 3 := by omega
        have H4 : Hid (k % 4 = 3) := h4
        clear h4 e0 e1 e2 e3 e4 e5
        have hk0 : (0 : Int) ≤ (k : Int) := by omega
        have hk1 : (k : Int) ≤ 4096 := by omega
        have hmod : (k : Int).tmod 4 = 3 := by rw [Int.tmod_eq_emod_of_nonneg (by omega)]; exact h4'
        go_wp2
        go_region_with (go_at_call 45; refine (l1Add_any _ _ _ _ _).mono ?_; rintro e w2 ⟨x, y, rfl, hx, hb2⟩; have z0 := (hb2.cell (p := ⟨w.heap.size + 1, 6, none⟩) hq1).trans e6; have z1 := (hb2.cell (p := ⟨w.heap.size + 1, 7, none⟩) hq1).trans e7; have y0 := (hb2.frozen (p := ⟨w.heap.size + 1, 6, none⟩) hq1).trans (HF.out 6); have y1 := (hb2.frozen (p := ⟨w.heap.size + 1, 7, none⟩) hq1).trans (HF.out 7))
        all_goals
          go_wp2
          go_roundw
          case rel =>
            refine ⟨k + 1, c0, c1, c2, (_, _), by omega, by go_num, Lanes8.set3 (Lanes8.below (w := wr.drew) HL.out hb2) _ _, ⟨HA.out.1.trans (lane_miss (by rw [H4.out]; decide)).symm, HA.out.2.1.trans (lane_miss (by rw [H4.out]; decide)).symm, HA.out.2.2.1.trans (lane_miss (by rw [H4.out]; decide)).symm, by rw [lane_hit H4.out, ← HA.out.2.2.2]; simp only [abp, addp, hx.1, hx.2]⟩, ((Box.below (w := wr.drew) HBX.out hb2).setOther (by omega)).setOther (by omega), ?_⟩
            exact ((hbel.drew.trans (hb2.mono hbel.size)).setCell (Nat.le_succ _) _).setCell (Nat.le_succ _) _
          case measure => simp [intOf]; omega
    · have hlt' : ¬ (k : Int) < (n : Int) := by omega
      obtain rfl : k = n := by omega
      have ht : T8 w w.heap.size (w.heap.size + 1) c0 c1 c2 c3 wr := ⟨hl, ⟨_, _, hbox⟩, ⟨by omega, Nat.le_refl _⟩, hbel⟩
      have HT : Hid (T8 w w.heap.size (w.heap.size + 1) c0 c1 c2 c3 wr) := ht
      have HA : Hid (abp c0 = lane f k 0 ∧ abp c1 = lane f k 1 ∧ abp c2 = lane f k 2 ∧ abp c3 = lane f k 3) := ha
      clear ha ht hl hbox hbel hr
      go_wp2_with fail
      go_region_held3 (fun w' => S8 w w.heap.size (w.heap.size + 1) c0 c1 c2 c3 w')
        (first | exact (HT.out.call (Below.refl _ _).drew).say | (have hq : S8 w _ _ _ _ _ _ _ := ‹_›; exact (hq.2.2.call hb3).say) | (have hq : S8 w _ _ _ _ _ _ _ := ‹_›; exact (hq.2.2.store _ _).say))
        (first | (go_at_call_of 45 (c0.1); refine (l1Add_any _ _ _ _ _).mono ?_; rintro e w3 ⟨x1, y1, rfl, h1, hb3⟩; have H1 : Hid (ab .f64 x1 = opO .add .f64 (ab .f64 c0.1) (ab .f64 c1.1) ∧ ab .f64 y1 = opO .add .f64 (ab .f64 c0.2) (ab .f64 c1.2)) := h1; clear h1) | (go_at_call_of 45 (c2.1); refine (l1Add_any _ _ _ _ _).mono ?_; rintro e w3 ⟨x2, y2, rfl, h2, hb3⟩; have H2 : Hid (ab .f64 x2 = opO .add .f64 (ab .f64 c2.1) (ab .f64 c3.1) ∧ ab .f64 y2 = opO .add .f64 (ab .f64 c2.2) (ab .f64 c3.2)) := h2; clear h2) | (go_at_call_of 45 (x1); refine (l1Add_any _ _ _ _ _).mono ?_; rintro e w3 ⟨x3, y3, rfl, h3, hb3⟩; have H3 : Hid (ab .f64 x3 = opO .add .f64 (ab .f64 x1) (ab .f64 x2) ∧ ab .f64 y3 = opO .add .f64 (ab .f64 y1) (ab .f64 y2)) := h3; clear h3; have hq : S8 w w.heap.size (w.heap.size + 1) c0 c1 c2 c3 _ := ‹_›; have HQ : Hid (T8 w w.heap.size (w.heap.size + 1) c0 c1 c2 c3 w3) := hq.2.2.call hb3; clear hq))
      have hF := (HQ.out.store (.float .f64 x3) (.float .f64 y3)).2.2.2
      obtain ⟨-, ⟨q0, q1, -, -⟩, -⟩ := HQ.out.say
      go_wp2
      refine bodyPost_ret (v := .agg #[.float .f64 x3, .float .f64 y3]) (by simp [results, Try.results21, go_sem, q0, q1]) rfl ⟨_, _, rfl, ?_, hF⟩
      unfold total
      rw [← HA.out.1, ← HA.out.2.1, ← HA.out.2.2.1, ← HA.out.2.2.2]
      simp only [addp, abp, H1.out.1, H1.out.2, H2.out.1, H2.out.2, H3.out.1, H3.out.2]

end Go.Proofs.Ytmlgkmgkicdnbaa
