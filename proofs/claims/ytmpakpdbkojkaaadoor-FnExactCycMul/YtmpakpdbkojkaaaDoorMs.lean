/-
  The law on products of cyclotomic numbers, walked.
-/
import Derived.Test.YtmpakpdbkojkaaaDoorMr
namespace Go.Proofs.YtmpakpdbkojkaaaDoor
open Go.RowKit

theorem eqCyc_any (a b c d : Int) (w : World) : Calls Tryd.prog 8 #[cV a b c d, cV a b c d] w fun e w' => e = .returned (.bool true) ∧ Below w.heap.size w w' := by
  obtain ⟨W, hW, b0, b1, bW, -⟩ := boxed2 w 24 24 #[.int .i64 a, .int .i64 b, .int .i64 c, .int .i64 d] #[.int .i64 a, .int .i64 b, .int .i64 c, .int .i64 d]
  obtain ⟨c0, c1, c2, c3, -⟩ := b0.open4
  obtain ⟨d0, d1, d2, d3, -⟩ := b1.open4
  go_enter Tryd.func8, Tryd.ntmps8
  go_wp2
  go_ret
  exact ⟨rfl, bW⟩
theorem toCyc_any (a b c d : Int) (w : World) : Calls Tryd.prog 6 #[cV a b c d] w fun e w' => e = .returned (cV a b c d) ∧ Below w.heap.size w w' := by
  go_enter Tryd.func6, Tryd.ntmps6
  go_wp2
  exact bodyPost_ret (v := cV a b c d) (by simp [results, Tryd.results6, go_sem]) rfl ⟨rfl, (below_alloc _ _).trans (((below_alloc _ _).trans ((below_alloc _ _).mono (by simp))).mono (by simp))⟩
/-- What the law's regions read. -/
abbrev S7 (W : World) (n : Nat) (a b c d x y z u : Int) (w' : World) : Prop :=
  (w'.cell? ⟨n, 0, none⟩ = some (.int .i64 a) ∧ w'.cell? ⟨n, 1, none⟩ = some (.int .i64 b) ∧ w'.cell? ⟨n, 2, none⟩ = some (.int .i64 c) ∧ w'.cell? ⟨n, 3, none⟩ = some (.int .i64 d)) ∧
  (w'.cell? ⟨n + 1, 0, none⟩ = some (.int .i64 x) ∧ w'.cell? ⟨n + 1, 1, none⟩ = some (.int .i64 y) ∧ w'.cell? ⟨n + 1, 2, none⟩ = some (.int .i64 z) ∧ w'.cell? ⟨n + 1, 3, none⟩ = some (.int .i64 u)) ∧ Below W.heap.size W w'
/-- Behind a region: a new box holds what was told, all that was there stands. -/
def AfterC (V : World) (p q r s : Int) (k : Bool) (s5 s6 : Value) (wc : World) : Prop :=
  ∃ g, s5 = .pointer (some ⟨g, 0, none⟩) ∧ V.heap.size ≤ g ∧ (wc.cell? ⟨g, 0, none⟩ = some (.int .i64 p) ∧ wc.cell? ⟨g, 1, none⟩ = some (.int .i64 q) ∧ wc.cell? ⟨g, 2, none⟩ = some (.int .i64 r) ∧ wc.cell? ⟨g, 3, none⟩ = some (.int .i64 s)) ∧ g < wc.heap.size ∧ s6 = .bool k ∧ Below V.heap.size V wc
theorem alloc_some {w w3 : World} {o : Obj} (h : Below (w.alloc o).heap.size (w.alloc o) w3) : w.heap.size < w3.heap.size := by
  have := h.size
  simp at this
  exact this
theorem alloc_first {V w3 : World} {o : Obj} (h : Below (V.drew.alloc o).heap.size (V.drew.alloc o) w3) : V.heap.size < w3.heap.size := by
  have := h.size
  simp at this
  exact this
theorem below_realloc {N : Nat} {W w : World} {o : Obj} (h : Below N W (w.alloc o)) (hN : N ≤ w.heap.size) (o' : Obj) : Below N W (w.alloc o') :=
  ⟨h.os, h.tape, h.output, by have := h.size; simp at this ⊢; exact this, fun k hk => by rw [Below.heap_alloc _ _ _ (by omega), ← h.block k hk, Below.heap_alloc _ _ _ (by omega)]⟩
set_option maxHeartbeats 4000000 in
theorem exactCycMul_walk (a b c d x y z u : Int) (w : World) (ht : Tab w) : Calls Tryd.prog 3 #[cV a b c d, cV x y z u] w fun e w' => e = .returned (.bool true) ∧ Below w.heap.size w w' := by
  obtain ⟨p, q, r, s, k, hs⟩ := mulR_parts a b c d x y z u
  have S := fun w => specMul_any a b c d x y z u w
  have I := fun w ht => implMul_any a b c d x y z u w ht
  rw [hs] at S I
  clear hs
  obtain ⟨V, hW, b0, b1, bW, -⟩ := boxed2 w 23 23 #[.int .i64 a, .int .i64 b, .int .i64 c, .int .i64 d] #[.int .i64 x, .int .i64 y, .int .i64 z, .int .i64 u]
  have tV := ht.below bW
  clear ht
  have mk : Hid (∀ w', Below V.heap.size V w' → S7 V w.heap.size a b c d x y z u w') := fun w' h => by
    obtain ⟨c0, c1, c2, c3, -⟩ := (b0.below h).open4
    obtain ⟨d0, d1, d2, d3, -⟩ := (b1.below h).open4
    exact ⟨⟨c0, c1, c2, c3⟩, ⟨d0, d1, d2, d3⟩, h⟩
  go_enter Tryd.func3, Tryd.ntmps3
  go_wp2_with fail
  clear hW
  go_cut [5, 6] from 9 (fun s5 s6 wc => AfterC V p q r s k s5 s6 wc)
  case first =>
    go_region_held3 (fun w' => S7 V w.heap.size a b c d x y z u w')
      (first | exact mk.out _ (Below.refl _ _).drew | (have hq : S7 _ _ _ _ _ _ _ _ _ _ _ := ‹_›; exact mk.out _ (hq.2.2.trans (hb3.mono hq.2.2.size))) | (have hq : S7 _ _ _ _ _ _ _ _ _ _ _ := ‹_›; exact mk.out _ (hq.2.2.alloc hq.2.2.size _)) | (have hq : S7 _ _ _ _ _ _ _ _ _ _ _ := ‹_›; refine mk.out _ (below_realloc hq.2.2 ?_ _); omega) | (have hq : S7 _ _ _ _ _ _ _ _ _ _ _ := ‹_›; refine mk.out _ ((((hq.2.2.setCell ?_ _).setCell ?_ _).setCell ?_ _).setCell ?_ _) <;> first | exact Nat.le_refl _ | assumption))
      (first | (go_at_call 6; refine (toCyc_any _ _ _ _ _).mono ?_; rintro e w3 ⟨rfl, hb3⟩; have hz3 : V.heap.size ≤ w3.heap.size := Nat.le_trans (Below.size (And.right (And.right (show S7 _ _ _ _ _ _ _ _ _ _ _ from ‹_›)))) hb3.size; obtain ⟨hc3, hf3⟩ := bcell hb3; first | have hs4 := Nat.lt_of_lt_of_le hs4 hb3.size | have hs4 := alloc_first hb3 | have hs4 := alloc_some hb3 | skip) | (go_at_call 5; refine (S _).mono ?_; rintro e w3 ⟨rfl, hb3⟩; have hz3 : V.heap.size ≤ w3.heap.size := Nat.le_trans (Below.size (And.right (And.right (show S7 _ _ _ _ _ _ _ _ _ _ _ from ‹_›)))) hb3.size; obtain ⟨hc3, hf3⟩ := bcell hb3; first | have hs4 := Nat.lt_of_lt_of_le hs4 hb3.size | have hs4 := alloc_first hb3 | have hs4 := alloc_some hb3 | skip))
    all_goals
      have hq : S7 _ _ _ _ _ _ _ _ _ _ _ := ‹_›
      go_wp2_with fail
      go_meet
      case rel =>
        refine ⟨_, rfl, ?_, ⟨?_, ?_, ?_, ?_⟩, ?_, rfl, hq.2.2⟩
        · first | exact Nat.le_refl _ | assumption
        · first | (simp [*]; done) | go_simp
        · first | (simp [*]; done) | go_simp
        · first | (simp [*]; done) | go_simp
        · first | (simp [*]; done) | go_simp
        · refine lt_of_cell (o := 0) (v := .int .i64 p) ?_
          first | (simp [*]; done) | go_simp
  case rest =>
    obtain ⟨g, rfl, hgV, ⟨g0, g1, g2, g3⟩, hglt, rfl, hV⟩ := hcut
    replace b0 := b0.below hV
    replace b1 := b1.below hV
    replace tV := tV.below hV
    replace bW := bW.trans (hV.mono bW.size)
    clear mk hV hgV
    have mk : Hid (∀ w', Below wc.heap.size wc w' → S7 wc w.heap.size a b c d x y z u w') := fun w' h => by
      obtain ⟨c0, c1, c2, c3, -⟩ := (b0.below h).open4
      obtain ⟨d0, d1, d2, d3, -⟩ := (b1.below h).open4
      exact ⟨⟨c0, c1, c2, c3⟩, ⟨d0, d1, d2, d3⟩, h⟩
    go_wp2_with fail
    go_cut [7, 8] from 9 (fun s7 s8 wd => AfterC wc p q r s k s7 s8 wd)
    case first =>
      go_region_held3 (fun w' => S7 wc w.heap.size a b c d x y z u w')
        (first | exact mk.out _ (Below.refl _ _).drew | (have hq : S7 _ _ _ _ _ _ _ _ _ _ _ := ‹_›; exact mk.out _ (hq.2.2.trans (hb3.mono hq.2.2.size))) | (have hq : S7 _ _ _ _ _ _ _ _ _ _ _ := ‹_›; exact mk.out _ (hq.2.2.alloc hq.2.2.size _)) | (have hq : S7 _ _ _ _ _ _ _ _ _ _ _ := ‹_›; refine mk.out _ (below_realloc hq.2.2 ?_ _); omega) | (have hq : S7 _ _ _ _ _ _ _ _ _ _ _ := ‹_›; refine mk.out _ ((((hq.2.2.setCell ?_ _).setCell ?_ _).setCell ?_ _).setCell ?_ _) <;> first | exact Nat.le_refl _ | assumption))
        (first | (go_at_call 6; refine (toCyc_any _ _ _ _ _).mono ?_; rintro e w3 ⟨rfl, hb3⟩; have hz3 : wc.heap.size ≤ w3.heap.size := Nat.le_trans (Below.size (And.right (And.right (show S7 _ _ _ _ _ _ _ _ _ _ _ from ‹_›)))) hb3.size; obtain ⟨hc3, hf3⟩ := bcell hb3; first | have hs4 := Nat.lt_of_lt_of_le hs4 hb3.size | have hs4 := alloc_first hb3 | have hs4 := alloc_some hb3 | skip) | (go_at_call 7; refine (I _ (tV.below (And.right (And.right (show S7 _ _ _ _ _ _ _ _ _ _ _ from ‹_›))))).mono ?_; rintro e w3 ⟨rfl, hb3⟩; have hz3 : wc.heap.size ≤ w3.heap.size := Nat.le_trans (Below.size (And.right (And.right (show S7 _ _ _ _ _ _ _ _ _ _ _ from ‹_›)))) hb3.size; obtain ⟨hc3, hf3⟩ := bcell hb3; first | have hs4 := Nat.lt_of_lt_of_le hs4 hb3.size | have hs4 := alloc_first hb3 | have hs4 := alloc_some hb3 | skip))
      all_goals
        have hq : S7 _ _ _ _ _ _ _ _ _ _ _ := ‹_›
        clear g0 g1 g2 g3
        go_wp2_with fail
        go_meet
        case rel =>
          refine ⟨_, rfl, ?_, ⟨?_, ?_, ?_, ?_⟩, ?_, rfl, hq.2.2⟩
          · first | exact Nat.le_refl _ | assumption
          · first | (simp [*]; done) | go_simp
          · first | (simp [*]; done) | go_simp
          · first | (simp [*]; done) | go_simp
          · first | (simp [*]; done) | go_simp
          · refine lt_of_cell (o := 0) (v := .int .i64 p) ?_
            first | (simp [*]; done) | go_simp
    case rest =>
      obtain ⟨h, rfl, -, ⟨k0, k1, k2, k3⟩, -, rfl, hV⟩ := hcut
      replace bW := bW.trans (hV.mono bW.size)
      replace g0 := (hV.cell (p := ⟨g, 0, none⟩) hglt).trans g0
      replace g1 := (hV.cell (p := ⟨g, 1, none⟩) hglt).trans g1
      replace g2 := (hV.cell (p := ⟨g, 2, none⟩) hglt).trans g2
      replace g3 := (hV.cell (p := ⟨g, 3, none⟩) hglt).trans g3
      clear mk hV b0 b1 hglt
      have hkk : (k != k) = false := by simp
      go_wp2_with (go_at_call 8; refine (eqCyc_any _ _ _ _ _).mono ?_; rintro e w5 ⟨rfl, hb5⟩)
      replace bW := bW.trans (hb5.mono bW.size)
      go_ret
      exact ⟨rfl, bW⟩
end Go.Proofs.YtmpakpdbkojkaaaDoor
