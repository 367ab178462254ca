/-
  The law on quotients, walked.
-/
import Derived.Test.YteaeolilgdnodaiWalkR
import Derived.Deep.Cut
namespace Go.Proofs.Yteaeolilgdnodai
open Go.RowKit Fl

/-- What the law's regions read. -/
abbrev S7 (W : World) (n a b c d : Nat) (w' : World) : Prop :=
  (w'.cell? ⟨n, 0, none⟩ = some (.float .f64 a) ∧ w'.cell? ⟨n, 1, none⟩ = some (.float .f64 b) ∧ w'.cell? ⟨n + 1, 0, none⟩ = some (.float .f64 c) ∧ w'.cell? ⟨n + 1, 1, none⟩ = some (.float .f64 d)) ∧ Below W.heap.size W w'

/-- Behind a region: a new box holds the quotient, all that was there stands. -/
def After (V : World) (a b c d : Nat) (s : Value) (wc : World) : Prop :=
  ∃ g re im, s = .pointer (some ⟨g, 0, none⟩) ∧ V.heap.size ≤ g ∧ (wc.cell? ⟨g, 0, none⟩ = some (.float .f64 re) ∧ wc.cell? ⟨g, 1, none⟩ = some (.float .f64 im)) ∧ g < wc.heap.size ∧ DivR a b c d re im ∧ Below V.heap.size V wc

theorem alloc_some {w w3 : World} {o : Obj} (h : Below (w.alloc o).heap.size (w.alloc o) w3) : w.heap.size < w3.heap.size := by
  have := h.size
  simp at this
  exact this

theorem lt_of_cell {w : World} {b o : Nat} {v : Value} (h : w.cell? ⟨b, o, none⟩ = some v) : b < w.heap.size := by
  refine Nat.lt_of_not_le fun hb => ?_
  have : w.heap[b]? = none := Array.getElem?_eq_none hb
  simp [World.cell?, this] at h

set_option maxHeartbeats 800000 in
theorem exactDiv_walk (a b c d : Nat) (w : World) :
    Calls Try.prog 4 #[.agg #[.float .f64 a, .float .f64 b], .agg #[.float .f64 c, .float .f64 d]] w fun e w' => e = .returned (.bool true) ∧ Below w.heap.size w w' := by
  obtain ⟨V, hW, b0, b1, bW⟩ := pairBoxes w 24 24 (.float .f64 a) (.float .f64 b) (.float .f64 c) (.float .f64 d)
  have mk : Hid (∀ w', Below V.heap.size V w' → S7 V w.heap.size a b c d w') := fun w' h => ⟨⟨(b0.below h).open.1, (b0.below h).open.2.1, (b1.below h).open.1, (b1.below h).open.2.1⟩, h⟩
  go_enter Try.func4, Try.ntmps4
  go_wp2_with fail
  clear hW
  go_cut [5] from 7 (fun s5 wc => After V a b c d s5 wc)
  case first =>
    go_region_held3 (fun w' => S7 V w.heap.size a b c d w')
      (first | exact mk.out _ (Below.refl _ _).drew | (have hq : S7 _ _ _ _ _ _ _ := ‹_›; exact mk.out _ (hq.2.trans (hb3.mono hq.2.size))) | (have hq : S7 _ _ _ _ _ _ _ := ‹_›; exact mk.out _ (hq.2.alloc hq.2.size _)) | (have hq : S7 _ _ _ _ _ _ _ := ‹_›; refine mk.out _ (below_realloc hq.2 ?_ _); omega) | (have hq : S7 _ _ _ _ _ _ _ := ‹_›; refine mk.out _ ((hq.2.setCell ?_ _).setCell ?_ _) <;> first | exact Nat.le_refl _ | assumption))
      (first | (go_at_call 6; refine (toCx_any _ _ _).mono ?_; rintro e w3 ⟨rfl, hb3⟩; have hz3 : V.heap.size ≤ w3.heap.size := Nat.le_trans (Below.size (And.right (show S7 _ _ _ _ _ _ _ from ‹_›))) hb3.size; obtain ⟨hc3, hf3⟩ := bcell hb3; first | have hs4 := Nat.lt_of_lt_of_le hs4 hb3.size | have hs4 := alloc_first hb3 | have hs4 := alloc_some hb3 | skip) | (go_at_call 9; refine (specDiv_any _ _ _ _ _).mono ?_; rintro e w3 ⟨re, im, rfl, hm, hb3⟩; have hz3 : V.heap.size ≤ w3.heap.size := Nat.le_trans (Below.size (And.right (show S7 _ _ _ _ _ _ _ from ‹_›))) hb3.size; obtain ⟨hc3, hf3⟩ := bcell hb3; first | have hs4 := Nat.lt_of_lt_of_le hs4 hb3.size | have hs4 := alloc_first hb3 | have hs4 := alloc_some hb3 | skip))
    all_goals
      have hq : S7 _ _ _ _ _ _ _ := ‹_›
      go_wp2_with fail
      go_meet
      case rel =>
        refine ⟨_, re, im, rfl, ?_, ⟨?_, ?_⟩, ?_, hm, hq.2⟩
        · first | exact Nat.le_refl _ | assumption
        · first | (simp [*]; done) | go_simp
        · first | (simp [*]; done) | go_simp
        · refine lt_of_cell (o := 0) (v := .float .f64 re) ?_
          first | (simp [*]; done) | go_simp
  case rest =>
    obtain ⟨g, re, im, rfl, hgV, ⟨g0, g1⟩, hglt, hm, hV⟩ := hcut
    replace b0 := b0.below hV
    replace b1 := b1.below hV
    replace bW := bW.trans (hV.mono bW.size)
    clear mk hV hgV
    have mk : Hid (∀ w', Below wc.heap.size wc w' → S7 wc w.heap.size a b c d w') := fun w' h => ⟨⟨(b0.below h).open.1, (b0.below h).open.2.1, (b1.below h).open.1, (b1.below h).open.2.1⟩, h⟩
    go_wp2_with fail
    go_cut [6] from 7 (fun s6 wd => After wc a b c d s6 wd)
    case first =>
      go_region_held3 (fun w' => S7 wc w.heap.size a b c d w')
        (first | exact mk.out _ (Below.refl _ _).drew | (have hq : S7 _ _ _ _ _ _ _ := ‹_›; exact mk.out _ (hq.2.trans (hb3.mono hq.2.size))) | (have hq : S7 _ _ _ _ _ _ _ := ‹_›; exact mk.out _ (hq.2.alloc hq.2.size _)) | (have hq : S7 _ _ _ _ _ _ _ := ‹_›; refine mk.out _ (below_realloc hq.2 ?_ _); omega) | (have hq : S7 _ _ _ _ _ _ _ := ‹_›; refine mk.out _ ((hq.2.setCell ?_ _).setCell ?_ _) <;> first | exact Nat.le_refl _ | assumption))
        (first | (go_at_call 6; refine (toCx_any _ _ _).mono ?_; rintro e w3 ⟨rfl, hb3⟩; have hz3 : wc.heap.size ≤ w3.heap.size := Nat.le_trans (Below.size (And.right (show S7 _ _ _ _ _ _ _ from ‹_›))) hb3.size; obtain ⟨hc3, hf3⟩ := bcell hb3; first | have hs4 := Nat.lt_of_lt_of_le hs4 hb3.size | have hs4 := alloc_first hb3 | have hs4 := alloc_some hb3 | skip) | (go_at_call 10; refine (implDiv_any _ _ _ _ _).mono ?_; rintro e w3 ⟨re', im', rfl, hm', hb3⟩; have hz3 : wc.heap.size ≤ w3.heap.size := Nat.le_trans (Below.size (And.right (show S7 _ _ _ _ _ _ _ from ‹_›))) hb3.size; obtain ⟨hc3, hf3⟩ := bcell hb3; first | have hs4 := Nat.lt_of_lt_of_le hs4 hb3.size | have hs4 := alloc_first hb3 | have hs4 := alloc_some hb3 | skip))
      all_goals
        have hq : S7 _ _ _ _ _ _ _ := ‹_›
        clear g0 g1
        go_wp2_with fail
        go_meet
        case rel =>
          refine ⟨_, re', im', rfl, ?_, ⟨?_, ?_⟩, ?_, hm', hq.2⟩
          · first | exact Nat.le_refl _ | assumption
          · first | (simp [*]; done) | go_simp
          · first | (simp [*]; done) | go_simp
          · refine lt_of_cell (o := 0) (v := .float .f64 re') ?_
            first | (simp [*]; done) | go_simp
    case rest =>
      obtain ⟨h, re', im', rfl, -, ⟨k0, k1⟩, -, hm', hV⟩ := hcut
      replace bW := bW.trans (hV.mono bW.size)
      replace g0 := (hV.cell (p := ⟨g, 0, none⟩) hglt).trans g0
      replace g1 := (hV.cell (p := ⟨g, 1, none⟩) hglt).trans g1
      have hs := hm'.same hm
      clear mk hV b0 b1 hm hm' hglt
      have H1 : Hid (ab .f64 re' = ab .f64 re) := hs.1
      have H2 : Hid (ab .f64 im' = ab .f64 im) := hs.2
      clear hs
      go_wp2_with fail
      refine (eqCx_true H1.out H2.out _).mono ?_
      rintro e w5 ⟨rfl, hb⟩
      replace bW := bW.trans (hb.mono bW.size)
      clear hb
      go_wp2
      go_ret
      exact ⟨rfl, bW⟩

end Go.Proofs.Yteaeolilgdnodai
