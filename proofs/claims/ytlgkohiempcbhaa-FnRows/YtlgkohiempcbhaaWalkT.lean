/-
  Matrices drawn, right and wrong ones, walked.
-/
import Derived.Test.YtlgkohiempcbhaaWalkS
namespace Go.Proofs.Ytlgkohiempcbhaa
open Go.RowKit

/-- A table. -/
def tab9 (i : Nat) : Int :=
  match i with
  | 0 => 1
  | 1 => 2
  | 2 => 3
  | 3 => 2
  | 4 => 4
  | 5 => 6
  | 6 => 0
  | 7 => 1
  | _ => 1
theorem made_tab (w : World) : Made (w.alloc (.cells #[.int .i64 1, .int .i64 2, .int .i64 3, .int .i64 2, .int .i64 4, .int .i64 6, .int .i64 0, .int .i64 1, .int .i64 1] 2)) w.heap.size 9 9 tab9 := by
  refine ⟨_, at_new 2 w _, rfl, fun i hi => ?_⟩
  rcases (by omega : i = 0 ∨ i = 1 ∨ i = 2 ∨ i = 3 ∨ i = 4 ∨ i = 5 ∨ i = 6 ∨ i = 7 ∨ i = 8) with rfl | rfl | rfl | rfl | rfl | rfl | rfl | rfl | rfl <;> rfl
theorem Made.less {w : World} {g n : Nat} {f : Nat → Int} (h : Made w g n 9 f) : Made w g n 8 f := by
  obtain ⟨cur, h1, h2, h3⟩ := h
  exact ⟨cur, h1, h2, fun i hi => h3 i (by omega)⟩
set_option maxRecDepth 100000 in
set_option maxHeartbeats 3200000 in
theorem drawAny_dr {w : World} {p : Nat} {a : Option Addr} {len cap : Nat} (hc : Cur w p a len cap) :
    Calls Try.prog 33 #[.pointer (some ⟨p, 0, none⟩)] w fun e w' => ∃ g c n f, e = .returned (.slice (some ⟨g, 0, none⟩) n c) ∧ w.heap.size ≤ g ∧ n ≤ 9 ∧ n ≤ c ∧ Made w' g c n f ∧ Dr w p a len cap w' := by
  have hlt := hc.lt
  go_enter Try.func33, Try.ntmps33
  go_wp2_with fail
  refine (draw9_dr hc).mono ?_
  rintro e w1 ⟨g, c, f, rfl, hg, hc9, hm, hd⟩
  clear hc
  have hgp : g ≠ p := by omega
  go_wp2_with fail
  refine (once_dr (Dr.start hd.2) 16 (by decide) (by decide)).mono ?_
  rintro e w2 ⟨b, rfl, hd2⟩
  replace hm := hm.kept hd2.1 hgp
  replace hd := hd2.from hd.1
  clear hd2
  cases b
  · go_wp2_with fail
    refine (once_dr (Dr.start hd.2) 20 (by decide) (by decide)).mono ?_
    rintro e w5 ⟨b5, rfl, hd5⟩
    replace hm := hm.kept hd5.1 hgp
    replace hd := hd5.from hd.1
    clear hd5
    cases b5
    · go_wp2_with fail
      refine (once_dr (Dr.start hd.2) 16 (by decide) (by decide)).mono ?_
      rintro e w6 ⟨b6, rfl, hd6⟩
      replace hm := hm.kept hd6.1 hgp
      replace hd := hd6.from hd.1
      clear hd6
      cases b6
      · go_wp2
        go_ret
        exact ⟨g, c, 9, _, rfl, hg, Nat.le_refl _, hc9, hm, hd⟩
      · go_wp2
        go_ret
        exact ⟨w6.heap.size, 9, 9, tab9, rfl, hd.1.size, Nat.le_refl _, Nat.le_refl _, made_tab w6, hd.below (below_alloc _ _)⟩
    · go_wp2_with fail
      refine (once_dr (Dr.start hd.2) 16 (by decide) (by decide)).mono ?_
      rintro e w6 ⟨b6, rfl, hd6⟩
      replace hm := hm.kept hd6.1 hgp
      replace hd := hd6.from hd.1
      clear hd6
      cases b6
      · go_wp2
        go_ret
        exact ⟨g, c, 8, _, rfl, hg, by decide, by omega, hm.less, hd⟩
      · go_wp2
        go_ret
        exact ⟨w6.heap.size, 9, 9, tab9, rfl, hd.1.size, Nat.le_refl _, Nat.le_refl _, made_tab w6, hd.below (below_alloc _ _)⟩
  · go_wp2_with fail
    refine (below_dr (Dr.start hd.2) 9 (by decide) (by decide)).mono ?_
    rintro e w3 ⟨y, rfl, y0, y1, hd3⟩
    replace hm := hm.kept hd3.1 hgp
    replace hd := hd3.from hd.1
    clear hd3
    obtain ⟨W3, hW3, a3, b3, -⟩ := boxed w3 2 #[.int .i64 1001, .int .i64 (-1001), .int .i64 4611686018427387904]
    have hl2 : w.heap.size ≤ w3.heap.size := hd.1.size
    have hm3 : Made W3 g c 9 f := by
      obtain ⟨cur, q1, q2⟩ := hm
      exact ⟨cur, q1.below b3, q2⟩
    have hd3 : Dr w p a len cap W3 := hd.below b3
    clear hm hd
    go_wp2_with fail
    refine (below_dr (Dr.start hd3.2) 3 (by decide) (by decide)).mono ?_
    rintro e w4 ⟨z, rfl, z0, z1, hd4⟩
    obtain ⟨y', rfl⟩ : ∃ n : Nat, y = n := ⟨y.toNat, by omega⟩
    have hy9 : y' < 9 := by omega
    have hm4 := hm3.kept hd4.1 hgp
    have hd : Dr w p a len cap w4 := hd4.from hd3.1
    have a4 : At 2 w4 w3.heap.size #[.int .i64 1001, .int .i64 (-1001), .int .i64 4611686018427387904] := (hd4.1.block _ a3.lt (by omega)).trans a3
    obtain ⟨c0, c1, c2, -⟩ := a4.open3
    have hcell : w4.cell? ⟨g, y', none⟩ = some (.int .i64 (f y')) ∧ w4.frozen? ⟨g, y', none⟩ = false := by
      obtain ⟨cur, q1, q2, q3⟩ := hm4
      exact ⟨q1.cell y' (q3 y' hy9), q1.frozen y'⟩
    obtain ⟨e1, e2⟩ := hcell
    have HM : Hid (Made w4 g c 9 f) := hm4
    have HD : Hid (Dr w p a len cap w4) := hd
    clear hm3 hd3 hd4 hm4 hd a3 a4 hW3
    rcases (by omega : z = 0 ∨ z = 1 ∨ z = 2) with rfl | rfl | rfl
    · have hm := HM.out.put hy9 hc9 1001
      have hd := HD.out.set (i := y') hg hlt (.int .i64 1001)
      clear HM HD
      go_wp2_with fail
      refine (once_dr (Dr.start hd.2) 20 (by decide) (by decide)).mono ?_
      rintro e w5 ⟨b5, rfl, hd5⟩
      replace hm := hm.kept hd5.1 hgp
      replace hd := hd5.from hd.1
      clear hd5
      cases b5
      · go_wp2_with fail
        refine (once_dr (Dr.start hd.2) 16 (by decide) (by decide)).mono ?_
        rintro e w6 ⟨b6, rfl, hd6⟩
        replace hm := hm.kept hd6.1 hgp
        replace hd := hd6.from hd.1
        clear hd6
        cases b6
        · go_wp2
          go_ret
          exact ⟨g, c, 9, _, rfl, hg, Nat.le_refl _, hc9, hm, hd⟩
        · go_wp2
          go_ret
          exact ⟨w6.heap.size, 9, 9, tab9, rfl, hd.1.size, Nat.le_refl _, Nat.le_refl _, made_tab w6, hd.below (below_alloc _ _)⟩
      · go_wp2_with fail
        refine (once_dr (Dr.start hd.2) 16 (by decide) (by decide)).mono ?_
        rintro e w6 ⟨b6, rfl, hd6⟩
        replace hm := hm.kept hd6.1 hgp
        replace hd := hd6.from hd.1
        clear hd6
        cases b6
        · go_wp2
          go_ret
          exact ⟨g, c, 8, _, rfl, hg, by decide, by omega, hm.less, hd⟩
        · go_wp2
          go_ret
          exact ⟨w6.heap.size, 9, 9, tab9, rfl, hd.1.size, Nat.le_refl _, Nat.le_refl _, made_tab w6, hd.below (below_alloc _ _)⟩
    · have hm := HM.out.put hy9 hc9 (-1001)
      have hd := HD.out.set (i := y') hg hlt (.int .i64 (-1001))
      clear HM HD
      go_wp2_with fail
      refine (once_dr (Dr.start hd.2) 20 (by decide) (by decide)).mono ?_
      rintro e w5 ⟨b5, rfl, hd5⟩
      replace hm := hm.kept hd5.1 hgp
      replace hd := hd5.from hd.1
      clear hd5
      cases b5
      · go_wp2_with fail
        refine (once_dr (Dr.start hd.2) 16 (by decide) (by decide)).mono ?_
        rintro e w6 ⟨b6, rfl, hd6⟩
        replace hm := hm.kept hd6.1 hgp
        replace hd := hd6.from hd.1
        clear hd6
        cases b6
        · go_wp2
          go_ret
          exact ⟨g, c, 9, _, rfl, hg, Nat.le_refl _, hc9, hm, hd⟩
        · go_wp2
          go_ret
          exact ⟨w6.heap.size, 9, 9, tab9, rfl, hd.1.size, Nat.le_refl _, Nat.le_refl _, made_tab w6, hd.below (below_alloc _ _)⟩
      · go_wp2_with fail
        refine (once_dr (Dr.start hd.2) 16 (by decide) (by decide)).mono ?_
        rintro e w6 ⟨b6, rfl, hd6⟩
        replace hm := hm.kept hd6.1 hgp
        replace hd := hd6.from hd.1
        clear hd6
        cases b6
        · go_wp2
          go_ret
          exact ⟨g, c, 8, _, rfl, hg, by decide, by omega, hm.less, hd⟩
        · go_wp2
          go_ret
          exact ⟨w6.heap.size, 9, 9, tab9, rfl, hd.1.size, Nat.le_refl _, Nat.le_refl _, made_tab w6, hd.below (below_alloc _ _)⟩
    · have hm := HM.out.put hy9 hc9 4611686018427387904
      have hd := HD.out.set (i := y') hg hlt (.int .i64 4611686018427387904)
      clear HM HD
      go_wp2_with fail
      refine (once_dr (Dr.start hd.2) 20 (by decide) (by decide)).mono ?_
      rintro e w5 ⟨b5, rfl, hd5⟩
      replace hm := hm.kept hd5.1 hgp
      replace hd := hd5.from hd.1
      clear hd5
      cases b5
      · go_wp2_with fail
        refine (once_dr (Dr.start hd.2) 16 (by decide) (by decide)).mono ?_
        rintro e w6 ⟨b6, rfl, hd6⟩
        replace hm := hm.kept hd6.1 hgp
        replace hd := hd6.from hd.1
        clear hd6
        cases b6
        · go_wp2
          go_ret
          exact ⟨g, c, 9, _, rfl, hg, Nat.le_refl _, hc9, hm, hd⟩
        · go_wp2
          go_ret
          exact ⟨w6.heap.size, 9, 9, tab9, rfl, hd.1.size, Nat.le_refl _, Nat.le_refl _, made_tab w6, hd.below (below_alloc _ _)⟩
      · go_wp2_with fail
        refine (once_dr (Dr.start hd.2) 16 (by decide) (by decide)).mono ?_
        rintro e w6 ⟨b6, rfl, hd6⟩
        replace hm := hm.kept hd6.1 hgp
        replace hd := hd6.from hd.1
        clear hd6
        cases b6
        · go_wp2
          go_ret
          exact ⟨g, c, 8, _, rfl, hg, by decide, by omega, hm.less, hd⟩
        · go_wp2
          go_ret
          exact ⟨w6.heap.size, 9, 9, tab9, rfl, hd.1.size, Nat.le_refl _, Nat.le_refl _, made_tab w6, hd.below (below_alloc _ _)⟩
/-- The list that was drawn. -/
def Drew (w : World) (n : Nat) (v : Value) (w' : World) : Prop := ∃ g c f, v = .slice (some ⟨g, 0, none⟩) n c ∧ w.heap.size ≤ g ∧ n ≤ 9 ∧ n ≤ c ∧ Made w' g c n f
theorem drawDet_any {w : World} {a : Option Addr} {len cap : Nat} (hr : Row w w.heap.size a len) :
    Calls Try.prog 46 #[.slice a len cap] w fun e w' => ∃ n v, e = .returned v ∧ Drew w n v w' ∧ Below w.heap.size w w' := by
  go_enter Try.func46, Try.ntmps46
  go_wp2_with fail
  refine (new_any hr).mono ?_
  rintro e w1 ⟨rfl, b1, hc⟩
  go_wp2_with fail
  refine (drawAny_dr hc).mono ?_
  rintro e w2 ⟨g, c, n, f, rfl, hg, hn, hc9, hm, hd⟩
  go_wp2
  go_ret
  exact ⟨n, _, rfl, ⟨g, c, f, rfl, Nat.le_trans b1.size hg, hn, hc9, hm⟩, b1.trans (hd.1.below (Nat.le_refl _) b1.size)⟩
theorem drawSmith_any {w : World} {a : Option Addr} {len cap : Nat} (hr : Row w w.heap.size a len) :
    Calls Try.prog 17 #[.slice a len cap] w fun e w' => ∃ n v, e = .returned v ∧ Drew w n v w' ∧ Below w.heap.size w w' := by
  go_enter Try.func17, Try.ntmps17
  go_wp2_with fail
  refine (drawDet_any hr).mono ?_
  rintro e w1 ⟨n, v, rfl, hv, b1⟩
  go_wp2
  go_ret
  exact ⟨n, v, rfl, hv, b1⟩
end Go.Proofs.Ytlgkohiempcbhaa
