/-
  A matrix and a vector drawn, walked.
-/
import Derived.Test.YtlgkohiempcbhaaWalkT
namespace Go.Proofs.Ytlgkohiempcbhaa
open Go.RowKit

theorem made_below {w w' : World} {g c n : Nat} {f : Nat → Int} (h : Made w g c n f) (hb : Below w.heap.size w w') : Made w' g c n f := by
  obtain ⟨cur, q1, q2⟩ := h
  exact ⟨cur, q1.below hb, q2⟩
set_option maxRecDepth 100000 in
set_option maxHeartbeats 3200000 in
theorem drawContains_any {w : World} {a : Option Addr} {len cap : Nat} (hr : Row w w.heap.size a len) :
    Calls Try.prog 22 #[.slice a len cap] w fun e w' => ∃ n v x y z, e = .returned (.tuple #[v, .int .i64 x, .int .i64 y, .int .i64 z]) ∧ Drew w n v w' ∧ Below w.heap.size w w' := by
  go_enter Try.func22, Try.ntmps22
  go_wp2_with fail
  refine (new_any hr).mono ?_
  rintro e w1 ⟨rfl, b1, hc⟩
  go_wp2_with fail
  refine (drawAny_dr hc).mono ?_
  rintro e w2 ⟨g, c, n, f, rfl, hg, hn, hnc, hm, hd⟩
  have hgp : g ≠ w.heap.size := by
    have := hc.lt
    omega
  go_wp2_with fail
  refine (from_dr (Dr.start hd.2) (-30) 30 (by decide) (by decide) (by decide)).mono ?_
  rintro e w3 ⟨x, rfl, x0, x1, hd3⟩
  replace hm := hm.kept hd3.1 hgp
  replace hd := hd3.from hd.1
  clear hd3
  go_wp2_with fail
  refine (from_dr (Dr.start hd.2) (-30) 30 (by decide) (by decide) (by decide)).mono ?_
  rintro e w4 ⟨y, rfl, y0, y1, hd4⟩
  replace hm := hm.kept hd4.1 hgp
  replace hd := hd4.from hd.1
  clear hd4
  go_wp2_with fail
  refine (from_dr (Dr.start hd.2) (-30) 30 (by decide) (by decide) (by decide)).mono ?_
  rintro e w5 ⟨z, rfl, z0, z1, hd5⟩
  replace hm := hm.kept hd5.1 hgp
  replace hd := hd5.from hd.1
  clear hd5
  have hn' : (n : Int) ≤ 9 := by omega
  by_cases h9 : n = 9
  · subst h9
    go_wp2_with fail
    refine (once_dr (Dr.start hd.2) 3 (by decide) (by decide)).mono ?_
    rintro e w6 ⟨b6, rfl, hd6⟩
    replace hm := hm.kept hd6.1 hgp
    replace hd := hd6.from hd.1
    clear hd6
    cases b6
    · go_wp2_with fail
      refine (from_dr (Dr.start hd.2) (-4) 4 (by decide) (by decide) (by decide)).mono ?_
      rintro e w11 ⟨p, rfl, p0, p1, hd11⟩
      replace hm := hm.kept hd11.1 hgp
      replace hd := hd11.from hd.1
      clear hd11
      go_wp2_with fail
      refine (from_dr (Dr.start hd.2) (-4) 4 (by decide) (by decide) (by decide)).mono ?_
      rintro e w12 ⟨q, rfl, q0, q1, hd11⟩
      replace hm := hm.kept hd11.1 hgp
      replace hd := hd11.from hd.1
      clear hd11
      go_wp2_with fail
      refine (from_dr (Dr.start hd.2) (-4) 4 (by decide) (by decide) (by decide)).mono ?_
      rintro e w13 ⟨r, rfl, r0, r1, hd11⟩
      replace hm := hm.kept hd11.1 hgp
      replace hd := hd11.from hd.1
      clear hd11
      have hms := hm
      obtain ⟨cur, q1, q2, q3⟩ := hms
      have m0 := q1.cell 0 (q3 0 (by decide))
      have m1 := q1.cell 1 (q3 1 (by decide))
      have m2 := q1.cell 2 (q3 2 (by decide))
      have m3 := q1.cell 3 (q3 3 (by decide))
      have m4 := q1.cell 4 (q3 4 (by decide))
      have m5 := q1.cell 5 (q3 5 (by decide))
      have m6 := q1.cell 6 (q3 6 (by decide))
      have m7 := q1.cell 7 (q3 7 (by decide))
      have m8 := q1.cell 8 (q3 8 (by decide))
      clear q1 q2 q3 cur
      have HMD : Hid (Made w13 g c 9 f ∧ Dr w1 w.heap.size a len cap w13) := ⟨hm, hd⟩
      clear hm hd
      go_wp2_with fail
      go_quiet (fail)
      go_wp2_with fail
      go_quiet (fail)
      go_wp2_with fail
      go_quiet (fail)
      go_wp2_with fail
      have hmq : ∀ k, Made (w13.drewN k) g c 9 f := fun k => made_below HMD.out.1 (below_drewN (Below.refl _ _) k)
      have hdq : ∀ k, Dr w1 w.heap.size a len cap (w13.drewN k) := fun k => Dr.below HMD.out.2 (below_drewN (Below.refl _ _) k)
      refine (once_dr (Dr.start (hdq _).2) 20 (by decide) (by decide)).mono ?_
      rintro e w8 ⟨b8, rfl, hd8⟩
      have hm := (hmq _).kept hd8.1 hgp
      have hd := hd8.from (hdq _).1
      clear hd8 hmq hdq HMD
      cases b8
      · go_wp2
        exact bodyPost_ret (v := .tuple #[.slice (some ⟨g, 0, none⟩) 9 c, .int .i64 _, .int .i64 _, .int .i64 _]) (by simp [results, Try.results22, go_sem]; exact ⟨rfl, rfl, rfl⟩) rfl ⟨_, _, _, _, _, rfl, ⟨g, c, f, rfl, Nat.le_trans b1.size hg, hn, hnc, hm⟩, b1.trans (hd.1.below (Nat.le_refl _) b1.size)⟩
      · obtain ⟨W9, hW9, a9, b9, -⟩ := boxed w8 2 #[.int .i64 1000000000, .int .i64 1000000001, .int .i64 (-1000000000), .int .i64 4611686018427387904]
        have hl9 : w1.heap.size ≤ w8.heap.size := hd.1.size
        have hcl := hc.lt
        have hm9 : Made W9 g c 9 f := by
          obtain ⟨cur, q1, q2⟩ := hm
          exact ⟨cur, q1.below b9, q2⟩
        have hd9 : Dr w1 w.heap.size a len cap W9 := hd.below b9
        clear hm hd
        go_wp2_with fail
        refine (below_dr (Dr.start hd9.2) 4 (by decide) (by decide)).mono ?_
        rintro e w10 ⟨u, rfl, u0, u1, hd10⟩
        have hm := hm9.kept hd10.1 hgp
        have hd : Dr w1 w.heap.size a len cap w10 := hd10.from hd9.1
        have a10 : At 2 w10 w8.heap.size #[.int .i64 1000000000, .int .i64 1000000001, .int .i64 (-1000000000), .int .i64 4611686018427387904] := (hd10.1.block _ a9.lt (by omega)).trans a9
        have t0 := a10.cell 0 rfl
        have t1 := a10.cell 1 rfl
        have t2 := a10.cell 2 rfl
        have t3 := a10.cell 3 rfl
        have HM : Hid (Made w10 g c 9 f ∧ Dr w1 w.heap.size a len cap w10) := ⟨hm, hd⟩
        clear hm9 hd9 hd10 a9 a10 hW9 hm hd
        rcases (by omega : u = 0 ∨ u = 1 ∨ u = 2 ∨ u = 3) with rfl | rfl | rfl | rfl
        all_goals
          go_wp2
          exact bodyPost_ret (v := .tuple #[.slice (some ⟨g, 0, none⟩) 9 c, .int .i64 _, .int .i64 _, .int .i64 _]) (by simp [results, Try.results22, go_sem]; exact ⟨rfl, rfl, rfl⟩) rfl ⟨_, _, _, _, _, rfl, ⟨g, c, f, rfl, Nat.le_trans b1.size hg, hn, hnc, HM.out.1⟩, b1.trans (HM.out.2.1.below (Nat.le_refl _) b1.size)⟩
    · go_wp2_with fail
      refine (once_dr (Dr.start hd.2) 20 (by decide) (by decide)).mono ?_
      rintro e w8 ⟨b8, rfl, hd8⟩
      replace hm := hm.kept hd8.1 hgp
      replace hd := hd8.from hd.1
      clear hd8
      cases b8
      · go_wp2
        exact bodyPost_ret (v := .tuple #[.slice (some ⟨g, 0, none⟩) 9 c, .int .i64 _, .int .i64 _, .int .i64 _]) (by simp [results, Try.results22, go_sem]; exact ⟨rfl, rfl, rfl⟩) rfl ⟨_, _, _, _, _, rfl, ⟨g, c, f, rfl, Nat.le_trans b1.size hg, hn, hnc, hm⟩, b1.trans (hd.1.below (Nat.le_refl _) b1.size)⟩
      · obtain ⟨W9, hW9, a9, b9, -⟩ := boxed w8 2 #[.int .i64 1000000000, .int .i64 1000000001, .int .i64 (-1000000000), .int .i64 4611686018427387904]
        have hl9 : w1.heap.size ≤ w8.heap.size := hd.1.size
        have hcl := hc.lt
        have hm9 : Made W9 g c 9 f := by
          obtain ⟨cur, q1, q2⟩ := hm
          exact ⟨cur, q1.below b9, q2⟩
        have hd9 : Dr w1 w.heap.size a len cap W9 := hd.below b9
        clear hm hd
        go_wp2_with fail
        refine (below_dr (Dr.start hd9.2) 4 (by decide) (by decide)).mono ?_
        rintro e w10 ⟨u, rfl, u0, u1, hd10⟩
        have hm := hm9.kept hd10.1 hgp
        have hd : Dr w1 w.heap.size a len cap w10 := hd10.from hd9.1
        have a10 : At 2 w10 w8.heap.size #[.int .i64 1000000000, .int .i64 1000000001, .int .i64 (-1000000000), .int .i64 4611686018427387904] := (hd10.1.block _ a9.lt (by omega)).trans a9
        have t0 := a10.cell 0 rfl
        have t1 := a10.cell 1 rfl
        have t2 := a10.cell 2 rfl
        have t3 := a10.cell 3 rfl
        have HM : Hid (Made w10 g c 9 f ∧ Dr w1 w.heap.size a len cap w10) := ⟨hm, hd⟩
        clear hm9 hd9 hd10 a9 a10 hW9 hm hd
        rcases (by omega : u = 0 ∨ u = 1 ∨ u = 2 ∨ u = 3) with rfl | rfl | rfl | rfl
        all_goals
          go_wp2
          exact bodyPost_ret (v := .tuple #[.slice (some ⟨g, 0, none⟩) 9 c, .int .i64 _, .int .i64 _, .int .i64 _]) (by simp [results, Try.results22, go_sem]; exact ⟨rfl, rfl, rfl⟩) rfl ⟨_, _, _, _, _, rfl, ⟨g, c, f, rfl, Nat.le_trans b1.size hg, hn, hnc, HM.out.1⟩, b1.trans (HM.out.2.1.below (Nat.le_refl _) b1.size)⟩
  · have h9' : ((n : Int) == 9) = false := by simp; omega
    go_wp2_with fail
    refine (once_dr (Dr.start hd.2) 20 (by decide) (by decide)).mono ?_
    rintro e w8 ⟨b8, rfl, hd8⟩
    replace hm := hm.kept hd8.1 hgp
    replace hd := hd8.from hd.1
    clear hd8
    cases b8
    · go_wp2
      exact bodyPost_ret (v := .tuple #[.slice (some ⟨g, 0, none⟩) n c, .int .i64 _, .int .i64 _, .int .i64 _]) (by simp [results, Try.results22, go_sem]; exact ⟨rfl, rfl, rfl⟩) rfl ⟨_, _, _, _, _, rfl, ⟨g, c, f, rfl, Nat.le_trans b1.size hg, hn, hnc, hm⟩, b1.trans (hd.1.below (Nat.le_refl _) b1.size)⟩
    · obtain ⟨W9, hW9, a9, b9, -⟩ := boxed w8 2 #[.int .i64 1000000000, .int .i64 1000000001, .int .i64 (-1000000000), .int .i64 4611686018427387904]
      have hl9 : w1.heap.size ≤ w8.heap.size := hd.1.size
      have hcl := hc.lt
      have hm9 : Made W9 g c n f := by
        obtain ⟨cur, q1, q2⟩ := hm
        exact ⟨cur, q1.below b9, q2⟩
      have hd9 : Dr w1 w.heap.size a len cap W9 := hd.below b9
      clear hm hd
      go_wp2_with fail
      refine (below_dr (Dr.start hd9.2) 4 (by decide) (by decide)).mono ?_
      rintro e w10 ⟨u, rfl, u0, u1, hd10⟩
      have hm := hm9.kept hd10.1 hgp
      have hd : Dr w1 w.heap.size a len cap w10 := hd10.from hd9.1
      have a10 : At 2 w10 w8.heap.size #[.int .i64 1000000000, .int .i64 1000000001, .int .i64 (-1000000000), .int .i64 4611686018427387904] := (hd10.1.block _ a9.lt (by omega)).trans a9
      have t0 := a10.cell 0 rfl
      have t1 := a10.cell 1 rfl
      have t2 := a10.cell 2 rfl
      have t3 := a10.cell 3 rfl
      have HM : Hid (Made w10 g c n f ∧ Dr w1 w.heap.size a len cap w10) := ⟨hm, hd⟩
      clear hm9 hd9 hd10 a9 a10 hW9 hm hd
      rcases (by omega : u = 0 ∨ u = 1 ∨ u = 2 ∨ u = 3) with rfl | rfl | rfl | rfl
      all_goals
        go_wp2
        exact bodyPost_ret (v := .tuple #[.slice (some ⟨g, 0, none⟩) n c, .int .i64 _, .int .i64 _, .int .i64 _]) (by simp [results, Try.results22, go_sem]; exact ⟨rfl, rfl, rfl⟩) rfl ⟨_, _, _, _, _, rfl, ⟨g, c, f, rfl, Nat.le_trans b1.size hg, hn, hnc, HM.out.1⟩, b1.trans (HM.out.2.1.below (Nat.le_refl _) b1.size)⟩
end Go.Proofs.Ytlgkohiempcbhaa
