/-
  Lists of facets that are drawn, one number turned at times: walked.
-/
import Derived.Test.YtealbihplfpgeaaJa
namespace Go.Proofs.Ytealbihplfpgeaa
open Go.RowKit

theorem LF.take {w : World} {g c m k : Nat} {fo : Nat → Int} (h : LF w g c m fo) (hk : k ≤ m) : LF w g c k fo := by
  obtain ⟨h1, h2, cur, h3, h4, h5⟩ := h
  exact ⟨by omega, h2, cur, h3, h4, fun i hi => h5 i (by omega)⟩
set_option maxRecDepth 100000 in
set_option maxHeartbeats 4000000 in
theorem drawAny_any {w : World} {p : Nat} {a : Option Addr} {len cap : Nat} (hc : Dr w p a len cap w) : Calls Try.prog 45 #[.pointer (some ⟨p, 0, none⟩)] w fun e w' => DrawnF w p a len cap 17 e w' := by
  obtain ⟨i0, hi0, hz0, hz1, hz2⟩ := info_parts infoFacet2
  go_enter Try.func45, Try.ntmps45
  go_wp2_with fail
  refine (draw_any hc).mono ?_
  rintro e w1 ⟨g, c, m, fo, rfl, hm, hg, F, dr⟩
  go_wp2_with fail
  refine (once_dr (Dr.start dr.2) 14 (by omega) (by omega)).mono ?_
  rintro e w2 ⟨b, rfl, hd⟩
  replace F := F.drawn hd hg.2
  replace dr := hd.from dr.1
  clear hd hc
  cases b
  · go_wp2
    exact bodyPost_ret (v := .slice (some ⟨g, 0, none⟩) m c) (by simp [results, Try.results45, go_sem]) rfl ⟨g, c, m, fo, rfl, by omega, hg, F, dr⟩
  · by_cases hm0 : m = 0
    · subst hm0
      go_wp2
      exact bodyPost_ret (v := .slice (some ⟨g, 0, none⟩) 0 c) (by simp [results, Try.results45, go_sem]) rfl ⟨g, c, 0, fo, rfl, by omega, hg, F, dr⟩
    · have hmp : (0 : Int) < (m : Int) := by omega
      go_wp2_with fail
      refine (below_dr (Dr.start dr.2) (m : Int) (by omega) (by omega)).mono ?_
      rintro e w3 ⟨x, rfl, x0, x1, hd⟩
      obtain ⟨k, rfl⟩ : ∃ k : Nat, (k : Int) = x := ⟨x.toNat, by omega⟩
      replace F := F.drawn hd hg.2
      replace dr := hd.from dr.1
      clear hd
      go_wp2_with fail
      refine (below_dr (Dr.start dr.2) 4 (by omega) (by omega)).mono ?_
      rintro e w4 ⟨y, rfl, y0, y1, hd⟩
      replace F := F.drawn hd hg.2
      replace dr := hd.from dr.1
      clear hd
      have hkc : (k : Int) ≤ (c : Int) := by have := F.1; omega
      rcases (by omega : y = 0 ∨ y = 1 ∨ y = 2 ∨ y = 3) with rfl | rfl | rfl | rfl
      · obtain ⟨V, hV, A9, b9, -⟩ := boxed w4 2 #[.int .i64 (0), .int .i64 (-1), .int .i64 (1000), .int .i64 (1001)]
        have hpw : p < w4.heap.size := dr.2.lt
        have hne : w4.heap.size ≠ p := by omega
        replace F := F.below b9
        replace dr := dr.below b9
        go_wp2_with fail
        refine (below_dr (Dr.start dr.2) 4 (by omega) (by omega)).mono ?_
        rintro e w5 ⟨z, rfl, z0, z1, hd⟩
        replace F := F.drawn hd hg.2
        replace A9 := A9.keptBy hd.1 hne
        replace dr := hd.from dr.1
        clear hd hV b9
        have q0 := F.get (j := k * 3) (by omega)
        have q1 := F.get (j := k * 3 + 1) (by omega)
        have q2 := F.get (j := k * 3 + 2) (by omega)
        have f0 := F.free (k * 3)
        have f1 := F.free (k * 3 + 1)
        have f2 := F.free (k * 3 + 2)
        have lg := F.lt
        have lt9 := A9.lt
        rcases (by omega : z = 0 ∨ z = 1 ∨ z = 2 ∨ z = 3) with rfl | rfl | rfl | rfl
        all_goals
          have c0 := A9.cell 0 rfl
          have c1 := A9.cell 1 rfl
          have c2 := A9.cell 2 rfl
          have c3 := A9.cell 3 rfl
          go_wp2
          exact bodyPost_ret (v := .slice (some ⟨g, 0, none⟩) m c) (by simp [results, Try.results45, go_sem]) rfl ⟨g, c, m, _, rfl, by omega, hg, F.upd (j := k * 3 + 2) (by omega) _, dr.setNew hg.2 hg.1 _⟩
      · obtain ⟨V, hV, A9, b9, -⟩ := boxed w4 2 #[.int .i64 (50), .int .i64 (51), .int .i64 (49), .int .i64 (0), .int .i64 (2)]
        have hpw : p < w4.heap.size := dr.2.lt
        have hne : w4.heap.size ≠ p := by omega
        replace F := F.below b9
        replace dr := dr.below b9
        go_wp2_with fail
        refine (below_dr (Dr.start dr.2) 5 (by omega) (by omega)).mono ?_
        rintro e w5 ⟨z, rfl, z0, z1, hd⟩
        replace F := F.drawn hd hg.2
        replace A9 := A9.keptBy hd.1 hne
        replace dr := hd.from dr.1
        clear hd hV b9
        have q0 := F.get (j := k * 3) (by omega)
        have q1 := F.get (j := k * 3 + 1) (by omega)
        have q2 := F.get (j := k * 3 + 2) (by omega)
        have f0 := F.free (k * 3)
        have f1 := F.free (k * 3 + 1)
        have f2 := F.free (k * 3 + 2)
        have lg := F.lt
        have lt9 := A9.lt
        rcases (by omega : z = 0 ∨ z = 1 ∨ z = 2 ∨ z = 3 ∨ z = 4) with rfl | rfl | rfl | rfl | rfl
        all_goals
          have c0 := A9.cell 0 rfl
          have c1 := A9.cell 1 rfl
          have c2 := A9.cell 2 rfl
          have c3 := A9.cell 3 rfl
          have c4 := A9.cell 4 rfl
          go_wp2
          exact bodyPost_ret (v := .slice (some ⟨g, 0, none⟩) m c) (by simp [results, Try.results45, go_sem]) rfl ⟨g, c, m, _, rfl, by omega, hg, F.upd (j := k * 3) (by omega) _, dr.setNew hg.2 hg.1 _⟩
      · have q0 := F.get (j := k * 3) (by omega)
        have q1 := F.get (j := k * 3 + 1) (by omega)
        have q2 := F.get (j := k * 3 + 2) (by omega)
        have lg := F.lt
        have D : DL w w4 p a len cap g (.slice (some ⟨g, 0, none⟩) m c) m ((List.range (m * 3)).map fo) := ⟨dr, F.own (Nat.le_refl _), nn_some _ _ _, hg, Nat.le_of_lt F.lt⟩
        obtain ⟨V9, hV9, A9, b10, -⟩ := boxed w4 35 #[.int .i64 (fo (k * 3)), .int .i64 (fo (k * 3 + 1)), .int .i64 (fo (k * 3 + 2))]
        have R9 := D.below b10
        obtain ⟨g9, hg9⟩ : ∃ g, w4.heap.size = g := ⟨_, rfl⟩
        rw [hg9] at A9
        have hb2 : ∀ w, (Instr.buildSlice 24 1 #[(0, .agg #[.int .i64 (fo (k * 3)), .int .i64 (fo (k * 3 + 1)), .int .i64 (fo (k * 3 + 2))])]).run Try.prog w = .ok (.slice (some ⟨w.heap.size, 0, none⟩) 1 1) (w.alloc (.cells #[.int .i64 (fo (k * 3)), .int .i64 (fo (k * 3 + 1)), .int .i64 (fo (k * 3 + 2))] 35)) := fun _ => by kernel_rfl
        clear b10 F D dr
        go_wp2_with (at_builtin; refine wpList_append_own _ rfl _ _ _ rfl g 35 i0 _ 3 24 Try.underlying24 hi0 hz0 hz1 hz2 rfl (by omega) (.slice (some ⟨g, 0, none⟩) m c) m (lCells ((List.range (m * 3)).map fo)) rfl R9.own ⟨g9, 0, none⟩ 1 1 (lCells [fo (k * 3), fo (k * 3 + 1), fo (k * 3 + 2)]) rfl rfl (news3 A9) (lCells_one _) (by unfold maxLen; omega) (by omega) R9.o2 ?_; intro v2 w5 hown2 hgrow2 hne2)
        have R2 := R9.grow hown2 hgrow2 (fun h => R9.nn (hne2.1 h).1)
        obtain ⟨g', c', hv, hg', F'⟩ := R2.open
        subst hv
        exact bodyPost_ret (v := .slice (some ⟨g', 0, none⟩) (m + 1) c') (by simp [results, Try.results45, go_sem]) rfl ⟨g', c', m + 1, _, rfl, by omega, hg', F', R2.dr⟩
      · go_wp2
        exact bodyPost_ret (v := .slice (some ⟨g, 0, none⟩) k c) (by simp [results, Try.results45, go_sem]) rfl ⟨g, c, k, fo, rfl, by omega, hg, F.take (by omega), dr⟩
end Go.Proofs.Ytealbihplfpgeaa
