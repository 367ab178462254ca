/-
  Shapes and directions drawn; facets copied: walked.
-/
import Derived.Test.YtealbihplfpgeaaJb
namespace Go.Proofs.Ytealbihplfpgeaa
open Go.RowKit

/-- What is drawn: at most 17 facets in memory of their own, and two numbers. -/
def DrawnS (w : World) (e : Ending) (w' : World) : Prop := ∃ g c m fo, ∃ x y : Int, e = .returned (.tuple #[.slice (some ⟨g, 0, none⟩) m c, .int .i64 x, .int .i64 y]) ∧ m ≤ 17 ∧ w.heap.size ≤ g ∧ LF w' g c m fo ∧ Below w.heap.size w w'
set_option maxRecDepth 100000 in
set_option maxHeartbeats 4000000 in
theorem drawSupport_any {w : World} {a : Option Addr} {len cap : Nat} (hr : Row w w.heap.size a len) :
    Calls Try.prog 16 #[.slice a len cap] w fun e w' => DrawnS w e w' := by
  go_enter Try.func16, Try.ntmps16
  go_wp2_with fail
  refine (new_any hr).mono ?_
  rintro e w1 ⟨rfl, hb1, hc⟩
  replace hc := Dr.start hc
  have hsz := hb1.size
  obtain ⟨p, hp⟩ : ∃ p, w.heap.size = p := ⟨_, rfl⟩
  rw [hp] at hc ⊢
  go_wp2_with fail
  refine (drawAny_any hc).mono ?_
  rintro e w2 ⟨g, c, m, fo, rfl, hm, hg, F, dr⟩
  clear hc
  go_wp2_with fail
  refine (from_dr (Dr.start dr.2) (-9) 9 (by omega) (by omega) (by omega) (by omega)).mono ?_
  rintro e w3 ⟨x, rfl, x0, x1, hd⟩
  replace F := F.drawn hd hg.2
  replace dr := hd.from dr.1
  clear hd
  go_wp2_with fail
  refine (from_dr (Dr.start dr.2) (-9) 9 (by omega) (by omega) (by omega) (by omega)).mono ?_
  rintro e w4 ⟨y, rfl, y0, y1, hd⟩
  replace F := F.drawn hd hg.2
  replace dr := hd.from dr.1
  clear hd
  go_wp2_with fail
  refine (once_dr (Dr.start dr.2) 14 (by omega) (by omega)).mono ?_
  rintro e w5 ⟨b, rfl, hd⟩
  replace F := F.drawn hd hg.2
  replace dr := hd.from dr.1
  clear hd
  cases b
  · have HB : Below w.heap.size w w5 := hb1.trans (dr.1.below (by omega) hsz)
    have HG : w.heap.size ≤ g := by omega
    go_wp2
    exact bodyPost_ret (v := .tuple #[.slice (some ⟨g, 0, none⟩) m c, .int .i64 x, .int .i64 y]) (by simp [results, Try.results16, go_sem]) rfl ⟨g, c, m, fo, x, y, rfl, hm, HG, F, HB⟩
  · obtain ⟨V, hV, A9, b9, -⟩ := boxed w5 2 #[.int .i64 50, .int .i64 51, .int .i64 (-4611686018427387904)]
    have hpw : p < w5.heap.size := dr.2.lt
    have hne : w5.heap.size ≠ p := by omega
    replace F := F.below b9
    replace dr := dr.below b9
    go_wp2_with fail
    refine (below_dr (Dr.start dr.2) 3 (by omega) (by omega)).mono ?_
    rintro e w6 ⟨z, rfl, z0, z1, hd⟩
    replace F := F.drawn hd hg.2
    replace A9 := A9.keptBy hd.1 hne
    replace dr := hd.from dr.1
    clear hd hV b9
    have lt9 := A9.lt
    have HB : Below w.heap.size w w6 := hb1.trans (dr.1.below (by omega) hsz)
    have HG : w.heap.size ≤ g := by omega
    rcases (by omega : z = 0 ∨ z = 1 ∨ z = 2) with rfl | rfl | rfl
    all_goals
      obtain ⟨c0, c1, c2, -⟩ := A9.open3
      go_wp2
    · exact bodyPost_ret (v := .tuple #[.slice (some ⟨g, 0, none⟩) m c, .int .i64 x, .int .i64 50]) (by simp [results, Try.results16, go_sem]) rfl ⟨g, c, m, fo, x, _, rfl, hm, HG, F, HB⟩
    · exact bodyPost_ret (v := .tuple #[.slice (some ⟨g, 0, none⟩) m c, .int .i64 x, .int .i64 51]) (by simp [results, Try.results16, go_sem]) rfl ⟨g, c, m, fo, x, _, rfl, hm, HG, F, HB⟩
    · exact bodyPost_ret (v := .tuple #[.slice (some ⟨g, 0, none⟩) m c, .int .i64 x, .int .i64 (-4611686018427387904)]) (by simp [results, Try.results16, go_sem]) rfl ⟨g, c, m, fo, x, _, rfl, hm, HG, F, HB⟩
set_option maxRecDepth 100000 in
theorem copyFacets_any {w : World} {g n c : Nat} {f : Nat → Int} (h : Trips w g n f) (hn : n ≤ 1048576) :
    Calls Try.prog 12 #[.slice (some ⟨g, 0, none⟩) n c] w fun e w' => (∃ g' c', e = .returned (.slice (some ⟨g', 0, none⟩) n c') ∧ n ≤ c' ∧ Trips w' g' n f) ∧ Below w.heap.size w w' := by
  obtain ⟨i0, hi0, hz0, hz1, hz2⟩ := info_parts infoFacet2
  obtain ⟨V, hV, A0, B, -⟩ := boxed w 35 #[]
  obtain ⟨q, hq⟩ : ∃ q, w.heap.size = q := ⟨_, rfl⟩
  have L := h.below B
  have hqV : q ≤ V.heap.size := by rw [← hq]; exact B.size
  rw [hq] at A0
  have O1 : V.ownsRow q 35 3 (.slice (some ⟨q, 0, none⟩) 0 0) 0 [] := ⟨rfl, .inr ⟨q, 0, #[], rfl, Nat.le_refl _, A0, Nat.le_refl _, Nat.zero_le _, rfl, rfl⟩⟩
  have hbs : ∀ w, (Instr.buildSlice 24 0 #[]).run Try.prog w = .ok (.slice (some ⟨w.heap.size, 0, none⟩) 0 0) (w.alloc (.cells #[] 35)) := fun _ => by kernel_rfl
  have hnews := newsL (w := V) (b := g) (o := 0) (l := (List.range (n * 3)).map f) (fun j hj => by
    simp only [List.length_map, List.length_range] at hj
    rw [Nat.zero_add, L.2 j hj]
    simp [hj])
  clear A0
  go_enter Try.func12, Try.ntmps12
  go_wp2_with (at_builtin; refine wpList_append_own _ rfl _ _ _ rfl q 35 i0 _ 3 24 Try.underlying24 hi0 hz0 hz1 hz2 rfl (by omega) (.slice (some ⟨q, 0, none⟩) 0 0) 0 [] rfl O1 ⟨g, 0, none⟩ n c (lCells ((List.range (n * 3)).map f)) rfl (by simp [lCells]) hnews (lCells_one _) (by unfold maxLen; omega) (by omega) hqV ?_; intro v2 w5 hown hgrow hne)
  have bg : Below w.heap.size V w5 := Below.grown (Below.refl _ _) hgrow (by omega) (fun x hx => by have := ownBlock_ge O1 hx; omega)
  rcases hown.2 with ⟨e, _⟩ | ⟨g', c', cur, e, hb, hh, hc1, hc2, hsz, ht⟩
  · exact absurd (hne.1 e).1 (nn_some _ _ _)
  · subst e
    refine bodyPost_ret (v := .slice (some ⟨g', 0, none⟩) (0 + n) c') (by simp [results, Try.results12, go_sem]) rfl ⟨⟨g', c', by rw [Nat.zero_add], by omega, (Array.getElem?_eq_some_iff.1 hh).1, fun i hi => ?_⟩, B.trans bg⟩
    have a1 : (lCells ((List.range (n * 3)).map f))[i]? = some (.int .i64 (f i)) := by simp [lCells, hi]
    rw [List.nil_append] at ht
    rw [← ht] at a1
    rw [List.getElem?_take_of_lt (by omega)] at a1
    simpa [World.cell?, hh] using a1
end Go.Proofs.Ytealbihplfpgeaa
