/-
  A lab spoilt: walked.
-/
import Derived.Test.YtnjnffemidaopaaL17zh
namespace Go.Proofs.Ytnjnffemidaopaa
open Go.RowKit

theorem ne_of_at {K q g c n lo hi : Nat} {t u : TypeId} {w : World} {vs : Array Value} {f : Nat → Int} (h : At t w q vs) (l : ArK K u w lo hi (.slice (some ⟨g, 0, none⟩) n c) n f) (htu : u ≠ t) : q ≠ g := by
  have := l.box h htu
  intro e
  subst e
  exact this rfl
/-- What a spoilt lab's draw tells: its numbers may be any. -/
def LbE (w : World) (p : Nat) (a : Option Addr) (len cap : Nat) (e : Ending) (w' : World) : Prop := ∃ vS vJ n f m g T, e = .returned (labV vS vJ T) ∧ n ≤ 100 ∧ m ≤ 300 ∧ ArK 3 37 w' w.heap.size w'.heap.size vS n f ∧ ArK 4 39 w' w.heap.size w'.heap.size vJ m g ∧ Kept p w w' ∧ Cur w' p a len cap
set_option maxRecDepth 100000 in
set_option maxHeartbeats 12800000 in
theorem spoil_any {w : World} {p : Nat} {a : Option Addr} {len cap : Nat} (hc : Cur w p a len cap) {sa aj : Option Addr} {n d m c : Nat} {f g : Nat → Int} {T : Int} (hs : Ls 3 w sa n f) (hj : Ls 4 w aj m g) (hn : n ≤ 100) (hm : m ≤ 300) (hcS : sa = none → n = 0 ∧ d = 0) (hcJ : aj = none → m = 0 ∧ c = 0) (hT : -1000000 ≤ T ∧ T ≤ 1000000) :
    Calls Try.prog 35 #[.pointer (some ⟨p, 0, none⟩), lbV sa n d aj m c T] w (LbE w p a len cap) := by
  have hpw := hc.lt
  obtain ⟨W2, hW2, A3, A4, BW, hsz⟩ := bx2n w 27 27 #[.slice sa n d, .slice aj m c, .int .i64 T] #[.slice none 0 0, .slice none 0 0, .int .i64 0]
  obtain ⟨q3, hq3⟩ : ∃ q, w.heap.size = q := ⟨_, rfl⟩
  obtain ⟨q4, hq4⟩ : ∃ q, q3 + 1 = q := ⟨_, rfl⟩
  rw [hq3] at A3 A4
  rw [hq4] at A4
  have hq3w : w.heap.size ≤ q3 := by omega
  have hq4w : w.heap.size ≤ q4 := by omega
  have h34 : q4 ≠ q3 := by omega
  have hp4 : q4 ≠ p := by omega
  have hs2 := hs.below BW
  have hj2 := hj.below BW
  have hc2 := hc.kept BW
  have K2 : Kept p w W2 := Kept.of_below BW
  have hl2 : w.heap.size ≤ W2.heap.size := BW.size
  clear hsz
  obtain ⟨z0, z1, z2, -⟩ := A3.open3
  go_enter Try.func35, Try.ntmps35
  go_wp2_with fail
  clear hW2 hq3 hq4 z0 z1 z2 hs hj
  refine (l17Copy_any hs2 hj2 hcS hcJ (by omega) (by omega)).mono ?_
  rintro e w3 ⟨vS, vJ, rfl, S6, J6, hvS, hvJ, bb⟩
  clear hs2 hj2 hcS hcJ
  obtain ⟨gS, cS, rfl, -, -, -, -⟩ := S6.nn hvS
  obtain ⟨gJ, cJ, rfl, -, -, -, -⟩ := J6.nn hvJ
  replace A3 := A3.below bb
  replace A4 := A4.below bb
  replace S6 := S6.wide hl2 (Nat.le_refl _)
  replace J6 := J6.wide hl2 (Nat.le_refl _)
  have hc3 := hc2.kept bb
  have K3 := K2.trans (Kept.of_below bb)
  clear bb hvS hvJ hc2 K2 hl2 BW
  obtain ⟨z0, z1, z2, y0, y1, y2⟩ := A3.open3
  have bx := put3_at A3 (.slice (some ⟨gS, 0, none⟩) n cS) (.slice (some ⟨gJ, 0, none⟩) m cJ) (.int .i64 T)
  have U := put3_only w3 q3 (.slice (some ⟨gS, 0, none⟩) n cS) (.slice (some ⟨gJ, 0, none⟩) m cJ) (.int .i64 T)
  have bl := below_put3 (Below.refl w.heap.size w3) hq3w (.slice (some ⟨gS, 0, none⟩) n cS) (.slice (some ⟨gJ, 0, none⟩) m cJ) (.int .i64 T)
  have a4 := A4.only U (ownb h34)
  have R : DB w _ p a len cap q3 (.slice (some ⟨gS, 0, none⟩) n cS) (.slice (some ⟨gJ, 0, none⟩) m cJ) n f m g T := ⟨⟨bx, (S6.only U (apart_box (S6.box A3 (by decide)))).fit, (J6.only U (apart_box (J6.box A3 (by decide)))).fit, hq3w⟩, hc3.belowN bl hpw, K3.belowN bl (Nat.le_refl _), hpw⟩
  obtain ⟨w4, hw4⟩ : ∃ V, ((w3.setCell ⟨q3, 0, none⟩ (.slice (some ⟨gS, 0, none⟩) n cS)).setCell ⟨q3, 1, none⟩ (.slice (some ⟨gJ, 0, none⟩) m cJ)).setCell ⟨q3, 2, none⟩ (.int .i64 T) = V := ⟨_, rfl⟩
  rw [hw4] at R a4
  clear bx U bl S6 J6 A3 A4 hc3 K3
  rename At 27 w4 q4 _ => A4
  go_wp2_with fail
  clear hw4 z0 z1 z2 y0 y1 y2
  refine (below_dr R.st 8 (by omega) (by omega)).mono ?_
  rintro e w5 ⟨k, rfl, k0, k1, hd⟩
  replace R := R.draw hd
  replace A4 := A4.keptL hd.1 hp4
  clear hd
  obtain ⟨z0, z1, z2, -⟩ := R.lk.bx.open3
  by_cases hk3 : k < 3 ∧ 0 < n
  · obtain ⟨hk3, hn0⟩ := hk3
    have hn0' : (0 : Int) < (n : Int) := by omega
    go_wp2_with fail
    go_cut [6] from 20 to 28 (fun s6 wc => ∃ i : Nat, i < n ∧ s6 = .pointer (some ⟨gS, i * 3, none⟩) ∧ DB w wc p a len cap q3 (.slice (some ⟨gS, 0, none⟩) n cS) (.slice (some ⟨gJ, 0, none⟩) m cJ) n f m g T ∧ At 27 wc q4 #[.slice none 0 0, .slice none 0 0, .int .i64 0])
    case first =>
      clear z0 z1 z2
      obtain ⟨u0, hu0, bb⟩ : ∃ uu, w5.drew = uu ∧ Below w5.heap.size w5 uu := ⟨_, rfl, (Below.refl _ _).drew⟩
      replace R := R.below bb
      replace A4 := A4.below bb
      clear bb
      refine wp_region_held_drew (S := fun w' => At 27 w' q3 #[.slice (some ⟨gS, 0, none⟩) n cS, .slice (some ⟨gJ, 0, none⟩) m cJ, .int .i64 T]) (by kernel_rfl) (by rw [hu0]; exact R.lk.bx) (fun hHeld => ?_)
      rw [hu0] at hHeld ⊢
      clear hu0
      change wpAnyH _ _ _ _ _ 9 #[false, false, false, false, false, false, false, false, false] _ _
      refine wpAnyH_take (i := 0) (v := .pointer (some ⟨q3, 0, none⟩)) rfl (by kernel_rfl) (by kernel_rfl) (by kernel_rfl) (fun _ _ _ h => h) (Or.inl ⟨by kernel_rfl, ?_⟩) hHeld ?_
      · intro w' hSw; go_simp
      try simp only [Act.put, List.setIfInBounds_toArray, List.set_cons_zero, List.set_cons_succ, List.getElem_toArray, List.getElem_cons_zero]
      refine wpAnyH_take (i := 1) (v := .slice ((some ⟨gS, 0, none⟩)) n cS) rfl (by kernel_rfl) (by kernel_rfl) (by kernel_rfl) (fun _ _ _ h => h) (Or.inl ⟨by kernel_rfl, ?_⟩) hHeld ?_
      · intro w' hSw; obtain ⟨z0, z1, z2, -⟩ := At.open3 hSw; go_simp
      try simp only [Act.put, List.setIfInBounds_toArray, List.set_cons_zero, List.set_cons_succ, List.getElem_toArray, List.getElem_cons_succ, List.getElem_cons_zero]
      refine wpAnyH_take (i := 2) (v := .pointer (some ⟨p, 0, none⟩)) rfl (by kernel_rfl) (by kernel_rfl) (by kernel_rfl) (fun _ _ _ h => h) (Or.inl ⟨by kernel_rfl, ?_⟩) hHeld ?_
      · intro w' hSw; go_simp
      try simp only [Act.put, List.setIfInBounds_toArray, List.set_cons_zero, List.set_cons_succ, List.getElem_toArray, List.getElem_cons_succ, List.getElem_cons_zero]
      refine wpAnyH_take (i := 3) (v := .pointer (some ⟨q3, 0, none⟩)) rfl (by kernel_rfl) (by kernel_rfl) (by kernel_rfl) (fun _ _ _ h => h) (Or.inl ⟨by kernel_rfl, ?_⟩) hHeld ?_
      · intro w' hSw; go_simp
      try simp only [Act.put, List.setIfInBounds_toArray, List.set_cons_zero, List.set_cons_succ, List.getElem_toArray, List.getElem_cons_succ, List.getElem_cons_zero]
      refine wpAnyH_take (i := 4) (v := .slice ((some ⟨gS, 0, none⟩)) n cS) rfl (by kernel_rfl) (by kernel_rfl) (by kernel_rfl) (fun _ _ _ h => h) (Or.inl ⟨by kernel_rfl, ?_⟩) hHeld ?_
      · intro w' hSw; obtain ⟨z0, z1, z2, -⟩ := At.open3 hSw; go_simp
      try simp only [Act.put, List.setIfInBounds_toArray, List.set_cons_zero, List.set_cons_succ, List.getElem_toArray, List.getElem_cons_succ, List.getElem_cons_zero]
      refine wpAnyH_take (i := 5) (v := .int .i64 (n)) rfl (by kernel_rfl) (by kernel_rfl) (by kernel_rfl) (fun _ _ _ h => h) (Or.inl ⟨by kernel_rfl, ?_⟩) hHeld ?_
      · intro w' hSw; go_simp
      try simp only [Act.put, List.setIfInBounds_toArray, List.set_cons_zero, List.set_cons_succ, List.getElem_toArray, List.getElem_cons_succ, List.getElem_cons_zero]
      refine wpAnyH_ready (rs := [6]) (by kernel_rfl) (by simp) ?_
      refine AllReadyH.cons rfl (fun KK hK' => ?_) AllReadyH.nil
      go_simp
      refine (below_dr R.st (n : Int) (by omega) (by omega)).mono ?_
      rintro e u1 ⟨x9, rfl, x90, x91, hd⟩
      replace R := R.draw hd
      replace A4 := A4.keptL hd.1 hp4
      clear hd
      obtain ⟨i9, rfl⟩ : ∃ i9 : Nat, x9 = (i9 : Int) := ⟨x9.toNat, by omega⟩
      have hi9 : i9 < n := by omega
      try go_wp2_with fail
      clear hHeld
      refine hK'.out _ _ (R.lk.bx) (fun hHeld => ?_)
      clear hK' KK
      try simp only [List.setIfInBounds_toArray, List.set_cons_zero, List.set_cons_succ]
      refine wpAnyH_take (i := 7) (v := .pointer (some ⟨gS, i9 * 3, none⟩)) rfl (by kernel_rfl) (by kernel_rfl) (by kernel_rfl) (fun _ _ _ h => h) (Or.inl ⟨by kernel_rfl, ?_⟩) hHeld ?_
      · intro w' hSw; go_simp
      try simp only [Act.put, List.setIfInBounds_toArray, List.set_cons_zero, List.set_cons_succ, List.getElem_toArray, List.getElem_cons_succ, List.getElem_cons_zero]
      refine wpAnyH_take (i := 8) (v := .pointer (some ⟨gS, i9 * 3, none⟩)) rfl (by kernel_rfl) (by kernel_rfl) (by kernel_rfl) (fun _ _ _ h => h) (Or.inl ⟨by kernel_rfl, ?_⟩) hHeld ?_
      · intro w' hSw; go_simp
      try simp only [Act.put, List.setIfInBounds_toArray, List.set_cons_zero, List.set_cons_succ, List.getElem_toArray, List.getElem_cons_succ, List.getElem_cons_zero]
      refine wpAnyH_done (by kernel_rfl) ?_ _
      clear hHeld
      go_wp2_with fail
      go_meet
      case rel => exact ⟨i9, hi9, rfl, R, A4⟩
    case rest =>
      obtain ⟨i, hi, rfl, R, A4⟩ := hcut
      rename World => w6
      rcases (by omega : k = 0 ∨ k = 1 ∨ k = 2) with rfl | rfl | rfl
      · skip
        go_wp2_with fail
        refine (from_dr R.st 0 4 (by omega) (by omega) (by omega) (by omega)).mono ?_
        rintro e w7 ⟨y, rfl, y0, y1, hd⟩
        replace R := R.draw hd
        replace A4 := A4.keptL hd.1 hp4
        clear hd
        have up := R.lk.updS (i := i * 3) (by omega) y
        obtain ⟨x0, x1, x2⟩ := R.lk.frS (i := i * 3) (by omega)
        have a5 := A4.setOther (i := i * 3) (ne_of_at A4 R.lk.S (by decide)) (.int .i64 y)
        obtain ⟨w8, hw8⟩ : ∃ V, w7.setCell ⟨gS, i * 3, none⟩ (.int .i64 y) = V := ⟨_, rfl⟩
        rw [hw8] at up a5
        replace R := R.next up.1 up.2
        replace A4 := a5
        clear a5 up
        obtain ⟨z0, z1, z2, -⟩ := R.lk.bx.open3
        obtain ⟨d0, d1, d2, e0, e1, e2⟩ := A4.open3
        go_wp2
        have a7 := put3_at A4 (.slice (some ⟨gS, 0, none⟩) n cS) (.slice (some ⟨gJ, 0, none⟩) m cJ) (.int .i64 T)
        obtain ⟨p0, p1, p2, -⟩ := a7.open3
        have U := put3_only w8 q4 (.slice (some ⟨gS, 0, none⟩) n cS) (.slice (some ⟨gJ, 0, none⟩) m cJ) (.int .i64 T)
        have bl := below_put3 (Below.refl w.heap.size w8) hq4w (.slice (some ⟨gS, 0, none⟩) n cS) (.slice (some ⟨gJ, 0, none⟩) m cJ) (.int .i64 T)
        refine bodyPost_ret (v := labV (.slice (some ⟨gS, 0, none⟩) n cS) (.slice (some ⟨gJ, 0, none⟩) m cJ) T) (by simp [results, Try.results35, go_sem, p0, p1, p2]) rfl ?_
        exact ⟨_, _, _, _, _, _, _, rfl, hn, hm, (R.lk.S.only U (apart_box (R.lk.S.box A4 (by decide)))).fit, (R.lk.J.only U (apart_box (R.lk.J.box A4 (by decide)))).fit, R.kp.belowN bl (Nat.le_refl _), R.cur.belowN bl R.pN⟩
      · skip
        go_wp2_with fail
        refine (from_dr R.st 0 5 (by omega) (by omega) (by omega) (by omega)).mono ?_
        rintro e w7 ⟨y, rfl, y0, y1, hd⟩
        replace R := R.draw hd
        replace A4 := A4.keptL hd.1 hp4
        clear hd
        have up := R.lk.updS (i := i * 3 + 1) (by omega) y
        obtain ⟨x0, x1, x2⟩ := R.lk.frS (i := i * 3 + 1) (by omega)
        have a5 := A4.setOther (i := i * 3 + 1) (ne_of_at A4 R.lk.S (by decide)) (.int .i64 y)
        obtain ⟨w8, hw8⟩ : ∃ V, w7.setCell ⟨gS, i * 3 + 1, none⟩ (.int .i64 y) = V := ⟨_, rfl⟩
        rw [hw8] at up a5
        replace R := R.next up.1 up.2
        replace A4 := a5
        clear a5 up
        obtain ⟨z0, z1, z2, -⟩ := R.lk.bx.open3
        obtain ⟨d0, d1, d2, e0, e1, e2⟩ := A4.open3
        go_wp2
        have a7 := put3_at A4 (.slice (some ⟨gS, 0, none⟩) n cS) (.slice (some ⟨gJ, 0, none⟩) m cJ) (.int .i64 T)
        obtain ⟨p0, p1, p2, -⟩ := a7.open3
        have U := put3_only w8 q4 (.slice (some ⟨gS, 0, none⟩) n cS) (.slice (some ⟨gJ, 0, none⟩) m cJ) (.int .i64 T)
        have bl := below_put3 (Below.refl w.heap.size w8) hq4w (.slice (some ⟨gS, 0, none⟩) n cS) (.slice (some ⟨gJ, 0, none⟩) m cJ) (.int .i64 T)
        refine bodyPost_ret (v := labV (.slice (some ⟨gS, 0, none⟩) n cS) (.slice (some ⟨gJ, 0, none⟩) m cJ) T) (by simp [results, Try.results35, go_sem, p0, p1, p2]) rfl ?_
        exact ⟨_, _, _, _, _, _, _, rfl, hn, hm, (R.lk.S.only U (apart_box (R.lk.S.box A4 (by decide)))).fit, (R.lk.J.only U (apart_box (R.lk.J.box A4 (by decide)))).fit, R.kp.belowN bl (Nat.le_refl _), R.cur.belowN bl R.pN⟩
      · skip
        have hb5 : ∀ w, (Instr.buildSlice 42 3 #[(0, .int .i64 (-1)), (1, .int .i64 1000), (2, .int .i64 1001)]).run Try.prog w = .ok (.slice (some ⟨w.heap.size, 0, none⟩) 3 3) (w.alloc (.cells #[.int .i64 (-1), .int .i64 1000, .int .i64 1001] 2)) := fun _ => by kernel_rfl
        obtain ⟨V8, hV8, b4, bb4, -⟩ := boxed w6 2 #[.int .i64 (-1), .int .i64 1000, .int .i64 1001]
        have R6 := R
        replace R := R.below bb4
        replace A4 := A4.below bb4
        have hpl6 := R6.cur.lt
        obtain ⟨q5, hq5⟩ : ∃ r, w6.heap.size = r := ⟨_, rfl⟩
        rw [hq5] at b4
        have hq5p : q5 ≠ p := by omega
        clear bb4 R6 hpl6
        go_wp2_with fail
        refine (below_dr R.st 3 (by omega) (by omega)).mono ?_
        rintro e w7 ⟨x9, rfl, x90, x91, hd⟩
        replace b4 := b4.keptL hd.1 hq5p
        replace R := R.draw hd
        replace A4 := A4.keptL hd.1 hp4
        clear hd
        clear hb5 hV8 hq5
        obtain ⟨i9, rfl⟩ : ∃ i9 : Nat, x9 = (i9 : Int) := ⟨x9.toNat, by omega⟩
        have c9 := lit_at (l := [-1, 1000, 1001]) b4 (i := i9) (by simp; omega)
        obtain ⟨y, hy9⟩ : ∃ y, ([-1, 1000, 1001] : List Int).getD i9 0 = y := ⟨_, rfl⟩
        rw [hy9] at c9
        clear hy9
        have up := R.lk.updS (i := i * 3 + 2) (by omega) y
        obtain ⟨x0, x1, x2⟩ := R.lk.frS (i := i * 3 + 2) (by omega)
        have a5 := A4.setOther (i := i * 3 + 2) (ne_of_at A4 R.lk.S (by decide)) (.int .i64 y)
        obtain ⟨w8, hw8⟩ : ∃ V, w7.setCell ⟨gS, i * 3 + 2, none⟩ (.int .i64 y) = V := ⟨_, rfl⟩
        rw [hw8] at up a5
        replace R := R.next up.1 up.2
        replace A4 := a5
        clear a5 up
        obtain ⟨z0, z1, z2, -⟩ := R.lk.bx.open3
        obtain ⟨d0, d1, d2, e0, e1, e2⟩ := A4.open3
        go_wp2
        have a7 := put3_at A4 (.slice (some ⟨gS, 0, none⟩) n cS) (.slice (some ⟨gJ, 0, none⟩) m cJ) (.int .i64 T)
        obtain ⟨p0, p1, p2, -⟩ := a7.open3
        have U := put3_only w8 q4 (.slice (some ⟨gS, 0, none⟩) n cS) (.slice (some ⟨gJ, 0, none⟩) m cJ) (.int .i64 T)
        have bl := below_put3 (Below.refl w.heap.size w8) hq4w (.slice (some ⟨gS, 0, none⟩) n cS) (.slice (some ⟨gJ, 0, none⟩) m cJ) (.int .i64 T)
        refine bodyPost_ret (v := labV (.slice (some ⟨gS, 0, none⟩) n cS) (.slice (some ⟨gJ, 0, none⟩) m cJ) T) (by simp [results, Try.results35, go_sem, p0, p1, p2]) rfl ?_
        exact ⟨_, _, _, _, _, _, _, rfl, hn, hm, (R.lk.S.only U (apart_box (R.lk.S.box A4 (by decide)))).fit, (R.lk.J.only U (apart_box (R.lk.J.box A4 (by decide)))).fit, R.kp.belowN bl (Nat.le_refl _), R.cur.belowN bl R.pN⟩
  rcases (by omega : 3 ≤ k ∨ (k < 3 ∧ n = 0)) with e3 | ⟨e3, rfl⟩
  · skip
    by_cases hk7 : k < 7 ∧ 0 < m
    · obtain ⟨hk7, hm0⟩ := hk7
      have hm0' : (0 : Int) < (m : Int) := by omega
      go_wp2_with fail
      go_cut [7] from 62 to 70 (fun s7 wc => ∃ i : Nat, i < m ∧ s7 = .pointer (some ⟨gJ, i * 4, none⟩) ∧ DB w wc p a len cap q3 (.slice (some ⟨gS, 0, none⟩) n cS) (.slice (some ⟨gJ, 0, none⟩) m cJ) n f m g T ∧ At 27 wc q4 #[.slice none 0 0, .slice none 0 0, .int .i64 0])
      case first =>
        clear z0 z1 z2
        obtain ⟨u0, hu0, bb⟩ : ∃ uu, w5.drew = uu ∧ Below w5.heap.size w5 uu := ⟨_, rfl, (Below.refl _ _).drew⟩
        replace R := R.below bb
        replace A4 := A4.below bb
        clear bb
        refine wp_region_held_drew (S := fun w' => At 27 w' q3 #[.slice (some ⟨gS, 0, none⟩) n cS, .slice (some ⟨gJ, 0, none⟩) m cJ, .int .i64 T]) (by kernel_rfl) (by rw [hu0]; exact R.lk.bx) (fun hHeld => ?_)
        rw [hu0] at hHeld ⊢
        clear hu0
        change wpAnyH _ _ _ _ _ 9 #[false, false, false, false, false, false, false, false, false] _ _
        refine wpAnyH_take (i := 0) (v := .pointer (some ⟨q3, 1, none⟩)) rfl (by kernel_rfl) (by kernel_rfl) (by kernel_rfl) (fun _ _ _ h => h) (Or.inl ⟨by kernel_rfl, ?_⟩) hHeld ?_
        · intro w' hSw; go_simp
        try simp only [Act.put, List.setIfInBounds_toArray, List.set_cons_zero, List.set_cons_succ, List.getElem_toArray, List.getElem_cons_zero]
        refine wpAnyH_take (i := 1) (v := .slice ((some ⟨gJ, 0, none⟩)) m cJ) rfl (by kernel_rfl) (by kernel_rfl) (by kernel_rfl) (fun _ _ _ h => h) (Or.inl ⟨by kernel_rfl, ?_⟩) hHeld ?_
        · intro w' hSw; obtain ⟨z0, z1, z2, -⟩ := At.open3 hSw; go_simp
        try simp only [Act.put, List.setIfInBounds_toArray, List.set_cons_zero, List.set_cons_succ, List.getElem_toArray, List.getElem_cons_succ, List.getElem_cons_zero]
        refine wpAnyH_take (i := 2) (v := .pointer (some ⟨p, 0, none⟩)) rfl (by kernel_rfl) (by kernel_rfl) (by kernel_rfl) (fun _ _ _ h => h) (Or.inl ⟨by kernel_rfl, ?_⟩) hHeld ?_
        · intro w' hSw; go_simp
        try simp only [Act.put, List.setIfInBounds_toArray, List.set_cons_zero, List.set_cons_succ, List.getElem_toArray, List.getElem_cons_succ, List.getElem_cons_zero]
        refine wpAnyH_take (i := 3) (v := .pointer (some ⟨q3, 1, none⟩)) rfl (by kernel_rfl) (by kernel_rfl) (by kernel_rfl) (fun _ _ _ h => h) (Or.inl ⟨by kernel_rfl, ?_⟩) hHeld ?_
        · intro w' hSw; go_simp
        try simp only [Act.put, List.setIfInBounds_toArray, List.set_cons_zero, List.set_cons_succ, List.getElem_toArray, List.getElem_cons_succ, List.getElem_cons_zero]
        refine wpAnyH_take (i := 4) (v := .slice ((some ⟨gJ, 0, none⟩)) m cJ) rfl (by kernel_rfl) (by kernel_rfl) (by kernel_rfl) (fun _ _ _ h => h) (Or.inl ⟨by kernel_rfl, ?_⟩) hHeld ?_
        · intro w' hSw; obtain ⟨z0, z1, z2, -⟩ := At.open3 hSw; go_simp
        try simp only [Act.put, List.setIfInBounds_toArray, List.set_cons_zero, List.set_cons_succ, List.getElem_toArray, List.getElem_cons_succ, List.getElem_cons_zero]
        refine wpAnyH_take (i := 5) (v := .int .i64 (m)) rfl (by kernel_rfl) (by kernel_rfl) (by kernel_rfl) (fun _ _ _ h => h) (Or.inl ⟨by kernel_rfl, ?_⟩) hHeld ?_
        · intro w' hSw; go_simp
        try simp only [Act.put, List.setIfInBounds_toArray, List.set_cons_zero, List.set_cons_succ, List.getElem_toArray, List.getElem_cons_succ, List.getElem_cons_zero]
        refine wpAnyH_ready (rs := [6]) (by kernel_rfl) (by simp) ?_
        refine AllReadyH.cons rfl (fun KK hK' => ?_) AllReadyH.nil
        go_simp
        refine (below_dr R.st (m : Int) (by omega) (by omega)).mono ?_
        rintro e u1 ⟨x9, rfl, x90, x91, hd⟩
        replace R := R.draw hd
        replace A4 := A4.keptL hd.1 hp4
        clear hd
        obtain ⟨i9, rfl⟩ : ∃ i9 : Nat, x9 = (i9 : Int) := ⟨x9.toNat, by omega⟩
        have hi9 : i9 < m := by omega
        try go_wp2_with fail
        clear hHeld
        refine hK'.out _ _ (R.lk.bx) (fun hHeld => ?_)
        clear hK' KK
        try simp only [List.setIfInBounds_toArray, List.set_cons_zero, List.set_cons_succ]
        refine wpAnyH_take (i := 7) (v := .pointer (some ⟨gJ, i9 * 4, none⟩)) rfl (by kernel_rfl) (by kernel_rfl) (by kernel_rfl) (fun _ _ _ h => h) (Or.inl ⟨by kernel_rfl, ?_⟩) hHeld ?_
        · intro w' hSw; go_simp
        try simp only [Act.put, List.setIfInBounds_toArray, List.set_cons_zero, List.set_cons_succ, List.getElem_toArray, List.getElem_cons_succ, List.getElem_cons_zero]
        refine wpAnyH_take (i := 8) (v := .pointer (some ⟨gJ, i9 * 4, none⟩)) rfl (by kernel_rfl) (by kernel_rfl) (by kernel_rfl) (fun _ _ _ h => h) (Or.inl ⟨by kernel_rfl, ?_⟩) hHeld ?_
        · intro w' hSw; go_simp
        try simp only [Act.put, List.setIfInBounds_toArray, List.set_cons_zero, List.set_cons_succ, List.getElem_toArray, List.getElem_cons_succ, List.getElem_cons_zero]
        refine wpAnyH_done (by kernel_rfl) ?_ _
        clear hHeld
        go_wp2_with fail
        go_meet
        case rel => exact ⟨i9, hi9, rfl, R, A4⟩
      case rest =>
        obtain ⟨i, hi, rfl, R, A4⟩ := hcut
        rename World => w6
        rcases (by omega : k = 3 ∨ k = 4 ∨ k = 5 ∨ k = 6) with rfl | rfl | rfl | rfl
        · skip
          go_wp2_with fail
          refine (from_dr R.st 0 4 (by omega) (by omega) (by omega) (by omega)).mono ?_
          rintro e w7 ⟨y, rfl, y0, y1, hd⟩
          replace R := R.draw hd
          replace A4 := A4.keptL hd.1 hp4
          clear hd
          have up := R.lk.updJ (i := i * 4) (by omega) y
          obtain ⟨x0, x1, x2⟩ := R.lk.frJ (i := i * 4) (by omega)
          have a5 := A4.setOther (i := i * 4) (ne_of_at A4 R.lk.J (by decide)) (.int .i64 y)
          obtain ⟨w8, hw8⟩ : ∃ V, w7.setCell ⟨gJ, i * 4, none⟩ (.int .i64 y) = V := ⟨_, rfl⟩
          rw [hw8] at up a5
          replace R := R.next up.1 up.2
          replace A4 := a5
          clear a5 up
          obtain ⟨z0, z1, z2, -⟩ := R.lk.bx.open3
          obtain ⟨d0, d1, d2, e0, e1, e2⟩ := A4.open3
          go_wp2
          have a7 := put3_at A4 (.slice (some ⟨gS, 0, none⟩) n cS) (.slice (some ⟨gJ, 0, none⟩) m cJ) (.int .i64 T)
          obtain ⟨p0, p1, p2, -⟩ := a7.open3
          have U := put3_only w8 q4 (.slice (some ⟨gS, 0, none⟩) n cS) (.slice (some ⟨gJ, 0, none⟩) m cJ) (.int .i64 T)
          have bl := below_put3 (Below.refl w.heap.size w8) hq4w (.slice (some ⟨gS, 0, none⟩) n cS) (.slice (some ⟨gJ, 0, none⟩) m cJ) (.int .i64 T)
          refine bodyPost_ret (v := labV (.slice (some ⟨gS, 0, none⟩) n cS) (.slice (some ⟨gJ, 0, none⟩) m cJ) T) (by simp [results, Try.results35, go_sem, p0, p1, p2]) rfl ?_
          exact ⟨_, _, _, _, _, _, _, rfl, hn, hm, (R.lk.S.only U (apart_box (R.lk.S.box A4 (by decide)))).fit, (R.lk.J.only U (apart_box (R.lk.J.box A4 (by decide)))).fit, R.kp.belowN bl (Nat.le_refl _), R.cur.belowN bl R.pN⟩
        · skip
          go_wp2_with fail
          refine (from_dr R.st 0 3 (by omega) (by omega) (by omega) (by omega)).mono ?_
          rintro e w7 ⟨y, rfl, y0, y1, hd⟩
          replace R := R.draw hd
          replace A4 := A4.keptL hd.1 hp4
          clear hd
          have up := R.lk.updJ (i := i * 4 + 1) (by omega) y
          obtain ⟨x0, x1, x2⟩ := R.lk.frJ (i := i * 4 + 1) (by omega)
          have a5 := A4.setOther (i := i * 4 + 1) (ne_of_at A4 R.lk.J (by decide)) (.int .i64 y)
          obtain ⟨w8, hw8⟩ : ∃ V, w7.setCell ⟨gJ, i * 4 + 1, none⟩ (.int .i64 y) = V := ⟨_, rfl⟩
          rw [hw8] at up a5
          replace R := R.next up.1 up.2
          replace A4 := a5
          clear a5 up
          obtain ⟨z0, z1, z2, -⟩ := R.lk.bx.open3
          obtain ⟨d0, d1, d2, e0, e1, e2⟩ := A4.open3
          go_wp2
          have a7 := put3_at A4 (.slice (some ⟨gS, 0, none⟩) n cS) (.slice (some ⟨gJ, 0, none⟩) m cJ) (.int .i64 T)
          obtain ⟨p0, p1, p2, -⟩ := a7.open3
          have U := put3_only w8 q4 (.slice (some ⟨gS, 0, none⟩) n cS) (.slice (some ⟨gJ, 0, none⟩) m cJ) (.int .i64 T)
          have bl := below_put3 (Below.refl w.heap.size w8) hq4w (.slice (some ⟨gS, 0, none⟩) n cS) (.slice (some ⟨gJ, 0, none⟩) m cJ) (.int .i64 T)
          refine bodyPost_ret (v := labV (.slice (some ⟨gS, 0, none⟩) n cS) (.slice (some ⟨gJ, 0, none⟩) m cJ) T) (by simp [results, Try.results35, go_sem, p0, p1, p2]) rfl ?_
          exact ⟨_, _, _, _, _, _, _, rfl, hn, hm, (R.lk.S.only U (apart_box (R.lk.S.box A4 (by decide)))).fit, (R.lk.J.only U (apart_box (R.lk.J.box A4 (by decide)))).fit, R.kp.belowN bl (Nat.le_refl _), R.cur.belowN bl R.pN⟩
        · skip
          have hb5 : ∀ w, (Instr.buildSlice 42 3 #[(0, .int .i64 0), (1, .int .i64 1), (2, .int .i64 1001)]).run Try.prog w = .ok (.slice (some ⟨w.heap.size, 0, none⟩) 3 3) (w.alloc (.cells #[.int .i64 0, .int .i64 1, .int .i64 1001] 2)) := fun _ => by kernel_rfl
          obtain ⟨V8, hV8, b4, bb4, -⟩ := boxed w6 2 #[.int .i64 0, .int .i64 1, .int .i64 1001]
          have R6 := R
          replace R := R.below bb4
          replace A4 := A4.below bb4
          have hpl6 := R6.cur.lt
          obtain ⟨q5, hq5⟩ : ∃ r, w6.heap.size = r := ⟨_, rfl⟩
          rw [hq5] at b4
          have hq5p : q5 ≠ p := by omega
          clear bb4 R6 hpl6
          go_wp2_with fail
          refine (below_dr R.st 3 (by omega) (by omega)).mono ?_
          rintro e w7 ⟨x9, rfl, x90, x91, hd⟩
          replace b4 := b4.keptL hd.1 hq5p
          replace R := R.draw hd
          replace A4 := A4.keptL hd.1 hp4
          clear hd
          clear hb5 hV8 hq5
          obtain ⟨i9, rfl⟩ : ∃ i9 : Nat, x9 = (i9 : Int) := ⟨x9.toNat, by omega⟩
          have c9 := lit_at (l := [0, 1, 1001]) b4 (i := i9) (by simp; omega)
          obtain ⟨y, hy9⟩ : ∃ y, ([0, 1, 1001] : List Int).getD i9 0 = y := ⟨_, rfl⟩
          rw [hy9] at c9
          clear hy9
          have up := R.lk.updJ (i := i * 4 + 2) (by omega) y
          obtain ⟨x0, x1, x2⟩ := R.lk.frJ (i := i * 4 + 2) (by omega)
          have a5 := A4.setOther (i := i * 4 + 2) (ne_of_at A4 R.lk.J (by decide)) (.int .i64 y)
          obtain ⟨w8, hw8⟩ : ∃ V, w7.setCell ⟨gJ, i * 4 + 2, none⟩ (.int .i64 y) = V := ⟨_, rfl⟩
          rw [hw8] at up a5
          replace R := R.next up.1 up.2
          replace A4 := a5
          clear a5 up
          obtain ⟨z0, z1, z2, -⟩ := R.lk.bx.open3
          obtain ⟨d0, d1, d2, e0, e1, e2⟩ := A4.open3
          go_wp2
          have a7 := put3_at A4 (.slice (some ⟨gS, 0, none⟩) n cS) (.slice (some ⟨gJ, 0, none⟩) m cJ) (.int .i64 T)
          obtain ⟨p0, p1, p2, -⟩ := a7.open3
          have U := put3_only w8 q4 (.slice (some ⟨gS, 0, none⟩) n cS) (.slice (some ⟨gJ, 0, none⟩) m cJ) (.int .i64 T)
          have bl := below_put3 (Below.refl w.heap.size w8) hq4w (.slice (some ⟨gS, 0, none⟩) n cS) (.slice (some ⟨gJ, 0, none⟩) m cJ) (.int .i64 T)
          refine bodyPost_ret (v := labV (.slice (some ⟨gS, 0, none⟩) n cS) (.slice (some ⟨gJ, 0, none⟩) m cJ) T) (by simp [results, Try.results35, go_sem, p0, p1, p2]) rfl ?_
          exact ⟨_, _, _, _, _, _, _, rfl, hn, hm, (R.lk.S.only U (apart_box (R.lk.S.box A4 (by decide)))).fit, (R.lk.J.only U (apart_box (R.lk.J.box A4 (by decide)))).fit, R.kp.belowN bl (Nat.le_refl _), R.cur.belowN bl R.pN⟩
        · skip
          go_wp2_with fail
          refine (from_dr R.st 0 4 (by omega) (by omega) (by omega) (by omega)).mono ?_
          rintro e w7 ⟨y, rfl, y0, y1, hd⟩
          replace R := R.draw hd
          replace A4 := A4.keptL hd.1 hp4
          clear hd
          have up := R.lk.updJ (i := i * 4 + 3) (by omega) y
          obtain ⟨x0, x1, x2⟩ := R.lk.frJ (i := i * 4 + 3) (by omega)
          have a5 := A4.setOther (i := i * 4 + 3) (ne_of_at A4 R.lk.J (by decide)) (.int .i64 y)
          obtain ⟨w8, hw8⟩ : ∃ V, w7.setCell ⟨gJ, i * 4 + 3, none⟩ (.int .i64 y) = V := ⟨_, rfl⟩
          rw [hw8] at up a5
          replace R := R.next up.1 up.2
          replace A4 := a5
          clear a5 up
          obtain ⟨z0, z1, z2, -⟩ := R.lk.bx.open3
          obtain ⟨d0, d1, d2, e0, e1, e2⟩ := A4.open3
          go_wp2
          have a7 := put3_at A4 (.slice (some ⟨gS, 0, none⟩) n cS) (.slice (some ⟨gJ, 0, none⟩) m cJ) (.int .i64 T)
          obtain ⟨p0, p1, p2, -⟩ := a7.open3
          have U := put3_only w8 q4 (.slice (some ⟨gS, 0, none⟩) n cS) (.slice (some ⟨gJ, 0, none⟩) m cJ) (.int .i64 T)
          have bl := below_put3 (Below.refl w.heap.size w8) hq4w (.slice (some ⟨gS, 0, none⟩) n cS) (.slice (some ⟨gJ, 0, none⟩) m cJ) (.int .i64 T)
          refine bodyPost_ret (v := labV (.slice (some ⟨gS, 0, none⟩) n cS) (.slice (some ⟨gJ, 0, none⟩) m cJ) T) (by simp [results, Try.results35, go_sem, p0, p1, p2]) rfl ?_
          exact ⟨_, _, _, _, _, _, _, rfl, hn, hm, (R.lk.S.only U (apart_box (R.lk.S.box A4 (by decide)))).fit, (R.lk.J.only U (apart_box (R.lk.J.box A4 (by decide)))).fit, R.kp.belowN bl (Nat.le_refl _), R.cur.belowN bl R.pN⟩
    · rcases (by omega : 7 ≤ k ∨ (k < 7 ∧ m = 0)) with e7 | ⟨e7, rfl⟩
      · skip
        go_wp2_with fail
        clear z0 z1 z2
        obtain ⟨u0, hu0, bb⟩ : ∃ uu, w5.drew = uu ∧ Below w5.heap.size w5 uu := ⟨_, rfl, (Below.refl _ _).drew⟩
        replace R := R.below bb
        replace A4 := A4.below bb
        clear bb
        refine wp_region_held_drew (S := AnyW) (by kernel_rfl) (by rw [hu0]; exact trivial) (fun hHeld => ?_)
        rw [hu0] at hHeld ⊢
        clear hu0
        change wpAnyH _ _ _ _ _ 7 #[false, false, false, false, false, false, false] _ _
        refine wpAnyH_take (i := 0) (v := .pointer (some ⟨q3, 2, none⟩)) rfl (by kernel_rfl) (by kernel_rfl) (by kernel_rfl) (fun _ _ _ h => h) (Or.inl ⟨by kernel_rfl, ?_⟩) hHeld ?_
        · intro w' hSw; go_simp
        try simp only [Act.put, List.setIfInBounds_toArray, List.set_cons_zero, List.set_cons_succ, List.getElem_toArray, List.getElem_cons_zero]
        refine wpAnyH_take (i := 2) (v := .pointer (some ⟨p, 0, none⟩)) rfl (by kernel_rfl) (by kernel_rfl) (by kernel_rfl) (fun _ _ _ h => h) (Or.inl ⟨by kernel_rfl, ?_⟩) hHeld ?_
        · intro w' hSw; go_simp
        try simp only [Act.put, List.setIfInBounds_toArray, List.set_cons_zero, List.set_cons_succ, List.getElem_toArray, List.getElem_cons_succ, List.getElem_cons_zero]
        refine wpAnyH_ready (rs := [1, 3]) (by kernel_rfl) (by simp) ?_
        refine AllReadyH.cons rfl (fun KK hK' => ?_) (AllReadyH.cons rfl (fun KK hK' => ?_) AllReadyH.nil)
        · obtain ⟨z0, z1, z2, -⟩ := R.lk.bx.open3
          go_simp
          clear z0 z1 z2
          clear hHeld
          refine hK'.out _ _ (trivial) (fun hHeld => ?_)
          clear hK' KK
          try simp only [List.setIfInBounds_toArray, List.set_cons_zero, List.set_cons_succ]
          refine wpAnyH_ready (rs := [3]) (by kernel_rfl) (by simp) ?_
          refine AllReadyH.cons rfl (fun KK hK' => ?_) AllReadyH.nil
          go_simp
          refine (from_dr R.st (-1) 1 (by omega) (by omega) (by omega) (by omega)).mono ?_
          rintro e u2 ⟨y9, rfl, y90, y91, hd⟩
          replace R := R.draw hd
          replace A4 := A4.keptL hd.1 hp4
          clear hd
          have hwr : IntKind.i64.wrap (T + y9) = T + y9 := IntWalk.i64_in (T + y9) (by omega)
          try go_wp2_with fail
          clear hHeld
          refine hK'.out _ _ (trivial) (fun hHeld => ?_)
          clear hK' KK
          try simp only [List.setIfInBounds_toArray, List.set_cons_zero, List.set_cons_succ]
          refine wpAnyH_take (i := 4) (v := .int .i64 ((T + y9))) rfl (by kernel_rfl) (by kernel_rfl) (by kernel_rfl) (fun _ _ _ h => h) (Or.inl ⟨by kernel_rfl, ?_⟩) hHeld ?_
          · intro w' hSw; go_simp
          try simp only [Act.put, List.setIfInBounds_toArray, List.set_cons_zero, List.set_cons_succ, List.getElem_toArray, List.getElem_cons_succ, List.getElem_cons_zero]
          refine wpAnyH_take (i := 5) (v := .pointer (some ⟨q3, 2, none⟩)) rfl (by kernel_rfl) (by kernel_rfl) (by kernel_rfl) (fun _ _ _ h => h) (Or.inl ⟨by kernel_rfl, ?_⟩) hHeld ?_
          · intro w' hSw; go_simp
          try simp only [Act.put, List.setIfInBounds_toArray, List.set_cons_zero, List.set_cons_succ, List.getElem_toArray, List.getElem_cons_succ, List.getElem_cons_zero]
          refine wpAnyH_ready (rs := [6]) (by kernel_rfl) (by simp) ?_
          refine AllReadyH.cons rfl (fun KK hK' => ?_) AllReadyH.nil
          have up := R.lk.updT (T + y9)
          obtain ⟨x0, x1, x2, x3, x4, x5⟩ := R.lk.bx.open3
          have a5 := A4.setOther h34 (i := 2) (.int .i64 (T + y9))
          go_simp
          obtain ⟨u3, hw8⟩ : ∃ V, u2.setCell ⟨q3, 2, none⟩ (.int .i64 (T + y9)) = V := ⟨_, rfl⟩
          rw [hw8] at up a5 ⊢
          replace R := R.next up.1 up.2
          replace A4 := a5
          clear a5 up hw8 x0 x1 x2 x3 x4 x5
          clear hHeld
          refine hK'.out _ _ (trivial) (fun hHeld => ?_)
          clear hK' KK
          try simp only [List.setIfInBounds_toArray, List.set_cons_zero, List.set_cons_succ]
          refine wpAnyH_done (by kernel_rfl) ?_ _
          clear hHeld
          obtain ⟨z0, z1, z2, -⟩ := R.lk.bx.open3
          obtain ⟨d0, d1, d2, e0, e1, e2⟩ := A4.open3
          go_wp2
          have a7 := put3_at A4 (.slice (some ⟨gS, 0, none⟩) n cS) (.slice (some ⟨gJ, 0, none⟩) m cJ) (.int .i64 (T + y9))
          obtain ⟨p0, p1, p2, -⟩ := a7.open3
          have U := put3_only u3 q4 (.slice (some ⟨gS, 0, none⟩) n cS) (.slice (some ⟨gJ, 0, none⟩) m cJ) (.int .i64 (T + y9))
          have bl := below_put3 (Below.refl w.heap.size u3) hq4w (.slice (some ⟨gS, 0, none⟩) n cS) (.slice (some ⟨gJ, 0, none⟩) m cJ) (.int .i64 (T + y9))
          refine bodyPost_ret (v := labV (.slice (some ⟨gS, 0, none⟩) n cS) (.slice (some ⟨gJ, 0, none⟩) m cJ) (T + y9)) (by simp [results, Try.results35, go_sem, p0, p1, p2]) rfl ?_
          exact ⟨_, _, _, _, _, _, _, rfl, hn, hm, (R.lk.S.only U (apart_box (R.lk.S.box A4 (by decide)))).fit, (R.lk.J.only U (apart_box (R.lk.J.box A4 (by decide)))).fit, R.kp.belowN bl (Nat.le_refl _), R.cur.belowN bl R.pN⟩
        · go_simp
          refine (from_dr R.st (-1) 1 (by omega) (by omega) (by omega) (by omega)).mono ?_
          rintro e u1 ⟨y9, rfl, y90, y91, hd⟩
          replace R := R.draw hd
          replace A4 := A4.keptL hd.1 hp4
          clear hd
          have hwr : IntKind.i64.wrap (T + y9) = T + y9 := IntWalk.i64_in (T + y9) (by omega)
          try go_wp2_with fail
          clear hHeld
          refine hK'.out _ _ (trivial) (fun hHeld => ?_)
          clear hK' KK
          try simp only [List.setIfInBounds_toArray, List.set_cons_zero, List.set_cons_succ]
          refine wpAnyH_ready (rs := [1]) (by kernel_rfl) (by simp) ?_
          refine AllReadyH.cons rfl (fun KK hK' => ?_) AllReadyH.nil
          obtain ⟨z0, z1, z2, -⟩ := R.lk.bx.open3
          go_simp
          clear z0 z1 z2
          clear hHeld
          refine hK'.out _ _ (trivial) (fun hHeld => ?_)
          clear hK' KK
          try simp only [List.setIfInBounds_toArray, List.set_cons_zero, List.set_cons_succ]
          refine wpAnyH_take (i := 4) (v := .int .i64 ((T + y9))) rfl (by kernel_rfl) (by kernel_rfl) (by kernel_rfl) (fun _ _ _ h => h) (Or.inl ⟨by kernel_rfl, ?_⟩) hHeld ?_
          · intro w' hSw; go_simp
          try simp only [Act.put, List.setIfInBounds_toArray, List.set_cons_zero, List.set_cons_succ, List.getElem_toArray, List.getElem_cons_succ, List.getElem_cons_zero]
          refine wpAnyH_take (i := 5) (v := .pointer (some ⟨q3, 2, none⟩)) rfl (by kernel_rfl) (by kernel_rfl) (by kernel_rfl) (fun _ _ _ h => h) (Or.inl ⟨by kernel_rfl, ?_⟩) hHeld ?_
          · intro w' hSw; go_simp
          try simp only [Act.put, List.setIfInBounds_toArray, List.set_cons_zero, List.set_cons_succ, List.getElem_toArray, List.getElem_cons_succ, List.getElem_cons_zero]
          refine wpAnyH_ready (rs := [6]) (by kernel_rfl) (by simp) ?_
          refine AllReadyH.cons rfl (fun KK hK' => ?_) AllReadyH.nil
          have up := R.lk.updT (T + y9)
          obtain ⟨x0, x1, x2, x3, x4, x5⟩ := R.lk.bx.open3
          have a5 := A4.setOther h34 (i := 2) (.int .i64 (T + y9))
          go_simp
          obtain ⟨u3, hw8⟩ : ∃ V, u1.setCell ⟨q3, 2, none⟩ (.int .i64 (T + y9)) = V := ⟨_, rfl⟩
          rw [hw8] at up a5 ⊢
          replace R := R.next up.1 up.2
          replace A4 := a5
          clear a5 up hw8 x0 x1 x2 x3 x4 x5
          clear hHeld
          refine hK'.out _ _ (trivial) (fun hHeld => ?_)
          clear hK' KK
          try simp only [List.setIfInBounds_toArray, List.set_cons_zero, List.set_cons_succ]
          refine wpAnyH_done (by kernel_rfl) ?_ _
          clear hHeld
          obtain ⟨z0, z1, z2, -⟩ := R.lk.bx.open3
          obtain ⟨d0, d1, d2, e0, e1, e2⟩ := A4.open3
          go_wp2
          have a7 := put3_at A4 (.slice (some ⟨gS, 0, none⟩) n cS) (.slice (some ⟨gJ, 0, none⟩) m cJ) (.int .i64 (T + y9))
          obtain ⟨p0, p1, p2, -⟩ := a7.open3
          have U := put3_only u3 q4 (.slice (some ⟨gS, 0, none⟩) n cS) (.slice (some ⟨gJ, 0, none⟩) m cJ) (.int .i64 (T + y9))
          have bl := below_put3 (Below.refl w.heap.size u3) hq4w (.slice (some ⟨gS, 0, none⟩) n cS) (.slice (some ⟨gJ, 0, none⟩) m cJ) (.int .i64 (T + y9))
          refine bodyPost_ret (v := labV (.slice (some ⟨gS, 0, none⟩) n cS) (.slice (some ⟨gJ, 0, none⟩) m cJ) (T + y9)) (by simp [results, Try.results35, go_sem, p0, p1, p2]) rfl ?_
          exact ⟨_, _, _, _, _, _, _, rfl, hn, hm, (R.lk.S.only U (apart_box (R.lk.S.box A4 (by decide)))).fit, (R.lk.J.only U (apart_box (R.lk.J.box A4 (by decide)))).fit, R.kp.belowN bl (Nat.le_refl _), R.cur.belowN bl R.pN⟩
      · skip
        go_wp2_with fail
        clear z0 z1 z2
        obtain ⟨u0, hu0, bb⟩ : ∃ uu, w5.drew = uu ∧ Below w5.heap.size w5 uu := ⟨_, rfl, (Below.refl _ _).drew⟩
        replace R := R.below bb
        replace A4 := A4.below bb
        clear bb
        refine wp_region_held_drew (S := AnyW) (by kernel_rfl) (by rw [hu0]; exact trivial) (fun hHeld => ?_)
        rw [hu0] at hHeld ⊢
        clear hu0
        change wpAnyH _ _ _ _ _ 7 #[false, false, false, false, false, false, false] _ _
        refine wpAnyH_take (i := 0) (v := .pointer (some ⟨q3, 2, none⟩)) rfl (by kernel_rfl) (by kernel_rfl) (by kernel_rfl) (fun _ _ _ h => h) (Or.inl ⟨by kernel_rfl, ?_⟩) hHeld ?_
        · intro w' hSw; go_simp
        try simp only [Act.put, List.setIfInBounds_toArray, List.set_cons_zero, List.set_cons_succ, List.getElem_toArray, List.getElem_cons_zero]
        refine wpAnyH_take (i := 2) (v := .pointer (some ⟨p, 0, none⟩)) rfl (by kernel_rfl) (by kernel_rfl) (by kernel_rfl) (fun _ _ _ h => h) (Or.inl ⟨by kernel_rfl, ?_⟩) hHeld ?_
        · intro w' hSw; go_simp
        try simp only [Act.put, List.setIfInBounds_toArray, List.set_cons_zero, List.set_cons_succ, List.getElem_toArray, List.getElem_cons_succ, List.getElem_cons_zero]
        refine wpAnyH_ready (rs := [1, 3]) (by kernel_rfl) (by simp) ?_
        refine AllReadyH.cons rfl (fun KK hK' => ?_) (AllReadyH.cons rfl (fun KK hK' => ?_) AllReadyH.nil)
        · obtain ⟨z0, z1, z2, -⟩ := R.lk.bx.open3
          go_simp
          clear z0 z1 z2
          clear hHeld
          refine hK'.out _ _ (trivial) (fun hHeld => ?_)
          clear hK' KK
          try simp only [List.setIfInBounds_toArray, List.set_cons_zero, List.set_cons_succ]
          refine wpAnyH_ready (rs := [3]) (by kernel_rfl) (by simp) ?_
          refine AllReadyH.cons rfl (fun KK hK' => ?_) AllReadyH.nil
          go_simp
          refine (from_dr R.st (-1) 1 (by omega) (by omega) (by omega) (by omega)).mono ?_
          rintro e u2 ⟨y9, rfl, y90, y91, hd⟩
          replace R := R.draw hd
          replace A4 := A4.keptL hd.1 hp4
          clear hd
          have hwr : IntKind.i64.wrap (T + y9) = T + y9 := IntWalk.i64_in (T + y9) (by omega)
          try go_wp2_with fail
          clear hHeld
          refine hK'.out _ _ (trivial) (fun hHeld => ?_)
          clear hK' KK
          try simp only [List.setIfInBounds_toArray, List.set_cons_zero, List.set_cons_succ]
          refine wpAnyH_take (i := 4) (v := .int .i64 ((T + y9))) rfl (by kernel_rfl) (by kernel_rfl) (by kernel_rfl) (fun _ _ _ h => h) (Or.inl ⟨by kernel_rfl, ?_⟩) hHeld ?_
          · intro w' hSw; go_simp
          try simp only [Act.put, List.setIfInBounds_toArray, List.set_cons_zero, List.set_cons_succ, List.getElem_toArray, List.getElem_cons_succ, List.getElem_cons_zero]
          refine wpAnyH_take (i := 5) (v := .pointer (some ⟨q3, 2, none⟩)) rfl (by kernel_rfl) (by kernel_rfl) (by kernel_rfl) (fun _ _ _ h => h) (Or.inl ⟨by kernel_rfl, ?_⟩) hHeld ?_
          · intro w' hSw; go_simp
          try simp only [Act.put, List.setIfInBounds_toArray, List.set_cons_zero, List.set_cons_succ, List.getElem_toArray, List.getElem_cons_succ, List.getElem_cons_zero]
          refine wpAnyH_ready (rs := [6]) (by kernel_rfl) (by simp) ?_
          refine AllReadyH.cons rfl (fun KK hK' => ?_) AllReadyH.nil
          have up := R.lk.updT (T + y9)
          obtain ⟨x0, x1, x2, x3, x4, x5⟩ := R.lk.bx.open3
          have a5 := A4.setOther h34 (i := 2) (.int .i64 (T + y9))
          go_simp
          obtain ⟨u3, hw8⟩ : ∃ V, u2.setCell ⟨q3, 2, none⟩ (.int .i64 (T + y9)) = V := ⟨_, rfl⟩
          rw [hw8] at up a5 ⊢
          replace R := R.next up.1 up.2
          replace A4 := a5
          clear a5 up hw8 x0 x1 x2 x3 x4 x5
          clear hHeld
          refine hK'.out _ _ (trivial) (fun hHeld => ?_)
          clear hK' KK
          try simp only [List.setIfInBounds_toArray, List.set_cons_zero, List.set_cons_succ]
          refine wpAnyH_done (by kernel_rfl) ?_ _
          clear hHeld
          obtain ⟨z0, z1, z2, -⟩ := R.lk.bx.open3
          obtain ⟨d0, d1, d2, e0, e1, e2⟩ := A4.open3
          go_wp2
          have a7 := put3_at A4 (.slice (some ⟨gS, 0, none⟩) n cS) (.slice (some ⟨gJ, 0, none⟩) 0 cJ) (.int .i64 (T + y9))
          obtain ⟨p0, p1, p2, -⟩ := a7.open3
          have U := put3_only u3 q4 (.slice (some ⟨gS, 0, none⟩) n cS) (.slice (some ⟨gJ, 0, none⟩) 0 cJ) (.int .i64 (T + y9))
          have bl := below_put3 (Below.refl w.heap.size u3) hq4w (.slice (some ⟨gS, 0, none⟩) n cS) (.slice (some ⟨gJ, 0, none⟩) 0 cJ) (.int .i64 (T + y9))
          refine bodyPost_ret (v := labV (.slice (some ⟨gS, 0, none⟩) n cS) (.slice (some ⟨gJ, 0, none⟩) 0 cJ) (T + y9)) (by simp [results, Try.results35, go_sem, p0, p1, p2]) rfl ?_
          exact ⟨_, _, _, _, _, _, _, rfl, hn, hm, (R.lk.S.only U (apart_box (R.lk.S.box A4 (by decide)))).fit, (R.lk.J.only U (apart_box (R.lk.J.box A4 (by decide)))).fit, R.kp.belowN bl (Nat.le_refl _), R.cur.belowN bl R.pN⟩
        · go_simp
          refine (from_dr R.st (-1) 1 (by omega) (by omega) (by omega) (by omega)).mono ?_
          rintro e u1 ⟨y9, rfl, y90, y91, hd⟩
          replace R := R.draw hd
          replace A4 := A4.keptL hd.1 hp4
          clear hd
          have hwr : IntKind.i64.wrap (T + y9) = T + y9 := IntWalk.i64_in (T + y9) (by omega)
          try go_wp2_with fail
          clear hHeld
          refine hK'.out _ _ (trivial) (fun hHeld => ?_)
          clear hK' KK
          try simp only [List.setIfInBounds_toArray, List.set_cons_zero, List.set_cons_succ]
          refine wpAnyH_ready (rs := [1]) (by kernel_rfl) (by simp) ?_
          refine AllReadyH.cons rfl (fun KK hK' => ?_) AllReadyH.nil
          obtain ⟨z0, z1, z2, -⟩ := R.lk.bx.open3
          go_simp
          clear z0 z1 z2
          clear hHeld
          refine hK'.out _ _ (trivial) (fun hHeld => ?_)
          clear hK' KK
          try simp only [List.setIfInBounds_toArray, List.set_cons_zero, List.set_cons_succ]
          refine wpAnyH_take (i := 4) (v := .int .i64 ((T + y9))) rfl (by kernel_rfl) (by kernel_rfl) (by kernel_rfl) (fun _ _ _ h => h) (Or.inl ⟨by kernel_rfl, ?_⟩) hHeld ?_
          · intro w' hSw; go_simp
          try simp only [Act.put, List.setIfInBounds_toArray, List.set_cons_zero, List.set_cons_succ, List.getElem_toArray, List.getElem_cons_succ, List.getElem_cons_zero]
          refine wpAnyH_take (i := 5) (v := .pointer (some ⟨q3, 2, none⟩)) rfl (by kernel_rfl) (by kernel_rfl) (by kernel_rfl) (fun _ _ _ h => h) (Or.inl ⟨by kernel_rfl, ?_⟩) hHeld ?_
          · intro w' hSw; go_simp
          try simp only [Act.put, List.setIfInBounds_toArray, List.set_cons_zero, List.set_cons_succ, List.getElem_toArray, List.getElem_cons_succ, List.getElem_cons_zero]
          refine wpAnyH_ready (rs := [6]) (by kernel_rfl) (by simp) ?_
          refine AllReadyH.cons rfl (fun KK hK' => ?_) AllReadyH.nil
          have up := R.lk.updT (T + y9)
          obtain ⟨x0, x1, x2, x3, x4, x5⟩ := R.lk.bx.open3
          have a5 := A4.setOther h34 (i := 2) (.int .i64 (T + y9))
          go_simp
          obtain ⟨u3, hw8⟩ : ∃ V, u1.setCell ⟨q3, 2, none⟩ (.int .i64 (T + y9)) = V := ⟨_, rfl⟩
          rw [hw8] at up a5 ⊢
          replace R := R.next up.1 up.2
          replace A4 := a5
          clear a5 up hw8 x0 x1 x2 x3 x4 x5
          clear hHeld
          refine hK'.out _ _ (trivial) (fun hHeld => ?_)
          clear hK' KK
          try simp only [List.setIfInBounds_toArray, List.set_cons_zero, List.set_cons_succ]
          refine wpAnyH_done (by kernel_rfl) ?_ _
          clear hHeld
          obtain ⟨z0, z1, z2, -⟩ := R.lk.bx.open3
          obtain ⟨d0, d1, d2, e0, e1, e2⟩ := A4.open3
          go_wp2
          have a7 := put3_at A4 (.slice (some ⟨gS, 0, none⟩) n cS) (.slice (some ⟨gJ, 0, none⟩) 0 cJ) (.int .i64 (T + y9))
          obtain ⟨p0, p1, p2, -⟩ := a7.open3
          have U := put3_only u3 q4 (.slice (some ⟨gS, 0, none⟩) n cS) (.slice (some ⟨gJ, 0, none⟩) 0 cJ) (.int .i64 (T + y9))
          have bl := below_put3 (Below.refl w.heap.size u3) hq4w (.slice (some ⟨gS, 0, none⟩) n cS) (.slice (some ⟨gJ, 0, none⟩) 0 cJ) (.int .i64 (T + y9))
          refine bodyPost_ret (v := labV (.slice (some ⟨gS, 0, none⟩) n cS) (.slice (some ⟨gJ, 0, none⟩) 0 cJ) (T + y9)) (by simp [results, Try.results35, go_sem, p0, p1, p2]) rfl ?_
          exact ⟨_, _, _, _, _, _, _, rfl, hn, hm, (R.lk.S.only U (apart_box (R.lk.S.box A4 (by decide)))).fit, (R.lk.J.only U (apart_box (R.lk.J.box A4 (by decide)))).fit, R.kp.belowN bl (Nat.le_refl _), R.cur.belowN bl R.pN⟩
  · skip
    by_cases hk7 : k < 7 ∧ 0 < m
    · obtain ⟨hk7, hm0⟩ := hk7
      have hm0' : (0 : Int) < (m : Int) := by omega
      go_wp2_with fail
      go_cut [7] from 62 to 70 (fun s7 wc => ∃ i : Nat, i < m ∧ s7 = .pointer (some ⟨gJ, i * 4, none⟩) ∧ DB w wc p a len cap q3 (.slice (some ⟨gS, 0, none⟩) 0 cS) (.slice (some ⟨gJ, 0, none⟩) m cJ) 0 f m g T ∧ At 27 wc q4 #[.slice none 0 0, .slice none 0 0, .int .i64 0])
      case first =>
        clear z0 z1 z2
        obtain ⟨u0, hu0, bb⟩ : ∃ uu, w5.drew = uu ∧ Below w5.heap.size w5 uu := ⟨_, rfl, (Below.refl _ _).drew⟩
        replace R := R.below bb
        replace A4 := A4.below bb
        clear bb
        refine wp_region_held_drew (S := fun w' => At 27 w' q3 #[.slice (some ⟨gS, 0, none⟩) 0 cS, .slice (some ⟨gJ, 0, none⟩) m cJ, .int .i64 T]) (by kernel_rfl) (by rw [hu0]; exact R.lk.bx) (fun hHeld => ?_)
        rw [hu0] at hHeld ⊢
        clear hu0
        change wpAnyH _ _ _ _ _ 9 #[false, false, false, false, false, false, false, false, false] _ _
        refine wpAnyH_take (i := 0) (v := .pointer (some ⟨q3, 1, none⟩)) rfl (by kernel_rfl) (by kernel_rfl) (by kernel_rfl) (fun _ _ _ h => h) (Or.inl ⟨by kernel_rfl, ?_⟩) hHeld ?_
        · intro w' hSw; go_simp
        try simp only [Act.put, List.setIfInBounds_toArray, List.set_cons_zero, List.set_cons_succ, List.getElem_toArray, List.getElem_cons_zero]
        refine wpAnyH_take (i := 1) (v := .slice ((some ⟨gJ, 0, none⟩)) m cJ) rfl (by kernel_rfl) (by kernel_rfl) (by kernel_rfl) (fun _ _ _ h => h) (Or.inl ⟨by kernel_rfl, ?_⟩) hHeld ?_
        · intro w' hSw; obtain ⟨z0, z1, z2, -⟩ := At.open3 hSw; go_simp
        try simp only [Act.put, List.setIfInBounds_toArray, List.set_cons_zero, List.set_cons_succ, List.getElem_toArray, List.getElem_cons_succ, List.getElem_cons_zero]
        refine wpAnyH_take (i := 2) (v := .pointer (some ⟨p, 0, none⟩)) rfl (by kernel_rfl) (by kernel_rfl) (by kernel_rfl) (fun _ _ _ h => h) (Or.inl ⟨by kernel_rfl, ?_⟩) hHeld ?_
        · intro w' hSw; go_simp
        try simp only [Act.put, List.setIfInBounds_toArray, List.set_cons_zero, List.set_cons_succ, List.getElem_toArray, List.getElem_cons_succ, List.getElem_cons_zero]
        refine wpAnyH_take (i := 3) (v := .pointer (some ⟨q3, 1, none⟩)) rfl (by kernel_rfl) (by kernel_rfl) (by kernel_rfl) (fun _ _ _ h => h) (Or.inl ⟨by kernel_rfl, ?_⟩) hHeld ?_
        · intro w' hSw; go_simp
        try simp only [Act.put, List.setIfInBounds_toArray, List.set_cons_zero, List.set_cons_succ, List.getElem_toArray, List.getElem_cons_succ, List.getElem_cons_zero]
        refine wpAnyH_take (i := 4) (v := .slice ((some ⟨gJ, 0, none⟩)) m cJ) rfl (by kernel_rfl) (by kernel_rfl) (by kernel_rfl) (fun _ _ _ h => h) (Or.inl ⟨by kernel_rfl, ?_⟩) hHeld ?_
        · intro w' hSw; obtain ⟨z0, z1, z2, -⟩ := At.open3 hSw; go_simp
        try simp only [Act.put, List.setIfInBounds_toArray, List.set_cons_zero, List.set_cons_succ, List.getElem_toArray, List.getElem_cons_succ, List.getElem_cons_zero]
        refine wpAnyH_take (i := 5) (v := .int .i64 (m)) rfl (by kernel_rfl) (by kernel_rfl) (by kernel_rfl) (fun _ _ _ h => h) (Or.inl ⟨by kernel_rfl, ?_⟩) hHeld ?_
        · intro w' hSw; go_simp
        try simp only [Act.put, List.setIfInBounds_toArray, List.set_cons_zero, List.set_cons_succ, List.getElem_toArray, List.getElem_cons_succ, List.getElem_cons_zero]
        refine wpAnyH_ready (rs := [6]) (by kernel_rfl) (by simp) ?_
        refine AllReadyH.cons rfl (fun KK hK' => ?_) AllReadyH.nil
        go_simp
        refine (below_dr R.st (m : Int) (by omega) (by omega)).mono ?_
        rintro e u1 ⟨x9, rfl, x90, x91, hd⟩
        replace R := R.draw hd
        replace A4 := A4.keptL hd.1 hp4
        clear hd
        obtain ⟨i9, rfl⟩ : ∃ i9 : Nat, x9 = (i9 : Int) := ⟨x9.toNat, by omega⟩
        have hi9 : i9 < m := by omega
        try go_wp2_with fail
        clear hHeld
        refine hK'.out _ _ (R.lk.bx) (fun hHeld => ?_)
        clear hK' KK
        try simp only [List.setIfInBounds_toArray, List.set_cons_zero, List.set_cons_succ]
        refine wpAnyH_take (i := 7) (v := .pointer (some ⟨gJ, i9 * 4, none⟩)) rfl (by kernel_rfl) (by kernel_rfl) (by kernel_rfl) (fun _ _ _ h => h) (Or.inl ⟨by kernel_rfl, ?_⟩) hHeld ?_
        · intro w' hSw; go_simp
        try simp only [Act.put, List.setIfInBounds_toArray, List.set_cons_zero, List.set_cons_succ, List.getElem_toArray, List.getElem_cons_succ, List.getElem_cons_zero]
        refine wpAnyH_take (i := 8) (v := .pointer (some ⟨gJ, i9 * 4, none⟩)) rfl (by kernel_rfl) (by kernel_rfl) (by kernel_rfl) (fun _ _ _ h => h) (Or.inl ⟨by kernel_rfl, ?_⟩) hHeld ?_
        · intro w' hSw; go_simp
        try simp only [Act.put, List.setIfInBounds_toArray, List.set_cons_zero, List.set_cons_succ, List.getElem_toArray, List.getElem_cons_succ, List.getElem_cons_zero]
        refine wpAnyH_done (by kernel_rfl) ?_ _
        clear hHeld
        go_wp2_with fail
        go_meet
        case rel => exact ⟨i9, hi9, rfl, R, A4⟩
      case rest =>
        obtain ⟨i, hi, rfl, R, A4⟩ := hcut
        rename World => w6
        rcases (by omega : k = 0 ∨ k = 1 ∨ k = 2) with rfl | rfl | rfl
        · skip
          obtain ⟨z0, z1, z2, -⟩ := R.lk.bx.open3
          obtain ⟨d0, d1, d2, e0, e1, e2⟩ := A4.open3
          go_wp2
          have a7 := put3_at A4 (.slice (some ⟨gS, 0, none⟩) 0 cS) (.slice (some ⟨gJ, 0, none⟩) m cJ) (.int .i64 T)
          obtain ⟨p0, p1, p2, -⟩ := a7.open3
          have U := put3_only w6 q4 (.slice (some ⟨gS, 0, none⟩) 0 cS) (.slice (some ⟨gJ, 0, none⟩) m cJ) (.int .i64 T)
          have bl := below_put3 (Below.refl w.heap.size w6) hq4w (.slice (some ⟨gS, 0, none⟩) 0 cS) (.slice (some ⟨gJ, 0, none⟩) m cJ) (.int .i64 T)
          refine bodyPost_ret (v := labV (.slice (some ⟨gS, 0, none⟩) 0 cS) (.slice (some ⟨gJ, 0, none⟩) m cJ) T) (by simp [results, Try.results35, go_sem, p0, p1, p2]) rfl ?_
          exact ⟨_, _, _, _, _, _, _, rfl, hn, hm, (R.lk.S.only U (apart_box (R.lk.S.box A4 (by decide)))).fit, (R.lk.J.only U (apart_box (R.lk.J.box A4 (by decide)))).fit, R.kp.belowN bl (Nat.le_refl _), R.cur.belowN bl R.pN⟩
        · skip
          obtain ⟨z0, z1, z2, -⟩ := R.lk.bx.open3
          obtain ⟨d0, d1, d2, e0, e1, e2⟩ := A4.open3
          go_wp2
          have a7 := put3_at A4 (.slice (some ⟨gS, 0, none⟩) 0 cS) (.slice (some ⟨gJ, 0, none⟩) m cJ) (.int .i64 T)
          obtain ⟨p0, p1, p2, -⟩ := a7.open3
          have U := put3_only w6 q4 (.slice (some ⟨gS, 0, none⟩) 0 cS) (.slice (some ⟨gJ, 0, none⟩) m cJ) (.int .i64 T)
          have bl := below_put3 (Below.refl w.heap.size w6) hq4w (.slice (some ⟨gS, 0, none⟩) 0 cS) (.slice (some ⟨gJ, 0, none⟩) m cJ) (.int .i64 T)
          refine bodyPost_ret (v := labV (.slice (some ⟨gS, 0, none⟩) 0 cS) (.slice (some ⟨gJ, 0, none⟩) m cJ) T) (by simp [results, Try.results35, go_sem, p0, p1, p2]) rfl ?_
          exact ⟨_, _, _, _, _, _, _, rfl, hn, hm, (R.lk.S.only U (apart_box (R.lk.S.box A4 (by decide)))).fit, (R.lk.J.only U (apart_box (R.lk.J.box A4 (by decide)))).fit, R.kp.belowN bl (Nat.le_refl _), R.cur.belowN bl R.pN⟩
        · skip
          obtain ⟨z0, z1, z2, -⟩ := R.lk.bx.open3
          obtain ⟨d0, d1, d2, e0, e1, e2⟩ := A4.open3
          go_wp2
          have a7 := put3_at A4 (.slice (some ⟨gS, 0, none⟩) 0 cS) (.slice (some ⟨gJ, 0, none⟩) m cJ) (.int .i64 T)
          obtain ⟨p0, p1, p2, -⟩ := a7.open3
          have U := put3_only w6 q4 (.slice (some ⟨gS, 0, none⟩) 0 cS) (.slice (some ⟨gJ, 0, none⟩) m cJ) (.int .i64 T)
          have bl := below_put3 (Below.refl w.heap.size w6) hq4w (.slice (some ⟨gS, 0, none⟩) 0 cS) (.slice (some ⟨gJ, 0, none⟩) m cJ) (.int .i64 T)
          refine bodyPost_ret (v := labV (.slice (some ⟨gS, 0, none⟩) 0 cS) (.slice (some ⟨gJ, 0, none⟩) m cJ) T) (by simp [results, Try.results35, go_sem, p0, p1, p2]) rfl ?_
          exact ⟨_, _, _, _, _, _, _, rfl, hn, hm, (R.lk.S.only U (apart_box (R.lk.S.box A4 (by decide)))).fit, (R.lk.J.only U (apart_box (R.lk.J.box A4 (by decide)))).fit, R.kp.belowN bl (Nat.le_refl _), R.cur.belowN bl R.pN⟩
    · obtain rfl : m = 0 := by omega
      go_wp2_with fail
      clear z0 z1 z2
      obtain ⟨u0, hu0, bb⟩ : ∃ uu, w5.drew = uu ∧ Below w5.heap.size w5 uu := ⟨_, rfl, (Below.refl _ _).drew⟩
      replace R := R.below bb
      replace A4 := A4.below bb
      clear bb
      refine wp_region_held_drew (S := AnyW) (by kernel_rfl) (by rw [hu0]; exact trivial) (fun hHeld => ?_)
      rw [hu0] at hHeld ⊢
      clear hu0
      change wpAnyH _ _ _ _ _ 7 #[false, false, false, false, false, false, false] _ _
      refine wpAnyH_take (i := 0) (v := .pointer (some ⟨q3, 2, none⟩)) rfl (by kernel_rfl) (by kernel_rfl) (by kernel_rfl) (fun _ _ _ h => h) (Or.inl ⟨by kernel_rfl, ?_⟩) hHeld ?_
      · intro w' hSw; go_simp
      try simp only [Act.put, List.setIfInBounds_toArray, List.set_cons_zero, List.set_cons_succ, List.getElem_toArray, List.getElem_cons_zero]
      refine wpAnyH_take (i := 2) (v := .pointer (some ⟨p, 0, none⟩)) rfl (by kernel_rfl) (by kernel_rfl) (by kernel_rfl) (fun _ _ _ h => h) (Or.inl ⟨by kernel_rfl, ?_⟩) hHeld ?_
      · intro w' hSw; go_simp
      try simp only [Act.put, List.setIfInBounds_toArray, List.set_cons_zero, List.set_cons_succ, List.getElem_toArray, List.getElem_cons_succ, List.getElem_cons_zero]
      refine wpAnyH_ready (rs := [1, 3]) (by kernel_rfl) (by simp) ?_
      refine AllReadyH.cons rfl (fun KK hK' => ?_) (AllReadyH.cons rfl (fun KK hK' => ?_) AllReadyH.nil)
      · obtain ⟨z0, z1, z2, -⟩ := R.lk.bx.open3
        go_simp
        clear z0 z1 z2
        clear hHeld
        refine hK'.out _ _ (trivial) (fun hHeld => ?_)
        clear hK' KK
        try simp only [List.setIfInBounds_toArray, List.set_cons_zero, List.set_cons_succ]
        refine wpAnyH_ready (rs := [3]) (by kernel_rfl) (by simp) ?_
        refine AllReadyH.cons rfl (fun KK hK' => ?_) AllReadyH.nil
        go_simp
        refine (from_dr R.st (-1) 1 (by omega) (by omega) (by omega) (by omega)).mono ?_
        rintro e u2 ⟨y9, rfl, y90, y91, hd⟩
        replace R := R.draw hd
        replace A4 := A4.keptL hd.1 hp4
        clear hd
        have hwr : IntKind.i64.wrap (T + y9) = T + y9 := IntWalk.i64_in (T + y9) (by omega)
        try go_wp2_with fail
        clear hHeld
        refine hK'.out _ _ (trivial) (fun hHeld => ?_)
        clear hK' KK
        try simp only [List.setIfInBounds_toArray, List.set_cons_zero, List.set_cons_succ]
        refine wpAnyH_take (i := 4) (v := .int .i64 ((T + y9))) rfl (by kernel_rfl) (by kernel_rfl) (by kernel_rfl) (fun _ _ _ h => h) (Or.inl ⟨by kernel_rfl, ?_⟩) hHeld ?_
        · intro w' hSw; go_simp
        try simp only [Act.put, List.setIfInBounds_toArray, List.set_cons_zero, List.set_cons_succ, List.getElem_toArray, List.getElem_cons_succ, List.getElem_cons_zero]
        refine wpAnyH_take (i := 5) (v := .pointer (some ⟨q3, 2, none⟩)) rfl (by kernel_rfl) (by kernel_rfl) (by kernel_rfl) (fun _ _ _ h => h) (Or.inl ⟨by kernel_rfl, ?_⟩) hHeld ?_
        · intro w' hSw; go_simp
        try simp only [Act.put, List.setIfInBounds_toArray, List.set_cons_zero, List.set_cons_succ, List.getElem_toArray, List.getElem_cons_succ, List.getElem_cons_zero]
        refine wpAnyH_ready (rs := [6]) (by kernel_rfl) (by simp) ?_
        refine AllReadyH.cons rfl (fun KK hK' => ?_) AllReadyH.nil
        have up := R.lk.updT (T + y9)
        obtain ⟨x0, x1, x2, x3, x4, x5⟩ := R.lk.bx.open3
        have a5 := A4.setOther h34 (i := 2) (.int .i64 (T + y9))
        go_simp
        obtain ⟨u3, hw8⟩ : ∃ V, u2.setCell ⟨q3, 2, none⟩ (.int .i64 (T + y9)) = V := ⟨_, rfl⟩
        rw [hw8] at up a5 ⊢
        replace R := R.next up.1 up.2
        replace A4 := a5
        clear a5 up hw8 x0 x1 x2 x3 x4 x5
        clear hHeld
        refine hK'.out _ _ (trivial) (fun hHeld => ?_)
        clear hK' KK
        try simp only [List.setIfInBounds_toArray, List.set_cons_zero, List.set_cons_succ]
        refine wpAnyH_done (by kernel_rfl) ?_ _
        clear hHeld
        obtain ⟨z0, z1, z2, -⟩ := R.lk.bx.open3
        obtain ⟨d0, d1, d2, e0, e1, e2⟩ := A4.open3
        go_wp2
        have a7 := put3_at A4 (.slice (some ⟨gS, 0, none⟩) 0 cS) (.slice (some ⟨gJ, 0, none⟩) 0 cJ) (.int .i64 (T + y9))
        obtain ⟨p0, p1, p2, -⟩ := a7.open3
        have U := put3_only u3 q4 (.slice (some ⟨gS, 0, none⟩) 0 cS) (.slice (some ⟨gJ, 0, none⟩) 0 cJ) (.int .i64 (T + y9))
        have bl := below_put3 (Below.refl w.heap.size u3) hq4w (.slice (some ⟨gS, 0, none⟩) 0 cS) (.slice (some ⟨gJ, 0, none⟩) 0 cJ) (.int .i64 (T + y9))
        refine bodyPost_ret (v := labV (.slice (some ⟨gS, 0, none⟩) 0 cS) (.slice (some ⟨gJ, 0, none⟩) 0 cJ) (T + y9)) (by simp [results, Try.results35, go_sem, p0, p1, p2]) rfl ?_
        exact ⟨_, _, _, _, _, _, _, rfl, hn, hm, (R.lk.S.only U (apart_box (R.lk.S.box A4 (by decide)))).fit, (R.lk.J.only U (apart_box (R.lk.J.box A4 (by decide)))).fit, R.kp.belowN bl (Nat.le_refl _), R.cur.belowN bl R.pN⟩
      · go_simp
        refine (from_dr R.st (-1) 1 (by omega) (by omega) (by omega) (by omega)).mono ?_
        rintro e u1 ⟨y9, rfl, y90, y91, hd⟩
        replace R := R.draw hd
        replace A4 := A4.keptL hd.1 hp4
        clear hd
        have hwr : IntKind.i64.wrap (T + y9) = T + y9 := IntWalk.i64_in (T + y9) (by omega)
        try go_wp2_with fail
        clear hHeld
        refine hK'.out _ _ (trivial) (fun hHeld => ?_)
        clear hK' KK
        try simp only [List.setIfInBounds_toArray, List.set_cons_zero, List.set_cons_succ]
        refine wpAnyH_ready (rs := [1]) (by kernel_rfl) (by simp) ?_
        refine AllReadyH.cons rfl (fun KK hK' => ?_) AllReadyH.nil
        obtain ⟨z0, z1, z2, -⟩ := R.lk.bx.open3
        go_simp
        clear z0 z1 z2
        clear hHeld
        refine hK'.out _ _ (trivial) (fun hHeld => ?_)
        clear hK' KK
        try simp only [List.setIfInBounds_toArray, List.set_cons_zero, List.set_cons_succ]
        refine wpAnyH_take (i := 4) (v := .int .i64 ((T + y9))) rfl (by kernel_rfl) (by kernel_rfl) (by kernel_rfl) (fun _ _ _ h => h) (Or.inl ⟨by kernel_rfl, ?_⟩) hHeld ?_
        · intro w' hSw; go_simp
        try simp only [Act.put, List.setIfInBounds_toArray, List.set_cons_zero, List.set_cons_succ, List.getElem_toArray, List.getElem_cons_succ, List.getElem_cons_zero]
        refine wpAnyH_take (i := 5) (v := .pointer (some ⟨q3, 2, none⟩)) rfl (by kernel_rfl) (by kernel_rfl) (by kernel_rfl) (fun _ _ _ h => h) (Or.inl ⟨by kernel_rfl, ?_⟩) hHeld ?_
        · intro w' hSw; go_simp
        try simp only [Act.put, List.setIfInBounds_toArray, List.set_cons_zero, List.set_cons_succ, List.getElem_toArray, List.getElem_cons_succ, List.getElem_cons_zero]
        refine wpAnyH_ready (rs := [6]) (by kernel_rfl) (by simp) ?_
        refine AllReadyH.cons rfl (fun KK hK' => ?_) AllReadyH.nil
        have up := R.lk.updT (T + y9)
        obtain ⟨x0, x1, x2, x3, x4, x5⟩ := R.lk.bx.open3
        have a5 := A4.setOther h34 (i := 2) (.int .i64 (T + y9))
        go_simp
        obtain ⟨u3, hw8⟩ : ∃ V, u1.setCell ⟨q3, 2, none⟩ (.int .i64 (T + y9)) = V := ⟨_, rfl⟩
        rw [hw8] at up a5 ⊢
        replace R := R.next up.1 up.2
        replace A4 := a5
        clear a5 up hw8 x0 x1 x2 x3 x4 x5
        clear hHeld
        refine hK'.out _ _ (trivial) (fun hHeld => ?_)
        clear hK' KK
        try simp only [List.setIfInBounds_toArray, List.set_cons_zero, List.set_cons_succ]
        refine wpAnyH_done (by kernel_rfl) ?_ _
        clear hHeld
        obtain ⟨z0, z1, z2, -⟩ := R.lk.bx.open3
        obtain ⟨d0, d1, d2, e0, e1, e2⟩ := A4.open3
        go_wp2
        have a7 := put3_at A4 (.slice (some ⟨gS, 0, none⟩) 0 cS) (.slice (some ⟨gJ, 0, none⟩) 0 cJ) (.int .i64 (T + y9))
        obtain ⟨p0, p1, p2, -⟩ := a7.open3
        have U := put3_only u3 q4 (.slice (some ⟨gS, 0, none⟩) 0 cS) (.slice (some ⟨gJ, 0, none⟩) 0 cJ) (.int .i64 (T + y9))
        have bl := below_put3 (Below.refl w.heap.size u3) hq4w (.slice (some ⟨gS, 0, none⟩) 0 cS) (.slice (some ⟨gJ, 0, none⟩) 0 cJ) (.int .i64 (T + y9))
        refine bodyPost_ret (v := labV (.slice (some ⟨gS, 0, none⟩) 0 cS) (.slice (some ⟨gJ, 0, none⟩) 0 cJ) (T + y9)) (by simp [results, Try.results35, go_sem, p0, p1, p2]) rfl ?_
        exact ⟨_, _, _, _, _, _, _, rfl, hn, hm, (R.lk.S.only U (apart_box (R.lk.S.box A4 (by decide)))).fit, (R.lk.J.only U (apart_box (R.lk.J.box A4 (by decide)))).fit, R.kp.belowN bl (Nat.le_refl _), R.cur.belowN bl R.pN⟩
end Go.Proofs.Ytnjnffemidaopaa
