/-
  Any frame drawn: l12DrawAny, walked.
-/
import Derived.Test.YtlofbgkefalpoaaZh2
namespace Go.Proofs.Ytlofbgkefalpoaa
open Go.RowKit

theorem own_wide {w : World} {B B' : Nat} {e : TypeId} {k : Nat} {v : Value} {n : Nat} {xs : List Value} (h : w.ownsRow B e k v n xs) (hb : B' ≤ B) : w.ownsRow B' e k v n xs := by
  refine ⟨h.1, h.2.imp id ?_⟩
  rintro ⟨g, cap, cur, rfl, h1, h2, h3⟩
  exact ⟨g, cap, cur, rfl, by omega, h2, h3⟩
theorem own_sl {w : World} {B n : Nat} {v : Value} {xs : List Value} (h : w.ownsRow B 2 1 v n xs) : ∃ a c, v = .slice a n c := by
  rcases h.2 with ⟨rfl, e⟩ | ⟨g, c, cur, e, -⟩
  · refine ⟨none, 0, ?_⟩
    simp_all
  · exact ⟨_, c, e⟩
theorem DW.setX {w0 w : World} {p : Nat} {a : Option Addr} {len cap N q : Nat} {X0 X1 : Int} {v : Value} {P : List Int} (h : DW w0 w p a len cap N q X0 X1 v P) (T : Int) : DW w0 (w.setCell ⟨q, 0, none⟩ (.int .i64 T)) p a len cap N q T X1 v P := by
  have o := h.o
  exact ⟨h.dr.grown ((Below.refl N w).setCell (show N ≤ q by omega) _) h.s0 h.sp, own_setO h.own (own_ne h.own h.bx (by decide)) _, by simpa using h.bx.set 0 (.int .i64 T), h.rb.setOther (by omega) _, h.o, h.s0, h.sp⟩
theorem tab_any {w : World} {t : TypeId} {tb : Nat} {cs : Array Value} (h : At t w tb cs) (hc : ∀ i, i < cs.size → ∃ T, cs[i]? = some (.int .i64 T)) {x : Nat} (hx : x < cs.size) : ∃ T, w.cell? ⟨tb, x, none⟩ = some (.int .i64 T) := by
  obtain ⟨T, hT⟩ := hc x hx
  exact ⟨T, h.cell x hT⟩
theorem DW.blk {w0 w : World} {p : Nat} {a : Option Addr} {len cap N q : Nat} {X0 X1 : Int} {va : Option Addr} {vc : Nat} {P : List Int} (h : DW w0 w p a len cap N q X0 X1 (.slice va P.length vc) P) (hP : 0 < P.length) : ∃ gv, va = some ⟨gv, 0, none⟩ := by
  rcases h.own.2 with ⟨e, e2⟩ | ⟨g, c, cur, e, -⟩
  · omega
  · simp only [Value.slice.injEq] at e
    exact ⟨g, e.1⟩
theorem DW.setP {w0 w : World} {p : Nat} {a : Option Addr} {len cap N q : Nat} {X0 X1 : Int} {gv vc : Nat} {P : List Int} (h : DW w0 w p a len cap N q X0 X1 (.slice (some ⟨gv, 0, none⟩) P.length vc) P) {j : Nat} (hj : j < P.length) (T : Int) :
    (w.cell? ⟨gv, j, none⟩ = some (.int .i64 (P.getD j 0)) ∧ w.frozen? ⟨gv, j, none⟩ = false) ∧ DW w0 (w.setCell ⟨gv, j, none⟩ (.int .i64 T)) p a len cap N q X0 X1 (.slice (some ⟨gv, 0, none⟩) P.length vc) (P.set j T) := by
  have n1 := own_ne h.own h.bx (by decide)
  have n2 := own_ne h.own h.rb (by decide)
  simp only [Value.ownBlock, ne_eq, Option.some.injEq] at n1 n2
  rcases h.own.2 with ⟨e, e2⟩ | ⟨g, c, cur, e, hb, hh, hc1, hc2, hsz, ht⟩
  · omega
  · simp only [Value.slice.injEq, Option.some.injEq, Addr.mk.injEq, and_true, true_and] at e
    obtain ⟨rfl, rfl⟩ := e
    have hA : At 2 w gv cur := hh
    have a1 : (lI P)[j]? = some (.int .i64 (P.getD j 0)) := by simp [lI, hj]
    rw [← ht, List.getElem?_take_of_lt (by omega)] at a1
    have a2 : cur[j]? = some (.int .i64 (P.getD j 0)) := by simpa using a1
    refine ⟨⟨hA.cell j a2, hA.frozen j⟩, h.dr.grown ((Below.refl N w).setCell (show N ≤ gv by omega) _) h.s0 h.sp, ?_, h.bx.setOther (by omega) _, h.rb.setOther (by omega) _, h.o, h.s0, h.sp⟩
    rw [List.length_set]
    refine ⟨by simp [lI], .inr ⟨gv, vc, _, rfl, hb, hA.set j (.int .i64 T), hc1, hc2, by simpa using hsz, ?_⟩⟩
    have e9 : lI (P.set j T) = (lI P).set j (.int .i64 T) := by simp [lI, List.map_set]
    rw [e9, ← ht]
    simp [List.take_set]
theorem at_kept {t : TypeId} {w w' : World} {q p : Nat} {vs : Array Value} (h : At t w q vs) (hk : Kept p w w') (hq : q ≠ p) : At t w' q vs := (hk.block q h.lt hq).trans h
/-- What any drawn frame is. -/
def DrA (w0 w : World) (p : Nat) (a : Option Addr) (len cap : Nat) (e : Ending) (w' : World) : Prop := ∃ W H v P, e = .returned (fV W H v) ∧ w'.ownsRow w.heap.size 2 1 v P.length (lI P) ∧ P.length ≤ 5000 ∧ Dr w0 p a len cap w'
set_option maxRecDepth 100000 in
set_option maxHeartbeats 8000000 in
theorem l12DrawAny_dr {w0 w : World} {p : Nat} {a : Option Addr} {len cap : Nat} (hc : Dr w0 p a len cap w) (hs0 : w0.heap.size ≤ w.heap.size) :
    Calls Try.prog 34 #[.pointer (some ⟨p, 0, none⟩)] w (DrA w0 w p a len cap) := by
  have hpw := hc.2.lt
  obtain ⟨i0, hi0, hz0, hz1, hz2⟩ := info_parts infoI
  obtain ⟨V, hV, b0, bW, -⟩ := boxed w 28 #[.int .i64 0, .int .i64 0, .slice none 0 0]
  have z0 := b0.lt
  have hcV : Dr V p a len cap V := Dr.start (hc.below bW).2
  have hk0 := (hc.below bW).1
  clear hc
  go_enter Try.func34, Try.ntmps34
  go_wp2_with fail
  refine (below_dr hcV 8 (by decide) (by decide)).mono ?_
  rintro e w1 ⟨y1, rfl, y10, y11, h1⟩
  clear hV hcV
  go_wp2_with fail
  refine (below_dr h1 8 (by decide) (by decide)).mono ?_
  rintro e w2 ⟨y2, rfl, y20, y21, h2⟩
  clear h1
  have hsz := h2.1.size
  obtain ⟨X0, hX0⟩ : ∃ X, 1 + y1 = X := ⟨_, rfl⟩
  rw [hX0]
  obtain ⟨X1, hX1⟩ : ∃ X, 1 + y2 = X := ⟨_, rfl⟩
  have wx1 : IntKind.i64.wrap (1 + y2) = X1 := (IntWalk.i64_in _ (by omega)).trans hX1
  have hb0 : 1 ≤ X0 ∧ X0 ≤ 8 := by omega
  have hb1 : 1 ≤ X1 ∧ X1 ≤ 8 := by omega
  clear hX0 hX1
  go_wp2_with fail
  refine (l12Draw_dr X0 X1 h2 (by omega) (by omega) hsz).mono ?_
  rintro e w3 ⟨v, P, rfl, own, hPl, -, h3⟩
  clear wx1 h2
  obtain ⟨va, vc, rfl⟩ := own_sl own
  have hP8 : 1 ≤ P.length ∧ P.length ≤ 64 := by
    have q1 := mul_in (a := X0 - 1) (b := X1) (x := 7) (y := 8) (by omega) (by omega)
    have q2 : (X0 - 1) * X1 = X0 * X1 - X1 := by rw [Int.sub_mul, Int.one_mul]
    omega
  have hsz3 := h3.1.size
  obtain ⟨V4, HV4, x0, bb, -⟩ := boxed w3 28 #[.int .i64 X0, .int .i64 X1, .slice va P.length vc]
  have z4 := x0.lt
  have R : DW w0 V4 p a len cap w.heap.size w3.heap.size X0 X1 (.slice va P.length vc) P := ⟨(h3.below bb).from hk0, own_below (own_wide own (by omega)) bb, x0, At.below (w := w3) ((h3.1.block _ z0 (by omega)).trans b0) bb, by omega, hs0, hpw⟩
  clear own h3 bb x0 b0 hk0 bW hPl y10 y11 y20 y21
  obtain ⟨q, hq⟩ : ∃ q, w3.heap.size = q := ⟨_, rfl⟩
  go_wp2_with fail
  clear HV4
  rw [hq] at R
  clear hq
  refine (once_dr R.cur 12 (by decide) (by decide)).mono ?_
  rintro e w5 ⟨b, rfl, hd⟩
  replace R := R.draw hd
  clear hd
  rcases b with _ | _
  · skip
    have b2 := R.rb
    have oq := R.o
    obtain ⟨c0, c1, c2, -⟩ := R.bx.open3
    obtain ⟨d0, d1, d2, f0, f1, f2⟩ := b2.open3
    go_wp2
    have a7 := put3_at b2 (.int .i64 (X0)) (.int .i64 (X1)) (.slice va P.length vc)
    obtain ⟨p0, p1, p2, -⟩ := a7.open3
    refine bodyPost_ret (v := fV (X0) (X1) (.slice va P.length vc)) (by simp [results, Try.results34, go_sem, p0, p1, p2]) rfl ?_
    have hne := own_ne R.own R.rb (by decide)
    exact ⟨_, _, _, P, rfl, own_setO (own_setO (own_setO R.own hne _) hne _) hne _, (by omega), R.dr.grown (below_put3 (Below.refl w.heap.size _) (Nat.le_refl _) _ _ _) hs0 hpw⟩
  go_wp2_with fail
  refine (below_dr R.cur 5 (by decide) (by decide)).mono ?_
  rintro e w6 ⟨x, rfl, x0, x1, hd⟩
  replace R := R.draw hd
  clear hd
  rcases (by omega : x = 0 ∨ x = 1 ∨ x = 2 ∨ x = 3 ∨ x = 4) with rfl | rfl | rfl | rfl | rfl
  · clear x0 x1
    have wrX : IntKind.i64.wrap (X0 + 1) = X0 + 1 := by rw [IntKind.wrap_i64]; omega
    have hbs : ∀ w, (Instr.buildSlice 26 5 #[(0, .int .i64 0), (1, .int .i64 (-1)), (2, .int .i64 65), (3, .int .i64 (X0 + 1)), (4, .int .i64 1099511627776)]).run Try.prog w = .ok (.slice (some ⟨w.heap.size, 0, none⟩) 5 5) (w.alloc (.cells #[.int .i64 0, .int .i64 (-1), .int .i64 65, .int .i64 (X0 + 1), .int .i64 1099511627776] 2)) := fun _ => by kernel_rfl
    go_wp2_with fail
    obtain ⟨u0, hu0, bb⟩ : ∃ uu, w6.drew = uu ∧ Below w6.heap.size w6 uu := ⟨_, rfl, (Below.refl _ _).drew⟩
    replace R := R.below bb
    clear bb
    refine wp_region_held_drew (S := fun w' => 0 ≤ w'.heap.size) (by kernel_rfl) (by rw [hu0]; exact Nat.zero_le _) (fun hHeld => ?_)
    rw [hu0] at hHeld ⊢
    clear hu0
    change wpAnyH _ _ _ _ _ 10 #[false, false, false, false, false, false, false, false, false, false] _ _
    refine wpAnyH_take (i := 0) (v := .pointer (some ⟨q, 0, none⟩)) rfl (by kernel_rfl) (by kernel_rfl) (by kernel_rfl) (fun _ _ _ h => h) (Or.inl ⟨by kernel_rfl, ?_⟩) hHeld ?_
    · intro w' hSw; go_simp
    try simp only [Act.put, List.setIfInBounds_toArray, List.set_cons_zero, List.set_cons_succ, List.getElem_toArray, List.getElem_cons_zero]
    refine wpAnyH_take (i := 4) (v := .pointer (some ⟨p, 0, none⟩)) rfl (by kernel_rfl) (by kernel_rfl) (by kernel_rfl) (fun _ _ _ h => h) (Or.inl ⟨by kernel_rfl, ?_⟩) hHeld ?_
    · intro w' hSw; go_simp
    try simp only [Act.put, List.setIfInBounds_toArray, List.set_cons_zero, List.set_cons_succ, List.getElem_toArray, List.getElem_cons_succ, List.getElem_cons_zero]
    refine wpAnyH_ready (rs := [1, 5]) (by kernel_rfl) (by simp) ?_
    refine AllReadyH.cons rfl (fun KK hK' => ?_) (AllReadyH.cons rfl (fun KK hK' => ?_) AllReadyH.nil)
    · obtain ⟨oc0, oc1, oc2, -⟩ := R.bx.open3
      go_simp
      clear oc0 oc1 oc2
      clear hHeld
      refine hK'.out _ _ (Nat.zero_le _) (fun hHeld => ?_)
      clear hK' KK
      try simp only [List.setIfInBounds_toArray, List.set_cons_zero, List.set_cons_succ]
      refine wpAnyH_take (i := 2) (v := .int .i64 (X0 + 1)) rfl (by kernel_rfl) (by kernel_rfl) (by kernel_rfl) (fun _ _ _ h => h) (Or.inl ⟨by kernel_rfl, ?_⟩) hHeld ?_
      · intro w' hSw; go_simp
      try simp only [Act.put, List.setIfInBounds_toArray, List.set_cons_zero, List.set_cons_succ, List.getElem_toArray, List.getElem_cons_succ, List.getElem_cons_zero]
      refine wpAnyH_ready (rs := [3, 5]) (by kernel_rfl) (by simp) ?_
      refine AllReadyH.cons rfl (fun KK hK' => ?_) (AllReadyH.cons rfl (fun KK hK' => ?_) AllReadyH.nil)
      · go_simp
        obtain ⟨u2, hV9, A9, bb, -⟩ := boxed u0 2 #[.int .i64 0, .int .i64 (-1), .int .i64 65, .int .i64 (X0 + 1), .int .i64 1099511627776]
        rw [hV9]
        clear hV9
        have zt := R.rb.lt
        replace R := R.below bb
        clear bb
        clear hHeld
        refine hK'.out _ _ (Nat.zero_le _) (fun hHeld => ?_)
        clear hK' KK
        try simp only [List.setIfInBounds_toArray, List.set_cons_zero, List.set_cons_succ]
        refine wpAnyH_ready (rs := [5]) (by kernel_rfl) (by simp) ?_
        refine AllReadyH.cons rfl (fun KK hK' => ?_) AllReadyH.nil
        go_simp
        refine (below_dr R.cur 5 (by decide) (by decide)).mono ?_
        rintro e u3 ⟨y, rfl, y0, y1, hd⟩
        obtain ⟨x, rfl⟩ : ∃ x : Nat, y = (x : Int) := ⟨y.toNat, by omega⟩
        replace A9 := at_kept A9 hd.1 (by omega)
        replace R := R.draw hd
        clear hd
        try go_wp2_with fail
        clear hHeld
        refine hK'.out _ _ (Nat.zero_le _) (fun hHeld => ?_)
        clear hK' KK
        try simp only [List.setIfInBounds_toArray, List.set_cons_zero, List.set_cons_succ]
        refine wpAnyH_take (i := 6) (v := .pointer (some ⟨u0.heap.size, x, none⟩)) rfl (by kernel_rfl) (by kernel_rfl) (by kernel_rfl) (fun _ _ _ h => h) (Or.inl ⟨by kernel_rfl, ?_⟩) hHeld ?_
        · intro w' hSw; go_simp
        try simp only [Act.put, List.setIfInBounds_toArray, List.set_cons_zero, List.set_cons_succ, List.getElem_toArray, List.getElem_cons_succ, List.getElem_cons_zero]
        refine wpAnyH_ready (rs := [7]) (by kernel_rfl) (by simp) ?_
        refine AllReadyH.cons rfl (fun KK hK' => ?_) AllReadyH.nil
        obtain ⟨T, hT⟩ := tab_any A9 (fun i hi => by rcases (by simp at hi; omega : i = 0 ∨ i = 1 ∨ i = 2 ∨ i = 3 ∨ i = 4) with rfl | rfl | rfl | rfl | rfl <;> exact ⟨_, rfl⟩) (x := x) (by simp; omega)
        go_simp
        clear hT A9
        clear hHeld
        refine hK'.out _ _ (Nat.zero_le _) (fun hHeld => ?_)
        clear hK' KK
        try simp only [List.setIfInBounds_toArray, List.set_cons_zero, List.set_cons_succ]
        refine wpAnyH_take (i := 8) (v := .pointer (some ⟨q, 0, none⟩)) rfl (by kernel_rfl) (by kernel_rfl) (by kernel_rfl) (fun _ _ _ h => h) (Or.inl ⟨by kernel_rfl, ?_⟩) hHeld ?_
        · intro w' hSw; go_simp
        try simp only [Act.put, List.setIfInBounds_toArray, List.set_cons_zero, List.set_cons_succ, List.getElem_toArray, List.getElem_cons_succ, List.getElem_cons_zero]
        refine wpAnyH_ready (rs := [9]) (by kernel_rfl) (by simp) ?_
        refine AllReadyH.cons rfl (fun KK hK' => ?_) AllReadyH.nil
        obtain ⟨oc0, oc1, oc2, of0, of1, of2⟩ := R.bx.open3
        go_simp
        obtain ⟨V9, hV9⟩ : ∃ V9, u3.setCell ⟨q, 0, none⟩ (.int .i64 T) = V9 := ⟨_, rfl⟩
        have R9 := R.setX T
        rw [hV9] at R9 ⊢
        clear hV9 R oc0 oc1 oc2 of0 of1 of2
        have R := R9
        clear R9
        clear hHeld
        refine hK'.out _ _ (Nat.zero_le _) (fun hHeld => ?_)
        clear hK' KK
        try simp only [List.setIfInBounds_toArray, List.set_cons_zero, List.set_cons_succ]
        refine wpAnyH_done (by kernel_rfl) ?_ _
        clear hHeld
        clear hbs
        have b2 := R.rb
        have oq := R.o
        obtain ⟨c0, c1, c2, -⟩ := R.bx.open3
        obtain ⟨d0, d1, d2, f0, f1, f2⟩ := b2.open3
        go_wp2
        have a7 := put3_at b2 (.int .i64 (T)) (.int .i64 (X1)) (.slice va P.length vc)
        obtain ⟨p0, p1, p2, -⟩ := a7.open3
        refine bodyPost_ret (v := fV (T) (X1) (.slice va P.length vc)) (by simp [results, Try.results34, go_sem, p0, p1, p2]) rfl ?_
        have hne := own_ne R.own R.rb (by decide)
        exact ⟨_, _, _, P, rfl, own_setO (own_setO (own_setO R.own hne _) hne _) hne _, (by omega), R.dr.grown (below_put3 (Below.refl w.heap.size _) (Nat.le_refl _) _ _ _) hs0 hpw⟩
      · go_simp
        refine (below_dr R.cur 5 (by decide) (by decide)).mono ?_
        rintro e u2 ⟨y, rfl, y0, y1, hd⟩
        obtain ⟨x, rfl⟩ : ∃ x : Nat, y = (x : Int) := ⟨y.toNat, by omega⟩
        replace R := R.draw hd
        clear hd
        try go_wp2_with fail
        clear hHeld
        refine hK'.out _ _ (Nat.zero_le _) (fun hHeld => ?_)
        clear hK' KK
        try simp only [List.setIfInBounds_toArray, List.set_cons_zero, List.set_cons_succ]
        refine wpAnyH_ready (rs := [3]) (by kernel_rfl) (by simp) ?_
        refine AllReadyH.cons rfl (fun KK hK' => ?_) AllReadyH.nil
        go_simp
        obtain ⟨u3, hV9, A9, bb, -⟩ := boxed u2 2 #[.int .i64 0, .int .i64 (-1), .int .i64 65, .int .i64 (X0 + 1), .int .i64 1099511627776]
        rw [hV9]
        clear hV9
        have zt := R.rb.lt
        replace R := R.below bb
        clear bb
        clear hHeld
        refine hK'.out _ _ (Nat.zero_le _) (fun hHeld => ?_)
        clear hK' KK
        try simp only [List.setIfInBounds_toArray, List.set_cons_zero, List.set_cons_succ]
        refine wpAnyH_take (i := 6) (v := .pointer (some ⟨u2.heap.size, x, none⟩)) rfl (by kernel_rfl) (by kernel_rfl) (by kernel_rfl) (fun _ _ _ h => h) (Or.inl ⟨by kernel_rfl, ?_⟩) hHeld ?_
        · intro w' hSw; go_simp
        try simp only [Act.put, List.setIfInBounds_toArray, List.set_cons_zero, List.set_cons_succ, List.getElem_toArray, List.getElem_cons_succ, List.getElem_cons_zero]
        refine wpAnyH_ready (rs := [7]) (by kernel_rfl) (by simp) ?_
        refine AllReadyH.cons rfl (fun KK hK' => ?_) AllReadyH.nil
        obtain ⟨T, hT⟩ := tab_any A9 (fun i hi => by rcases (by simp at hi; omega : i = 0 ∨ i = 1 ∨ i = 2 ∨ i = 3 ∨ i = 4) with rfl | rfl | rfl | rfl | rfl <;> exact ⟨_, rfl⟩) (x := x) (by simp; omega)
        go_simp
        clear hT A9
        clear hHeld
        refine hK'.out _ _ (Nat.zero_le _) (fun hHeld => ?_)
        clear hK' KK
        try simp only [List.setIfInBounds_toArray, List.set_cons_zero, List.set_cons_succ]
        refine wpAnyH_take (i := 8) (v := .pointer (some ⟨q, 0, none⟩)) rfl (by kernel_rfl) (by kernel_rfl) (by kernel_rfl) (fun _ _ _ h => h) (Or.inl ⟨by kernel_rfl, ?_⟩) hHeld ?_
        · intro w' hSw; go_simp
        try simp only [Act.put, List.setIfInBounds_toArray, List.set_cons_zero, List.set_cons_succ, List.getElem_toArray, List.getElem_cons_succ, List.getElem_cons_zero]
        refine wpAnyH_ready (rs := [9]) (by kernel_rfl) (by simp) ?_
        refine AllReadyH.cons rfl (fun KK hK' => ?_) AllReadyH.nil
        obtain ⟨oc0, oc1, oc2, of0, of1, of2⟩ := R.bx.open3
        go_simp
        obtain ⟨V9, hV9⟩ : ∃ V9, u3.setCell ⟨q, 0, none⟩ (.int .i64 T) = V9 := ⟨_, rfl⟩
        have R9 := R.setX T
        rw [hV9] at R9 ⊢
        clear hV9 R oc0 oc1 oc2 of0 of1 of2
        have R := R9
        clear R9
        clear hHeld
        refine hK'.out _ _ (Nat.zero_le _) (fun hHeld => ?_)
        clear hK' KK
        try simp only [List.setIfInBounds_toArray, List.set_cons_zero, List.set_cons_succ]
        refine wpAnyH_done (by kernel_rfl) ?_ _
        clear hHeld
        clear hbs
        have b2 := R.rb
        have oq := R.o
        obtain ⟨c0, c1, c2, -⟩ := R.bx.open3
        obtain ⟨d0, d1, d2, f0, f1, f2⟩ := b2.open3
        go_wp2
        have a7 := put3_at b2 (.int .i64 (T)) (.int .i64 (X1)) (.slice va P.length vc)
        obtain ⟨p0, p1, p2, -⟩ := a7.open3
        refine bodyPost_ret (v := fV (T) (X1) (.slice va P.length vc)) (by simp [results, Try.results34, go_sem, p0, p1, p2]) rfl ?_
        have hne := own_ne R.own R.rb (by decide)
        exact ⟨_, _, _, P, rfl, own_setO (own_setO (own_setO R.own hne _) hne _) hne _, (by omega), R.dr.grown (below_put3 (Below.refl w.heap.size _) (Nat.le_refl _) _ _ _) hs0 hpw⟩
    · go_simp
      refine (below_dr R.cur 5 (by decide) (by decide)).mono ?_
      rintro e u1 ⟨y, rfl, y0, y1, hd⟩
      obtain ⟨x, rfl⟩ : ∃ x : Nat, y = (x : Int) := ⟨y.toNat, by omega⟩
      replace R := R.draw hd
      clear hd
      try go_wp2_with fail
      clear hHeld
      refine hK'.out _ _ (Nat.zero_le _) (fun hHeld => ?_)
      clear hK' KK
      try simp only [List.setIfInBounds_toArray, List.set_cons_zero, List.set_cons_succ]
      refine wpAnyH_ready (rs := [1]) (by kernel_rfl) (by simp) ?_
      refine AllReadyH.cons rfl (fun KK hK' => ?_) AllReadyH.nil
      obtain ⟨oc0, oc1, oc2, -⟩ := R.bx.open3
      go_simp
      clear oc0 oc1 oc2
      clear hHeld
      refine hK'.out _ _ (Nat.zero_le _) (fun hHeld => ?_)
      clear hK' KK
      try simp only [List.setIfInBounds_toArray, List.set_cons_zero, List.set_cons_succ]
      refine wpAnyH_take (i := 2) (v := .int .i64 (X0 + 1)) rfl (by kernel_rfl) (by kernel_rfl) (by kernel_rfl) (fun _ _ _ h => h) (Or.inl ⟨by kernel_rfl, ?_⟩) hHeld ?_
      · intro w' hSw; go_simp
      try simp only [Act.put, List.setIfInBounds_toArray, List.set_cons_zero, List.set_cons_succ, List.getElem_toArray, List.getElem_cons_succ, List.getElem_cons_zero]
      refine wpAnyH_ready (rs := [3]) (by kernel_rfl) (by simp) ?_
      refine AllReadyH.cons rfl (fun KK hK' => ?_) AllReadyH.nil
      go_simp
      obtain ⟨u3, hV9, A9, bb, -⟩ := boxed u1 2 #[.int .i64 0, .int .i64 (-1), .int .i64 65, .int .i64 (X0 + 1), .int .i64 1099511627776]
      rw [hV9]
      clear hV9
      have zt := R.rb.lt
      replace R := R.below bb
      clear bb
      clear hHeld
      refine hK'.out _ _ (Nat.zero_le _) (fun hHeld => ?_)
      clear hK' KK
      try simp only [List.setIfInBounds_toArray, List.set_cons_zero, List.set_cons_succ]
      refine wpAnyH_take (i := 6) (v := .pointer (some ⟨u1.heap.size, x, none⟩)) rfl (by kernel_rfl) (by kernel_rfl) (by kernel_rfl) (fun _ _ _ h => h) (Or.inl ⟨by kernel_rfl, ?_⟩) hHeld ?_
      · intro w' hSw; go_simp
      try simp only [Act.put, List.setIfInBounds_toArray, List.set_cons_zero, List.set_cons_succ, List.getElem_toArray, List.getElem_cons_succ, List.getElem_cons_zero]
      refine wpAnyH_ready (rs := [7]) (by kernel_rfl) (by simp) ?_
      refine AllReadyH.cons rfl (fun KK hK' => ?_) AllReadyH.nil
      obtain ⟨T, hT⟩ := tab_any A9 (fun i hi => by rcases (by simp at hi; omega : i = 0 ∨ i = 1 ∨ i = 2 ∨ i = 3 ∨ i = 4) with rfl | rfl | rfl | rfl | rfl <;> exact ⟨_, rfl⟩) (x := x) (by simp; omega)
      go_simp
      clear hT A9
      clear hHeld
      refine hK'.out _ _ (Nat.zero_le _) (fun hHeld => ?_)
      clear hK' KK
      try simp only [List.setIfInBounds_toArray, List.set_cons_zero, List.set_cons_succ]
      refine wpAnyH_take (i := 8) (v := .pointer (some ⟨q, 0, none⟩)) rfl (by kernel_rfl) (by kernel_rfl) (by kernel_rfl) (fun _ _ _ h => h) (Or.inl ⟨by kernel_rfl, ?_⟩) hHeld ?_
      · intro w' hSw; go_simp
      try simp only [Act.put, List.setIfInBounds_toArray, List.set_cons_zero, List.set_cons_succ, List.getElem_toArray, List.getElem_cons_succ, List.getElem_cons_zero]
      refine wpAnyH_ready (rs := [9]) (by kernel_rfl) (by simp) ?_
      refine AllReadyH.cons rfl (fun KK hK' => ?_) AllReadyH.nil
      obtain ⟨oc0, oc1, oc2, of0, of1, of2⟩ := R.bx.open3
      go_simp
      obtain ⟨V9, hV9⟩ : ∃ V9, u3.setCell ⟨q, 0, none⟩ (.int .i64 T) = V9 := ⟨_, rfl⟩
      have R9 := R.setX T
      rw [hV9] at R9 ⊢
      clear hV9 R oc0 oc1 oc2 of0 of1 of2
      have R := R9
      clear R9
      clear hHeld
      refine hK'.out _ _ (Nat.zero_le _) (fun hHeld => ?_)
      clear hK' KK
      try simp only [List.setIfInBounds_toArray, List.set_cons_zero, List.set_cons_succ]
      refine wpAnyH_done (by kernel_rfl) ?_ _
      clear hHeld
      clear hbs
      have b2 := R.rb
      have oq := R.o
      obtain ⟨c0, c1, c2, -⟩ := R.bx.open3
      obtain ⟨d0, d1, d2, f0, f1, f2⟩ := b2.open3
      go_wp2
      have a7 := put3_at b2 (.int .i64 (T)) (.int .i64 (X1)) (.slice va P.length vc)
      obtain ⟨p0, p1, p2, -⟩ := a7.open3
      refine bodyPost_ret (v := fV (T) (X1) (.slice va P.length vc)) (by simp [results, Try.results34, go_sem, p0, p1, p2]) rfl ?_
      have hne := own_ne R.own R.rb (by decide)
      exact ⟨_, _, _, P, rfl, own_setO (own_setO (own_setO R.own hne _) hne _) hne _, (by omega), R.dr.grown (below_put3 (Below.refl w.heap.size _) (Nat.le_refl _) _ _ _) hs0 hpw⟩
  · clear x0 x1
    obtain ⟨gv, rfl⟩ := R.blk (by omega)
    have hPn : ((P.length : Nat) : Int) ≤ 64 := by omega
    have hPp : (0 : Int) < ((P.length : Nat) : Int) := by omega
    have hbs : ∀ w, (Instr.buildSlice 26 3 #[(0, .int .i64 (-1)), (1, .int .i64 65535), (2, .int .i64 65536)]).run Try.prog w = .ok (.slice (some ⟨w.heap.size, 0, none⟩) 3 3) (w.alloc (.cells #[.int .i64 (-1), .int .i64 65535, .int .i64 65536] 2)) := fun _ => by kernel_rfl
    go_wp2_with fail
    obtain ⟨u0, hu0, bb⟩ : ∃ uu, w6.drew = uu ∧ Below w6.heap.size w6 uu := ⟨_, rfl, (Below.refl _ _).drew⟩
    replace R := R.below bb
    clear bb
    refine wp_region_held_drew (S := fun w' => At 28 w' q #[.int .i64 X0, .int .i64 X1, .slice (some ⟨gv, 0, none⟩) P.length vc]) (by kernel_rfl) (by rw [hu0]; exact R.bx) (fun hHeld => ?_)
    rw [hu0] at hHeld ⊢
    clear hu0
    change wpAnyH _ _ _ _ _ 14 #[false, false, false, false, false, false, false, false, false, false, false, false, false, false] _ _
    refine wpAnyH_take (i := 0) (v := .pointer (some ⟨q, 2, none⟩)) rfl (by kernel_rfl) (by kernel_rfl) (by kernel_rfl) (fun _ _ _ h => h) (Or.inl ⟨by kernel_rfl, ?_⟩) hHeld ?_
    · intro w' hSw; go_simp
    try simp only [Act.put, List.setIfInBounds_toArray, List.set_cons_zero, List.set_cons_succ, List.getElem_toArray, List.getElem_cons_zero]
    refine wpAnyH_take (i := 1) (v := .slice ((some ⟨gv, 0, none⟩)) P.length vc) rfl (by kernel_rfl) (by kernel_rfl) (by kernel_rfl) (fun _ _ _ h => h) (Or.inl ⟨by kernel_rfl, ?_⟩) hHeld ?_
    · intro w' hSw; obtain ⟨z0, z1, z2, -⟩ := At.open3 hSw; go_simp
    try simp only [Act.put, List.setIfInBounds_toArray, List.set_cons_zero, List.set_cons_succ, List.getElem_toArray, List.getElem_cons_succ, List.getElem_cons_zero]
    refine wpAnyH_take (i := 2) (v := .pointer (some ⟨p, 0, none⟩)) rfl (by kernel_rfl) (by kernel_rfl) (by kernel_rfl) (fun _ _ _ h => h) (Or.inl ⟨by kernel_rfl, ?_⟩) hHeld ?_
    · intro w' hSw; go_simp
    try simp only [Act.put, List.setIfInBounds_toArray, List.set_cons_zero, List.set_cons_succ, List.getElem_toArray, List.getElem_cons_succ, List.getElem_cons_zero]
    refine wpAnyH_take (i := 3) (v := .pointer (some ⟨q, 2, none⟩)) rfl (by kernel_rfl) (by kernel_rfl) (by kernel_rfl) (fun _ _ _ h => h) (Or.inl ⟨by kernel_rfl, ?_⟩) hHeld ?_
    · intro w' hSw; go_simp
    try simp only [Act.put, List.setIfInBounds_toArray, List.set_cons_zero, List.set_cons_succ, List.getElem_toArray, List.getElem_cons_succ, List.getElem_cons_zero]
    refine wpAnyH_take (i := 4) (v := .slice ((some ⟨gv, 0, none⟩)) P.length vc) rfl (by kernel_rfl) (by kernel_rfl) (by kernel_rfl) (fun _ _ _ h => h) (Or.inl ⟨by kernel_rfl, ?_⟩) hHeld ?_
    · intro w' hSw; obtain ⟨z0, z1, z2, -⟩ := At.open3 hSw; go_simp
    try simp only [Act.put, List.setIfInBounds_toArray, List.set_cons_zero, List.set_cons_succ, List.getElem_toArray, List.getElem_cons_succ, List.getElem_cons_zero]
    refine wpAnyH_take (i := 5) (v := .int .i64 (((P.length : Nat) : Int))) rfl (by kernel_rfl) (by kernel_rfl) (by kernel_rfl) (fun _ _ _ h => h) (Or.inl ⟨by kernel_rfl, ?_⟩) hHeld ?_
    · intro w' hSw; go_simp
    try simp only [Act.put, List.setIfInBounds_toArray, List.set_cons_zero, List.set_cons_succ, List.getElem_toArray, List.getElem_cons_succ, List.getElem_cons_zero]
    refine wpAnyH_take (i := 8) (v := .pointer (some ⟨p, 0, none⟩)) rfl (by kernel_rfl) (by kernel_rfl) (by kernel_rfl) (fun _ _ _ h => h) (Or.inl ⟨by kernel_rfl, ?_⟩) hHeld ?_
    · intro w' hSw; go_simp
    try simp only [Act.put, List.setIfInBounds_toArray, List.set_cons_zero, List.set_cons_succ, List.getElem_toArray, List.getElem_cons_succ, List.getElem_cons_zero]
    refine wpAnyH_ready (rs := [6, 7]) (by kernel_rfl) (by simp) ?_
    refine AllReadyH.cons rfl (fun KK hK' => ?_) (AllReadyH.cons rfl (fun KK hK' => ?_) AllReadyH.nil)
    · go_simp
      refine (below_dr R.cur ((P.length : Nat) : Int) (by omega) (by omega)).mono ?_
      rintro e u1 ⟨y, rfl, j0, j1, hd⟩
      obtain ⟨j, rfl⟩ : ∃ x : Nat, y = (x : Int) := ⟨y.toNat, by omega⟩
      replace R := R.draw hd
      clear hd
      try go_wp2_with fail
      clear hHeld
      refine hK'.out _ _ (R.bx) (fun hHeld => ?_)
      clear hK' KK
      try simp only [List.setIfInBounds_toArray, List.set_cons_zero, List.set_cons_succ]
      refine wpAnyH_ready (rs := [7, 9]) (by kernel_rfl) (by simp) ?_
      refine AllReadyH.cons rfl (fun KK hK' => ?_) (AllReadyH.cons rfl (fun KK hK' => ?_) AllReadyH.nil)
      · go_simp
        obtain ⟨u2, hV9, A9, bb, -⟩ := boxed u1 2 #[.int .i64 (-1), .int .i64 65535, .int .i64 65536]
        rw [hV9]
        clear hV9
        have zt := R.rb.lt
        replace R := R.below bb
        clear bb
        clear hHeld
        refine hK'.out _ _ (R.bx) (fun hHeld => ?_)
        clear hK' KK
        try simp only [List.setIfInBounds_toArray, List.set_cons_zero, List.set_cons_succ]
        refine wpAnyH_ready (rs := [9]) (by kernel_rfl) (by simp) ?_
        refine AllReadyH.cons rfl (fun KK hK' => ?_) AllReadyH.nil
        go_simp
        refine (below_dr R.cur 3 (by omega) (by omega)).mono ?_
        rintro e u3 ⟨y, rfl, x0, x1, hd⟩
        obtain ⟨x, rfl⟩ : ∃ x : Nat, y = (x : Int) := ⟨y.toNat, by omega⟩
        replace A9 := at_kept A9 hd.1 (by omega)
        replace R := R.draw hd
        clear hd
        try go_wp2_with fail
        clear hHeld
        refine hK'.out _ _ (R.bx) (fun hHeld => ?_)
        clear hK' KK
        try simp only [List.setIfInBounds_toArray, List.set_cons_zero, List.set_cons_succ]
        refine wpAnyH_take (i := 10) (v := .pointer (some ⟨u1.heap.size, x, none⟩)) rfl (by kernel_rfl) (by kernel_rfl) (by kernel_rfl) (fun _ _ _ h => h) (Or.inl ⟨by kernel_rfl, ?_⟩) hHeld ?_
        · intro w' hSw; go_simp
        try simp only [Act.put, List.setIfInBounds_toArray, List.set_cons_zero, List.set_cons_succ, List.getElem_toArray, List.getElem_cons_succ, List.getElem_cons_zero]
        refine wpAnyH_ready (rs := [11]) (by kernel_rfl) (by simp) ?_
        refine AllReadyH.cons rfl (fun KK hK' => ?_) AllReadyH.nil
        obtain ⟨T, hT⟩ := tab_any A9 (fun i hi => by rcases (by simp at hi; omega : i = 0 ∨ i = 1 ∨ i = 2) with rfl | rfl | rfl <;> exact ⟨_, rfl⟩) (x := x) (by simp; omega)
        go_simp
        clear hT A9
        clear hHeld
        refine hK'.out _ _ (R.bx) (fun hHeld => ?_)
        clear hK' KK
        try simp only [List.setIfInBounds_toArray, List.set_cons_zero, List.set_cons_succ]
        refine wpAnyH_take (i := 12) (v := .pointer (some ⟨gv, j, none⟩)) rfl (by kernel_rfl) (by kernel_rfl) (by kernel_rfl) (fun _ _ _ h => h) (Or.inl ⟨by kernel_rfl, ?_⟩) hHeld ?_
        · intro w' hSw; go_simp
        try simp only [Act.put, List.setIfInBounds_toArray, List.set_cons_zero, List.set_cons_succ, List.getElem_toArray, List.getElem_cons_succ, List.getElem_cons_zero]
        refine wpAnyH_ready (rs := [13]) (by kernel_rfl) (by simp) ?_
        refine AllReadyH.cons rfl (fun KK hK' => ?_) AllReadyH.nil
        obtain ⟨⟨oc0, of0⟩, R9⟩ := R.setP (j := j) (by omega) T
        go_simp
        obtain ⟨V9, hV9⟩ : ∃ V9, u3.setCell ⟨gv, j, none⟩ (.int .i64 T) = V9 := ⟨_, rfl⟩
        rw [hV9] at R9 ⊢
        clear hV9 R oc0 of0
        have R := R9
        clear R9
        clear hHeld
        refine hK'.out _ _ (R.bx) (fun hHeld => ?_)
        clear hK' KK
        try simp only [List.setIfInBounds_toArray, List.set_cons_zero, List.set_cons_succ]
        refine wpAnyH_done (by kernel_rfl) ?_ _
        clear hHeld
        clear hbs
        have b2 := R.rb
        have oq := R.o
        obtain ⟨c0, c1, c2, -⟩ := R.bx.open3
        obtain ⟨d0, d1, d2, f0, f1, f2⟩ := b2.open3
        go_wp2
        have a7 := put3_at b2 (.int .i64 (X0)) (.int .i64 (X1)) (.slice (some ⟨gv, 0, none⟩) P.length vc)
        obtain ⟨p0, p1, p2, -⟩ := a7.open3
        refine bodyPost_ret (v := fV (X0) (X1) (.slice (some ⟨gv, 0, none⟩) P.length vc)) (by simp [results, Try.results34, go_sem, p0, p1, p2]) rfl ?_
        have hne := own_ne R.own R.rb (by decide)
        exact ⟨_, _, _, (P.set j T), rfl, own_setO (own_setO (own_setO R.own hne _) hne _) hne _, (by simp; omega), R.dr.grown (below_put3 (Below.refl w.heap.size _) (Nat.le_refl _) _ _ _) hs0 hpw⟩
      · go_simp
        refine (below_dr R.cur 3 (by omega) (by omega)).mono ?_
        rintro e u2 ⟨y, rfl, x0, x1, hd⟩
        obtain ⟨x, rfl⟩ : ∃ x : Nat, y = (x : Int) := ⟨y.toNat, by omega⟩
        replace R := R.draw hd
        clear hd
        try go_wp2_with fail
        clear hHeld
        refine hK'.out _ _ (R.bx) (fun hHeld => ?_)
        clear hK' KK
        try simp only [List.setIfInBounds_toArray, List.set_cons_zero, List.set_cons_succ]
        refine wpAnyH_ready (rs := [7]) (by kernel_rfl) (by simp) ?_
        refine AllReadyH.cons rfl (fun KK hK' => ?_) AllReadyH.nil
        go_simp
        obtain ⟨u3, hV9, A9, bb, -⟩ := boxed u2 2 #[.int .i64 (-1), .int .i64 65535, .int .i64 65536]
        rw [hV9]
        clear hV9
        have zt := R.rb.lt
        replace R := R.below bb
        clear bb
        clear hHeld
        refine hK'.out _ _ (R.bx) (fun hHeld => ?_)
        clear hK' KK
        try simp only [List.setIfInBounds_toArray, List.set_cons_zero, List.set_cons_succ]
        refine wpAnyH_take (i := 10) (v := .pointer (some ⟨u2.heap.size, x, none⟩)) rfl (by kernel_rfl) (by kernel_rfl) (by kernel_rfl) (fun _ _ _ h => h) (Or.inl ⟨by kernel_rfl, ?_⟩) hHeld ?_
        · intro w' hSw; go_simp
        try simp only [Act.put, List.setIfInBounds_toArray, List.set_cons_zero, List.set_cons_succ, List.getElem_toArray, List.getElem_cons_succ, List.getElem_cons_zero]
        refine wpAnyH_ready (rs := [11]) (by kernel_rfl) (by simp) ?_
        refine AllReadyH.cons rfl (fun KK hK' => ?_) AllReadyH.nil
        obtain ⟨T, hT⟩ := tab_any A9 (fun i hi => by rcases (by simp at hi; omega : i = 0 ∨ i = 1 ∨ i = 2) with rfl | rfl | rfl <;> exact ⟨_, rfl⟩) (x := x) (by simp; omega)
        go_simp
        clear hT A9
        clear hHeld
        refine hK'.out _ _ (R.bx) (fun hHeld => ?_)
        clear hK' KK
        try simp only [List.setIfInBounds_toArray, List.set_cons_zero, List.set_cons_succ]
        refine wpAnyH_take (i := 12) (v := .pointer (some ⟨gv, j, none⟩)) rfl (by kernel_rfl) (by kernel_rfl) (by kernel_rfl) (fun _ _ _ h => h) (Or.inl ⟨by kernel_rfl, ?_⟩) hHeld ?_
        · intro w' hSw; go_simp
        try simp only [Act.put, List.setIfInBounds_toArray, List.set_cons_zero, List.set_cons_succ, List.getElem_toArray, List.getElem_cons_succ, List.getElem_cons_zero]
        refine wpAnyH_ready (rs := [13]) (by kernel_rfl) (by simp) ?_
        refine AllReadyH.cons rfl (fun KK hK' => ?_) AllReadyH.nil
        obtain ⟨⟨oc0, of0⟩, R9⟩ := R.setP (j := j) (by omega) T
        go_simp
        obtain ⟨V9, hV9⟩ : ∃ V9, u3.setCell ⟨gv, j, none⟩ (.int .i64 T) = V9 := ⟨_, rfl⟩
        rw [hV9] at R9 ⊢
        clear hV9 R oc0 of0
        have R := R9
        clear R9
        clear hHeld
        refine hK'.out _ _ (R.bx) (fun hHeld => ?_)
        clear hK' KK
        try simp only [List.setIfInBounds_toArray, List.set_cons_zero, List.set_cons_succ]
        refine wpAnyH_done (by kernel_rfl) ?_ _
        clear hHeld
        clear hbs
        have b2 := R.rb
        have oq := R.o
        obtain ⟨c0, c1, c2, -⟩ := R.bx.open3
        obtain ⟨d0, d1, d2, f0, f1, f2⟩ := b2.open3
        go_wp2
        have a7 := put3_at b2 (.int .i64 (X0)) (.int .i64 (X1)) (.slice (some ⟨gv, 0, none⟩) P.length vc)
        obtain ⟨p0, p1, p2, -⟩ := a7.open3
        refine bodyPost_ret (v := fV (X0) (X1) (.slice (some ⟨gv, 0, none⟩) P.length vc)) (by simp [results, Try.results34, go_sem, p0, p1, p2]) rfl ?_
        have hne := own_ne R.own R.rb (by decide)
        exact ⟨_, _, _, (P.set j T), rfl, own_setO (own_setO (own_setO R.own hne _) hne _) hne _, (by simp; omega), R.dr.grown (below_put3 (Below.refl w.heap.size _) (Nat.le_refl _) _ _ _) hs0 hpw⟩
    · go_simp
      obtain ⟨u1, hV9, A9, bb, -⟩ := boxed u0 2 #[.int .i64 (-1), .int .i64 65535, .int .i64 65536]
      rw [hV9]
      clear hV9
      have zt := R.rb.lt
      replace R := R.below bb
      clear bb
      clear hHeld
      refine hK'.out _ _ (R.bx) (fun hHeld => ?_)
      clear hK' KK
      try simp only [List.setIfInBounds_toArray, List.set_cons_zero, List.set_cons_succ]
      refine wpAnyH_ready (rs := [6]) (by kernel_rfl) (by simp) ?_
      refine AllReadyH.cons rfl (fun KK hK' => ?_) AllReadyH.nil
      go_simp
      refine (below_dr R.cur ((P.length : Nat) : Int) (by omega) (by omega)).mono ?_
      rintro e u2 ⟨y, rfl, j0, j1, hd⟩
      obtain ⟨j, rfl⟩ : ∃ x : Nat, y = (x : Int) := ⟨y.toNat, by omega⟩
      replace A9 := at_kept A9 hd.1 (by omega)
      replace R := R.draw hd
      clear hd
      try go_wp2_with fail
      clear hHeld
      refine hK'.out _ _ (R.bx) (fun hHeld => ?_)
      clear hK' KK
      try simp only [List.setIfInBounds_toArray, List.set_cons_zero, List.set_cons_succ]
      refine wpAnyH_ready (rs := [9]) (by kernel_rfl) (by simp) ?_
      refine AllReadyH.cons rfl (fun KK hK' => ?_) AllReadyH.nil
      go_simp
      refine (below_dr R.cur 3 (by omega) (by omega)).mono ?_
      rintro e u3 ⟨y, rfl, x0, x1, hd⟩
      obtain ⟨x, rfl⟩ : ∃ x : Nat, y = (x : Int) := ⟨y.toNat, by omega⟩
      replace A9 := at_kept A9 hd.1 (by omega)
      replace R := R.draw hd
      clear hd
      try go_wp2_with fail
      clear hHeld
      refine hK'.out _ _ (R.bx) (fun hHeld => ?_)
      clear hK' KK
      try simp only [List.setIfInBounds_toArray, List.set_cons_zero, List.set_cons_succ]
      refine wpAnyH_take (i := 10) (v := .pointer (some ⟨u0.heap.size, x, none⟩)) rfl (by kernel_rfl) (by kernel_rfl) (by kernel_rfl) (fun _ _ _ h => h) (Or.inl ⟨by kernel_rfl, ?_⟩) hHeld ?_
      · intro w' hSw; go_simp
      try simp only [Act.put, List.setIfInBounds_toArray, List.set_cons_zero, List.set_cons_succ, List.getElem_toArray, List.getElem_cons_succ, List.getElem_cons_zero]
      refine wpAnyH_ready (rs := [11]) (by kernel_rfl) (by simp) ?_
      refine AllReadyH.cons rfl (fun KK hK' => ?_) AllReadyH.nil
      obtain ⟨T, hT⟩ := tab_any A9 (fun i hi => by rcases (by simp at hi; omega : i = 0 ∨ i = 1 ∨ i = 2) with rfl | rfl | rfl <;> exact ⟨_, rfl⟩) (x := x) (by simp; omega)
      go_simp
      clear hT A9
      clear hHeld
      refine hK'.out _ _ (R.bx) (fun hHeld => ?_)
      clear hK' KK
      try simp only [List.setIfInBounds_toArray, List.set_cons_zero, List.set_cons_succ]
      refine wpAnyH_take (i := 12) (v := .pointer (some ⟨gv, j, none⟩)) rfl (by kernel_rfl) (by kernel_rfl) (by kernel_rfl) (fun _ _ _ h => h) (Or.inl ⟨by kernel_rfl, ?_⟩) hHeld ?_
      · intro w' hSw; go_simp
      try simp only [Act.put, List.setIfInBounds_toArray, List.set_cons_zero, List.set_cons_succ, List.getElem_toArray, List.getElem_cons_succ, List.getElem_cons_zero]
      refine wpAnyH_ready (rs := [13]) (by kernel_rfl) (by simp) ?_
      refine AllReadyH.cons rfl (fun KK hK' => ?_) AllReadyH.nil
      obtain ⟨⟨oc0, of0⟩, R9⟩ := R.setP (j := j) (by omega) T
      go_simp
      obtain ⟨V9, hV9⟩ : ∃ V9, u3.setCell ⟨gv, j, none⟩ (.int .i64 T) = V9 := ⟨_, rfl⟩
      rw [hV9] at R9 ⊢
      clear hV9 R oc0 of0
      have R := R9
      clear R9
      clear hHeld
      refine hK'.out _ _ (R.bx) (fun hHeld => ?_)
      clear hK' KK
      try simp only [List.setIfInBounds_toArray, List.set_cons_zero, List.set_cons_succ]
      refine wpAnyH_done (by kernel_rfl) ?_ _
      clear hHeld
      clear hbs
      have b2 := R.rb
      have oq := R.o
      obtain ⟨c0, c1, c2, -⟩ := R.bx.open3
      obtain ⟨d0, d1, d2, f0, f1, f2⟩ := b2.open3
      go_wp2
      have a7 := put3_at b2 (.int .i64 (X0)) (.int .i64 (X1)) (.slice (some ⟨gv, 0, none⟩) P.length vc)
      obtain ⟨p0, p1, p2, -⟩ := a7.open3
      refine bodyPost_ret (v := fV (X0) (X1) (.slice (some ⟨gv, 0, none⟩) P.length vc)) (by simp [results, Try.results34, go_sem, p0, p1, p2]) rfl ?_
      have hne := own_ne R.own R.rb (by decide)
      exact ⟨_, _, _, (P.set j T), rfl, own_setO (own_setO (own_setO R.own hne _) hne _) hne _, (by simp; omega), R.dr.grown (below_put3 (Below.refl w.heap.size _) (Nat.le_refl _) _ _ _) hs0 hpw⟩
  · clear x0 x1
    have hb9 : ∀ w, (Instr.buildSlice 26 1 #[(0, .int .i64 0)]).run Try.prog w = .ok (.slice (some ⟨w.heap.size, 0, none⟩) 1 1) (w.alloc (.cells #[.int .i64 0] 2)) := fun _ => by kernel_rfl
    obtain ⟨c0, c1, c2, -⟩ := R.bx.open3
    obtain ⟨V6, hV6, A6, b6, -⟩ := boxed w6 2 #[.int .i64 0]
    have R6 := R.below b6
    have zN := R6.rb.lt
    have news := World.news_of_block (cs := #[.int .i64 0]) (t := 2) (fr := (0, 0)) A6
    go_wp2_with (at_builtin; refine wpList_append_own _ rfl _ _ _ rfl w.heap.size 2 i0 _ 1 8 Try.underlying26 hi0 hz0 hz1 hz2 rfl (by omega) (.slice va P.length vc) P.length (lI P) rfl R6.own ⟨w6.heap.size, 0, none⟩ 1 1 [.int .i64 0] rfl rfl news (by simp [Value.oneCell']) (by unfold maxLen; omega) (by omega) (by omega) ?_; intro v2 w9 hown2 hgrow2 hne2; refine Hid.out (?_ : Hid _))
    have b9 : At 28 w9 q #[.int .i64 X0, .int .i64 X1, .slice va P.length vc] := (hgrow2.block q R6.bx.lt (fun e => own_ne R6.own R6.bx (by decide) e.symm)).trans R6.bx
    obtain ⟨va2, vc2, rfl⟩ := own_slice hown2
    have R9 := R6.add 0 hown2 hgrow2
    clear c0 c1 c2
    obtain ⟨g0, g1, g2, k0, k1, k2⟩ := b9.open3
    obtain ⟨V9, hV9⟩ : ∃ V9, w9.setCell ⟨q, 2, none⟩ (.slice va2 (P.length + 1) vc2) = V9 := ⟨_, rfl⟩
    rw [hV9] at R9
    clear hown2 hgrow2 hne2 R6 R b9 A6 b6 news hb9 hV6
    have R := R9
    clear R9
    refine (?_ : wpList _ _ _ _ _ _)
    have b2 := R.rb
    have oq := R.o
    obtain ⟨c0, c1, c2, -⟩ := R.bx.open3
    obtain ⟨d0, d1, d2, f0, f1, f2⟩ := b2.open3
    go_wp2
    have a7 := put3_at b2 (.int .i64 (X0)) (.int .i64 (X1)) (.slice va2 (P.length + 1) vc2)
    obtain ⟨p0, p1, p2, -⟩ := a7.open3
    refine bodyPost_ret (v := fV (X0) (X1) (.slice va2 (P.length + 1) vc2)) (by simp [results, Try.results34, go_sem, p0, p1, p2]) rfl ?_
    have hne := own_ne R.own R.rb (by decide)
    exact ⟨_, _, _, (P ++ [0]), rfl, own_setO (own_setO (own_setO R.own hne _) hne _) hne _, (by simp; omega), R.dr.grown (below_put3 (Below.refl w.heap.size _) (Nat.le_refl _) _ _ _) hs0 hpw⟩
  · clear x0 x1
    have R9 : DW w0 (((w6.setCell ⟨q, 0, none⟩ (.int .i64 0)).setCell ⟨q, 1, none⟩ (.int .i64 0)).setCell ⟨q, 2, none⟩ (.slice none 0 0)) p a len cap w.heap.size q 0 0 (.slice none 0 0) [] := by
      have o := R.o
      exact ⟨R.dr.grown (below_put3 (Below.refl w.heap.size _) (by omega) _ _ _) hs0 hpw, ⟨rfl, .inl ⟨rfl, rfl⟩⟩, put3_at R.bx _ _ _, ((R.rb.setOther (by omega) _).setOther (by omega) _).setOther (by omega) _, o, hs0, hpw⟩
    obtain ⟨V9, hV9⟩ : ∃ V9, ((w6.setCell ⟨q, 0, none⟩ (.int .i64 0)).setCell ⟨q, 1, none⟩ (.int .i64 0)).setCell ⟨q, 2, none⟩ (.slice none 0 0) = V9 := ⟨_, rfl⟩
    rw [hV9] at R9
    obtain ⟨g0, g1, g2, k0, k1, k2⟩ := R.bx.open3
    clear R
    have R := R9
    clear R9
    have b2 := R.rb
    have oq := R.o
    obtain ⟨c0, c1, c2, -⟩ := R.bx.open3
    obtain ⟨d0, d1, d2, f0, f1, f2⟩ := b2.open3
    go_wp2
    have a7 := put3_at b2 (.int .i64 (0)) (.int .i64 (0)) (.slice none 0 0)
    obtain ⟨p0, p1, p2, -⟩ := a7.open3
    refine bodyPost_ret (v := fV (0) (0) (.slice none 0 0)) (by simp [results, Try.results34, go_sem, p0, p1, p2]) rfl ?_
    have hne := own_ne R.own R.rb (by decide)
    exact ⟨_, _, _, [], rfl, own_setO (own_setO (own_setO R.own hne _) hne _) hne _, (by simp), R.dr.grown (below_put3 (Below.refl w.heap.size _) (Nat.le_refl _) _ _ _) hs0 hpw⟩
  · clear x0 x1
    go_wp2_with fail
    refine (l12Draw_dr 64 2 R.cur (by decide) (by decide) (Nat.le_refl _)).mono ?_
    rintro e w7 ⟨v2, P2, rfl, own2, hPl2, -, h7⟩
    obtain ⟨va2, vc2, rfl⟩ := own_sl own2
    have R7 := R.draw h7
    have hpl : P2.length ≤ 5000 := by omega
    have own3 := own_wide own2 (show w.heap.size ≤ w6.heap.size by have := R.rb.lt; omega)
    have R9 : DW w0 (((w7.setCell ⟨q, 0, none⟩ (.int .i64 64)).setCell ⟨q, 1, none⟩ (.int .i64 2)).setCell ⟨q, 2, none⟩ (.slice va2 P2.length vc2)) p a len cap w.heap.size q 64 2 (.slice va2 P2.length vc2) P2 := by
      have o := R.o
      have hne := own_ne own3 R7.bx (by decide)
      exact ⟨R7.dr.grown (below_put3 (Below.refl w.heap.size _) (by omega) _ _ _) hs0 hpw, own_setO (own_setO (own_setO own3 hne _) hne _) hne _, put3_at R7.bx _ _ _, ((R7.rb.setOther (by omega) _).setOther (by omega) _).setOther (by omega) _, o, hs0, hpw⟩
    obtain ⟨V9, hV9⟩ : ∃ V9, ((w7.setCell ⟨q, 0, none⟩ (.int .i64 64)).setCell ⟨q, 1, none⟩ (.int .i64 2)).setCell ⟨q, 2, none⟩ (.slice va2 P2.length vc2) = V9 := ⟨_, rfl⟩
    rw [hV9] at R9
    obtain ⟨g0, g1, g2, k0, k1, k2⟩ := R7.bx.open3
    clear R R7 own2 own3 h7
    have R := R9
    clear R9
    have b2 := R.rb
    have oq := R.o
    obtain ⟨c0, c1, c2, -⟩ := R.bx.open3
    obtain ⟨d0, d1, d2, f0, f1, f2⟩ := b2.open3
    go_wp2
    have a7 := put3_at b2 (.int .i64 (64)) (.int .i64 (2)) (.slice va2 P2.length vc2)
    obtain ⟨p0, p1, p2, -⟩ := a7.open3
    refine bodyPost_ret (v := fV (64) (2) (.slice va2 P2.length vc2)) (by simp [results, Try.results34, go_sem, p0, p1, p2]) rfl ?_
    have hne := own_ne R.own R.rb (by decide)
    exact ⟨_, _, _, P2, rfl, own_setO (own_setO (own_setO R.own hne _) hne _) hne _, hpl, R.dr.grown (below_put3 (Below.refl w.heap.size _) (Nat.le_refl _) _ _ _) hs0 hpw⟩
end Go.Proofs.Ytlofbgkefalpoaa
