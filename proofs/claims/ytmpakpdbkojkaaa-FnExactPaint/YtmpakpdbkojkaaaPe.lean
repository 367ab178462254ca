/-
  Atoms painted on a map, by the program: walked.
-/
import Derived.Test.YtmpakpdbkojkaaaPd
import Derived.Deep.CutRange
namespace Go.Proofs.Ytmpakpdbkojkaaa
open Go.RowKit

/-- All of V stands. -/
def Kb (V wr : World) : Prop := Below V.heap.size V wr
theorem Kb.below {V wr wr' : World} (F : Kb V wr) (b : Below wr.heap.size wr wr') : Kb V wr' := Below.trans F (b.mono (Below.size F))
theorem kb_lt {V wr : World} (F : Kb V wr) : V.heap.size ≤ wr.heap.size := Below.size F
theorem kb_fill {V wr : World} {p : Nat} {t : TypeId} {u0 u1 u2 : Value} (F : Kb V wr) (hp : V.heap.size ≤ p) (rb : At t wr p #[u0, u1, u2]) (v0 v1 v2 : Value) :
    ∃ u, ((wr.setCell ⟨p, 0, none⟩ v0).setCell ⟨p, 1, none⟩ v1).setCell ⟨p, 2, none⟩ v2 = u ∧ At t u p #[v0, v1, v2] ∧ Kb V u :=
  ⟨_, rfl, put3_at rb _ _ _, below_put3 F hp _ _ _⟩
/-- The numbers of a map's box and of an atom's. -/
def Sm6 (p q : Nat) (us vs : Array Value) (w : World) : Prop := (∀ i v, us[i]? = some v → w.cell? ⟨p, i, none⟩ = some v) ∧ ∀ i v, vs[i]? = some v → w.cell? ⟨q, i, none⟩ = some v
theorem sm6_of {s t : TypeId} {w : World} {p q : Nat} {us vs : Array Value} (h1 : At s w p us) (h2 : At t w q vs) : Sm6 p q us vs w := ⟨fun i _ h => h1.cell i h, fun i _ h => h2.cell i h⟩
theorem sm6_out {w : World} {p q : Nat} {u0 u1 v0 v1 v2 v3 : Value} (h : Sm6 p q #[u0, u1] #[v0, v1, v2, v3] w) : (w.cell? ⟨p, 0, none⟩ = some u0 ∧ w.cell? ⟨p, 1, none⟩ = some u1) ∧ w.cell? ⟨q, 0, none⟩ = some v0 ∧ w.cell? ⟨q, 1, none⟩ = some v1 ∧ w.cell? ⟨q, 2, none⟩ = some v2 ∧ w.cell? ⟨q, 3, none⟩ = some v3 :=
  ⟨⟨h.1 0 _ rfl, h.1 1 _ rfl⟩, h.2 0 _ rfl, h.2 1 _ rfl, h.2 2 _ rfl, h.2 3 _ rfl⟩
set_option maxRecDepth 100000 in
set_option maxHeartbeats 3200000 in
theorem implPaint_any {w : World} {g cnt c : Nat} {f : Nat → Int} (n : Int) (hq : Quads w g cnt f) (hn : side n) (ha : AOk cnt f) :
    Calls Try.prog 22 #[.slice (some ⟨g, 0, none⟩) cnt c, .int .i64 n] w fun e w' => ∃ m, e = .returned m ∧ (((∀ i, i < cnt → fits3 n f i) ∧ MapAt w' w.heap.size w'.heap.size m n (cube n) (pf n f cnt)) ∨ (¬ (∀ i, i < cnt → fits3 n f i) ∧ MapAt w' w.heap.size w'.heap.size m 0 0 (fun _ => 0))) ∧ Below w.heap.size w w' := by
  have hside := decide_eq_true hn
  obtain ⟨W, hW, b0, bW, -⟩ := boxed w 41 #[.int .i64 0, .slice none 0 0]
  have hc : cnt ≤ 1048576 := by have := ha.1; omega
  go_enter Try.func22, Try.ntmps22
  go_wp2_with fail
  refine (cyclic_any _ _ (by have := (side_by hn).1; omega)).mono ?_
  rintro e w1 ⟨rfl, rfl⟩
  rw [hside]
  go_wp2_with fail
  refine (implAtoms_any (hq.below bW) hc true (by simp [ha])).mono ?_
  rintro e w1 ⟨rfl, b1⟩
  replace b0 := b0.below b1
  replace bW := bW.trans (b1.mono bW.size)
  clear b1 hW hside
  go_wp2_with fail
  refine (blank_map n hn _).mono ?_
  rintro e w2 ⟨go, rfl, lg, M, b2⟩
  have l0 := Nat.lt_of_lt_of_le b0.lt lg
  replace b0 := b0.below b2
  replace bW := bW.trans (b2.mono bW.size)
  clear b2
  obtain ⟨V, hV, bo, bV, -⟩ := boxed w2 41 #[.int .i64 n, .slice (some ⟨go, 0, none⟩) (cube n) (cube n)]
  have lo := M.lt
  replace b0 := b0.below bV
  replace M := M.below bV
  replace bW := bW.trans (bV.mono bW.size)
  go_wp2_with fail
  obtain ⟨qo, hqo⟩ : ∃ q, w2.heap.size = q := ⟨_, rfl⟩
  rw [hqo] at bo lo ⊢
  clear hV bV hqo
  have Q : Quads V g cnt f := hq.below bW
  have lgw : g < w.heap.size := hq.1
  clear hq
  go_loopw [24] (fun s wr => ∃ k : Nat, k ≤ cnt ∧ s = .int .i64 k ∧ (∀ i, i < k → fits3 n f i) ∧ At 41 wr w.heap.size #[.int .i64 0, .slice none 0 0] ∧ At 41 wr qo #[.int .i64 n, .slice (some ⟨go, 0, none⟩) (cube n) (cube n)] ∧ Made wr go (cube n) (cube n) (pf n f k) ∧ Quads wr g cnt f ∧ Below w.heap.size w wr) (fun s _ => cnt - (intOf s).toNat)
  case atStart => exact ⟨0, Nat.zero_le _, rfl, fun i hi => absurd hi (by omega), b0, bo, M, Q, bW⟩
  case round =>
    clear b0 bo M Q bW
    obtain ⟨k, hk, rfl, hfit, b0, bo, M, Q, bW⟩ := hrel
    by_cases hlt : k < cnt
    · have hlt' : (k : Int) < (cnt : Int) := by omega
      obtain ⟨⟨X0, X1⟩, ⟨Y0, Y1⟩, ⟨Z0, Z1⟩, F0, F1⟩ := aOk_in (ha.2 k hlt)
      obtain ⟨g0, g1, g2, g3⟩ := Q.open k hlt
      have hnext : ∀ j, pf n f (k + 1) j = if (j : Int) = pl n (f (k * 4)) (f (k * 4 + 1)) (f (k * 4 + 2)) then (pf n f k j + f (k * 4 + 3)) % 12289 else pf n f k j := fun j => rfl
      have hf3 : fits3 n f k ↔ fit n (f (k * 4)) ∧ fit n (f (k * 4 + 1)) ∧ fit n (f (k * 4 + 2)) := Iff.rfl
      obtain ⟨x, ex⟩ : ∃ x, f (k * 4) = x := ⟨_, rfl⟩
      obtain ⟨y, ey⟩ : ∃ x, f (k * 4 + 1) = x := ⟨_, rfl⟩
      obtain ⟨z, ez⟩ : ∃ x, f (k * 4 + 2) = x := ⟨_, rfl⟩
      obtain ⟨F, eF⟩ : ∃ x, f (k * 4 + 3) = x := ⟨_, rfl⟩
      rw [ex] at X0 X1 g0 hnext hf3
      rw [ey] at Y0 Y1 g1 hnext hf3
      rw [ez] at Z0 Z1 g2 hnext hf3
      rw [eF] at F0 F1 g3 hnext
      clear ex ey ez eF
      obtain ⟨V1, hV1, ba, bb, -⟩ := boxed wr 81 #[.int .i64 x, .int .i64 y, .int .i64 z, .int .i64 F]
      have lgo := M.lt
      have lqo := bo.lt
      have lg := Q.1
      replace b0 := b0.below bb
      replace bo := bo.below bb
      replace M := M.below bb
      replace Q := Q.below bb
      replace bW := bW.trans (bb.mono bW.size)
      go_wp2_with fail
      obtain ⟨qa, hqa⟩ : ∃ q, wr.heap.size = q := ⟨_, rfl⟩
      rw [hqa] at ba lgo lqo lg ⊢
      clear hV1 bb hqa g0 g1 g2 g3
      by_cases hok : fits3 n f k
      · obtain ⟨fx, fy, fz⟩ := hf3.1 hok
        obtain ⟨-, -, rX, mX⟩ := fit_iff hn ⟨X0, X1⟩
        obtain ⟨-, -, rY, mY⟩ := fit_iff hn ⟨Y0, Y1⟩
        obtain ⟨-, -, rZ, mZ⟩ := fit_iff hn ⟨Z0, Z1⟩
        obtain ⟨p1, p2, p3⟩ := place_by hn rX rY rZ
        have hpl : pl n x y z = (z * n / 12 * n + y * n / 12) * n + x * n / 12 := rfl
        have PA := fun w => placeAt_yes n x y z (.slice (some ⟨go, 0, none⟩) (cube n) (cube n)) w hn ⟨X0, X1⟩ ⟨Y0, Y1⟩ ⟨Z0, Z1⟩ fx fy fz
        have NU := fun w => number_any n (x * n / 12) (y * n / 12) (z * n / 12) (.slice (some ⟨go, 0, none⟩) (cube n) (cube n)) w hn rX rY rZ
        generalize x * n / 12 = X at rX p3 hpl PA NU
        generalize y * n / 12 = Y at rY p2 p3 hpl PA NU
        generalize z * n / 12 = Z at rZ p1 p2 p3 hpl PA NU
        clear fx fy fz hf3 mX mY mZ
        go_cut [8, 9] from 28 to 35 (fun s8 s9 wc => ∃ gp, s8 = .pointer (some ⟨gp, 0, none⟩) ∧ s9 = .bool true ∧ At 66 wc gp #[.int .i64 X, .int .i64 Y, .int .i64 Z] ∧ V1.heap.size ≤ gp ∧ Kb V1 wc)
        case first =>
          have F9 : Kb V1 V1 := Below.refl _ _
          obtain ⟨u0, hu0, bb⟩ : ∃ u0, V1.drew = u0 ∧ Below V1.heap.size V1 u0 := ⟨_, rfl, (Below.refl _ _).drew⟩
          replace F9 := F9.below bb
          clear bb
          refine wp_region_held_drew (S := Sm6 qo qa #[.int .i64 n, .slice (some ⟨go, 0, none⟩) (cube n) (cube n)] #[.int .i64 x, .int .i64 y, .int .i64 z, .int .i64 F]) (by kernel_rfl) (by rw [hu0]; exact sm6_of (bo.below F9) (ba.below F9)) (fun hHeld => ?_)
          rw [hu0] at hHeld ⊢
          clear hu0
          change wpAnyH _ _ _ _ _ 10 #[false, false, false, false, false, false, false, false, false, false] _ _
          refine wpAnyH_take (i := 0) (v := mV n (.slice (some ⟨go, 0, none⟩) (cube n) (cube n))) rfl (by kernel_rfl) (by kernel_rfl) (by kernel_rfl) (fun _ _ _ h => h) (Or.inl ⟨by kernel_rfl, ?_⟩) hHeld ?_
          · intro w' hSw; obtain ⟨⟨z0, z1⟩, z2, z3, z4, z5⟩ := sm6_out hSw; go_simp
          try simp only [Act.put, List.setIfInBounds_toArray, List.set_cons_zero, List.set_cons_succ, List.getElem_toArray, List.getElem_cons_zero]
          refine wpAnyH_take (i := 1) (v := cV x y z F) rfl (by kernel_rfl) (by kernel_rfl) (by kernel_rfl) (fun _ _ _ h => h) (Or.inl ⟨by kernel_rfl, ?_⟩) hHeld ?_
          · intro w' hSw; obtain ⟨⟨z0, z1⟩, z2, z3, z4, z5⟩ := sm6_out hSw; go_simp
          try simp only [Act.put, List.setIfInBounds_toArray, List.set_cons_zero, List.set_cons_succ, List.getElem_toArray, List.getElem_cons_succ, List.getElem_cons_zero]
          refine wpAnyH_ready (rs := [2, 7]) (by kernel_rfl) (by simp) ?_
          refine AllReadyH.cons rfl (fun KK hK' => ?_) (AllReadyH.cons rfl (fun KK hK' => ?_) AllReadyH.nil)
          · go_simp
            refine (point_any x y z F _ ⟨X0, X1⟩ ⟨Y0, Y1⟩ ⟨Z0, Z1⟩).mono ?_
            rintro e u1 ⟨rfl, bb⟩
            replace F9 := F9.below bb
            clear bb
            try go_wp2_with fail
            clear hHeld
            refine hK'.out _ _ (sm6_of (bo.below F9) (ba.below F9)) (fun hHeld => ?_)
            clear hK' KK
            try simp only [List.setIfInBounds_toArray, List.set_cons_zero, List.set_cons_succ]
            refine wpAnyH_ready (rs := [3, 7]) (by kernel_rfl) (by simp) ?_
            refine AllReadyH.cons rfl (fun KK hK' => ?_) (AllReadyH.cons rfl (fun KK hK' => ?_) AllReadyH.nil)
            · go_simp
              refine (PA _).mono ?_
              rintro e u2 ⟨rfl, bb⟩
              replace F9 := F9.below bb
              clear bb
              try go_wp2_with fail
              clear hHeld
              refine hK'.out _ _ (sm6_of (bo.below F9) (ba.below F9)) (fun hHeld => ?_)
              clear hK' KK
              try simp only [List.setIfInBounds_toArray, List.set_cons_zero, List.set_cons_succ]
              refine wpAnyH_take (i := 4) (v := .tuple #[.agg #[.int .i64 X, .int .i64 Y, .int .i64 Z], .bool true]) rfl (by kernel_rfl) (by kernel_rfl) (by kernel_rfl) (fun _ _ _ h => h) (Or.inl ⟨by kernel_rfl, ?_⟩) hHeld ?_
              · intro w' hSw; go_simp
              try simp only [Act.put, List.setIfInBounds_toArray, List.set_cons_zero, List.set_cons_succ, List.getElem_toArray, List.getElem_cons_succ, List.getElem_cons_zero]
              refine wpAnyH_take (i := 5) (v := .agg #[.int .i64 X, .int .i64 Y, .int .i64 Z]) rfl (by kernel_rfl) (by kernel_rfl) (by kernel_rfl) (fun _ _ _ h => h) (Or.inl ⟨by kernel_rfl, ?_⟩) hHeld ?_
              · intro w' hSw; go_simp
              try simp only [Act.put, List.setIfInBounds_toArray, List.set_cons_zero, List.set_cons_succ, List.getElem_toArray, List.getElem_cons_succ, List.getElem_cons_zero]
              refine wpAnyH_take (i := 6) (v := .bool true) rfl (by kernel_rfl) (by kernel_rfl) (by kernel_rfl) (fun _ _ _ h => h) (Or.inl ⟨by kernel_rfl, ?_⟩) hHeld ?_
              · intro w' hSw; go_simp
              try simp only [Act.put, List.setIfInBounds_toArray, List.set_cons_zero, List.set_cons_succ, List.getElem_toArray, List.getElem_cons_succ, List.getElem_cons_zero]
              refine wpAnyH_ready (rs := [7]) (by kernel_rfl) (by simp) ?_
              refine AllReadyH.cons rfl (fun KK hK' => ?_) AllReadyH.nil
              go_simp
              obtain ⟨V2, hV, rb, bb, -⟩ := boxed u2 66 #[.int .i64 0, .int .i64 0, .int .i64 0]
              rw [hV]
              have hp := kb_lt F9
              obtain ⟨p, hpp⟩ : ∃ p, u2.heap.size = p := ⟨_, rfl⟩
              rw [hpp] at hp rb ⊢
              clear hV hpp
              replace F9 := F9.below bb
              clear bb
              clear hHeld
              refine hK'.out _ _ (sm6_of (bo.below F9) (ba.below F9)) (fun hHeld => ?_)
              clear hK' KK
              try simp only [List.setIfInBounds_toArray, List.set_cons_zero, List.set_cons_succ]
              refine wpAnyH_ready (rs := [8]) (by kernel_rfl) (by simp) ?_
              refine AllReadyH.cons rfl (fun KK hK' => ?_) AllReadyH.nil
              obtain ⟨y0, y1, y2, g0, g1, g2⟩ := rb.open3
              go_simp
              obtain ⟨u9, hu9, rb9, F8⟩ := kb_fill F9 hp rb (.int .i64 X) (.int .i64 Y) (.int .i64 Z)
              rw [hu9]
              clear hu9 rb y0 y1 y2 g0 g1 g2 F9
              have F9 := F8
              have rb := rb9
              clear F8 rb9
              clear hHeld
              refine hK'.out _ _ (sm6_of (bo.below F9) (ba.below F9)) (fun hHeld => ?_)
              clear hK' KK
              try simp only [List.setIfInBounds_toArray, List.set_cons_zero, List.set_cons_succ]
              refine wpAnyH_take (i := 9) (v := .bool true) rfl (by kernel_rfl) (by kernel_rfl) (by kernel_rfl) (fun _ _ _ h => h) (Or.inl ⟨by kernel_rfl, ?_⟩) hHeld ?_
              · intro w' hSw; go_simp
              try simp only [Act.put, List.setIfInBounds_toArray, List.set_cons_zero, List.set_cons_succ, List.getElem_toArray, List.getElem_cons_succ, List.getElem_cons_zero]
              refine wpAnyH_done (by kernel_rfl) ?_ _
              go_wp2_with fail
              go_meet
              case rel => exact ⟨p, rfl, rfl, rb, hp, F9⟩
            · go_simp
              obtain ⟨V1, hV, rb, bb, -⟩ := boxed u1 66 #[.int .i64 0, .int .i64 0, .int .i64 0]
              rw [hV]
              have hp := kb_lt F9
              obtain ⟨p, hpp⟩ : ∃ p, u1.heap.size = p := ⟨_, rfl⟩
              rw [hpp] at hp rb ⊢
              clear hV hpp
              replace F9 := F9.below bb
              clear bb
              clear hHeld
              refine hK'.out _ _ (sm6_of (bo.below F9) (ba.below F9)) (fun hHeld => ?_)
              clear hK' KK
              try simp only [List.setIfInBounds_toArray, List.set_cons_zero, List.set_cons_succ]
              refine wpAnyH_ready (rs := [3]) (by kernel_rfl) (by simp) ?_
              refine AllReadyH.cons rfl (fun KK hK' => ?_) AllReadyH.nil
              go_simp
              refine (PA _).mono ?_
              rintro e u2 ⟨rfl, bb⟩
              replace F9 := F9.below bb
              replace rb := rb.below bb
              clear bb
              try go_wp2_with fail
              clear hHeld
              refine hK'.out _ _ (sm6_of (bo.below F9) (ba.below F9)) (fun hHeld => ?_)
              clear hK' KK
              try simp only [List.setIfInBounds_toArray, List.set_cons_zero, List.set_cons_succ]
              refine wpAnyH_take (i := 4) (v := .tuple #[.agg #[.int .i64 X, .int .i64 Y, .int .i64 Z], .bool true]) rfl (by kernel_rfl) (by kernel_rfl) (by kernel_rfl) (fun _ _ _ h => h) (Or.inl ⟨by kernel_rfl, ?_⟩) hHeld ?_
              · intro w' hSw; go_simp
              try simp only [Act.put, List.setIfInBounds_toArray, List.set_cons_zero, List.set_cons_succ, List.getElem_toArray, List.getElem_cons_succ, List.getElem_cons_zero]
              refine wpAnyH_take (i := 5) (v := .agg #[.int .i64 X, .int .i64 Y, .int .i64 Z]) rfl (by kernel_rfl) (by kernel_rfl) (by kernel_rfl) (fun _ _ _ h => h) (Or.inl ⟨by kernel_rfl, ?_⟩) hHeld ?_
              · intro w' hSw; go_simp
              try simp only [Act.put, List.setIfInBounds_toArray, List.set_cons_zero, List.set_cons_succ, List.getElem_toArray, List.getElem_cons_succ, List.getElem_cons_zero]
              refine wpAnyH_take (i := 6) (v := .bool true) rfl (by kernel_rfl) (by kernel_rfl) (by kernel_rfl) (fun _ _ _ h => h) (Or.inl ⟨by kernel_rfl, ?_⟩) hHeld ?_
              · intro w' hSw; go_simp
              try simp only [Act.put, List.setIfInBounds_toArray, List.set_cons_zero, List.set_cons_succ, List.getElem_toArray, List.getElem_cons_succ, List.getElem_cons_zero]
              refine wpAnyH_ready (rs := [8]) (by kernel_rfl) (by simp) ?_
              refine AllReadyH.cons rfl (fun KK hK' => ?_) AllReadyH.nil
              obtain ⟨y0, y1, y2, g0, g1, g2⟩ := rb.open3
              go_simp
              obtain ⟨u9, hu9, rb9, F8⟩ := kb_fill F9 hp rb (.int .i64 X) (.int .i64 Y) (.int .i64 Z)
              rw [hu9]
              clear hu9 rb y0 y1 y2 g0 g1 g2 F9
              have F9 := F8
              have rb := rb9
              clear F8 rb9
              clear hHeld
              refine hK'.out _ _ (sm6_of (bo.below F9) (ba.below F9)) (fun hHeld => ?_)
              clear hK' KK
              try simp only [List.setIfInBounds_toArray, List.set_cons_zero, List.set_cons_succ]
              refine wpAnyH_take (i := 9) (v := .bool true) rfl (by kernel_rfl) (by kernel_rfl) (by kernel_rfl) (fun _ _ _ h => h) (Or.inl ⟨by kernel_rfl, ?_⟩) hHeld ?_
              · intro w' hSw; go_simp
              try simp only [Act.put, List.setIfInBounds_toArray, List.set_cons_zero, List.set_cons_succ, List.getElem_toArray, List.getElem_cons_succ, List.getElem_cons_zero]
              refine wpAnyH_done (by kernel_rfl) ?_ _
              go_wp2_with fail
              go_meet
              case rel => exact ⟨p, rfl, rfl, rb, hp, F9⟩
          · go_simp
            obtain ⟨V0, hV, rb, bb, -⟩ := boxed u0 66 #[.int .i64 0, .int .i64 0, .int .i64 0]
            rw [hV]
            have hp := kb_lt F9
            obtain ⟨p, hpp⟩ : ∃ p, u0.heap.size = p := ⟨_, rfl⟩
            rw [hpp] at hp rb ⊢
            clear hV hpp
            replace F9 := F9.below bb
            clear bb
            clear hHeld
            refine hK'.out _ _ (sm6_of (bo.below F9) (ba.below F9)) (fun hHeld => ?_)
            clear hK' KK
            try simp only [List.setIfInBounds_toArray, List.set_cons_zero, List.set_cons_succ]
            refine wpAnyH_ready (rs := [2]) (by kernel_rfl) (by simp) ?_
            refine AllReadyH.cons rfl (fun KK hK' => ?_) AllReadyH.nil
            go_simp
            refine (point_any x y z F _ ⟨X0, X1⟩ ⟨Y0, Y1⟩ ⟨Z0, Z1⟩).mono ?_
            rintro e u1 ⟨rfl, bb⟩
            replace F9 := F9.below bb
            replace rb := rb.below bb
            clear bb
            try go_wp2_with fail
            clear hHeld
            refine hK'.out _ _ (sm6_of (bo.below F9) (ba.below F9)) (fun hHeld => ?_)
            clear hK' KK
            try simp only [List.setIfInBounds_toArray, List.set_cons_zero, List.set_cons_succ]
            refine wpAnyH_ready (rs := [3]) (by kernel_rfl) (by simp) ?_
            refine AllReadyH.cons rfl (fun KK hK' => ?_) AllReadyH.nil
            go_simp
            refine (PA _).mono ?_
            rintro e u2 ⟨rfl, bb⟩
            replace F9 := F9.below bb
            replace rb := rb.below bb
            clear bb
            try go_wp2_with fail
            clear hHeld
            refine hK'.out _ _ (sm6_of (bo.below F9) (ba.below F9)) (fun hHeld => ?_)
            clear hK' KK
            try simp only [List.setIfInBounds_toArray, List.set_cons_zero, List.set_cons_succ]
            refine wpAnyH_take (i := 4) (v := .tuple #[.agg #[.int .i64 X, .int .i64 Y, .int .i64 Z], .bool true]) rfl (by kernel_rfl) (by kernel_rfl) (by kernel_rfl) (fun _ _ _ h => h) (Or.inl ⟨by kernel_rfl, ?_⟩) hHeld ?_
            · intro w' hSw; go_simp
            try simp only [Act.put, List.setIfInBounds_toArray, List.set_cons_zero, List.set_cons_succ, List.getElem_toArray, List.getElem_cons_succ, List.getElem_cons_zero]
            refine wpAnyH_take (i := 5) (v := .agg #[.int .i64 X, .int .i64 Y, .int .i64 Z]) rfl (by kernel_rfl) (by kernel_rfl) (by kernel_rfl) (fun _ _ _ h => h) (Or.inl ⟨by kernel_rfl, ?_⟩) hHeld ?_
            · intro w' hSw; go_simp
            try simp only [Act.put, List.setIfInBounds_toArray, List.set_cons_zero, List.set_cons_succ, List.getElem_toArray, List.getElem_cons_succ, List.getElem_cons_zero]
            refine wpAnyH_take (i := 6) (v := .bool true) rfl (by kernel_rfl) (by kernel_rfl) (by kernel_rfl) (fun _ _ _ h => h) (Or.inl ⟨by kernel_rfl, ?_⟩) hHeld ?_
            · intro w' hSw; go_simp
            try simp only [Act.put, List.setIfInBounds_toArray, List.set_cons_zero, List.set_cons_succ, List.getElem_toArray, List.getElem_cons_succ, List.getElem_cons_zero]
            refine wpAnyH_ready (rs := [8]) (by kernel_rfl) (by simp) ?_
            refine AllReadyH.cons rfl (fun KK hK' => ?_) AllReadyH.nil
            obtain ⟨y0, y1, y2, g0, g1, g2⟩ := rb.open3
            go_simp
            obtain ⟨u9, hu9, rb9, F8⟩ := kb_fill F9 hp rb (.int .i64 X) (.int .i64 Y) (.int .i64 Z)
            rw [hu9]
            clear hu9 rb y0 y1 y2 g0 g1 g2 F9
            have F9 := F8
            have rb := rb9
            clear F8 rb9
            clear hHeld
            refine hK'.out _ _ (sm6_of (bo.below F9) (ba.below F9)) (fun hHeld => ?_)
            clear hK' KK
            try simp only [List.setIfInBounds_toArray, List.set_cons_zero, List.set_cons_succ]
            refine wpAnyH_take (i := 9) (v := .bool true) rfl (by kernel_rfl) (by kernel_rfl) (by kernel_rfl) (fun _ _ _ h => h) (Or.inl ⟨by kernel_rfl, ?_⟩) hHeld ?_
            · intro w' hSw; go_simp
            try simp only [Act.put, List.setIfInBounds_toArray, List.set_cons_zero, List.set_cons_succ, List.getElem_toArray, List.getElem_cons_succ, List.getElem_cons_zero]
            refine wpAnyH_done (by kernel_rfl) ?_ _
            go_wp2_with fail
            go_meet
            case rel => exact ⟨p, rfl, rfl, rb, hp, F9⟩
        case rest =>
          obtain ⟨gp, rfl, rfl, bp, lp, F9⟩ := hcut
          have lp2 : qa < gp := Nat.lt_of_lt_of_le ba.lt lp
          replace b0 := b0.below F9
          replace bo := bo.below F9
          replace M := M.below F9
          replace Q := Q.below F9
          replace ba := ba.below F9
          replace bW := bW.trans (F9.mono bW.size)
          obtain ⟨e0, e1, -⟩ := bo.open2
          obtain ⟨d0, d1, d2, -⟩ := bp.open3
          clear F9
          go_wp2_with fail
          refine (NU _).mono ?_
          rintro e w5 ⟨rfl, b5⟩
          replace b0 := b0.below b5
          replace bo := bo.below b5
          replace M := M.below b5
          replace Q := Q.below b5
          replace ba := ba.below b5
          replace bW := bW.trans (b5.mono bW.size)
          clear b5 e0 e1 d0 d1 d2 PA NU bp
          obtain ⟨j, hj⟩ : ∃ j : Nat, (Z * n + Y) * n + X = (j : Int) := ⟨((Z * n + Y) * n + X).toNat, by omega⟩
          obtain ⟨c1, c2, c3⟩ := cube_is hn
          rw [hj] at p3 hpl ⊢
          have hj' : j < cube n := by omega
          clear hj p1 p2
          obtain ⟨P, hP⟩ : ∃ P, pf n f k j = P := ⟨_, rfl⟩
          have P0 := pf_by n f k j
          rw [hP] at P0
          have wP : IntKind.i64.wrap (P + F) = P + F := by rw [IntKind.wrap_i64]; omega
          go_wp2_with fail
          obtain ⟨u0, hu0, bb⟩ : ∃ u0, w5.drew = u0 ∧ Below w5.heap.size w5 u0 := ⟨_, rfl, (Below.refl _ _).drew⟩
          replace b0 := b0.below bb
          replace bo := bo.below bb
          replace M := M.below bb
          replace Q := Q.below bb
          replace ba := ba.below bb
          replace bW := bW.trans (bb.mono bW.size)
          clear bb
          refine wp_region_held_drew (S := Sg qo qa (.slice (some ⟨go, 0, none⟩) (cube n) (cube n)) F) (by kernel_rfl) (by rw [hu0]; exact sg_of bo ba) (fun hHeld => ?_)
          rw [hu0] at hHeld ⊢
          clear hu0
          change wpAnyH _ _ _ _ _ 14 #[false, false, false, false, false, false, false, false, false, false, false, false, false, false] _ _
          refine wpAnyH_take (i := 0) (v := .pointer (some ⟨qo, 1, none⟩)) rfl (by kernel_rfl) (by kernel_rfl) (by kernel_rfl) (fun _ _ _ h => h) (Or.inl ⟨by kernel_rfl, ?_⟩) hHeld ?_
          · intro w' hSw; go_simp
          try simp only [Act.put, List.setIfInBounds_toArray, List.set_cons_zero, List.set_cons_succ, List.getElem_toArray, List.getElem_cons_zero]
          refine wpAnyH_take (i := 1) (v := .slice (some ⟨go, 0, none⟩) (cube n) (cube n)) rfl (by kernel_rfl) (by kernel_rfl) (by kernel_rfl) (fun _ _ _ h => h) (Or.inl ⟨by kernel_rfl, ?_⟩) hHeld ?_
          · intro w' hSw; obtain ⟨z0, z1⟩ := hSw; go_simp
          try simp only [Act.put, List.setIfInBounds_toArray, List.set_cons_zero, List.set_cons_succ, List.getElem_toArray, List.getElem_cons_succ, List.getElem_cons_zero]
          refine wpAnyH_take (i := 2) (v := .int .i64 (j : Int)) rfl (by kernel_rfl) (by kernel_rfl) (by kernel_rfl) (fun _ _ _ h => h) (Or.inl ⟨by kernel_rfl, ?_⟩) hHeld ?_
          · intro w' hSw; go_simp
          try simp only [Act.put, List.setIfInBounds_toArray, List.set_cons_zero, List.set_cons_succ, List.getElem_toArray, List.getElem_cons_succ, List.getElem_cons_zero]
          refine wpAnyH_take (i := 3) (v := .pointer (some ⟨qo, 1, none⟩)) rfl (by kernel_rfl) (by kernel_rfl) (by kernel_rfl) (fun _ _ _ h => h) (Or.inl ⟨by kernel_rfl, ?_⟩) hHeld ?_
          · intro w' hSw; go_simp
          try simp only [Act.put, List.setIfInBounds_toArray, List.set_cons_zero, List.set_cons_succ, List.getElem_toArray, List.getElem_cons_succ, List.getElem_cons_zero]
          refine wpAnyH_take (i := 4) (v := .slice (some ⟨go, 0, none⟩) (cube n) (cube n)) rfl (by kernel_rfl) (by kernel_rfl) (by kernel_rfl) (fun _ _ _ h => h) (Or.inl ⟨by kernel_rfl, ?_⟩) hHeld ?_
          · intro w' hSw; obtain ⟨z0, z1⟩ := hSw; go_simp
          try simp only [Act.put, List.setIfInBounds_toArray, List.set_cons_zero, List.set_cons_succ, List.getElem_toArray, List.getElem_cons_succ, List.getElem_cons_zero]
          refine wpAnyH_take (i := 5) (v := .int .i64 (j : Int)) rfl (by kernel_rfl) (by kernel_rfl) (by kernel_rfl) (fun _ _ _ h => h) (Or.inl ⟨by kernel_rfl, ?_⟩) hHeld ?_
          · intro w' hSw; go_simp
          try simp only [Act.put, List.setIfInBounds_toArray, List.set_cons_zero, List.set_cons_succ, List.getElem_toArray, List.getElem_cons_succ, List.getElem_cons_zero]
          refine wpAnyH_take (i := 6) (v := .pointer (some ⟨go, j, none⟩)) rfl (by kernel_rfl) (by kernel_rfl) (by kernel_rfl) (fun _ _ _ h => h) (Or.inl ⟨by kernel_rfl, ?_⟩) hHeld ?_
          · intro w' hSw; go_simp
          try simp only [Act.put, List.setIfInBounds_toArray, List.set_cons_zero, List.set_cons_succ, List.getElem_toArray, List.getElem_cons_succ, List.getElem_cons_zero]
          refine wpAnyH_take (i := 8) (v := .pointer (some ⟨qa, 3, none⟩)) rfl (by kernel_rfl) (by kernel_rfl) (by kernel_rfl) (fun _ _ _ h => h) (Or.inl ⟨by kernel_rfl, ?_⟩) hHeld ?_
          · intro w' hSw; go_simp
          try simp only [Act.put, List.setIfInBounds_toArray, List.set_cons_zero, List.set_cons_succ, List.getElem_toArray, List.getElem_cons_succ, List.getElem_cons_zero]
          refine wpAnyH_take (i := 9) (v := .int .i64 F) rfl (by kernel_rfl) (by kernel_rfl) (by kernel_rfl) (fun _ _ _ h => h) (Or.inl ⟨by kernel_rfl, ?_⟩) hHeld ?_
          · intro w' hSw; obtain ⟨z0, z1⟩ := hSw; go_simp
          try simp only [Act.put, List.setIfInBounds_toArray, List.set_cons_zero, List.set_cons_succ, List.getElem_toArray, List.getElem_cons_succ, List.getElem_cons_zero]
          have cj := M.at_ j hj'
          rw [hP] at cj
          refine wpAnyH_ready (rs := [7]) (by kernel_rfl) (by simp) ?_
          refine AllReadyH.cons rfl (fun KK hK' => ?_) AllReadyH.nil
          go_simp
          clear cj
          clear hHeld
          refine hK'.out _ _ (sg_of bo ba) (fun hHeld => ?_)
          clear hK' KK
          try simp only [List.setIfInBounds_toArray, List.set_cons_zero, List.set_cons_succ]
          refine wpAnyH_take (i := 10) (v := .int .i64 (P + F)) rfl (by kernel_rfl) (by kernel_rfl) (by kernel_rfl) (fun _ _ _ h => h) (Or.inl ⟨by kernel_rfl, ?_⟩) hHeld ?_
          · intro w' hSw; go_simp
          try simp only [Act.put, List.setIfInBounds_toArray, List.set_cons_zero, List.set_cons_succ, List.getElem_toArray, List.getElem_cons_succ, List.getElem_cons_zero]
          refine wpAnyH_ready (rs := [11]) (by kernel_rfl) (by simp) ?_
          refine AllReadyH.cons rfl (fun KK hK' => ?_) AllReadyH.nil
          go_simp
          refine (modulo_any (P + F) 12289 _ ⟨by omega, by omega⟩ (by omega)).mono ?_
          rintro e u1 ⟨rfl, rfl⟩
          try go_wp2_with fail
          clear hHeld
          refine hK'.out _ _ (sg_of bo ba) (fun hHeld => ?_)
          clear hK' KK
          try simp only [List.setIfInBounds_toArray, List.set_cons_zero, List.set_cons_succ]
          refine wpAnyH_take (i := 12) (v := .pointer (some ⟨go, j, none⟩)) rfl (by kernel_rfl) (by kernel_rfl) (by kernel_rfl) (fun _ _ _ h => h) (Or.inl ⟨by kernel_rfl, ?_⟩) hHeld ?_
          · intro w' hSw; go_simp
          try simp only [Act.put, List.setIfInBounds_toArray, List.set_cons_zero, List.set_cons_succ, List.getElem_toArray, List.getElem_cons_succ, List.getElem_cons_zero]
          have cj := M.at_ j hj'
          rw [hP] at cj
          have fj := M.fr_ j
          refine wpAnyH_ready (rs := [13]) (by kernel_rfl) (by simp) ?_
          refine AllReadyH.cons rfl (fun KK hK' => ?_) AllReadyH.nil
          go_simp
          obtain ⟨u2, hu2, b02, bo2, M2, Q2, ba2, bW2⟩ : ∃ u2, u0.setCell ⟨go, j, none⟩ (.int .i64 ((P + F) % 12289)) = u2 ∧ At 41 u2 w.heap.size #[.int .i64 0, .slice none 0 0] ∧ At 41 u2 qo #[.int .i64 n, .slice (some ⟨go, 0, none⟩) (cube n) (cube n)] ∧ Made u2 go (cube n) (cube n) (fun i => if i = j then (P + F) % 12289 else pf n f k i) ∧ Quads u2 g cnt f ∧ At 81 u2 qa #[.int .i64 x, .int .i64 y, .int .i64 z, .int .i64 F] ∧ Below w.heap.size w u2 := ⟨_, rfl, b0.setOther (by omega) _, bo.setOther (by omega) _, M.upd j _, Q.set (by omega) _, ba.setOther (by omega) _, bW.setCell (show w.heap.size ≤ go by omega) _⟩
          rw [hu2]
          clear hu2 cj fj b0 bo M Q ba bW
          clear hHeld
          refine hK'.out _ _ (sg_of bo2 ba2) (fun hHeld => ?_)
          clear hK' KK
          try simp only [List.setIfInBounds_toArray, List.set_cons_zero, List.set_cons_succ]
          refine wpAnyH_done (by kernel_rfl) ?_ _
          clear hHeld
          go_wp2
          go_roundw
          case rel =>
            refine ⟨k + 1, by omega, by go_num, ?_, b02, bo2, M2.congr ?_, Q2, bW2⟩
            · intro i hi
              by_cases e : i = k
              · rw [e]; exact hok
              · exact hfit i (by omega)
            · intro i hi
              rw [hnext i, hpl]
              by_cases e : i = j
              · subst e; rw [if_pos rfl, if_pos rfl, hP]
              · rw [if_neg e, if_neg (by omega)]
          case measure => simp [intOf]; omega
      · have hno : ¬ ∀ i, i < cnt → fits3 n f i := fun h => hok (h k hlt)
        have PA := fun w => placeAt_no n x y z (.slice (some ⟨go, 0, none⟩) (cube n) (cube n)) w hn ⟨X0, X1⟩ ⟨Y0, Y1⟩ ⟨Z0, Z1⟩ (fun h => hok (hf3.2 h))
        clear hf3
        go_cut [8, 9] from 28 to 35 (fun s8 s9 wc => ∃ gp, s8 = .pointer (some ⟨gp, 0, none⟩) ∧ s9 = .bool false ∧ At 66 wc gp #[.int .i64 0, .int .i64 0, .int .i64 0] ∧ V1.heap.size ≤ gp ∧ Kb V1 wc)
        case first =>
          have F9 : Kb V1 V1 := Below.refl _ _
          obtain ⟨u0, hu0, bb⟩ : ∃ u0, V1.drew = u0 ∧ Below V1.heap.size V1 u0 := ⟨_, rfl, (Below.refl _ _).drew⟩
          replace F9 := F9.below bb
          clear bb
          refine wp_region_held_drew (S := Sm6 qo qa #[.int .i64 n, .slice (some ⟨go, 0, none⟩) (cube n) (cube n)] #[.int .i64 x, .int .i64 y, .int .i64 z, .int .i64 F]) (by kernel_rfl) (by rw [hu0]; exact sm6_of (bo.below F9) (ba.below F9)) (fun hHeld => ?_)
          rw [hu0] at hHeld ⊢
          clear hu0
          change wpAnyH _ _ _ _ _ 10 #[false, false, false, false, false, false, false, false, false, false] _ _
          refine wpAnyH_take (i := 0) (v := mV n (.slice (some ⟨go, 0, none⟩) (cube n) (cube n))) rfl (by kernel_rfl) (by kernel_rfl) (by kernel_rfl) (fun _ _ _ h => h) (Or.inl ⟨by kernel_rfl, ?_⟩) hHeld ?_
          · intro w' hSw; obtain ⟨⟨z0, z1⟩, z2, z3, z4, z5⟩ := sm6_out hSw; go_simp
          try simp only [Act.put, List.setIfInBounds_toArray, List.set_cons_zero, List.set_cons_succ, List.getElem_toArray, List.getElem_cons_zero]
          refine wpAnyH_take (i := 1) (v := cV x y z F) rfl (by kernel_rfl) (by kernel_rfl) (by kernel_rfl) (fun _ _ _ h => h) (Or.inl ⟨by kernel_rfl, ?_⟩) hHeld ?_
          · intro w' hSw; obtain ⟨⟨z0, z1⟩, z2, z3, z4, z5⟩ := sm6_out hSw; go_simp
          try simp only [Act.put, List.setIfInBounds_toArray, List.set_cons_zero, List.set_cons_succ, List.getElem_toArray, List.getElem_cons_succ, List.getElem_cons_zero]
          refine wpAnyH_ready (rs := [2, 7]) (by kernel_rfl) (by simp) ?_
          refine AllReadyH.cons rfl (fun KK hK' => ?_) (AllReadyH.cons rfl (fun KK hK' => ?_) AllReadyH.nil)
          · go_simp
            refine (point_any x y z F _ ⟨X0, X1⟩ ⟨Y0, Y1⟩ ⟨Z0, Z1⟩).mono ?_
            rintro e u1 ⟨rfl, bb⟩
            replace F9 := F9.below bb
            clear bb
            try go_wp2_with fail
            clear hHeld
            refine hK'.out _ _ (sm6_of (bo.below F9) (ba.below F9)) (fun hHeld => ?_)
            clear hK' KK
            try simp only [List.setIfInBounds_toArray, List.set_cons_zero, List.set_cons_succ]
            refine wpAnyH_ready (rs := [3, 7]) (by kernel_rfl) (by simp) ?_
            refine AllReadyH.cons rfl (fun KK hK' => ?_) (AllReadyH.cons rfl (fun KK hK' => ?_) AllReadyH.nil)
            · go_simp
              refine (PA _).mono ?_
              rintro e u2 ⟨rfl, bb⟩
              replace F9 := F9.below bb
              clear bb
              try go_wp2_with fail
              clear hHeld
              refine hK'.out _ _ (sm6_of (bo.below F9) (ba.below F9)) (fun hHeld => ?_)
              clear hK' KK
              try simp only [List.setIfInBounds_toArray, List.set_cons_zero, List.set_cons_succ]
              refine wpAnyH_take (i := 4) (v := .tuple #[.agg #[.int .i64 0, .int .i64 0, .int .i64 0], .bool false]) rfl (by kernel_rfl) (by kernel_rfl) (by kernel_rfl) (fun _ _ _ h => h) (Or.inl ⟨by kernel_rfl, ?_⟩) hHeld ?_
              · intro w' hSw; go_simp
              try simp only [Act.put, List.setIfInBounds_toArray, List.set_cons_zero, List.set_cons_succ, List.getElem_toArray, List.getElem_cons_succ, List.getElem_cons_zero]
              refine wpAnyH_take (i := 5) (v := .agg #[.int .i64 0, .int .i64 0, .int .i64 0]) rfl (by kernel_rfl) (by kernel_rfl) (by kernel_rfl) (fun _ _ _ h => h) (Or.inl ⟨by kernel_rfl, ?_⟩) hHeld ?_
              · intro w' hSw; go_simp
              try simp only [Act.put, List.setIfInBounds_toArray, List.set_cons_zero, List.set_cons_succ, List.getElem_toArray, List.getElem_cons_succ, List.getElem_cons_zero]
              refine wpAnyH_take (i := 6) (v := .bool false) rfl (by kernel_rfl) (by kernel_rfl) (by kernel_rfl) (fun _ _ _ h => h) (Or.inl ⟨by kernel_rfl, ?_⟩) hHeld ?_
              · intro w' hSw; go_simp
              try simp only [Act.put, List.setIfInBounds_toArray, List.set_cons_zero, List.set_cons_succ, List.getElem_toArray, List.getElem_cons_succ, List.getElem_cons_zero]
              refine wpAnyH_ready (rs := [7]) (by kernel_rfl) (by simp) ?_
              refine AllReadyH.cons rfl (fun KK hK' => ?_) AllReadyH.nil
              go_simp
              obtain ⟨V2, hV, rb, bb, -⟩ := boxed u2 66 #[.int .i64 0, .int .i64 0, .int .i64 0]
              rw [hV]
              have hp := kb_lt F9
              obtain ⟨p, hpp⟩ : ∃ p, u2.heap.size = p := ⟨_, rfl⟩
              rw [hpp] at hp rb ⊢
              clear hV hpp
              replace F9 := F9.below bb
              clear bb
              clear hHeld
              refine hK'.out _ _ (sm6_of (bo.below F9) (ba.below F9)) (fun hHeld => ?_)
              clear hK' KK
              try simp only [List.setIfInBounds_toArray, List.set_cons_zero, List.set_cons_succ]
              refine wpAnyH_ready (rs := [8]) (by kernel_rfl) (by simp) ?_
              refine AllReadyH.cons rfl (fun KK hK' => ?_) AllReadyH.nil
              obtain ⟨y0, y1, y2, g0, g1, g2⟩ := rb.open3
              go_simp
              obtain ⟨u9, hu9, rb9, F8⟩ := kb_fill F9 hp rb (.int .i64 0) (.int .i64 0) (.int .i64 0)
              rw [hu9]
              clear hu9 rb y0 y1 y2 g0 g1 g2 F9
              have F9 := F8
              have rb := rb9
              clear F8 rb9
              clear hHeld
              refine hK'.out _ _ (sm6_of (bo.below F9) (ba.below F9)) (fun hHeld => ?_)
              clear hK' KK
              try simp only [List.setIfInBounds_toArray, List.set_cons_zero, List.set_cons_succ]
              refine wpAnyH_take (i := 9) (v := .bool false) rfl (by kernel_rfl) (by kernel_rfl) (by kernel_rfl) (fun _ _ _ h => h) (Or.inl ⟨by kernel_rfl, ?_⟩) hHeld ?_
              · intro w' hSw; go_simp
              try simp only [Act.put, List.setIfInBounds_toArray, List.set_cons_zero, List.set_cons_succ, List.getElem_toArray, List.getElem_cons_succ, List.getElem_cons_zero]
              refine wpAnyH_done (by kernel_rfl) ?_ _
              go_wp2_with fail
              go_meet
              case rel => exact ⟨p, rfl, rfl, rb, hp, F9⟩
            · go_simp
              obtain ⟨V1, hV, rb, bb, -⟩ := boxed u1 66 #[.int .i64 0, .int .i64 0, .int .i64 0]
              rw [hV]
              have hp := kb_lt F9
              obtain ⟨p, hpp⟩ : ∃ p, u1.heap.size = p := ⟨_, rfl⟩
              rw [hpp] at hp rb ⊢
              clear hV hpp
              replace F9 := F9.below bb
              clear bb
              clear hHeld
              refine hK'.out _ _ (sm6_of (bo.below F9) (ba.below F9)) (fun hHeld => ?_)
              clear hK' KK
              try simp only [List.setIfInBounds_toArray, List.set_cons_zero, List.set_cons_succ]
              refine wpAnyH_ready (rs := [3]) (by kernel_rfl) (by simp) ?_
              refine AllReadyH.cons rfl (fun KK hK' => ?_) AllReadyH.nil
              go_simp
              refine (PA _).mono ?_
              rintro e u2 ⟨rfl, bb⟩
              replace F9 := F9.below bb
              replace rb := rb.below bb
              clear bb
              try go_wp2_with fail
              clear hHeld
              refine hK'.out _ _ (sm6_of (bo.below F9) (ba.below F9)) (fun hHeld => ?_)
              clear hK' KK
              try simp only [List.setIfInBounds_toArray, List.set_cons_zero, List.set_cons_succ]
              refine wpAnyH_take (i := 4) (v := .tuple #[.agg #[.int .i64 0, .int .i64 0, .int .i64 0], .bool false]) rfl (by kernel_rfl) (by kernel_rfl) (by kernel_rfl) (fun _ _ _ h => h) (Or.inl ⟨by kernel_rfl, ?_⟩) hHeld ?_
              · intro w' hSw; go_simp
              try simp only [Act.put, List.setIfInBounds_toArray, List.set_cons_zero, List.set_cons_succ, List.getElem_toArray, List.getElem_cons_succ, List.getElem_cons_zero]
              refine wpAnyH_take (i := 5) (v := .agg #[.int .i64 0, .int .i64 0, .int .i64 0]) rfl (by kernel_rfl) (by kernel_rfl) (by kernel_rfl) (fun _ _ _ h => h) (Or.inl ⟨by kernel_rfl, ?_⟩) hHeld ?_
              · intro w' hSw; go_simp
              try simp only [Act.put, List.setIfInBounds_toArray, List.set_cons_zero, List.set_cons_succ, List.getElem_toArray, List.getElem_cons_succ, List.getElem_cons_zero]
              refine wpAnyH_take (i := 6) (v := .bool false) rfl (by kernel_rfl) (by kernel_rfl) (by kernel_rfl) (fun _ _ _ h => h) (Or.inl ⟨by kernel_rfl, ?_⟩) hHeld ?_
              · intro w' hSw; go_simp
              try simp only [Act.put, List.setIfInBounds_toArray, List.set_cons_zero, List.set_cons_succ, List.getElem_toArray, List.getElem_cons_succ, List.getElem_cons_zero]
              refine wpAnyH_ready (rs := [8]) (by kernel_rfl) (by simp) ?_
              refine AllReadyH.cons rfl (fun KK hK' => ?_) AllReadyH.nil
              obtain ⟨y0, y1, y2, g0, g1, g2⟩ := rb.open3
              go_simp
              obtain ⟨u9, hu9, rb9, F8⟩ := kb_fill F9 hp rb (.int .i64 0) (.int .i64 0) (.int .i64 0)
              rw [hu9]
              clear hu9 rb y0 y1 y2 g0 g1 g2 F9
              have F9 := F8
              have rb := rb9
              clear F8 rb9
              clear hHeld
              refine hK'.out _ _ (sm6_of (bo.below F9) (ba.below F9)) (fun hHeld => ?_)
              clear hK' KK
              try simp only [List.setIfInBounds_toArray, List.set_cons_zero, List.set_cons_succ]
              refine wpAnyH_take (i := 9) (v := .bool false) rfl (by kernel_rfl) (by kernel_rfl) (by kernel_rfl) (fun _ _ _ h => h) (Or.inl ⟨by kernel_rfl, ?_⟩) hHeld ?_
              · intro w' hSw; go_simp
              try simp only [Act.put, List.setIfInBounds_toArray, List.set_cons_zero, List.set_cons_succ, List.getElem_toArray, List.getElem_cons_succ, List.getElem_cons_zero]
              refine wpAnyH_done (by kernel_rfl) ?_ _
              go_wp2_with fail
              go_meet
              case rel => exact ⟨p, rfl, rfl, rb, hp, F9⟩
          · go_simp
            obtain ⟨V0, hV, rb, bb, -⟩ := boxed u0 66 #[.int .i64 0, .int .i64 0, .int .i64 0]
            rw [hV]
            have hp := kb_lt F9
            obtain ⟨p, hpp⟩ : ∃ p, u0.heap.size = p := ⟨_, rfl⟩
            rw [hpp] at hp rb ⊢
            clear hV hpp
            replace F9 := F9.below bb
            clear bb
            clear hHeld
            refine hK'.out _ _ (sm6_of (bo.below F9) (ba.below F9)) (fun hHeld => ?_)
            clear hK' KK
            try simp only [List.setIfInBounds_toArray, List.set_cons_zero, List.set_cons_succ]
            refine wpAnyH_ready (rs := [2]) (by kernel_rfl) (by simp) ?_
            refine AllReadyH.cons rfl (fun KK hK' => ?_) AllReadyH.nil
            go_simp
            refine (point_any x y z F _ ⟨X0, X1⟩ ⟨Y0, Y1⟩ ⟨Z0, Z1⟩).mono ?_
            rintro e u1 ⟨rfl, bb⟩
            replace F9 := F9.below bb
            replace rb := rb.below bb
            clear bb
            try go_wp2_with fail
            clear hHeld
            refine hK'.out _ _ (sm6_of (bo.below F9) (ba.below F9)) (fun hHeld => ?_)
            clear hK' KK
            try simp only [List.setIfInBounds_toArray, List.set_cons_zero, List.set_cons_succ]
            refine wpAnyH_ready (rs := [3]) (by kernel_rfl) (by simp) ?_
            refine AllReadyH.cons rfl (fun KK hK' => ?_) AllReadyH.nil
            go_simp
            refine (PA _).mono ?_
            rintro e u2 ⟨rfl, bb⟩
            replace F9 := F9.below bb
            replace rb := rb.below bb
            clear bb
            try go_wp2_with fail
            clear hHeld
            refine hK'.out _ _ (sm6_of (bo.below F9) (ba.below F9)) (fun hHeld => ?_)
            clear hK' KK
            try simp only [List.setIfInBounds_toArray, List.set_cons_zero, List.set_cons_succ]
            refine wpAnyH_take (i := 4) (v := .tuple #[.agg #[.int .i64 0, .int .i64 0, .int .i64 0], .bool false]) rfl (by kernel_rfl) (by kernel_rfl) (by kernel_rfl) (fun _ _ _ h => h) (Or.inl ⟨by kernel_rfl, ?_⟩) hHeld ?_
            · intro w' hSw; go_simp
            try simp only [Act.put, List.setIfInBounds_toArray, List.set_cons_zero, List.set_cons_succ, List.getElem_toArray, List.getElem_cons_succ, List.getElem_cons_zero]
            refine wpAnyH_take (i := 5) (v := .agg #[.int .i64 0, .int .i64 0, .int .i64 0]) rfl (by kernel_rfl) (by kernel_rfl) (by kernel_rfl) (fun _ _ _ h => h) (Or.inl ⟨by kernel_rfl, ?_⟩) hHeld ?_
            · intro w' hSw; go_simp
            try simp only [Act.put, List.setIfInBounds_toArray, List.set_cons_zero, List.set_cons_succ, List.getElem_toArray, List.getElem_cons_succ, List.getElem_cons_zero]
            refine wpAnyH_take (i := 6) (v := .bool false) rfl (by kernel_rfl) (by kernel_rfl) (by kernel_rfl) (fun _ _ _ h => h) (Or.inl ⟨by kernel_rfl, ?_⟩) hHeld ?_
            · intro w' hSw; go_simp
            try simp only [Act.put, List.setIfInBounds_toArray, List.set_cons_zero, List.set_cons_succ, List.getElem_toArray, List.getElem_cons_succ, List.getElem_cons_zero]
            refine wpAnyH_ready (rs := [8]) (by kernel_rfl) (by simp) ?_
            refine AllReadyH.cons rfl (fun KK hK' => ?_) AllReadyH.nil
            obtain ⟨y0, y1, y2, g0, g1, g2⟩ := rb.open3
            go_simp
            obtain ⟨u9, hu9, rb9, F8⟩ := kb_fill F9 hp rb (.int .i64 0) (.int .i64 0) (.int .i64 0)
            rw [hu9]
            clear hu9 rb y0 y1 y2 g0 g1 g2 F9
            have F9 := F8
            have rb := rb9
            clear F8 rb9
            clear hHeld
            refine hK'.out _ _ (sm6_of (bo.below F9) (ba.below F9)) (fun hHeld => ?_)
            clear hK' KK
            try simp only [List.setIfInBounds_toArray, List.set_cons_zero, List.set_cons_succ]
            refine wpAnyH_take (i := 9) (v := .bool false) rfl (by kernel_rfl) (by kernel_rfl) (by kernel_rfl) (fun _ _ _ h => h) (Or.inl ⟨by kernel_rfl, ?_⟩) hHeld ?_
            · intro w' hSw; go_simp
            try simp only [Act.put, List.setIfInBounds_toArray, List.set_cons_zero, List.set_cons_succ, List.getElem_toArray, List.getElem_cons_succ, List.getElem_cons_zero]
            refine wpAnyH_done (by kernel_rfl) ?_ _
            go_wp2_with fail
            go_meet
            case rel => exact ⟨p, rfl, rfl, rb, hp, F9⟩
        case rest =>
          obtain ⟨gp, rfl, rfl, bp, lp, F9⟩ := hcut
          replace b0 := b0.below F9
          replace bW := bW.trans (F9.mono bW.size)
          clear F9
          obtain ⟨d0, d1, f0, f1⟩ := b0.open2
          go_wp2
          obtain ⟨y0, y1, -⟩ := (put2_at b0 (.int .i64 0) (.slice none 0 0)).open2
          exact bodyPost_ret (v := mV 0 (.slice none 0 0)) (by simp [results, Try.results22, go_sem, y0, y1]) rfl ⟨_, rfl, .inr ⟨hno, ⟨_, rfl, .inl ⟨rfl, rfl⟩⟩⟩, (bW.setCell (Nat.le_refl _) _).setCell (Nat.le_refl _) _⟩
    · have hlt' : ¬ (k : Int) < (cnt : Int) := by omega
      obtain rfl : k = cnt := by omega
      obtain ⟨d0, d1, f0, f1⟩ := b0.open2
      obtain ⟨e0, e1, -⟩ := bo.open2
      go_wp2
      obtain ⟨y0, y1, -⟩ := (put2_at b0 (.int .i64 n) (.slice (some ⟨go, 0, none⟩) (cube n) (cube n))).open2
      have M2 : Made ((wr.setCell ⟨w.heap.size, 0, none⟩ (.int .i64 n)).setCell ⟨w.heap.size, 1, none⟩ (.slice (some ⟨go, 0, none⟩) (cube n) (cube n))) go (cube n) (cube n) (pf n f k) := Made.setOther (Made.setOther M (by omega) _) (by omega) _
      exact bodyPost_ret (v := mV n (.slice (some ⟨go, 0, none⟩) (cube n) (cube n))) (by simp [results, Try.results22, go_sem, y0, y1]) rfl ⟨_, rfl, .inl ⟨hfit, ⟨_, rfl, arr_of_own M2 (by omega)⟩⟩, (bW.setCell (Nat.le_refl _) _).setCell (Nat.le_refl _) _⟩
end Go.Proofs.Ytmpakpdbkojkaaa
