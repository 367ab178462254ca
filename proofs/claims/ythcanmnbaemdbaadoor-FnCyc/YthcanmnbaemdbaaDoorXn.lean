/-
  The law on cyclotomic numbers, walked.
-/
import Derived.Test.YthcanmnbaemdbaaDoorXc
import Derived.Test.YthcanmnbaemdbaaDoorXm
import Derived.Deep.CutRange
namespace Go.Proofs.YthcanmnbaemdbaaDoor
open Go.RowKit

/-- All of V stands. -/
def Kb (V wr : World) : Prop := Below V.heap.size V wr
theorem Kb.below {V wr wr' : World} (F : Kb V wr) (b : Below wr.heap.size wr wr') : Kb V wr' := Below.trans F (b.mono (Below.size F))
theorem kb_lt {V wr : World} (F : Kb V wr) : V.heap.size ≤ wr.heap.size := Below.size F
theorem kb_fill {V wr : World} {p : Nat} {t : TypeId} {u0 u1 u2 u3 : Value} (F : Kb V wr) (hp : V.heap.size ≤ p) (rb : At t wr p #[u0, u1, u2, u3]) (v0 v1 v2 v3 : Value) :
    ∃ u, (((wr.setCell ⟨p, 0, none⟩ v0).setCell ⟨p, 1, none⟩ v1).setCell ⟨p, 2, none⟩ v2).setCell ⟨p, 3, none⟩ v3 = u ∧ At t u p #[v0, v1, v2, v3] ∧ Kb V u :=
  ⟨_, rfl, put4_at rb _ _ _ _, below_put4 F hp _ _ _ _⟩
def Se4 (qe : Nat) (x y z u : Int) (w : World) : Prop := w.cell? ⟨qe, 0, none⟩ = some (.int .i64 x) ∧ w.cell? ⟨qe, 1, none⟩ = some (.int .i64 y) ∧ w.cell? ⟨qe, 2, none⟩ = some (.int .i64 z) ∧ w.cell? ⟨qe, 3, none⟩ = some (.int .i64 u)
theorem se4_of {t : TypeId} {w : World} {q : Nat} {x y z u : Int} (h : At t w q #[.int .i64 x, .int .i64 y, .int .i64 z, .int .i64 u]) : Se4 q x y z u w := ⟨h.cell 0 rfl, h.cell 1 rfl, h.cell 2 rfl, h.cell 3 rfl⟩
theorem implRoot1 (w : World) (ht : Tab w) : Calls Tryd.prog 10 #[.int .i64 1] w fun e w' => e = .returned (cV 0 1 0 0) ∧ Below w.heap.size w w' := implRoot_any 1 ⟨by decide, by decide⟩ 1 (by decide) (by decide) w ht
theorem implStep (i : Nat) (hi : i < 12) (w : World) (ht : Tab w) : Calls Tryd.prog 9 #[cV (st i 0) (st i 1) (st i 2) (st i 3), cV 0 1 0 0] w fun e w' => e = .returned (.tuple #[cV (st (i + 1) 0) (st (i + 1) 1) (st (i + 1) 2) (st (i + 1) 3), .bool true]) ∧ Below w.heap.size w w' := by
  have h := implMul_any (st i 0) (st i 1) (st i 2) (st i 3) 0 1 0 0 w ht
  rw [st_step i hi] at h
  exact h
theorem tab_put4 {w : World} {q : Nat} (h : Tab w) (hq : 0 < q) (v0 v1 v2 v3 : Value) : Tab ((((w.setCell ⟨q, 0, none⟩ v0).setCell ⟨q, 1, none⟩ v1).setCell ⟨q, 2, none⟩ v2).setCell ⟨q, 3, none⟩ v3) := by
  have b : Below 1 w ((((w.setCell ⟨q, 0, none⟩ v0).setCell ⟨q, 1, none⟩ v1).setCell ⟨q, 2, none⟩ v2).setCell ⟨q, 3, none⟩ v3) := below_put4 ((Below.refl w.heap.size w).mono h.1) hq _ _ _ _
  exact ⟨Nat.lt_of_lt_of_le h.1 b.size, fun i hi => (b.cell (p := ⟨0, i, none⟩) (by show 0 < 1; omega)).trans (h.2 i hi)⟩
set_option maxRecDepth 100000 in
set_option maxHeartbeats 3200000 in
theorem cyc_walk {w : World} {a a' : Option Addr} {len len' cap cap' : Nat} (hr : Row w w.heap.size a len) (hr' : Row w w.heap.size a' len') (ht : Tab w) :
    Calls Tryd.prog 3 #[.slice a len cap, .slice a' len' cap'] w fun e w' => e = .returned (.bool true) ∧ Below w.heap.size w w' := by
  by_cases h1 : 1048576 < len
  · have d1 : decide (1048576 < len) = true := decide_eq_true h1
    go_enter Tryd.func3, Tryd.ntmps3
    go_wp2_with fail
    refine (big_any _ _ _ _ hr.1).mono ?_
    rintro e w1 ⟨rfl, rfl⟩
    rw [d1]
    go_wp2
    go_ret
    exact ⟨rfl, Below.refl _ _⟩
  by_cases h2 : 1048576 < len'
  · have d1 : decide (1048576 < len) = false := decide_eq_false h1
    have d2 : decide (1048576 < len') = true := decide_eq_true h2
    go_enter Tryd.func3, Tryd.ntmps3
    go_wp2_with fail
    refine (big_any _ _ _ _ hr.1).mono ?_
    rintro e w1 ⟨rfl, rfl⟩
    rw [d1]
    go_wp2_with fail
    refine (big_any _ _ _ _ hr'.1).mono ?_
    rintro e w1 ⟨rfl, rfl⟩
    rw [d2]
    go_wp2
    go_ret
    exact ⟨rfl, Below.refl _ _⟩
  have d1 : decide (1048576 < len) = false := decide_eq_false h1
  have d2 : decide (1048576 < len') = false := decide_eq_false h2
  go_enter Tryd.func3, Tryd.ntmps3
  go_wp2_with fail
  refine (big_any _ _ _ _ hr.1).mono ?_
  rintro e w1 ⟨rfl, rfl⟩
  rw [d1]
  go_wp2_with fail
  refine (big_any _ _ _ _ hr'.1).mono ?_
  rintro e w1 ⟨rfl, rfl⟩
  rw [d2]
  clear d1 d2 h1 h2
  go_wp2_with fail
  refine (drawMul_any hr).mono ?_
  rintro e w1 ⟨x, y, z, u, x', y', z', u', rfl, bW⟩
  replace hr' := hr'.below bW
  replace ht := ht.below bW
  go_wp2_with fail
  obtain ⟨V, hV, ba, bb, bb9, -⟩ := boxed2 w1 25 25 #[.int .i64 x, .int .i64 y, .int .i64 z, .int .i64 u] #[.int .i64 x', .int .i64 y', .int .i64 z', .int .i64 u']
  rw [hV]
  obtain ⟨qa, hq⟩ : ∃ q, w1.heap.size = q := ⟨_, rfl⟩
  rw [hq] at ba bb ⊢
  obtain ⟨qb, hq2⟩ : ∃ q, qa + 1 = q := ⟨_, rfl⟩
  rw [hq2] at bb ⊢
  clear hV hq hq2
  replace ht := ht.below bb9
  replace hr' := hr'.below bb9
  replace bW := bW.trans (bb9.mono bW.size)
  clear bb9
  refine (drawOk_any hr').mono ?_
  rintro e w2 ⟨c1, c2, c3, c4, rfl, bb9⟩
  replace ht := ht.below bb9
  replace hr' := hr'.below bb9
  replace ba := ba.below bb9
  replace bb := bb.below bb9
  replace bW := bW.trans (bb9.mono bW.size)
  clear bb9
  clear hr hr'
  go_wp2_with fail
  obtain ⟨V, hV, bc, br, bs, bb9, sV⟩ := boxed3 w2 25 25 25 #[.int .i64 c1, .int .i64 c2, .int .i64 c3, .int .i64 c4] #[.int .i64 3, .int .i64 (-1), .int .i64 0, .int .i64 0] #[.int .i64 3, .int .i64 (-1), .int .i64 0, .int .i64 0]
  rw [hV]
  have la := ba.lt
  have lb := bb.lt
  have lw : w.heap.size ≤ w2.heap.size := bW.size
  obtain ⟨qc, hqc⟩ : ∃ q, w2.heap.size = q := ⟨_, rfl⟩
  rw [hqc] at bc br bs la lb lw ⊢
  obtain ⟨qr, hqr⟩ : ∃ q, qc + 1 = q := ⟨_, rfl⟩
  obtain ⟨qs, hqs⟩ : ∃ q, qc + 2 = q := ⟨_, rfl⟩
  rw [hqr] at br ⊢
  rw [hqs] at bs
  rw [show qr + 1 = qs by omega]
  clear hV hqc sV
  replace ht := ht.below bb9
  replace ba := ba.below bb9
  replace bb := bb.below bb9
  replace bW := bW.trans (bb9.mono bW.size)
  clear bb9
  go_loopw [10] (fun s wr => ∃ i : Nat, i ≤ 12 ∧ s = .int .i64 i ∧ At 25 wr qs #[.int .i64 (st i 0), .int .i64 (st i 1), .int .i64 (st i 2), .int .i64 (st i 3)] ∧ Tab wr ∧ At 25 wr qa #[.int .i64 x, .int .i64 y, .int .i64 z, .int .i64 u] ∧ At 25 wr qb #[.int .i64 x', .int .i64 y', .int .i64 z', .int .i64 u'] ∧ At 25 wr qc #[.int .i64 c1, .int .i64 c2, .int .i64 c3, .int .i64 c4] ∧ At 25 wr qr #[.int .i64 3, .int .i64 (-1), .int .i64 0, .int .i64 0] ∧ Below w.heap.size w wr) (fun s _ => 12 - (intOf s).toNat)
  case atStart => exact ⟨0, Nat.zero_le _, rfl, bs, ht, ba, bb, bc, br, bW⟩
  case round =>
    clear bs ht ba bb bc br bW
    obtain ⟨i, hi, rfl, bs, ht, ba, bb, bc, br, bW⟩ := hrel
    by_cases hlt : i < 12
    · have hlt' : (i : Int) < 12 := by omega
      go_wp2_with fail
      go_cut [11, 12] from 52 to 58 (fun s11 s12 wc => ∃ g, s11 = .pointer (some ⟨g, 0, none⟩) ∧ s12 = .bool true ∧ At 25 wc g #[.int .i64 (st (i + 1) 0), .int .i64 (st (i + 1) 1), .int .i64 (st (i + 1) 2), .int .i64 (st (i + 1) 3)] ∧ wr.heap.size ≤ g ∧ Kb wr wc)
      case first =>
        have F : Kb wr wr := Below.refl _ _
        obtain ⟨u0, hu0, bb⟩ : ∃ u0, wr.drew = u0 ∧ Below wr.heap.size wr u0 := ⟨_, rfl, (Below.refl _ _).drew⟩
        replace F := F.below bb
        clear bb
        refine wp_region_held_drew (S := Se4 qs (st i 0) (st i 1) (st i 2) (st i 3)) (by kernel_rfl) (by rw [hu0]; exact se4_of (bs.below F)) (fun hHeld => ?_)
        rw [hu0] at hHeld ⊢
        clear hu0
        change wpAnyH _ _ _ _ _ 9 #[false, false, false, false, false, false, false, false, false] _ _
        refine wpAnyH_take (i := 0) (v := cV (st i 0) (st i 1) (st i 2) (st i 3)) rfl (by kernel_rfl) (by kernel_rfl) (by kernel_rfl) (fun _ _ _ h => h) (Or.inl ⟨by kernel_rfl, ?_⟩) hHeld ?_
        · intro w' hSw; obtain ⟨z0, z1, z2, z3⟩ := hSw; go_simp
        try simp only [Act.put, List.setIfInBounds_toArray, List.set_cons_zero, List.set_cons_succ, List.getElem_toArray, List.getElem_cons_zero]
        refine wpAnyH_ready (rs := [1, 6]) (by kernel_rfl) (by simp) ?_
        refine AllReadyH.cons rfl (fun KK hK' => ?_) (AllReadyH.cons rfl (fun KK hK' => ?_) AllReadyH.nil)
        · go_simp
          refine (implRoot1 _ (ht.below F)).mono ?_
          rintro e u1 ⟨rfl, bb⟩
          replace F := F.below bb
          clear bb
          try go_wp2_with fail
          clear hHeld
          refine hK'.out _ _ (se4_of (bs.below F)) (fun hHeld => ?_)
          clear hK' KK
          try simp only [List.setIfInBounds_toArray, List.set_cons_zero, List.set_cons_succ]
          refine wpAnyH_ready (rs := [2, 6]) (by kernel_rfl) (by simp) ?_
          refine AllReadyH.cons rfl (fun KK hK' => ?_) (AllReadyH.cons rfl (fun KK hK' => ?_) AllReadyH.nil)
          · go_simp
            refine (implStep i hlt _ (ht.below F)).mono ?_
            rintro e u2 ⟨rfl, bb⟩
            replace F := F.below bb
            clear bb
            try go_wp2_with fail
            clear hHeld
            refine hK'.out _ _ (se4_of (bs.below F)) (fun hHeld => ?_)
            clear hK' KK
            try simp only [List.setIfInBounds_toArray, List.set_cons_zero, List.set_cons_succ]
            refine wpAnyH_take (i := 3) (v := .tuple #[cV (st (i + 1) 0) (st (i + 1) 1) (st (i + 1) 2) (st (i + 1) 3), .bool true]) rfl (by kernel_rfl) (by kernel_rfl) (by kernel_rfl) (fun _ _ _ h => h) (Or.inl ⟨by kernel_rfl, ?_⟩) hHeld ?_
            · intro w' hSw; go_simp
            try simp only [Act.put, List.setIfInBounds_toArray, List.set_cons_zero, List.set_cons_succ, List.getElem_toArray, List.getElem_cons_succ, List.getElem_cons_zero]
            refine wpAnyH_take (i := 4) (v := cV (st (i + 1) 0) (st (i + 1) 1) (st (i + 1) 2) (st (i + 1) 3)) rfl (by kernel_rfl) (by kernel_rfl) (by kernel_rfl) (fun _ _ _ h => h) (Or.inl ⟨by kernel_rfl, ?_⟩) hHeld ?_
            · intro w' hSw; go_simp
            try simp only [Act.put, List.setIfInBounds_toArray, List.set_cons_zero, List.set_cons_succ, List.getElem_toArray, List.getElem_cons_succ, List.getElem_cons_zero]
            refine wpAnyH_take (i := 5) (v := .bool true) rfl (by kernel_rfl) (by kernel_rfl) (by kernel_rfl) (fun _ _ _ h => h) (Or.inl ⟨by kernel_rfl, ?_⟩) hHeld ?_
            · intro w' hSw; go_simp
            try simp only [Act.put, List.setIfInBounds_toArray, List.set_cons_zero, List.set_cons_succ, List.getElem_toArray, List.getElem_cons_succ, List.getElem_cons_zero]
            refine wpAnyH_ready (rs := [6]) (by kernel_rfl) (by simp) ?_
            refine AllReadyH.cons rfl (fun KK hK' => ?_) AllReadyH.nil
            go_simp
            obtain ⟨V2, hV, rb, bb, -⟩ := boxed u2 25 #[.int .i64 0, .int .i64 0, .int .i64 0, .int .i64 0]
            rw [hV]
            have hp := kb_lt F
            obtain ⟨p, hpp⟩ : ∃ p, u2.heap.size = p := ⟨_, rfl⟩
            rw [hpp] at hp rb ⊢
            clear hV hpp
            replace F := F.below bb
            clear bb
            clear hHeld
            refine hK'.out _ _ (se4_of (bs.below F)) (fun hHeld => ?_)
            clear hK' KK
            try simp only [List.setIfInBounds_toArray, List.set_cons_zero, List.set_cons_succ]
            refine wpAnyH_ready (rs := [7]) (by kernel_rfl) (by simp) ?_
            refine AllReadyH.cons rfl (fun KK hK' => ?_) AllReadyH.nil
            obtain ⟨y0, y1, y2, y3, g0, g1, g2, g3⟩ := rb.open4
            go_simp
            obtain ⟨u9, hu9, rb9, F9⟩ := kb_fill F hp rb (.int .i64 (st (i + 1) 0)) (.int .i64 (st (i + 1) 1)) (.int .i64 (st (i + 1) 2)) (.int .i64 (st (i + 1) 3))
            rw [hu9]
            clear hu9 rb y0 y1 y2 y3 g0 g1 g2 g3 F
            have F := F9
            have rb := rb9
            clear F9 rb9
            clear hHeld
            refine hK'.out _ _ (se4_of (bs.below F)) (fun hHeld => ?_)
            clear hK' KK
            try simp only [List.setIfInBounds_toArray, List.set_cons_zero, List.set_cons_succ]
            refine wpAnyH_take (i := 8) (v := .bool true) rfl (by kernel_rfl) (by kernel_rfl) (by kernel_rfl) (fun _ _ _ h => h) (Or.inl ⟨by kernel_rfl, ?_⟩) hHeld ?_
            · intro w' hSw; go_simp
            try simp only [Act.put, List.setIfInBounds_toArray, List.set_cons_zero, List.set_cons_succ, List.getElem_toArray, List.getElem_cons_succ, List.getElem_cons_zero]
            refine wpAnyH_done (by kernel_rfl) ?_ _
            go_wp2_with fail
            go_meet
            case rel => exact ⟨p, rfl, rfl, rb, hp, F⟩
          · go_simp
            obtain ⟨V1, hV, rb, bb, -⟩ := boxed u1 25 #[.int .i64 0, .int .i64 0, .int .i64 0, .int .i64 0]
            rw [hV]
            have hp := kb_lt F
            obtain ⟨p, hpp⟩ : ∃ p, u1.heap.size = p := ⟨_, rfl⟩
            rw [hpp] at hp rb ⊢
            clear hV hpp
            replace F := F.below bb
            clear bb
            clear hHeld
            refine hK'.out _ _ (se4_of (bs.below F)) (fun hHeld => ?_)
            clear hK' KK
            try simp only [List.setIfInBounds_toArray, List.set_cons_zero, List.set_cons_succ]
            refine wpAnyH_ready (rs := [2]) (by kernel_rfl) (by simp) ?_
            refine AllReadyH.cons rfl (fun KK hK' => ?_) AllReadyH.nil
            go_simp
            refine (implStep i hlt _ (ht.below F)).mono ?_
            rintro e u2 ⟨rfl, bb⟩
            replace F := F.below bb
            replace rb := rb.below bb
            clear bb
            try go_wp2_with fail
            clear hHeld
            refine hK'.out _ _ (se4_of (bs.below F)) (fun hHeld => ?_)
            clear hK' KK
            try simp only [List.setIfInBounds_toArray, List.set_cons_zero, List.set_cons_succ]
            refine wpAnyH_take (i := 3) (v := .tuple #[cV (st (i + 1) 0) (st (i + 1) 1) (st (i + 1) 2) (st (i + 1) 3), .bool true]) rfl (by kernel_rfl) (by kernel_rfl) (by kernel_rfl) (fun _ _ _ h => h) (Or.inl ⟨by kernel_rfl, ?_⟩) hHeld ?_
            · intro w' hSw; go_simp
            try simp only [Act.put, List.setIfInBounds_toArray, List.set_cons_zero, List.set_cons_succ, List.getElem_toArray, List.getElem_cons_succ, List.getElem_cons_zero]
            refine wpAnyH_take (i := 4) (v := cV (st (i + 1) 0) (st (i + 1) 1) (st (i + 1) 2) (st (i + 1) 3)) rfl (by kernel_rfl) (by kernel_rfl) (by kernel_rfl) (fun _ _ _ h => h) (Or.inl ⟨by kernel_rfl, ?_⟩) hHeld ?_
            · intro w' hSw; go_simp
            try simp only [Act.put, List.setIfInBounds_toArray, List.set_cons_zero, List.set_cons_succ, List.getElem_toArray, List.getElem_cons_succ, List.getElem_cons_zero]
            refine wpAnyH_take (i := 5) (v := .bool true) rfl (by kernel_rfl) (by kernel_rfl) (by kernel_rfl) (fun _ _ _ h => h) (Or.inl ⟨by kernel_rfl, ?_⟩) hHeld ?_
            · intro w' hSw; go_simp
            try simp only [Act.put, List.setIfInBounds_toArray, List.set_cons_zero, List.set_cons_succ, List.getElem_toArray, List.getElem_cons_succ, List.getElem_cons_zero]
            refine wpAnyH_ready (rs := [7]) (by kernel_rfl) (by simp) ?_
            refine AllReadyH.cons rfl (fun KK hK' => ?_) AllReadyH.nil
            obtain ⟨y0, y1, y2, y3, g0, g1, g2, g3⟩ := rb.open4
            go_simp
            obtain ⟨u9, hu9, rb9, F9⟩ := kb_fill F hp rb (.int .i64 (st (i + 1) 0)) (.int .i64 (st (i + 1) 1)) (.int .i64 (st (i + 1) 2)) (.int .i64 (st (i + 1) 3))
            rw [hu9]
            clear hu9 rb y0 y1 y2 y3 g0 g1 g2 g3 F
            have F := F9
            have rb := rb9
            clear F9 rb9
            clear hHeld
            refine hK'.out _ _ (se4_of (bs.below F)) (fun hHeld => ?_)
            clear hK' KK
            try simp only [List.setIfInBounds_toArray, List.set_cons_zero, List.set_cons_succ]
            refine wpAnyH_take (i := 8) (v := .bool true) rfl (by kernel_rfl) (by kernel_rfl) (by kernel_rfl) (fun _ _ _ h => h) (Or.inl ⟨by kernel_rfl, ?_⟩) hHeld ?_
            · intro w' hSw; go_simp
            try simp only [Act.put, List.setIfInBounds_toArray, List.set_cons_zero, List.set_cons_succ, List.getElem_toArray, List.getElem_cons_succ, List.getElem_cons_zero]
            refine wpAnyH_done (by kernel_rfl) ?_ _
            go_wp2_with fail
            go_meet
            case rel => exact ⟨p, rfl, rfl, rb, hp, F⟩
        · go_simp
          obtain ⟨V0, hV, rb, bb, -⟩ := boxed u0 25 #[.int .i64 0, .int .i64 0, .int .i64 0, .int .i64 0]
          rw [hV]
          have hp := kb_lt F
          obtain ⟨p, hpp⟩ : ∃ p, u0.heap.size = p := ⟨_, rfl⟩
          rw [hpp] at hp rb ⊢
          clear hV hpp
          replace F := F.below bb
          clear bb
          clear hHeld
          refine hK'.out _ _ (se4_of (bs.below F)) (fun hHeld => ?_)
          clear hK' KK
          try simp only [List.setIfInBounds_toArray, List.set_cons_zero, List.set_cons_succ]
          refine wpAnyH_ready (rs := [1]) (by kernel_rfl) (by simp) ?_
          refine AllReadyH.cons rfl (fun KK hK' => ?_) AllReadyH.nil
          go_simp
          refine (implRoot1 _ (ht.below F)).mono ?_
          rintro e u1 ⟨rfl, bb⟩
          replace F := F.below bb
          replace rb := rb.below bb
          clear bb
          try go_wp2_with fail
          clear hHeld
          refine hK'.out _ _ (se4_of (bs.below F)) (fun hHeld => ?_)
          clear hK' KK
          try simp only [List.setIfInBounds_toArray, List.set_cons_zero, List.set_cons_succ]
          refine wpAnyH_ready (rs := [2]) (by kernel_rfl) (by simp) ?_
          refine AllReadyH.cons rfl (fun KK hK' => ?_) AllReadyH.nil
          go_simp
          refine (implStep i hlt _ (ht.below F)).mono ?_
          rintro e u2 ⟨rfl, bb⟩
          replace F := F.below bb
          replace rb := rb.below bb
          clear bb
          try go_wp2_with fail
          clear hHeld
          refine hK'.out _ _ (se4_of (bs.below F)) (fun hHeld => ?_)
          clear hK' KK
          try simp only [List.setIfInBounds_toArray, List.set_cons_zero, List.set_cons_succ]
          refine wpAnyH_take (i := 3) (v := .tuple #[cV (st (i + 1) 0) (st (i + 1) 1) (st (i + 1) 2) (st (i + 1) 3), .bool true]) rfl (by kernel_rfl) (by kernel_rfl) (by kernel_rfl) (fun _ _ _ h => h) (Or.inl ⟨by kernel_rfl, ?_⟩) hHeld ?_
          · intro w' hSw; go_simp
          try simp only [Act.put, List.setIfInBounds_toArray, List.set_cons_zero, List.set_cons_succ, List.getElem_toArray, List.getElem_cons_succ, List.getElem_cons_zero]
          refine wpAnyH_take (i := 4) (v := cV (st (i + 1) 0) (st (i + 1) 1) (st (i + 1) 2) (st (i + 1) 3)) rfl (by kernel_rfl) (by kernel_rfl) (by kernel_rfl) (fun _ _ _ h => h) (Or.inl ⟨by kernel_rfl, ?_⟩) hHeld ?_
          · intro w' hSw; go_simp
          try simp only [Act.put, List.setIfInBounds_toArray, List.set_cons_zero, List.set_cons_succ, List.getElem_toArray, List.getElem_cons_succ, List.getElem_cons_zero]
          refine wpAnyH_take (i := 5) (v := .bool true) rfl (by kernel_rfl) (by kernel_rfl) (by kernel_rfl) (fun _ _ _ h => h) (Or.inl ⟨by kernel_rfl, ?_⟩) hHeld ?_
          · intro w' hSw; go_simp
          try simp only [Act.put, List.setIfInBounds_toArray, List.set_cons_zero, List.set_cons_succ, List.getElem_toArray, List.getElem_cons_succ, List.getElem_cons_zero]
          refine wpAnyH_ready (rs := [7]) (by kernel_rfl) (by simp) ?_
          refine AllReadyH.cons rfl (fun KK hK' => ?_) AllReadyH.nil
          obtain ⟨y0, y1, y2, y3, g0, g1, g2, g3⟩ := rb.open4
          go_simp
          obtain ⟨u9, hu9, rb9, F9⟩ := kb_fill F hp rb (.int .i64 (st (i + 1) 0)) (.int .i64 (st (i + 1) 1)) (.int .i64 (st (i + 1) 2)) (.int .i64 (st (i + 1) 3))
          rw [hu9]
          clear hu9 rb y0 y1 y2 y3 g0 g1 g2 g3 F
          have F := F9
          have rb := rb9
          clear F9 rb9
          clear hHeld
          refine hK'.out _ _ (se4_of (bs.below F)) (fun hHeld => ?_)
          clear hK' KK
          try simp only [List.setIfInBounds_toArray, List.set_cons_zero, List.set_cons_succ]
          refine wpAnyH_take (i := 8) (v := .bool true) rfl (by kernel_rfl) (by kernel_rfl) (by kernel_rfl) (fun _ _ _ h => h) (Or.inl ⟨by kernel_rfl, ?_⟩) hHeld ?_
          · intro w' hSw; go_simp
          try simp only [Act.put, List.setIfInBounds_toArray, List.set_cons_zero, List.set_cons_succ, List.getElem_toArray, List.getElem_cons_succ, List.getElem_cons_zero]
          refine wpAnyH_done (by kernel_rfl) ?_ _
          go_wp2_with fail
          go_meet
          case rel => exact ⟨p, rfl, rfl, rb, hp, F⟩
      case rest =>
        obtain ⟨g, rfl, rfl, bg, lg, F⟩ := hcut
        have lgs : qs < g := Nat.lt_of_lt_of_le bs.lt lg
        have hws : w.heap.size ≤ qs := by omega
        replace bs := bs.below F
        replace ht := ht.below F
        replace ba := ba.below F
        replace bb := bb.below F
        replace bc := bc.below F
        replace br := br.below F
        replace bW := bW.trans (F.mono bW.size)
        clear F
        obtain ⟨z0, z1, z2, z3, -⟩ := bg.open4
        obtain ⟨d0, d1, d2, d3, f0, f1, f2, f3⟩ := bs.open4
        go_wp2
        go_roundw
        case rel => exact ⟨i + 1, by omega, by go_num, put4_at bs _ _ _ _, tab_put4 ht (by omega) _ _ _ _, put4_other ba (by omega) _ _ _ _, put4_other bb (by omega) _ _ _ _, put4_other bc (by omega) _ _ _ _, put4_other br (by omega) _ _ _ _, below_put4 bW hws _ _ _ _⟩
        case measure => simp [intOf]; omega
    · have hlt' : ¬ (i : Int) < 12 := by omega
      obtain rfl : i = 12 := by omega
      obtain ⟨e0, e1, e2, e3⟩ := st_12
      rw [e0, e1, e2, e3] at bs
      clear e0 e1 e2 e3
      obtain ⟨d0, d1, d2, d3, -⟩ := bs.open4
      obtain ⟨f0, f1, f2, f3, -⟩ := br.open4
      obtain ⟨bao0, bao1, bao2, bao3, -⟩ := ba.open4
      obtain ⟨bbo0, bbo1, bbo2, bbo3, -⟩ := bb.open4
      obtain ⟨p1, q1, r1, s1, v1, hm1⟩ := mulR_parts x y z u x' y' z' u'
      obtain ⟨p2, q2, r2, s2, v2, hm2⟩ := mulR_parts x' y' z' u' c1 c2 c3 c4
      go_wp2_with fail
      clear d0 d1 d2 d3 f0 f1 f2 f3 bs br
      refine (specMul_any _ _ _ _ _ _ _ _ _).mono ?_
      rintro e w3 ⟨rfl, bb9⟩
      rw [hm1]
      replace ht := ht.below bb9
      replace ba := ba.below bb9
      replace bb := bb.below bb9
      replace bc := bc.below bb9
      replace bW := bW.trans (bb9.mono bW.size)
      clear bb9
      clear bao0 bao1 bao2 bao3
      clear bbo0 bbo1 bbo2 bbo3
      obtain ⟨V3, hV3, b1, bb9, -⟩ := boxed w3 25 #[.int .i64 p1, .int .i64 q1, .int .i64 r1, .int .i64 s1]
      replace ht := ht.below bb9
      replace ba := ba.below bb9
      replace bb := bb.below bb9
      replace bc := bc.below bb9
      replace bW := bW.trans (bb9.mono bW.size)
      clear bb9
      obtain ⟨bbo0, bbo1, bbo2, bbo3, -⟩ := bb.open4
      obtain ⟨bco0, bco1, bco2, bco3, -⟩ := bc.open4
      go_wp2_with fail
      obtain ⟨q13, hq⟩ : ∃ q, w3.heap.size = q := ⟨_, rfl⟩
      rw [hq] at b1 ⊢
      clear hV3 hq
      refine (specMul_any _ _ _ _ _ _ _ _ _).mono ?_
      rintro e w4 ⟨rfl, bb9⟩
      rw [hm2]
      replace ht := ht.below bb9
      replace ba := ba.below bb9
      replace bb := bb.below bb9
      replace bc := bc.below bb9
      replace b1 := b1.below bb9
      replace bW := bW.trans (bb9.mono bW.size)
      clear bb9
      clear bbo0 bbo1 bbo2 bbo3
      clear bco0 bco1 bco2 bco3
      cases v1
      · obtain ⟨V4, hV4, b2, bb9, -⟩ := boxed w4 25 #[.int .i64 p2, .int .i64 q2, .int .i64 r2, .int .i64 s2]
        replace ht := ht.below bb9
        replace ba := ba.below bb9
        replace bb := bb.below bb9
        replace bc := bc.below bb9
        replace b1 := b1.below bb9
        replace bW := bW.trans (bb9.mono bW.size)
        clear bb9
        go_wp2
        go_ret
        exact ⟨rfl, bW⟩
      · have k0 := Nat.zero_le 0
        obtain ⟨V4, hV4, b2, bb9, -⟩ := boxed w4 25 #[.int .i64 p2, .int .i64 q2, .int .i64 r2, .int .i64 s2]
        replace ht := ht.below bb9
        replace ba := ba.below bb9
        replace bb := bb.below bb9
        replace bc := bc.below bb9
        replace b1 := b1.below bb9
        replace bW := bW.trans (bb9.mono bW.size)
        clear bb9
        obtain ⟨bao0, bao1, bao2, bao3, -⟩ := ba.open4
        obtain ⟨bbo0, bbo1, bbo2, bbo3, -⟩ := bb.open4
        go_wp2_with fail
        obtain ⟨q15, hq⟩ : ∃ q, w4.heap.size = q := ⟨_, rfl⟩
        rw [hq] at b2 ⊢
        clear hV4 hq
        refine (implMul_any _ _ _ _ _ _ _ _ _ ht).mono ?_
        rintro e w5 ⟨rfl, bb9⟩
        rw [hm1]
        replace ht := ht.below bb9
        replace ba := ba.below bb9
        replace bb := bb.below bb9
        replace bc := bc.below bb9
        replace b1 := b1.below bb9
        replace b2 := b2.below bb9
        replace bW := bW.trans (bb9.mono bW.size)
        clear bb9
        clear bao0 bao1 bao2 bao3
        clear bbo0 bbo1 bbo2 bbo3
        obtain ⟨V5, hV5, b3, bb9, -⟩ := boxed w5 25 #[.int .i64 p1, .int .i64 q1, .int .i64 r1, .int .i64 s1]
        replace ht := ht.below bb9
        replace ba := ba.below bb9
        replace bb := bb.below bb9
        replace bc := bc.below bb9
        replace b1 := b1.below bb9
        replace b2 := b2.below bb9
        replace bW := bW.trans (bb9.mono bW.size)
        clear bb9
        obtain ⟨b3o0, b3o1, b3o2, b3o3, -⟩ := b3.open4
        obtain ⟨b1o0, b1o1, b1o2, b1o3, -⟩ := b1.open4
        obtain ⟨bao0, bao1, bao2, bao3, -⟩ := ba.open4
        go_wp2_with fail
        obtain ⟨q17, hq⟩ : ∃ q, w5.heap.size = q := ⟨_, rfl⟩
        rw [hq] at b3 b3o0 b3o1 b3o2 b3o3 ⊢
        clear hV5 hq
        obtain ⟨pa1, pa2, pa3, pa4, hca⟩ := conjT_parts x y z u
        obtain ⟨pb1, pb2, pb3, pb4, hcb⟩ := conjT_parts x' y' z' u'
        obtain ⟨m1, m2, m3, m4, v3, hm3⟩ := mulR_parts pa1 pa2 pa3 pa4 pb1 pb2 pb3 pb4
        refine (specConj_any _ _ _ _ _).mono ?_
        rintro e w6 ⟨rfl, bb9⟩
        rw [hca]
        replace ht := ht.below bb9
        replace ba := ba.below bb9
        replace bb := bb.below bb9
        replace bc := bc.below bb9
        replace b1 := b1.below bb9
        replace b2 := b2.below bb9
        replace b3 := b3.below bb9
        replace bW := bW.trans (bb9.mono bW.size)
        clear bb9
        clear b3o0 b3o1 b3o2 b3o3
        clear b1o0 b1o1 b1o2 b1o3
        clear bao0 bao1 bao2 bao3
        obtain ⟨V6, hV6, b4, bb9, -⟩ := boxed w6 25 #[.int .i64 pa1, .int .i64 pa2, .int .i64 pa3, .int .i64 pa4]
        replace ht := ht.below bb9
        replace ba := ba.below bb9
        replace bb := bb.below bb9
        replace bc := bc.below bb9
        replace b1 := b1.below bb9
        replace b2 := b2.below bb9
        replace b3 := b3.below bb9
        replace bW := bW.trans (bb9.mono bW.size)
        clear bb9
        obtain ⟨bbo0, bbo1, bbo2, bbo3, -⟩ := bb.open4
        go_wp2_with fail
        obtain ⟨q19, hq⟩ : ∃ q, w6.heap.size = q := ⟨_, rfl⟩
        rw [hq] at b4 ⊢
        clear hV6 hq
        refine (specConj_any _ _ _ _ _).mono ?_
        rintro e w7 ⟨rfl, bb9⟩
        rw [hcb]
        replace ht := ht.below bb9
        replace ba := ba.below bb9
        replace bb := bb.below bb9
        replace bc := bc.below bb9
        replace b1 := b1.below bb9
        replace b2 := b2.below bb9
        replace b3 := b3.below bb9
        replace b4 := b4.below bb9
        replace bW := bW.trans (bb9.mono bW.size)
        clear bb9
        clear bbo0 bbo1 bbo2 bbo3
        obtain ⟨V7, hV7, b5, bb9, -⟩ := boxed w7 25 #[.int .i64 pb1, .int .i64 pb2, .int .i64 pb3, .int .i64 pb4]
        replace ht := ht.below bb9
        replace ba := ba.below bb9
        replace bb := bb.below bb9
        replace bc := bc.below bb9
        replace b1 := b1.below bb9
        replace b2 := b2.below bb9
        replace b3 := b3.below bb9
        replace b4 := b4.below bb9
        replace bW := bW.trans (bb9.mono bW.size)
        clear bb9
        obtain ⟨b4o0, b4o1, b4o2, b4o3, -⟩ := b4.open4
        obtain ⟨b5o0, b5o1, b5o2, b5o3, -⟩ := b5.open4
        go_wp2_with fail
        obtain ⟨q20, hq⟩ : ∃ q, w7.heap.size = q := ⟨_, rfl⟩
        rw [hq] at b5 b5o0 b5o1 b5o2 b5o3 ⊢
        clear hV7 hq
        refine (specMul_any _ _ _ _ _ _ _ _ _).mono ?_
        rintro e w8 ⟨rfl, bb9⟩
        rw [hm3]
        replace ht := ht.below bb9
        replace ba := ba.below bb9
        replace bb := bb.below bb9
        replace bc := bc.below bb9
        replace b1 := b1.below bb9
        replace b2 := b2.below bb9
        replace b3 := b3.below bb9
        replace b4 := b4.below bb9
        replace b5 := b5.below bb9
        replace bW := bW.trans (bb9.mono bW.size)
        clear bb9
        clear b4o0 b4o1 b4o2 b4o3
        clear b5o0 b5o1 b5o2 b5o3
        cases v3
        · skip
          obtain ⟨V8, hV8, b6, bb9, -⟩ := boxed w8 25 #[.int .i64 m1, .int .i64 m2, .int .i64 m3, .int .i64 m4]
          replace ht := ht.below bb9
          replace ba := ba.below bb9
          replace bb := bb.below bb9
          replace bc := bc.below bb9
          replace b1 := b1.below bb9
          replace b2 := b2.below bb9
          replace b3 := b3.below bb9
          replace b4 := b4.below bb9
          replace b5 := b5.below bb9
          replace bW := bW.trans (bb9.mono bW.size)
          clear bb9
          go_wp2_with fail
          obtain ⟨q21, hq⟩ : ∃ q, w8.heap.size = q := ⟨_, rfl⟩
          rw [hq] at b6 ⊢
          clear hV8 hq
          obtain ⟨u0, hu0, bb9⟩ : ∃ u0, V8.drew = u0 ∧ Below V8.heap.size V8 u0 := ⟨_, rfl, (Below.refl _ _).drew⟩
          replace ht := ht.below bb9
          replace ba := ba.below bb9
          replace bb := bb.below bb9
          replace bc := bc.below bb9
          replace b1 := b1.below bb9
          replace b2 := b2.below bb9
          replace b3 := b3.below bb9
          replace b4 := b4.below bb9
          replace b5 := b5.below bb9
          replace b6 := b6.below bb9
          replace bW := bW.trans (bb9.mono bW.size)
          clear bb9
          refine wp_region_held_drew (S := Ab8 q13 q21 #[.int .i64 p1, .int .i64 q1, .int .i64 r1, .int .i64 s1] #[.int .i64 m1, .int .i64 m2, .int .i64 m3, .int .i64 m4]) (by kernel_rfl) (by rw [hu0]; exact ab8_of b1 b6) (fun hHeld => ?_)
          rw [hu0] at hHeld ⊢
          clear hu0
          change wpAnyH _ _ _ _ _ 11 #[false, false, false, false, false, false, false, false, false, false, false] _ _
          refine wpAnyH_take (i := 0) (v := .bool false) rfl (by kernel_rfl) (by kernel_rfl) (by kernel_rfl) (fun _ _ _ h => h) (Or.inl ⟨by kernel_rfl, ?_⟩) hHeld ?_
          · intro w' hSw; go_simp
          try simp only [Act.put, List.setIfInBounds_toArray, List.set_cons_zero, List.set_cons_succ, List.getElem_toArray, List.getElem_cons_zero]
          refine wpAnyH_take (i := 1) (v := .bool false) rfl (by kernel_rfl) (by kernel_rfl) (by kernel_rfl) (fun _ _ _ h => h) (Or.inl ⟨by kernel_rfl, ?_⟩) hHeld ?_
          · intro w' hSw; go_simp
          try simp only [Act.put, List.setIfInBounds_toArray, List.set_cons_zero, List.set_cons_succ, List.getElem_toArray, List.getElem_cons_succ, List.getElem_cons_zero]
          refine wpAnyH_take (i := 2) (v := undef) rfl (by kernel_rfl) (by kernel_rfl) (by kernel_rfl) (fun _ _ _ h => h) (Or.inr ⟨by kernel_rfl, rfl⟩) hHeld ?_
          try simp only [Act.put, List.setIfInBounds_toArray, List.set_cons_zero, List.set_cons_succ, List.getElem_toArray, List.getElem_cons_succ, List.getElem_cons_zero]
          refine wpAnyH_take (i := 3) (v := undef) rfl (by kernel_rfl) (by kernel_rfl) (by kernel_rfl) (fun _ _ _ h => h) (Or.inr ⟨by kernel_rfl, rfl⟩) hHeld ?_
          try simp only [Act.put, List.setIfInBounds_toArray, List.set_cons_zero, List.set_cons_succ, List.getElem_toArray, List.getElem_cons_succ, List.getElem_cons_zero]
          refine wpAnyH_take (i := 4) (v := .bool false) rfl (by kernel_rfl) (by kernel_rfl) (by kernel_rfl) (fun _ _ _ h => h) (Or.inl ⟨by kernel_rfl, ?_⟩) hHeld ?_
          · intro w' hSw; go_simp
          try simp only [Act.put, List.setIfInBounds_toArray, List.set_cons_zero, List.set_cons_succ, List.getElem_toArray, List.getElem_cons_succ, List.getElem_cons_zero]
          refine wpAnyH_take (i := 5) (v := .bool false) rfl (by kernel_rfl) (by kernel_rfl) (by kernel_rfl) (fun _ _ _ h => h) (Or.inl ⟨by kernel_rfl, ?_⟩) hHeld ?_
          · intro w' hSw; go_simp
          try simp only [Act.put, List.setIfInBounds_toArray, List.set_cons_zero, List.set_cons_succ, List.getElem_toArray, List.getElem_cons_succ, List.getElem_cons_zero]
          refine wpAnyH_take (i := 6) (v := undef) rfl (by kernel_rfl) (by kernel_rfl) (by kernel_rfl) (fun _ _ _ h => h) (Or.inr ⟨by kernel_rfl, rfl⟩) hHeld ?_
          try simp only [Act.put, List.setIfInBounds_toArray, List.set_cons_zero, List.set_cons_succ, List.getElem_toArray, List.getElem_cons_succ, List.getElem_cons_zero]
          refine wpAnyH_take (i := 7) (v := undef) rfl (by kernel_rfl) (by kernel_rfl) (by kernel_rfl) (fun _ _ _ h => h) (Or.inr ⟨by kernel_rfl, rfl⟩) hHeld ?_
          try simp only [Act.put, List.setIfInBounds_toArray, List.set_cons_zero, List.set_cons_succ, List.getElem_toArray, List.getElem_cons_succ, List.getElem_cons_zero]
          refine wpAnyH_take (i := 8) (v := undef) rfl (by kernel_rfl) (by kernel_rfl) (by kernel_rfl) (fun _ _ _ h => h) (Or.inr ⟨by kernel_rfl, rfl⟩) hHeld ?_
          try simp only [Act.put, List.setIfInBounds_toArray, List.set_cons_zero, List.set_cons_succ, List.getElem_toArray, List.getElem_cons_succ, List.getElem_cons_zero]
          refine wpAnyH_take (i := 9) (v := undef) rfl (by kernel_rfl) (by kernel_rfl) (by kernel_rfl) (fun _ _ _ h => h) (Or.inr ⟨by kernel_rfl, rfl⟩) hHeld ?_
          try simp only [Act.put, List.setIfInBounds_toArray, List.set_cons_zero, List.set_cons_succ, List.getElem_toArray, List.getElem_cons_succ, List.getElem_cons_zero]
          refine wpAnyH_take (i := 10) (v := .bool false) rfl (by kernel_rfl) (by kernel_rfl) (by kernel_rfl) (fun _ _ _ h => h) (Or.inl ⟨by kernel_rfl, ?_⟩) hHeld ?_
          · intro w' hSw; go_simp
          try simp only [Act.put, List.setIfInBounds_toArray, List.set_cons_zero, List.set_cons_succ, List.getElem_toArray, List.getElem_cons_succ, List.getElem_cons_zero]
          refine wpAnyH_done (by kernel_rfl) ?_ _
          clear hHeld
          cases v2
          · go_wp2
            go_ret
            exact ⟨rfl, bW⟩
          · skip
            obtain ⟨b1o0, b1o1, b1o2, b1o3, -⟩ := b1.open4
            obtain ⟨bco0, bco1, bco2, bco3, -⟩ := bc.open4
            obtain ⟨p5, q5, r5, s5, v5, hm5⟩ := mulR_parts p1 q1 r1 s1 c1 c2 c3 c4
            obtain ⟨p6, q6, r6, s6, v6, hm6⟩ := mulR_parts x y z u p2 q2 r2 s2
            go_wp2_with fail
            refine (specMul_any _ _ _ _ _ _ _ _ _).mono ?_
            rintro e w9 ⟨rfl, bb9⟩
            rw [hm5]
            replace ht := ht.below bb9
            replace ba := ba.below bb9
            replace bb := bb.below bb9
            replace bc := bc.below bb9
            replace b1 := b1.below bb9
            replace b2 := b2.below bb9
            replace b3 := b3.below bb9
            replace b4 := b4.below bb9
            replace b5 := b5.below bb9
            replace b6 := b6.below bb9
            replace bW := bW.trans (bb9.mono bW.size)
            clear bb9
            clear b1o0 b1o1 b1o2 b1o3
            clear bco0 bco1 bco2 bco3
            obtain ⟨V9, hV9, b7, bb9, -⟩ := boxed w9 25 #[.int .i64 p5, .int .i64 q5, .int .i64 r5, .int .i64 s5]
            replace ht := ht.below bb9
            replace ba := ba.below bb9
            replace bb := bb.below bb9
            replace bc := bc.below bb9
            replace b1 := b1.below bb9
            replace b2 := b2.below bb9
            replace b3 := b3.below bb9
            replace b4 := b4.below bb9
            replace b5 := b5.below bb9
            replace b6 := b6.below bb9
            replace bW := bW.trans (bb9.mono bW.size)
            clear bb9
            obtain ⟨bao0, bao1, bao2, bao3, -⟩ := ba.open4
            obtain ⟨b2o0, b2o1, b2o2, b2o3, -⟩ := b2.open4
            go_wp2_with fail
            obtain ⟨q25, hq⟩ : ∃ q, w9.heap.size = q := ⟨_, rfl⟩
            rw [hq] at b7 ⊢
            clear hV9 hq
            refine (specMul_any _ _ _ _ _ _ _ _ _).mono ?_
            rintro e w10 ⟨rfl, bb9⟩
            rw [hm6]
            replace ht := ht.below bb9
            replace ba := ba.below bb9
            replace bb := bb.below bb9
            replace bc := bc.below bb9
            replace b1 := b1.below bb9
            replace b2 := b2.below bb9
            replace b3 := b3.below bb9
            replace b4 := b4.below bb9
            replace b5 := b5.below bb9
            replace b6 := b6.below bb9
            replace b7 := b7.below bb9
            replace bW := bW.trans (bb9.mono bW.size)
            clear bb9
            clear bao0 bao1 bao2 bao3
            clear b2o0 b2o1 b2o2 b2o3
            obtain ⟨V10, hV10, b8, bb9, -⟩ := boxed w10 25 #[.int .i64 p6, .int .i64 q6, .int .i64 r6, .int .i64 s6]
            replace ht := ht.below bb9
            replace ba := ba.below bb9
            replace bb := bb.below bb9
            replace bc := bc.below bb9
            replace b1 := b1.below bb9
            replace b2 := b2.below bb9
            replace b3 := b3.below bb9
            replace b4 := b4.below bb9
            replace b5 := b5.below bb9
            replace b6 := b6.below bb9
            replace b7 := b7.below bb9
            replace bW := bW.trans (bb9.mono bW.size)
            clear bb9
            obtain ⟨b1o0, b1o1, b1o2, b1o3, -⟩ := b1.open4
            obtain ⟨bco0, bco1, bco2, bco3, -⟩ := bc.open4
            go_wp2_with fail
            obtain ⟨q27, hq⟩ : ∃ q, w10.heap.size = q := ⟨_, rfl⟩
            rw [hq] at b8 ⊢
            clear hV10 hq
            refine (implMul_any _ _ _ _ _ _ _ _ _ ht).mono ?_
            rintro e w11 ⟨rfl, bb9⟩
            rw [hm5]
            replace ht := ht.below bb9
            replace ba := ba.below bb9
            replace bb := bb.below bb9
            replace bc := bc.below bb9
            replace b1 := b1.below bb9
            replace b2 := b2.below bb9
            replace b3 := b3.below bb9
            replace b4 := b4.below bb9
            replace b5 := b5.below bb9
            replace b6 := b6.below bb9
            replace b7 := b7.below bb9
            replace b8 := b8.below bb9
            replace bW := bW.trans (bb9.mono bW.size)
            clear bb9
            clear b1o0 b1o1 b1o2 b1o3
            clear bco0 bco1 bco2 bco3
            obtain ⟨V11, hV11, b9, bb9, -⟩ := boxed w11 25 #[.int .i64 p5, .int .i64 q5, .int .i64 r5, .int .i64 s5]
            replace ht := ht.below bb9
            replace ba := ba.below bb9
            replace bb := bb.below bb9
            replace bc := bc.below bb9
            replace b1 := b1.below bb9
            replace b2 := b2.below bb9
            replace b3 := b3.below bb9
            replace b4 := b4.below bb9
            replace b5 := b5.below bb9
            replace b6 := b6.below bb9
            replace b7 := b7.below bb9
            replace b8 := b8.below bb9
            replace bW := bW.trans (bb9.mono bW.size)
            clear bb9
            obtain ⟨bao0, bao1, bao2, bao3, -⟩ := ba.open4
            obtain ⟨b2o0, b2o1, b2o2, b2o3, -⟩ := b2.open4
            go_wp2_with fail
            obtain ⟨q29, hq⟩ : ∃ q, w11.heap.size = q := ⟨_, rfl⟩
            rw [hq] at b9 ⊢
            clear hV11 hq
            refine (implMul_any _ _ _ _ _ _ _ _ _ ht).mono ?_
            rintro e w12 ⟨rfl, bb9⟩
            rw [hm6]
            replace ht := ht.below bb9
            replace ba := ba.below bb9
            replace bb := bb.below bb9
            replace bc := bc.below bb9
            replace b1 := b1.below bb9
            replace b2 := b2.below bb9
            replace b3 := b3.below bb9
            replace b4 := b4.below bb9
            replace b5 := b5.below bb9
            replace b6 := b6.below bb9
            replace b7 := b7.below bb9
            replace b8 := b8.below bb9
            replace b9 := b9.below bb9
            replace bW := bW.trans (bb9.mono bW.size)
            clear bb9
            clear bao0 bao1 bao2 bao3
            clear b2o0 b2o1 b2o2 b2o3
            cases v5
            · clear hm5 hm6
              obtain ⟨V12, hV12, b10, bb9, -⟩ := boxed w12 25 #[.int .i64 p6, .int .i64 q6, .int .i64 r6, .int .i64 s6]
              replace ht := ht.below bb9
              replace ba := ba.below bb9
              replace bb := bb.below bb9
              replace bc := bc.below bb9
              replace b1 := b1.below bb9
              replace b2 := b2.below bb9
              replace b3 := b3.below bb9
              replace b4 := b4.below bb9
              replace b5 := b5.below bb9
              replace b6 := b6.below bb9
              replace b7 := b7.below bb9
              replace b8 := b8.below bb9
              replace b9 := b9.below bb9
              replace bW := bW.trans (bb9.mono bW.size)
              clear bb9
              obtain ⟨b9o0, b9o1, b9o2, b9o3, -⟩ := b9.open4
              obtain ⟨b10o0, b10o1, b10o2, b10o3, -⟩ := b10.open4
              go_wp2
              go_ret
              exact ⟨rfl, bW⟩
            · cases v6
              · clear hm5 hm6
                obtain ⟨V12, hV12, b10, bb9, -⟩ := boxed w12 25 #[.int .i64 p6, .int .i64 q6, .int .i64 r6, .int .i64 s6]
                replace ht := ht.below bb9
                replace ba := ba.below bb9
                replace bb := bb.below bb9
                replace bc := bc.below bb9
                replace b1 := b1.below bb9
                replace b2 := b2.below bb9
                replace b3 := b3.below bb9
                replace b4 := b4.below bb9
                replace b5 := b5.below bb9
                replace b6 := b6.below bb9
                replace b7 := b7.below bb9
                replace b8 := b8.below bb9
                replace b9 := b9.below bb9
                replace bW := bW.trans (bb9.mono bW.size)
                clear bb9
                obtain ⟨b9o0, b9o1, b9o2, b9o3, -⟩ := b9.open4
                obtain ⟨b10o0, b10o1, b10o2, b10o3, -⟩ := b10.open4
                go_wp2
                go_ret
                exact ⟨rfl, bW⟩
              · obtain ⟨rfl, rfl, rfl, rfl⟩ := mul_assoc4 hm1 hm2 hm5 hm6
                obtain ⟨V12, hV12, b10, bb9, -⟩ := boxed w12 25 #[.int .i64 p5, .int .i64 q5, .int .i64 r5, .int .i64 s5]
                replace ht := ht.below bb9
                replace ba := ba.below bb9
                replace bb := bb.below bb9
                replace bc := bc.below bb9
                replace b1 := b1.below bb9
                replace b2 := b2.below bb9
                replace b3 := b3.below bb9
                replace b4 := b4.below bb9
                replace b5 := b5.below bb9
                replace b6 := b6.below bb9
                replace b7 := b7.below bb9
                replace b8 := b8.below bb9
                replace b9 := b9.below bb9
                replace bW := bW.trans (bb9.mono bW.size)
                clear bb9
                obtain ⟨b9o0, b9o1, b9o2, b9o3, -⟩ := b9.open4
                obtain ⟨b10o0, b10o1, b10o2, b10o3, -⟩ := b10.open4
                go_wp2
                go_ret
                exact ⟨rfl, bW⟩
        · skip
          obtain ⟨V8, hV8, b6, bb9, -⟩ := boxed w8 25 #[.int .i64 m1, .int .i64 m2, .int .i64 m3, .int .i64 m4]
          replace ht := ht.below bb9
          replace ba := ba.below bb9
          replace bb := bb.below bb9
          replace bc := bc.below bb9
          replace b1 := b1.below bb9
          replace b2 := b2.below bb9
          replace b3 := b3.below bb9
          replace b4 := b4.below bb9
          replace b5 := b5.below bb9
          replace bW := bW.trans (bb9.mono bW.size)
          clear bb9
          go_wp2_with fail
          obtain ⟨q21, hq⟩ : ∃ q, w8.heap.size = q := ⟨_, rfl⟩
          rw [hq] at b6 ⊢
          clear hV8 hq
          obtain ⟨u0, hu0, bb9⟩ : ∃ u0, V8.drew = u0 ∧ Below V8.heap.size V8 u0 := ⟨_, rfl, (Below.refl _ _).drew⟩
          replace ht := ht.below bb9
          replace ba := ba.below bb9
          replace bb := bb.below bb9
          replace bc := bc.below bb9
          replace b1 := b1.below bb9
          replace b2 := b2.below bb9
          replace b3 := b3.below bb9
          replace b4 := b4.below bb9
          replace b5 := b5.below bb9
          replace b6 := b6.below bb9
          replace bW := bW.trans (bb9.mono bW.size)
          clear bb9
          refine wp_region_held_drew (S := Ab8 q13 q21 #[.int .i64 p1, .int .i64 q1, .int .i64 r1, .int .i64 s1] #[.int .i64 m1, .int .i64 m2, .int .i64 m3, .int .i64 m4]) (by kernel_rfl) (by rw [hu0]; exact ab8_of b1 b6) (fun hHeld => ?_)
          rw [hu0] at hHeld ⊢
          clear hu0
          change wpAnyH _ _ _ _ _ 11 #[false, false, false, false, false, false, false, false, false, false, false] _ _
          refine wpAnyH_take (i := 0) (v := .bool true) rfl (by kernel_rfl) (by kernel_rfl) (by kernel_rfl) (fun _ _ _ h => h) (Or.inl ⟨by kernel_rfl, ?_⟩) hHeld ?_
          · intro w' hSw; go_simp
          try simp only [Act.put, List.setIfInBounds_toArray, List.set_cons_zero, List.set_cons_succ, List.getElem_toArray, List.getElem_cons_zero]
          refine wpAnyH_take (i := 1) (v := .bool true) rfl (by kernel_rfl) (by kernel_rfl) (by kernel_rfl) (fun _ _ _ h => h) (Or.inl ⟨by kernel_rfl, ?_⟩) hHeld ?_
          · intro w' hSw; go_simp
          try simp only [Act.put, List.setIfInBounds_toArray, List.set_cons_zero, List.set_cons_succ, List.getElem_toArray, List.getElem_cons_succ, List.getElem_cons_zero]
          refine wpAnyH_take (i := 2) (v := cV p1 q1 r1 s1) rfl (by kernel_rfl) (by kernel_rfl) (by kernel_rfl) (fun _ _ _ h => h) (Or.inl ⟨by kernel_rfl, ?_⟩) hHeld ?_
          · intro w' hSw; obtain ⟨⟨z0, z1, z2, z3⟩, h1, h2, h3, h4⟩ := ab8_out hSw; go_simp
          try simp only [Act.put, List.setIfInBounds_toArray, List.set_cons_zero, List.set_cons_succ, List.getElem_toArray, List.getElem_cons_succ, List.getElem_cons_zero]
          refine wpAnyH_ready (rs := [3]) (by kernel_rfl) (by simp) ?_
          refine AllReadyH.cons rfl (fun KK hK' => ?_) AllReadyH.nil
          go_simp
          refine (specOk_any _ _ _ _ _).mono ?_
          rintro e u1 ⟨rfl, bb9⟩
          replace ht := ht.below bb9
          replace ba := ba.below bb9
          replace bb := bb.below bb9
          replace bc := bc.below bb9
          replace b1 := b1.below bb9
          replace b2 := b2.below bb9
          replace b3 := b3.below bb9
          replace b4 := b4.below bb9
          replace b5 := b5.below bb9
          replace b6 := b6.below bb9
          replace bW := bW.trans (bb9.mono bW.size)
          clear bb9
          try go_wp2_with fail
          clear hHeld
          refine hK'.out _ _ (ab8_of b1 b6) (fun hHeld => ?_)
          clear hK' KK
          try simp only [List.setIfInBounds_toArray, List.set_cons_zero, List.set_cons_succ]
          cases hK : cOk p1 q1 r1 s1
          · skip
            refine wpAnyH_take (i := 4) (v := .bool false) rfl (by kernel_rfl) (by kernel_rfl) (by kernel_rfl) (fun _ _ _ h => h) (Or.inl ⟨by kernel_rfl, ?_⟩) hHeld ?_
            · intro w' hSw; go_simp
            try simp only [Act.put, List.setIfInBounds_toArray, List.set_cons_zero, List.set_cons_succ, List.getElem_toArray, List.getElem_cons_succ, List.getElem_cons_zero]
            refine wpAnyH_take (i := 5) (v := .bool false) rfl (by kernel_rfl) (by kernel_rfl) (by kernel_rfl) (fun _ _ _ h => h) (Or.inl ⟨by kernel_rfl, ?_⟩) hHeld ?_
            · intro w' hSw; go_simp
            try simp only [Act.put, List.setIfInBounds_toArray, List.set_cons_zero, List.set_cons_succ, List.getElem_toArray, List.getElem_cons_succ, List.getElem_cons_zero]
            refine wpAnyH_take (i := 6) (v := undef) rfl (by kernel_rfl) (by kernel_rfl) (by kernel_rfl) (fun _ _ _ h => h) (Or.inr ⟨by kernel_rfl, rfl⟩) hHeld ?_
            try simp only [Act.put, List.setIfInBounds_toArray, List.set_cons_zero, List.set_cons_succ, List.getElem_toArray, List.getElem_cons_succ, List.getElem_cons_zero]
            refine wpAnyH_take (i := 7) (v := undef) rfl (by kernel_rfl) (by kernel_rfl) (by kernel_rfl) (fun _ _ _ h => h) (Or.inr ⟨by kernel_rfl, rfl⟩) hHeld ?_
            try simp only [Act.put, List.setIfInBounds_toArray, List.set_cons_zero, List.set_cons_succ, List.getElem_toArray, List.getElem_cons_succ, List.getElem_cons_zero]
            refine wpAnyH_take (i := 8) (v := undef) rfl (by kernel_rfl) (by kernel_rfl) (by kernel_rfl) (fun _ _ _ h => h) (Or.inr ⟨by kernel_rfl, rfl⟩) hHeld ?_
            try simp only [Act.put, List.setIfInBounds_toArray, List.set_cons_zero, List.set_cons_succ, List.getElem_toArray, List.getElem_cons_succ, List.getElem_cons_zero]
            refine wpAnyH_take (i := 9) (v := undef) rfl (by kernel_rfl) (by kernel_rfl) (by kernel_rfl) (fun _ _ _ h => h) (Or.inr ⟨by kernel_rfl, rfl⟩) hHeld ?_
            try simp only [Act.put, List.setIfInBounds_toArray, List.set_cons_zero, List.set_cons_succ, List.getElem_toArray, List.getElem_cons_succ, List.getElem_cons_zero]
            refine wpAnyH_take (i := 10) (v := .bool false) rfl (by kernel_rfl) (by kernel_rfl) (by kernel_rfl) (fun _ _ _ h => h) (Or.inl ⟨by kernel_rfl, ?_⟩) hHeld ?_
            · intro w' hSw; go_simp
            try simp only [Act.put, List.setIfInBounds_toArray, List.set_cons_zero, List.set_cons_succ, List.getElem_toArray, List.getElem_cons_succ, List.getElem_cons_zero]
            refine wpAnyH_done (by kernel_rfl) ?_ _
            clear hHeld
            cases v2
            · go_wp2
              go_ret
              exact ⟨rfl, bW⟩
            · skip
              obtain ⟨b1o0, b1o1, b1o2, b1o3, -⟩ := b1.open4
              obtain ⟨bco0, bco1, bco2, bco3, -⟩ := bc.open4
              obtain ⟨p5, q5, r5, s5, v5, hm5⟩ := mulR_parts p1 q1 r1 s1 c1 c2 c3 c4
              obtain ⟨p6, q6, r6, s6, v6, hm6⟩ := mulR_parts x y z u p2 q2 r2 s2
              go_wp2_with fail
              refine (specMul_any _ _ _ _ _ _ _ _ _).mono ?_
              rintro e w9 ⟨rfl, bb9⟩
              rw [hm5]
              replace ht := ht.below bb9
              replace ba := ba.below bb9
              replace bb := bb.below bb9
              replace bc := bc.below bb9
              replace b1 := b1.below bb9
              replace b2 := b2.below bb9
              replace b3 := b3.below bb9
              replace b4 := b4.below bb9
              replace b5 := b5.below bb9
              replace b6 := b6.below bb9
              replace bW := bW.trans (bb9.mono bW.size)
              clear bb9
              clear b1o0 b1o1 b1o2 b1o3
              clear bco0 bco1 bco2 bco3
              obtain ⟨V9, hV9, b7, bb9, -⟩ := boxed w9 25 #[.int .i64 p5, .int .i64 q5, .int .i64 r5, .int .i64 s5]
              replace ht := ht.below bb9
              replace ba := ba.below bb9
              replace bb := bb.below bb9
              replace bc := bc.below bb9
              replace b1 := b1.below bb9
              replace b2 := b2.below bb9
              replace b3 := b3.below bb9
              replace b4 := b4.below bb9
              replace b5 := b5.below bb9
              replace b6 := b6.below bb9
              replace bW := bW.trans (bb9.mono bW.size)
              clear bb9
              obtain ⟨bao0, bao1, bao2, bao3, -⟩ := ba.open4
              obtain ⟨b2o0, b2o1, b2o2, b2o3, -⟩ := b2.open4
              go_wp2_with fail
              obtain ⟨q25, hq⟩ : ∃ q, w9.heap.size = q := ⟨_, rfl⟩
              rw [hq] at b7 ⊢
              clear hV9 hq
              refine (specMul_any _ _ _ _ _ _ _ _ _).mono ?_
              rintro e w10 ⟨rfl, bb9⟩
              rw [hm6]
              replace ht := ht.below bb9
              replace ba := ba.below bb9
              replace bb := bb.below bb9
              replace bc := bc.below bb9
              replace b1 := b1.below bb9
              replace b2 := b2.below bb9
              replace b3 := b3.below bb9
              replace b4 := b4.below bb9
              replace b5 := b5.below bb9
              replace b6 := b6.below bb9
              replace b7 := b7.below bb9
              replace bW := bW.trans (bb9.mono bW.size)
              clear bb9
              clear bao0 bao1 bao2 bao3
              clear b2o0 b2o1 b2o2 b2o3
              obtain ⟨V10, hV10, b8, bb9, -⟩ := boxed w10 25 #[.int .i64 p6, .int .i64 q6, .int .i64 r6, .int .i64 s6]
              replace ht := ht.below bb9
              replace ba := ba.below bb9
              replace bb := bb.below bb9
              replace bc := bc.below bb9
              replace b1 := b1.below bb9
              replace b2 := b2.below bb9
              replace b3 := b3.below bb9
              replace b4 := b4.below bb9
              replace b5 := b5.below bb9
              replace b6 := b6.below bb9
              replace b7 := b7.below bb9
              replace bW := bW.trans (bb9.mono bW.size)
              clear bb9
              obtain ⟨b1o0, b1o1, b1o2, b1o3, -⟩ := b1.open4
              obtain ⟨bco0, bco1, bco2, bco3, -⟩ := bc.open4
              go_wp2_with fail
              obtain ⟨q27, hq⟩ : ∃ q, w10.heap.size = q := ⟨_, rfl⟩
              rw [hq] at b8 ⊢
              clear hV10 hq
              refine (implMul_any _ _ _ _ _ _ _ _ _ ht).mono ?_
              rintro e w11 ⟨rfl, bb9⟩
              rw [hm5]
              replace ht := ht.below bb9
              replace ba := ba.below bb9
              replace bb := bb.below bb9
              replace bc := bc.below bb9
              replace b1 := b1.below bb9
              replace b2 := b2.below bb9
              replace b3 := b3.below bb9
              replace b4 := b4.below bb9
              replace b5 := b5.below bb9
              replace b6 := b6.below bb9
              replace b7 := b7.below bb9
              replace b8 := b8.below bb9
              replace bW := bW.trans (bb9.mono bW.size)
              clear bb9
              clear b1o0 b1o1 b1o2 b1o3
              clear bco0 bco1 bco2 bco3
              obtain ⟨V11, hV11, b9, bb9, -⟩ := boxed w11 25 #[.int .i64 p5, .int .i64 q5, .int .i64 r5, .int .i64 s5]
              replace ht := ht.below bb9
              replace ba := ba.below bb9
              replace bb := bb.below bb9
              replace bc := bc.below bb9
              replace b1 := b1.below bb9
              replace b2 := b2.below bb9
              replace b3 := b3.below bb9
              replace b4 := b4.below bb9
              replace b5 := b5.below bb9
              replace b6 := b6.below bb9
              replace b7 := b7.below bb9
              replace b8 := b8.below bb9
              replace bW := bW.trans (bb9.mono bW.size)
              clear bb9
              obtain ⟨bao0, bao1, bao2, bao3, -⟩ := ba.open4
              obtain ⟨b2o0, b2o1, b2o2, b2o3, -⟩ := b2.open4
              go_wp2_with fail
              obtain ⟨q29, hq⟩ : ∃ q, w11.heap.size = q := ⟨_, rfl⟩
              rw [hq] at b9 ⊢
              clear hV11 hq
              refine (implMul_any _ _ _ _ _ _ _ _ _ ht).mono ?_
              rintro e w12 ⟨rfl, bb9⟩
              rw [hm6]
              replace ht := ht.below bb9
              replace ba := ba.below bb9
              replace bb := bb.below bb9
              replace bc := bc.below bb9
              replace b1 := b1.below bb9
              replace b2 := b2.below bb9
              replace b3 := b3.below bb9
              replace b4 := b4.below bb9
              replace b5 := b5.below bb9
              replace b6 := b6.below bb9
              replace b7 := b7.below bb9
              replace b8 := b8.below bb9
              replace b9 := b9.below bb9
              replace bW := bW.trans (bb9.mono bW.size)
              clear bb9
              clear bao0 bao1 bao2 bao3
              clear b2o0 b2o1 b2o2 b2o3
              cases v5
              · clear hm5 hm6
                obtain ⟨V12, hV12, b10, bb9, -⟩ := boxed w12 25 #[.int .i64 p6, .int .i64 q6, .int .i64 r6, .int .i64 s6]
                replace ht := ht.below bb9
                replace ba := ba.below bb9
                replace bb := bb.below bb9
                replace bc := bc.below bb9
                replace b1 := b1.below bb9
                replace b2 := b2.below bb9
                replace b3 := b3.below bb9
                replace b4 := b4.below bb9
                replace b5 := b5.below bb9
                replace b6 := b6.below bb9
                replace b7 := b7.below bb9
                replace b8 := b8.below bb9
                replace b9 := b9.below bb9
                replace bW := bW.trans (bb9.mono bW.size)
                clear bb9
                obtain ⟨b9o0, b9o1, b9o2, b9o3, -⟩ := b9.open4
                obtain ⟨b10o0, b10o1, b10o2, b10o3, -⟩ := b10.open4
                go_wp2
                go_ret
                exact ⟨rfl, bW⟩
              · cases v6
                · clear hm5 hm6
                  obtain ⟨V12, hV12, b10, bb9, -⟩ := boxed w12 25 #[.int .i64 p6, .int .i64 q6, .int .i64 r6, .int .i64 s6]
                  replace ht := ht.below bb9
                  replace ba := ba.below bb9
                  replace bb := bb.below bb9
                  replace bc := bc.below bb9
                  replace b1 := b1.below bb9
                  replace b2 := b2.below bb9
                  replace b3 := b3.below bb9
                  replace b4 := b4.below bb9
                  replace b5 := b5.below bb9
                  replace b6 := b6.below bb9
                  replace b7 := b7.below bb9
                  replace b8 := b8.below bb9
                  replace b9 := b9.below bb9
                  replace bW := bW.trans (bb9.mono bW.size)
                  clear bb9
                  obtain ⟨b9o0, b9o1, b9o2, b9o3, -⟩ := b9.open4
                  obtain ⟨b10o0, b10o1, b10o2, b10o3, -⟩ := b10.open4
                  go_wp2
                  go_ret
                  exact ⟨rfl, bW⟩
                · obtain ⟨rfl, rfl, rfl, rfl⟩ := mul_assoc4 hm1 hm2 hm5 hm6
                  obtain ⟨V12, hV12, b10, bb9, -⟩ := boxed w12 25 #[.int .i64 p5, .int .i64 q5, .int .i64 r5, .int .i64 s5]
                  replace ht := ht.below bb9
                  replace ba := ba.below bb9
                  replace bb := bb.below bb9
                  replace bc := bc.below bb9
                  replace b1 := b1.below bb9
                  replace b2 := b2.below bb9
                  replace b3 := b3.below bb9
                  replace b4 := b4.below bb9
                  replace b5 := b5.below bb9
                  replace b6 := b6.below bb9
                  replace b7 := b7.below bb9
                  replace b8 := b8.below bb9
                  replace b9 := b9.below bb9
                  replace bW := bW.trans (bb9.mono bW.size)
                  clear bb9
                  obtain ⟨b9o0, b9o1, b9o2, b9o3, -⟩ := b9.open4
                  obtain ⟨b10o0, b10o1, b10o2, b10o3, -⟩ := b10.open4
                  go_wp2
                  go_ret
                  exact ⟨rfl, bW⟩
          · skip
            obtain ⟨n1, n2, n3, n4, hcc⟩ := conjT_parts p1 q1 r1 s1
            refine wpAnyH_take (i := 4) (v := .bool true) rfl (by kernel_rfl) (by kernel_rfl) (by kernel_rfl) (fun _ _ _ h => h) (Or.inl ⟨by kernel_rfl, ?_⟩) hHeld ?_
            · intro w' hSw; go_simp
            try simp only [Act.put, List.setIfInBounds_toArray, List.set_cons_zero, List.set_cons_succ, List.getElem_toArray, List.getElem_cons_succ, List.getElem_cons_zero]
            refine wpAnyH_take (i := 5) (v := .bool true) rfl (by kernel_rfl) (by kernel_rfl) (by kernel_rfl) (fun _ _ _ h => h) (Or.inl ⟨by kernel_rfl, ?_⟩) hHeld ?_
            · intro w' hSw; go_simp
            try simp only [Act.put, List.setIfInBounds_toArray, List.set_cons_zero, List.set_cons_succ, List.getElem_toArray, List.getElem_cons_succ, List.getElem_cons_zero]
            refine wpAnyH_take (i := 6) (v := cV m1 m2 m3 m4) rfl (by kernel_rfl) (by kernel_rfl) (by kernel_rfl) (fun _ _ _ h => h) (Or.inl ⟨by kernel_rfl, ?_⟩) hHeld ?_
            · intro w' hSw; obtain ⟨⟨z0, z1, z2, z3⟩, h1, h2, h3, h4⟩ := ab8_out hSw; go_simp
            try simp only [Act.put, List.setIfInBounds_toArray, List.set_cons_zero, List.set_cons_succ, List.getElem_toArray, List.getElem_cons_succ, List.getElem_cons_zero]
            refine wpAnyH_take (i := 7) (v := cV p1 q1 r1 s1) rfl (by kernel_rfl) (by kernel_rfl) (by kernel_rfl) (fun _ _ _ h => h) (Or.inl ⟨by kernel_rfl, ?_⟩) hHeld ?_
            · intro w' hSw; obtain ⟨⟨z0, z1, z2, z3⟩, h1, h2, h3, h4⟩ := ab8_out hSw; go_simp
            try simp only [Act.put, List.setIfInBounds_toArray, List.set_cons_zero, List.set_cons_succ, List.getElem_toArray, List.getElem_cons_succ, List.getElem_cons_zero]
            refine wpAnyH_ready (rs := [8]) (by kernel_rfl) (by simp) ?_
            refine AllReadyH.cons rfl (fun KK hK' => ?_) AllReadyH.nil
            go_simp
            refine (specConj_any _ _ _ _ _).mono ?_
            rintro e wE ⟨rfl, bb9⟩
            rw [hcc]
            replace ht := ht.below bb9
            replace ba := ba.below bb9
            replace bb := bb.below bb9
            replace bc := bc.below bb9
            replace b1 := b1.below bb9
            replace b2 := b2.below bb9
            replace b3 := b3.below bb9
            replace b4 := b4.below bb9
            replace b5 := b5.below bb9
            replace b6 := b6.below bb9
            replace bW := bW.trans (bb9.mono bW.size)
            clear bb9
            try go_wp2_with fail
            clear hHeld
            refine hK'.out _ _ (ab8_of b1 b6) (fun hHeld => ?_)
            clear hK' KK
            try simp only [List.setIfInBounds_toArray, List.set_cons_zero, List.set_cons_succ]
            by_cases hE : m1 = n1 ∧ m2 = n2 ∧ m3 = n3 ∧ m4 = n4
            · obtain ⟨rfl, rfl, rfl, rfl⟩ := hE
              refine wpAnyH_take (i := 9) (v := .bool true) rfl (by kernel_rfl) (by kernel_rfl) (by kernel_rfl) (fun _ _ _ h => h) (Or.inl ⟨by kernel_rfl, ?_⟩) hHeld ?_
              · intro w' hSw; go_simp
              try simp only [Act.put, List.setIfInBounds_toArray, List.set_cons_zero, List.set_cons_succ, List.getElem_toArray, List.getElem_cons_succ, List.getElem_cons_zero]
              refine wpAnyH_take (i := 10) (v := .bool true) rfl (by kernel_rfl) (by kernel_rfl) (by kernel_rfl) (fun _ _ _ h => h) (Or.inl ⟨by kernel_rfl, ?_⟩) hHeld ?_
              · intro w' hSw; go_simp
              try simp only [Act.put, List.setIfInBounds_toArray, List.set_cons_zero, List.set_cons_succ, List.getElem_toArray, List.getElem_cons_succ, List.getElem_cons_zero]
              refine wpAnyH_done (by kernel_rfl) ?_ _
              clear hHeld
              go_wp2_with fail
              go_cut [23, 24] from 107 to 115 (fun s23 s24 wc => ∃ g, s23 = .pointer (some ⟨g, 0, none⟩) ∧ s24 = .bool true ∧ At 25 wc g #[.int .i64 m1, .int .i64 m2, .int .i64 m3, .int .i64 m4] ∧ Kb wE wc)
              case first =>
                have F : Kb wE wE := Below.refl _ _
                have by8 := bb
                clear bb
                obtain ⟨u0, hu0, bb⟩ : ∃ u0, wE.drew = u0 ∧ Below wE.heap.size wE u0 := ⟨_, rfl, (Below.refl _ _).drew⟩
                replace F := F.below bb
                clear bb
                refine wp_region_held_drew (S := Ab8 qa qb #[.int .i64 x, .int .i64 y, .int .i64 z, .int .i64 u] #[.int .i64 x', .int .i64 y', .int .i64 z', .int .i64 u']) (by kernel_rfl) (by rw [hu0]; exact ab8_of (ba.below F) (by8.below F)) (fun hHeld => ?_)
                rw [hu0] at hHeld ⊢
                clear hu0
                change wpAnyH _ _ _ _ _ 11 #[false, false, false, false, false, false, false, false, false, false, false] _ _
                refine wpAnyH_take (i := 0) (v := cV x y z u) rfl (by kernel_rfl) (by kernel_rfl) (by kernel_rfl) (fun _ _ _ h => h) (Or.inl ⟨by kernel_rfl, ?_⟩) hHeld ?_
                · intro w' hSw; obtain ⟨⟨z0, z1, z2, z3⟩, h1, h2, h3, h4⟩ := ab8_out hSw; go_simp
                try simp only [Act.put, List.setIfInBounds_toArray, List.set_cons_zero, List.set_cons_succ, List.getElem_toArray, List.getElem_cons_zero]
                refine wpAnyH_take (i := 2) (v := cV x' y' z' u') rfl (by kernel_rfl) (by kernel_rfl) (by kernel_rfl) (fun _ _ _ h => h) (Or.inl ⟨by kernel_rfl, ?_⟩) hHeld ?_
                · intro w' hSw; obtain ⟨⟨z0, z1, z2, z3⟩, h1, h2, h3, h4⟩ := ab8_out hSw; go_simp
                try simp only [Act.put, List.setIfInBounds_toArray, List.set_cons_zero, List.set_cons_succ, List.getElem_toArray, List.getElem_cons_succ, List.getElem_cons_zero]
                refine wpAnyH_ready (rs := [1, 8]) (by kernel_rfl) (by simp) ?_
                refine AllReadyH.cons rfl (fun KK hK' => ?_) (AllReadyH.cons rfl (fun KK hK' => ?_) AllReadyH.nil)
                · go_simp
                  refine (implConj_any x y z u _ (ht.below F)).mono ?_
                  rintro e u1 ⟨rfl, bb⟩
                  rw [hca]
                  replace F := F.below bb
                  clear bb
                  try go_wp2_with fail
                  clear hHeld
                  refine hK'.out _ _ (ab8_of (ba.below F) (by8.below F)) (fun hHeld => ?_)
                  clear hK' KK
                  try simp only [List.setIfInBounds_toArray, List.set_cons_zero, List.set_cons_succ]
                  refine wpAnyH_ready (rs := [3, 8]) (by kernel_rfl) (by simp) ?_
                  refine AllReadyH.cons rfl (fun KK hK' => ?_) (AllReadyH.cons rfl (fun KK hK' => ?_) AllReadyH.nil)
                  · go_simp
                    refine (implConj_any x' y' z' u' _ (ht.below F)).mono ?_
                    rintro e u2 ⟨rfl, bb⟩
                    rw [hcb]
                    replace F := F.below bb
                    clear bb
                    try go_wp2_with fail
                    clear hHeld
                    refine hK'.out _ _ (ab8_of (ba.below F) (by8.below F)) (fun hHeld => ?_)
                    clear hK' KK
                    try simp only [List.setIfInBounds_toArray, List.set_cons_zero, List.set_cons_succ]
                    refine wpAnyH_ready (rs := [4, 8]) (by kernel_rfl) (by simp) ?_
                    refine AllReadyH.cons rfl (fun KK hK' => ?_) (AllReadyH.cons rfl (fun KK hK' => ?_) AllReadyH.nil)
                    · go_simp
                      refine (implMul_any pa1 pa2 pa3 pa4 pb1 pb2 pb3 pb4 _ (ht.below F)).mono ?_
                      rintro e u3 ⟨rfl, bb⟩
                      rw [hm3]
                      replace F := F.below bb
                      clear bb
                      try go_wp2_with fail
                      clear hHeld
                      refine hK'.out _ _ (ab8_of (ba.below F) (by8.below F)) (fun hHeld => ?_)
                      clear hK' KK
                      try simp only [List.setIfInBounds_toArray, List.set_cons_zero, List.set_cons_succ]
                      refine wpAnyH_take (i := 5) (v := .tuple #[cV m1 m2 m3 m4, .bool true]) rfl (by kernel_rfl) (by kernel_rfl) (by kernel_rfl) (fun _ _ _ h => h) (Or.inl ⟨by kernel_rfl, ?_⟩) hHeld ?_
                      · intro w' hSw; go_simp
                      try simp only [Act.put, List.setIfInBounds_toArray, List.set_cons_zero, List.set_cons_succ, List.getElem_toArray, List.getElem_cons_succ, List.getElem_cons_zero]
                      refine wpAnyH_take (i := 6) (v := cV m1 m2 m3 m4) rfl (by kernel_rfl) (by kernel_rfl) (by kernel_rfl) (fun _ _ _ h => h) (Or.inl ⟨by kernel_rfl, ?_⟩) hHeld ?_
                      · intro w' hSw; go_simp
                      try simp only [Act.put, List.setIfInBounds_toArray, List.set_cons_zero, List.set_cons_succ, List.getElem_toArray, List.getElem_cons_succ, List.getElem_cons_zero]
                      refine wpAnyH_take (i := 7) (v := .bool true) rfl (by kernel_rfl) (by kernel_rfl) (by kernel_rfl) (fun _ _ _ h => h) (Or.inl ⟨by kernel_rfl, ?_⟩) hHeld ?_
                      · intro w' hSw; go_simp
                      try simp only [Act.put, List.setIfInBounds_toArray, List.set_cons_zero, List.set_cons_succ, List.getElem_toArray, List.getElem_cons_succ, List.getElem_cons_zero]
                      refine wpAnyH_ready (rs := [8]) (by kernel_rfl) (by simp) ?_
                      refine AllReadyH.cons rfl (fun KK hK' => ?_) AllReadyH.nil
                      go_simp
                      obtain ⟨V3, hV, rb, bb, -⟩ := boxed u3 25 #[.int .i64 0, .int .i64 0, .int .i64 0, .int .i64 0]
                      rw [hV]
                      have hp := kb_lt F
                      obtain ⟨p, hpp⟩ : ∃ p, u3.heap.size = p := ⟨_, rfl⟩
                      rw [hpp] at hp rb ⊢
                      clear hV hpp
                      replace F := F.below bb
                      clear bb
                      clear hHeld
                      refine hK'.out _ _ (ab8_of (ba.below F) (by8.below F)) (fun hHeld => ?_)
                      clear hK' KK
                      try simp only [List.setIfInBounds_toArray, List.set_cons_zero, List.set_cons_succ]
                      refine wpAnyH_ready (rs := [9]) (by kernel_rfl) (by simp) ?_
                      refine AllReadyH.cons rfl (fun KK hK' => ?_) AllReadyH.nil
                      obtain ⟨y0, y1, y2, y3, g0, g1, g2, g3⟩ := rb.open4
                      go_simp
                      obtain ⟨u9, hu9, rb9, F9⟩ := kb_fill F hp rb (.int .i64 m1) (.int .i64 m2) (.int .i64 m3) (.int .i64 m4)
                      rw [hu9]
                      clear hu9 rb y0 y1 y2 y3 g0 g1 g2 g3 F
                      have F := F9
                      have rb := rb9
                      clear F9 rb9
                      clear hHeld
                      refine hK'.out _ _ (ab8_of (ba.below F) (by8.below F)) (fun hHeld => ?_)
                      clear hK' KK
                      try simp only [List.setIfInBounds_toArray, List.set_cons_zero, List.set_cons_succ]
                      refine wpAnyH_take (i := 10) (v := .bool true) rfl (by kernel_rfl) (by kernel_rfl) (by kernel_rfl) (fun _ _ _ h => h) (Or.inl ⟨by kernel_rfl, ?_⟩) hHeld ?_
                      · intro w' hSw; go_simp
                      try simp only [Act.put, List.setIfInBounds_toArray, List.set_cons_zero, List.set_cons_succ, List.getElem_toArray, List.getElem_cons_succ, List.getElem_cons_zero]
                      refine wpAnyH_done (by kernel_rfl) ?_ _
                      go_wp2_with fail
                      go_meet
                      case rel => exact ⟨p, rfl, rfl, rb, F⟩
                    · go_simp
                      obtain ⟨V2, hV, rb, bb, -⟩ := boxed u2 25 #[.int .i64 0, .int .i64 0, .int .i64 0, .int .i64 0]
                      rw [hV]
                      have hp := kb_lt F
                      obtain ⟨p, hpp⟩ : ∃ p, u2.heap.size = p := ⟨_, rfl⟩
                      rw [hpp] at hp rb ⊢
                      clear hV hpp
                      replace F := F.below bb
                      clear bb
                      clear hHeld
                      refine hK'.out _ _ (ab8_of (ba.below F) (by8.below F)) (fun hHeld => ?_)
                      clear hK' KK
                      try simp only [List.setIfInBounds_toArray, List.set_cons_zero, List.set_cons_succ]
                      refine wpAnyH_ready (rs := [4]) (by kernel_rfl) (by simp) ?_
                      refine AllReadyH.cons rfl (fun KK hK' => ?_) AllReadyH.nil
                      go_simp
                      refine (implMul_any pa1 pa2 pa3 pa4 pb1 pb2 pb3 pb4 _ (ht.below F)).mono ?_
                      rintro e u3 ⟨rfl, bb⟩
                      rw [hm3]
                      replace F := F.below bb
                      replace rb := rb.below bb
                      clear bb
                      try go_wp2_with fail
                      clear hHeld
                      refine hK'.out _ _ (ab8_of (ba.below F) (by8.below F)) (fun hHeld => ?_)
                      clear hK' KK
                      try simp only [List.setIfInBounds_toArray, List.set_cons_zero, List.set_cons_succ]
                      refine wpAnyH_take (i := 5) (v := .tuple #[cV m1 m2 m3 m4, .bool true]) rfl (by kernel_rfl) (by kernel_rfl) (by kernel_rfl) (fun _ _ _ h => h) (Or.inl ⟨by kernel_rfl, ?_⟩) hHeld ?_
                      · intro w' hSw; go_simp
                      try simp only [Act.put, List.setIfInBounds_toArray, List.set_cons_zero, List.set_cons_succ, List.getElem_toArray, List.getElem_cons_succ, List.getElem_cons_zero]
                      refine wpAnyH_take (i := 6) (v := cV m1 m2 m3 m4) rfl (by kernel_rfl) (by kernel_rfl) (by kernel_rfl) (fun _ _ _ h => h) (Or.inl ⟨by kernel_rfl, ?_⟩) hHeld ?_
                      · intro w' hSw; go_simp
                      try simp only [Act.put, List.setIfInBounds_toArray, List.set_cons_zero, List.set_cons_succ, List.getElem_toArray, List.getElem_cons_succ, List.getElem_cons_zero]
                      refine wpAnyH_take (i := 7) (v := .bool true) rfl (by kernel_rfl) (by kernel_rfl) (by kernel_rfl) (fun _ _ _ h => h) (Or.inl ⟨by kernel_rfl, ?_⟩) hHeld ?_
                      · intro w' hSw; go_simp
                      try simp only [Act.put, List.setIfInBounds_toArray, List.set_cons_zero, List.set_cons_succ, List.getElem_toArray, List.getElem_cons_succ, List.getElem_cons_zero]
                      refine wpAnyH_ready (rs := [9]) (by kernel_rfl) (by simp) ?_
                      refine AllReadyH.cons rfl (fun KK hK' => ?_) AllReadyH.nil
                      obtain ⟨y0, y1, y2, y3, g0, g1, g2, g3⟩ := rb.open4
                      go_simp
                      obtain ⟨u9, hu9, rb9, F9⟩ := kb_fill F hp rb (.int .i64 m1) (.int .i64 m2) (.int .i64 m3) (.int .i64 m4)
                      rw [hu9]
                      clear hu9 rb y0 y1 y2 y3 g0 g1 g2 g3 F
                      have F := F9
                      have rb := rb9
                      clear F9 rb9
                      clear hHeld
                      refine hK'.out _ _ (ab8_of (ba.below F) (by8.below F)) (fun hHeld => ?_)
                      clear hK' KK
                      try simp only [List.setIfInBounds_toArray, List.set_cons_zero, List.set_cons_succ]
                      refine wpAnyH_take (i := 10) (v := .bool true) rfl (by kernel_rfl) (by kernel_rfl) (by kernel_rfl) (fun _ _ _ h => h) (Or.inl ⟨by kernel_rfl, ?_⟩) hHeld ?_
                      · intro w' hSw; go_simp
                      try simp only [Act.put, List.setIfInBounds_toArray, List.set_cons_zero, List.set_cons_succ, List.getElem_toArray, List.getElem_cons_succ, List.getElem_cons_zero]
                      refine wpAnyH_done (by kernel_rfl) ?_ _
                      go_wp2_with fail
                      go_meet
                      case rel => exact ⟨p, rfl, rfl, rb, F⟩
                  · go_simp
                    obtain ⟨V1, hV, rb, bb, -⟩ := boxed u1 25 #[.int .i64 0, .int .i64 0, .int .i64 0, .int .i64 0]
                    rw [hV]
                    have hp := kb_lt F
                    obtain ⟨p, hpp⟩ : ∃ p, u1.heap.size = p := ⟨_, rfl⟩
                    rw [hpp] at hp rb ⊢
                    clear hV hpp
                    replace F := F.below bb
                    clear bb
                    clear hHeld
                    refine hK'.out _ _ (ab8_of (ba.below F) (by8.below F)) (fun hHeld => ?_)
                    clear hK' KK
                    try simp only [List.setIfInBounds_toArray, List.set_cons_zero, List.set_cons_succ]
                    refine wpAnyH_ready (rs := [3]) (by kernel_rfl) (by simp) ?_
                    refine AllReadyH.cons rfl (fun KK hK' => ?_) AllReadyH.nil
                    go_simp
                    refine (implConj_any x' y' z' u' _ (ht.below F)).mono ?_
                    rintro e u2 ⟨rfl, bb⟩
                    rw [hcb]
                    replace F := F.below bb
                    replace rb := rb.below bb
                    clear bb
                    try go_wp2_with fail
                    clear hHeld
                    refine hK'.out _ _ (ab8_of (ba.below F) (by8.below F)) (fun hHeld => ?_)
                    clear hK' KK
                    try simp only [List.setIfInBounds_toArray, List.set_cons_zero, List.set_cons_succ]
                    refine wpAnyH_ready (rs := [4]) (by kernel_rfl) (by simp) ?_
                    refine AllReadyH.cons rfl (fun KK hK' => ?_) AllReadyH.nil
                    go_simp
                    refine (implMul_any pa1 pa2 pa3 pa4 pb1 pb2 pb3 pb4 _ (ht.below F)).mono ?_
                    rintro e u3 ⟨rfl, bb⟩
                    rw [hm3]
                    replace F := F.below bb
                    replace rb := rb.below bb
                    clear bb
                    try go_wp2_with fail
                    clear hHeld
                    refine hK'.out _ _ (ab8_of (ba.below F) (by8.below F)) (fun hHeld => ?_)
                    clear hK' KK
                    try simp only [List.setIfInBounds_toArray, List.set_cons_zero, List.set_cons_succ]
                    refine wpAnyH_take (i := 5) (v := .tuple #[cV m1 m2 m3 m4, .bool true]) rfl (by kernel_rfl) (by kernel_rfl) (by kernel_rfl) (fun _ _ _ h => h) (Or.inl ⟨by kernel_rfl, ?_⟩) hHeld ?_
                    · intro w' hSw; go_simp
                    try simp only [Act.put, List.setIfInBounds_toArray, List.set_cons_zero, List.set_cons_succ, List.getElem_toArray, List.getElem_cons_succ, List.getElem_cons_zero]
                    refine wpAnyH_take (i := 6) (v := cV m1 m2 m3 m4) rfl (by kernel_rfl) (by kernel_rfl) (by kernel_rfl) (fun _ _ _ h => h) (Or.inl ⟨by kernel_rfl, ?_⟩) hHeld ?_
                    · intro w' hSw; go_simp
                    try simp only [Act.put, List.setIfInBounds_toArray, List.set_cons_zero, List.set_cons_succ, List.getElem_toArray, List.getElem_cons_succ, List.getElem_cons_zero]
                    refine wpAnyH_take (i := 7) (v := .bool true) rfl (by kernel_rfl) (by kernel_rfl) (by kernel_rfl) (fun _ _ _ h => h) (Or.inl ⟨by kernel_rfl, ?_⟩) hHeld ?_
                    · intro w' hSw; go_simp
                    try simp only [Act.put, List.setIfInBounds_toArray, List.set_cons_zero, List.set_cons_succ, List.getElem_toArray, List.getElem_cons_succ, List.getElem_cons_zero]
                    refine wpAnyH_ready (rs := [9]) (by kernel_rfl) (by simp) ?_
                    refine AllReadyH.cons rfl (fun KK hK' => ?_) AllReadyH.nil
                    obtain ⟨y0, y1, y2, y3, g0, g1, g2, g3⟩ := rb.open4
                    go_simp
                    obtain ⟨u9, hu9, rb9, F9⟩ := kb_fill F hp rb (.int .i64 m1) (.int .i64 m2) (.int .i64 m3) (.int .i64 m4)
                    rw [hu9]
                    clear hu9 rb y0 y1 y2 y3 g0 g1 g2 g3 F
                    have F := F9
                    have rb := rb9
                    clear F9 rb9
                    clear hHeld
                    refine hK'.out _ _ (ab8_of (ba.below F) (by8.below F)) (fun hHeld => ?_)
                    clear hK' KK
                    try simp only [List.setIfInBounds_toArray, List.set_cons_zero, List.set_cons_succ]
                    refine wpAnyH_take (i := 10) (v := .bool true) rfl (by kernel_rfl) (by kernel_rfl) (by kernel_rfl) (fun _ _ _ h => h) (Or.inl ⟨by kernel_rfl, ?_⟩) hHeld ?_
                    · intro w' hSw; go_simp
                    try simp only [Act.put, List.setIfInBounds_toArray, List.set_cons_zero, List.set_cons_succ, List.getElem_toArray, List.getElem_cons_succ, List.getElem_cons_zero]
                    refine wpAnyH_done (by kernel_rfl) ?_ _
                    go_wp2_with fail
                    go_meet
                    case rel => exact ⟨p, rfl, rfl, rb, F⟩
                · go_simp
                  obtain ⟨V0, hV, rb, bb, -⟩ := boxed u0 25 #[.int .i64 0, .int .i64 0, .int .i64 0, .int .i64 0]
                  rw [hV]
                  have hp := kb_lt F
                  obtain ⟨p, hpp⟩ : ∃ p, u0.heap.size = p := ⟨_, rfl⟩
                  rw [hpp] at hp rb ⊢
                  clear hV hpp
                  replace F := F.below bb
                  clear bb
                  clear hHeld
                  refine hK'.out _ _ (ab8_of (ba.below F) (by8.below F)) (fun hHeld => ?_)
                  clear hK' KK
                  try simp only [List.setIfInBounds_toArray, List.set_cons_zero, List.set_cons_succ]
                  refine wpAnyH_ready (rs := [1]) (by kernel_rfl) (by simp) ?_
                  refine AllReadyH.cons rfl (fun KK hK' => ?_) AllReadyH.nil
                  go_simp
                  refine (implConj_any x y z u _ (ht.below F)).mono ?_
                  rintro e u1 ⟨rfl, bb⟩
                  rw [hca]
                  replace F := F.below bb
                  replace rb := rb.below bb
                  clear bb
                  try go_wp2_with fail
                  clear hHeld
                  refine hK'.out _ _ (ab8_of (ba.below F) (by8.below F)) (fun hHeld => ?_)
                  clear hK' KK
                  try simp only [List.setIfInBounds_toArray, List.set_cons_zero, List.set_cons_succ]
                  refine wpAnyH_ready (rs := [3]) (by kernel_rfl) (by simp) ?_
                  refine AllReadyH.cons rfl (fun KK hK' => ?_) AllReadyH.nil
                  go_simp
                  refine (implConj_any x' y' z' u' _ (ht.below F)).mono ?_
                  rintro e u2 ⟨rfl, bb⟩
                  rw [hcb]
                  replace F := F.below bb
                  replace rb := rb.below bb
                  clear bb
                  try go_wp2_with fail
                  clear hHeld
                  refine hK'.out _ _ (ab8_of (ba.below F) (by8.below F)) (fun hHeld => ?_)
                  clear hK' KK
                  try simp only [List.setIfInBounds_toArray, List.set_cons_zero, List.set_cons_succ]
                  refine wpAnyH_ready (rs := [4]) (by kernel_rfl) (by simp) ?_
                  refine AllReadyH.cons rfl (fun KK hK' => ?_) AllReadyH.nil
                  go_simp
                  refine (implMul_any pa1 pa2 pa3 pa4 pb1 pb2 pb3 pb4 _ (ht.below F)).mono ?_
                  rintro e u3 ⟨rfl, bb⟩
                  rw [hm3]
                  replace F := F.below bb
                  replace rb := rb.below bb
                  clear bb
                  try go_wp2_with fail
                  clear hHeld
                  refine hK'.out _ _ (ab8_of (ba.below F) (by8.below F)) (fun hHeld => ?_)
                  clear hK' KK
                  try simp only [List.setIfInBounds_toArray, List.set_cons_zero, List.set_cons_succ]
                  refine wpAnyH_take (i := 5) (v := .tuple #[cV m1 m2 m3 m4, .bool true]) rfl (by kernel_rfl) (by kernel_rfl) (by kernel_rfl) (fun _ _ _ h => h) (Or.inl ⟨by kernel_rfl, ?_⟩) hHeld ?_
                  · intro w' hSw; go_simp
                  try simp only [Act.put, List.setIfInBounds_toArray, List.set_cons_zero, List.set_cons_succ, List.getElem_toArray, List.getElem_cons_succ, List.getElem_cons_zero]
                  refine wpAnyH_take (i := 6) (v := cV m1 m2 m3 m4) rfl (by kernel_rfl) (by kernel_rfl) (by kernel_rfl) (fun _ _ _ h => h) (Or.inl ⟨by kernel_rfl, ?_⟩) hHeld ?_
                  · intro w' hSw; go_simp
                  try simp only [Act.put, List.setIfInBounds_toArray, List.set_cons_zero, List.set_cons_succ, List.getElem_toArray, List.getElem_cons_succ, List.getElem_cons_zero]
                  refine wpAnyH_take (i := 7) (v := .bool true) rfl (by kernel_rfl) (by kernel_rfl) (by kernel_rfl) (fun _ _ _ h => h) (Or.inl ⟨by kernel_rfl, ?_⟩) hHeld ?_
                  · intro w' hSw; go_simp
                  try simp only [Act.put, List.setIfInBounds_toArray, List.set_cons_zero, List.set_cons_succ, List.getElem_toArray, List.getElem_cons_succ, List.getElem_cons_zero]
                  refine wpAnyH_ready (rs := [9]) (by kernel_rfl) (by simp) ?_
                  refine AllReadyH.cons rfl (fun KK hK' => ?_) AllReadyH.nil
                  obtain ⟨y0, y1, y2, y3, g0, g1, g2, g3⟩ := rb.open4
                  go_simp
                  obtain ⟨u9, hu9, rb9, F9⟩ := kb_fill F hp rb (.int .i64 m1) (.int .i64 m2) (.int .i64 m3) (.int .i64 m4)
                  rw [hu9]
                  clear hu9 rb y0 y1 y2 y3 g0 g1 g2 g3 F
                  have F := F9
                  have rb := rb9
                  clear F9 rb9
                  clear hHeld
                  refine hK'.out _ _ (ab8_of (ba.below F) (by8.below F)) (fun hHeld => ?_)
                  clear hK' KK
                  try simp only [List.setIfInBounds_toArray, List.set_cons_zero, List.set_cons_succ]
                  refine wpAnyH_take (i := 10) (v := .bool true) rfl (by kernel_rfl) (by kernel_rfl) (by kernel_rfl) (fun _ _ _ h => h) (Or.inl ⟨by kernel_rfl, ?_⟩) hHeld ?_
                  · intro w' hSw; go_simp
                  try simp only [Act.put, List.setIfInBounds_toArray, List.set_cons_zero, List.set_cons_succ, List.getElem_toArray, List.getElem_cons_succ, List.getElem_cons_zero]
                  refine wpAnyH_done (by kernel_rfl) ?_ _
                  go_wp2_with fail
                  go_meet
                  case rel => exact ⟨p, rfl, rfl, rb, F⟩
              case rest =>
                obtain ⟨qy, rfl, rfl, by9, F⟩ := hcut
                replace ht := ht.below F
                replace ba := ba.below F
                replace bb := bb.below F
                replace bc := bc.below F
                replace b1 := b1.below F
                replace b2 := b2.below F
                replace b3 := b3.below F
                replace b4 := b4.below F
                replace b5 := b5.below F
                replace b6 := b6.below F
                replace bW := bW.trans (F.mono bW.size)
                clear F
                go_wp2_with fail
                obtain ⟨u0, hu0, bb9⟩ : ∃ u0, wc.drew = u0 ∧ Below wc.heap.size wc u0 := ⟨_, rfl, (Below.refl _ _).drew⟩
                replace ht := ht.below bb9
                replace ba := ba.below bb9
                replace bb := bb.below bb9
                replace bc := bc.below bb9
                replace b1 := b1.below bb9
                replace b2 := b2.below bb9
                replace b3 := b3.below bb9
                replace b4 := b4.below bb9
                replace b5 := b5.below bb9
                replace b6 := b6.below bb9
                replace by9 := by9.below bb9
                replace bW := bW.trans (bb9.mono bW.size)
                clear bb9
                refine wp_region_held_drew (S := Ab8 qy q17 #[.int .i64 m1, .int .i64 m2, .int .i64 m3, .int .i64 m4] #[.int .i64 p1, .int .i64 q1, .int .i64 r1, .int .i64 s1]) (by kernel_rfl) (by rw [hu0]; exact ab8_of by9 b3) (fun hHeld => ?_)
                rw [hu0] at hHeld ⊢
                clear hu0
                change wpAnyH _ _ _ _ _ 4 #[false, false, false, false] _ _
                refine wpAnyH_take (i := 0) (v := cV m1 m2 m3 m4) rfl (by kernel_rfl) (by kernel_rfl) (by kernel_rfl) (fun _ _ _ h => h) (Or.inl ⟨by kernel_rfl, ?_⟩) hHeld ?_
                · intro w' hSw; obtain ⟨⟨z0, z1, z2, z3⟩, h1, h2, h3, h4⟩ := ab8_out hSw; go_simp
                try simp only [Act.put, List.setIfInBounds_toArray, List.set_cons_zero, List.set_cons_succ, List.getElem_toArray, List.getElem_cons_zero]
                refine wpAnyH_take (i := 1) (v := cV p1 q1 r1 s1) rfl (by kernel_rfl) (by kernel_rfl) (by kernel_rfl) (fun _ _ _ h => h) (Or.inl ⟨by kernel_rfl, ?_⟩) hHeld ?_
                · intro w' hSw; obtain ⟨⟨z0, z1, z2, z3⟩, h1, h2, h3, h4⟩ := ab8_out hSw; go_simp
                try simp only [Act.put, List.setIfInBounds_toArray, List.set_cons_zero, List.set_cons_succ, List.getElem_toArray, List.getElem_cons_succ, List.getElem_cons_zero]
                refine wpAnyH_ready (rs := [2]) (by kernel_rfl) (by simp) ?_
                refine AllReadyH.cons rfl (fun KK hK' => ?_) AllReadyH.nil
                go_simp
                refine (implConj_any p1 q1 r1 s1 _ ht).mono ?_
                rintro e wF ⟨rfl, bb9⟩
                rw [hcc]
                replace ht := ht.below bb9
                replace ba := ba.below bb9
                replace bb := bb.below bb9
                replace bc := bc.below bb9
                replace b1 := b1.below bb9
                replace b2 := b2.below bb9
                replace b3 := b3.below bb9
                replace b4 := b4.below bb9
                replace b5 := b5.below bb9
                replace b6 := b6.below bb9
                replace by9 := by9.below bb9
                replace bW := bW.trans (bb9.mono bW.size)
                clear bb9
                try go_wp2_with fail
                clear hHeld
                refine hK'.out _ _ (ab8_of by9 b3) (fun hHeld => ?_)
                clear hK' KK
                try simp only [List.setIfInBounds_toArray, List.set_cons_zero, List.set_cons_succ]
                refine wpAnyH_take (i := 3) (v := .bool false) rfl (by kernel_rfl) (by kernel_rfl) (by kernel_rfl) (fun _ _ _ h => h) (Or.inl ⟨by kernel_rfl, ?_⟩) hHeld ?_
                · intro w' hSw; go_simp
                try simp only [Act.put, List.setIfInBounds_toArray, List.set_cons_zero, List.set_cons_succ, List.getElem_toArray, List.getElem_cons_succ, List.getElem_cons_zero]
                refine wpAnyH_done (by kernel_rfl) ?_ _
                clear hHeld
                cases v2
                · go_wp2
                  go_ret
                  exact ⟨rfl, bW⟩
                · skip
                  obtain ⟨b1o0, b1o1, b1o2, b1o3, -⟩ := b1.open4
                  obtain ⟨bco0, bco1, bco2, bco3, -⟩ := bc.open4
                  obtain ⟨p5, q5, r5, s5, v5, hm5⟩ := mulR_parts p1 q1 r1 s1 c1 c2 c3 c4
                  obtain ⟨p6, q6, r6, s6, v6, hm6⟩ := mulR_parts x y z u p2 q2 r2 s2
                  go_wp2_with fail
                  refine (specMul_any _ _ _ _ _ _ _ _ _).mono ?_
                  rintro e w9 ⟨rfl, bb9⟩
                  rw [hm5]
                  replace ht := ht.below bb9
                  replace ba := ba.below bb9
                  replace bb := bb.below bb9
                  replace bc := bc.below bb9
                  replace b1 := b1.below bb9
                  replace b2 := b2.below bb9
                  replace b3 := b3.below bb9
                  replace b4 := b4.below bb9
                  replace b5 := b5.below bb9
                  replace b6 := b6.below bb9
                  replace by9 := by9.below bb9
                  replace bW := bW.trans (bb9.mono bW.size)
                  clear bb9
                  clear b1o0 b1o1 b1o2 b1o3
                  clear bco0 bco1 bco2 bco3
                  obtain ⟨V9, hV9, b7, bb9, -⟩ := boxed w9 25 #[.int .i64 p5, .int .i64 q5, .int .i64 r5, .int .i64 s5]
                  replace ht := ht.below bb9
                  replace ba := ba.below bb9
                  replace bb := bb.below bb9
                  replace bc := bc.below bb9
                  replace b1 := b1.below bb9
                  replace b2 := b2.below bb9
                  replace b3 := b3.below bb9
                  replace b4 := b4.below bb9
                  replace b5 := b5.below bb9
                  replace b6 := b6.below bb9
                  replace by9 := by9.below bb9
                  replace bW := bW.trans (bb9.mono bW.size)
                  clear bb9
                  obtain ⟨bao0, bao1, bao2, bao3, -⟩ := ba.open4
                  obtain ⟨b2o0, b2o1, b2o2, b2o3, -⟩ := b2.open4
                  go_wp2_with fail
                  obtain ⟨q25, hq⟩ : ∃ q, w9.heap.size = q := ⟨_, rfl⟩
                  rw [hq] at b7 ⊢
                  clear hV9 hq
                  refine (specMul_any _ _ _ _ _ _ _ _ _).mono ?_
                  rintro e w10 ⟨rfl, bb9⟩
                  rw [hm6]
                  replace ht := ht.below bb9
                  replace ba := ba.below bb9
                  replace bb := bb.below bb9
                  replace bc := bc.below bb9
                  replace b1 := b1.below bb9
                  replace b2 := b2.below bb9
                  replace b3 := b3.below bb9
                  replace b4 := b4.below bb9
                  replace b5 := b5.below bb9
                  replace b6 := b6.below bb9
                  replace by9 := by9.below bb9
                  replace b7 := b7.below bb9
                  replace bW := bW.trans (bb9.mono bW.size)
                  clear bb9
                  clear bao0 bao1 bao2 bao3
                  clear b2o0 b2o1 b2o2 b2o3
                  obtain ⟨V10, hV10, b8, bb9, -⟩ := boxed w10 25 #[.int .i64 p6, .int .i64 q6, .int .i64 r6, .int .i64 s6]
                  replace ht := ht.below bb9
                  replace ba := ba.below bb9
                  replace bb := bb.below bb9
                  replace bc := bc.below bb9
                  replace b1 := b1.below bb9
                  replace b2 := b2.below bb9
                  replace b3 := b3.below bb9
                  replace b4 := b4.below bb9
                  replace b5 := b5.below bb9
                  replace b6 := b6.below bb9
                  replace by9 := by9.below bb9
                  replace b7 := b7.below bb9
                  replace bW := bW.trans (bb9.mono bW.size)
                  clear bb9
                  obtain ⟨b1o0, b1o1, b1o2, b1o3, -⟩ := b1.open4
                  obtain ⟨bco0, bco1, bco2, bco3, -⟩ := bc.open4
                  go_wp2_with fail
                  obtain ⟨q27, hq⟩ : ∃ q, w10.heap.size = q := ⟨_, rfl⟩
                  rw [hq] at b8 ⊢
                  clear hV10 hq
                  refine (implMul_any _ _ _ _ _ _ _ _ _ ht).mono ?_
                  rintro e w11 ⟨rfl, bb9⟩
                  rw [hm5]
                  replace ht := ht.below bb9
                  replace ba := ba.below bb9
                  replace bb := bb.below bb9
                  replace bc := bc.below bb9
                  replace b1 := b1.below bb9
                  replace b2 := b2.below bb9
                  replace b3 := b3.below bb9
                  replace b4 := b4.below bb9
                  replace b5 := b5.below bb9
                  replace b6 := b6.below bb9
                  replace by9 := by9.below bb9
                  replace b7 := b7.below bb9
                  replace b8 := b8.below bb9
                  replace bW := bW.trans (bb9.mono bW.size)
                  clear bb9
                  clear b1o0 b1o1 b1o2 b1o3
                  clear bco0 bco1 bco2 bco3
                  obtain ⟨V11, hV11, b9, bb9, -⟩ := boxed w11 25 #[.int .i64 p5, .int .i64 q5, .int .i64 r5, .int .i64 s5]
                  replace ht := ht.below bb9
                  replace ba := ba.below bb9
                  replace bb := bb.below bb9
                  replace bc := bc.below bb9
                  replace b1 := b1.below bb9
                  replace b2 := b2.below bb9
                  replace b3 := b3.below bb9
                  replace b4 := b4.below bb9
                  replace b5 := b5.below bb9
                  replace b6 := b6.below bb9
                  replace by9 := by9.below bb9
                  replace b7 := b7.below bb9
                  replace b8 := b8.below bb9
                  replace bW := bW.trans (bb9.mono bW.size)
                  clear bb9
                  obtain ⟨bao0, bao1, bao2, bao3, -⟩ := ba.open4
                  obtain ⟨b2o0, b2o1, b2o2, b2o3, -⟩ := b2.open4
                  go_wp2_with fail
                  obtain ⟨q29, hq⟩ : ∃ q, w11.heap.size = q := ⟨_, rfl⟩
                  rw [hq] at b9 ⊢
                  clear hV11 hq
                  refine (implMul_any _ _ _ _ _ _ _ _ _ ht).mono ?_
                  rintro e w12 ⟨rfl, bb9⟩
                  rw [hm6]
                  replace ht := ht.below bb9
                  replace ba := ba.below bb9
                  replace bb := bb.below bb9
                  replace bc := bc.below bb9
                  replace b1 := b1.below bb9
                  replace b2 := b2.below bb9
                  replace b3 := b3.below bb9
                  replace b4 := b4.below bb9
                  replace b5 := b5.below bb9
                  replace b6 := b6.below bb9
                  replace by9 := by9.below bb9
                  replace b7 := b7.below bb9
                  replace b8 := b8.below bb9
                  replace b9 := b9.below bb9
                  replace bW := bW.trans (bb9.mono bW.size)
                  clear bb9
                  clear bao0 bao1 bao2 bao3
                  clear b2o0 b2o1 b2o2 b2o3
                  cases v5
                  · clear hm5 hm6
                    obtain ⟨V12, hV12, b10, bb9, -⟩ := boxed w12 25 #[.int .i64 p6, .int .i64 q6, .int .i64 r6, .int .i64 s6]
                    replace ht := ht.below bb9
                    replace ba := ba.below bb9
                    replace bb := bb.below bb9
                    replace bc := bc.below bb9
                    replace b1 := b1.below bb9
                    replace b2 := b2.below bb9
                    replace b3 := b3.below bb9
                    replace b4 := b4.below bb9
                    replace b5 := b5.below bb9
                    replace b6 := b6.below bb9
                    replace by9 := by9.below bb9
                    replace b7 := b7.below bb9
                    replace b8 := b8.below bb9
                    replace b9 := b9.below bb9
                    replace bW := bW.trans (bb9.mono bW.size)
                    clear bb9
                    obtain ⟨b9o0, b9o1, b9o2, b9o3, -⟩ := b9.open4
                    obtain ⟨b10o0, b10o1, b10o2, b10o3, -⟩ := b10.open4
                    go_wp2
                    go_ret
                    exact ⟨rfl, bW⟩
                  · cases v6
                    · clear hm5 hm6
                      obtain ⟨V12, hV12, b10, bb9, -⟩ := boxed w12 25 #[.int .i64 p6, .int .i64 q6, .int .i64 r6, .int .i64 s6]
                      replace ht := ht.below bb9
                      replace ba := ba.below bb9
                      replace bb := bb.below bb9
                      replace bc := bc.below bb9
                      replace b1 := b1.below bb9
                      replace b2 := b2.below bb9
                      replace b3 := b3.below bb9
                      replace b4 := b4.below bb9
                      replace b5 := b5.below bb9
                      replace b6 := b6.below bb9
                      replace by9 := by9.below bb9
                      replace b7 := b7.below bb9
                      replace b8 := b8.below bb9
                      replace b9 := b9.below bb9
                      replace bW := bW.trans (bb9.mono bW.size)
                      clear bb9
                      obtain ⟨b9o0, b9o1, b9o2, b9o3, -⟩ := b9.open4
                      obtain ⟨b10o0, b10o1, b10o2, b10o3, -⟩ := b10.open4
                      go_wp2
                      go_ret
                      exact ⟨rfl, bW⟩
                    · obtain ⟨rfl, rfl, rfl, rfl⟩ := mul_assoc4 hm1 hm2 hm5 hm6
                      obtain ⟨V12, hV12, b10, bb9, -⟩ := boxed w12 25 #[.int .i64 p5, .int .i64 q5, .int .i64 r5, .int .i64 s5]
                      replace ht := ht.below bb9
                      replace ba := ba.below bb9
                      replace bb := bb.below bb9
                      replace bc := bc.below bb9
                      replace b1 := b1.below bb9
                      replace b2 := b2.below bb9
                      replace b3 := b3.below bb9
                      replace b4 := b4.below bb9
                      replace b5 := b5.below bb9
                      replace b6 := b6.below bb9
                      replace by9 := by9.below bb9
                      replace b7 := b7.below bb9
                      replace b8 := b8.below bb9
                      replace b9 := b9.below bb9
                      replace bW := bW.trans (bb9.mono bW.size)
                      clear bb9
                      obtain ⟨b9o0, b9o1, b9o2, b9o3, -⟩ := b9.open4
                      obtain ⟨b10o0, b10o1, b10o2, b10o3, -⟩ := b10.open4
                      go_wp2
                      go_ret
                      exact ⟨rfl, bW⟩
            · skip
              refine wpAnyH_take (i := 9) (v := .bool false) rfl (by kernel_rfl) (by kernel_rfl) (by kernel_rfl) (fun _ _ _ h => h) (Or.inl ⟨by kernel_rfl, ?_⟩) hHeld ?_
              · intro w' hSw; go_simp; intro h1 h2 h3 h4; exact hE ⟨h1, h2, h3, h4⟩
              try simp only [Act.put, List.setIfInBounds_toArray, List.set_cons_zero, List.set_cons_succ, List.getElem_toArray, List.getElem_cons_succ, List.getElem_cons_zero]
              refine wpAnyH_take (i := 10) (v := .bool false) rfl (by kernel_rfl) (by kernel_rfl) (by kernel_rfl) (fun _ _ _ h => h) (Or.inl ⟨by kernel_rfl, ?_⟩) hHeld ?_
              · intro w' hSw; go_simp
              try simp only [Act.put, List.setIfInBounds_toArray, List.set_cons_zero, List.set_cons_succ, List.getElem_toArray, List.getElem_cons_succ, List.getElem_cons_zero]
              refine wpAnyH_done (by kernel_rfl) ?_ _
              clear hHeld
              cases v2
              · go_wp2
                go_ret
                exact ⟨rfl, bW⟩
              · skip
                obtain ⟨b1o0, b1o1, b1o2, b1o3, -⟩ := b1.open4
                obtain ⟨bco0, bco1, bco2, bco3, -⟩ := bc.open4
                obtain ⟨p5, q5, r5, s5, v5, hm5⟩ := mulR_parts p1 q1 r1 s1 c1 c2 c3 c4
                obtain ⟨p6, q6, r6, s6, v6, hm6⟩ := mulR_parts x y z u p2 q2 r2 s2
                go_wp2_with fail
                refine (specMul_any _ _ _ _ _ _ _ _ _).mono ?_
                rintro e w9 ⟨rfl, bb9⟩
                rw [hm5]
                replace ht := ht.below bb9
                replace ba := ba.below bb9
                replace bb := bb.below bb9
                replace bc := bc.below bb9
                replace b1 := b1.below bb9
                replace b2 := b2.below bb9
                replace b3 := b3.below bb9
                replace b4 := b4.below bb9
                replace b5 := b5.below bb9
                replace b6 := b6.below bb9
                replace bW := bW.trans (bb9.mono bW.size)
                clear bb9
                clear b1o0 b1o1 b1o2 b1o3
                clear bco0 bco1 bco2 bco3
                obtain ⟨V9, hV9, b7, bb9, -⟩ := boxed w9 25 #[.int .i64 p5, .int .i64 q5, .int .i64 r5, .int .i64 s5]
                replace ht := ht.below bb9
                replace ba := ba.below bb9
                replace bb := bb.below bb9
                replace bc := bc.below bb9
                replace b1 := b1.below bb9
                replace b2 := b2.below bb9
                replace b3 := b3.below bb9
                replace b4 := b4.below bb9
                replace b5 := b5.below bb9
                replace b6 := b6.below bb9
                replace bW := bW.trans (bb9.mono bW.size)
                clear bb9
                obtain ⟨bao0, bao1, bao2, bao3, -⟩ := ba.open4
                obtain ⟨b2o0, b2o1, b2o2, b2o3, -⟩ := b2.open4
                go_wp2_with fail
                obtain ⟨q25, hq⟩ : ∃ q, w9.heap.size = q := ⟨_, rfl⟩
                rw [hq] at b7 ⊢
                clear hV9 hq
                refine (specMul_any _ _ _ _ _ _ _ _ _).mono ?_
                rintro e w10 ⟨rfl, bb9⟩
                rw [hm6]
                replace ht := ht.below bb9
                replace ba := ba.below bb9
                replace bb := bb.below bb9
                replace bc := bc.below bb9
                replace b1 := b1.below bb9
                replace b2 := b2.below bb9
                replace b3 := b3.below bb9
                replace b4 := b4.below bb9
                replace b5 := b5.below bb9
                replace b6 := b6.below bb9
                replace b7 := b7.below bb9
                replace bW := bW.trans (bb9.mono bW.size)
                clear bb9
                clear bao0 bao1 bao2 bao3
                clear b2o0 b2o1 b2o2 b2o3
                obtain ⟨V10, hV10, b8, bb9, -⟩ := boxed w10 25 #[.int .i64 p6, .int .i64 q6, .int .i64 r6, .int .i64 s6]
                replace ht := ht.below bb9
                replace ba := ba.below bb9
                replace bb := bb.below bb9
                replace bc := bc.below bb9
                replace b1 := b1.below bb9
                replace b2 := b2.below bb9
                replace b3 := b3.below bb9
                replace b4 := b4.below bb9
                replace b5 := b5.below bb9
                replace b6 := b6.below bb9
                replace b7 := b7.below bb9
                replace bW := bW.trans (bb9.mono bW.size)
                clear bb9
                obtain ⟨b1o0, b1o1, b1o2, b1o3, -⟩ := b1.open4
                obtain ⟨bco0, bco1, bco2, bco3, -⟩ := bc.open4
                go_wp2_with fail
                obtain ⟨q27, hq⟩ : ∃ q, w10.heap.size = q := ⟨_, rfl⟩
                rw [hq] at b8 ⊢
                clear hV10 hq
                refine (implMul_any _ _ _ _ _ _ _ _ _ ht).mono ?_
                rintro e w11 ⟨rfl, bb9⟩
                rw [hm5]
                replace ht := ht.below bb9
                replace ba := ba.below bb9
                replace bb := bb.below bb9
                replace bc := bc.below bb9
                replace b1 := b1.below bb9
                replace b2 := b2.below bb9
                replace b3 := b3.below bb9
                replace b4 := b4.below bb9
                replace b5 := b5.below bb9
                replace b6 := b6.below bb9
                replace b7 := b7.below bb9
                replace b8 := b8.below bb9
                replace bW := bW.trans (bb9.mono bW.size)
                clear bb9
                clear b1o0 b1o1 b1o2 b1o3
                clear bco0 bco1 bco2 bco3
                obtain ⟨V11, hV11, b9, bb9, -⟩ := boxed w11 25 #[.int .i64 p5, .int .i64 q5, .int .i64 r5, .int .i64 s5]
                replace ht := ht.below bb9
                replace ba := ba.below bb9
                replace bb := bb.below bb9
                replace bc := bc.below bb9
                replace b1 := b1.below bb9
                replace b2 := b2.below bb9
                replace b3 := b3.below bb9
                replace b4 := b4.below bb9
                replace b5 := b5.below bb9
                replace b6 := b6.below bb9
                replace b7 := b7.below bb9
                replace b8 := b8.below bb9
                replace bW := bW.trans (bb9.mono bW.size)
                clear bb9
                obtain ⟨bao0, bao1, bao2, bao3, -⟩ := ba.open4
                obtain ⟨b2o0, b2o1, b2o2, b2o3, -⟩ := b2.open4
                go_wp2_with fail
                obtain ⟨q29, hq⟩ : ∃ q, w11.heap.size = q := ⟨_, rfl⟩
                rw [hq] at b9 ⊢
                clear hV11 hq
                refine (implMul_any _ _ _ _ _ _ _ _ _ ht).mono ?_
                rintro e w12 ⟨rfl, bb9⟩
                rw [hm6]
                replace ht := ht.below bb9
                replace ba := ba.below bb9
                replace bb := bb.below bb9
                replace bc := bc.below bb9
                replace b1 := b1.below bb9
                replace b2 := b2.below bb9
                replace b3 := b3.below bb9
                replace b4 := b4.below bb9
                replace b5 := b5.below bb9
                replace b6 := b6.below bb9
                replace b7 := b7.below bb9
                replace b8 := b8.below bb9
                replace b9 := b9.below bb9
                replace bW := bW.trans (bb9.mono bW.size)
                clear bb9
                clear bao0 bao1 bao2 bao3
                clear b2o0 b2o1 b2o2 b2o3
                cases v5
                · clear hm5 hm6
                  obtain ⟨V12, hV12, b10, bb9, -⟩ := boxed w12 25 #[.int .i64 p6, .int .i64 q6, .int .i64 r6, .int .i64 s6]
                  replace ht := ht.below bb9
                  replace ba := ba.below bb9
                  replace bb := bb.below bb9
                  replace bc := bc.below bb9
                  replace b1 := b1.below bb9
                  replace b2 := b2.below bb9
                  replace b3 := b3.below bb9
                  replace b4 := b4.below bb9
                  replace b5 := b5.below bb9
                  replace b6 := b6.below bb9
                  replace b7 := b7.below bb9
                  replace b8 := b8.below bb9
                  replace b9 := b9.below bb9
                  replace bW := bW.trans (bb9.mono bW.size)
                  clear bb9
                  obtain ⟨b9o0, b9o1, b9o2, b9o3, -⟩ := b9.open4
                  obtain ⟨b10o0, b10o1, b10o2, b10o3, -⟩ := b10.open4
                  go_wp2
                  go_ret
                  exact ⟨rfl, bW⟩
                · cases v6
                  · clear hm5 hm6
                    obtain ⟨V12, hV12, b10, bb9, -⟩ := boxed w12 25 #[.int .i64 p6, .int .i64 q6, .int .i64 r6, .int .i64 s6]
                    replace ht := ht.below bb9
                    replace ba := ba.below bb9
                    replace bb := bb.below bb9
                    replace bc := bc.below bb9
                    replace b1 := b1.below bb9
                    replace b2 := b2.below bb9
                    replace b3 := b3.below bb9
                    replace b4 := b4.below bb9
                    replace b5 := b5.below bb9
                    replace b6 := b6.below bb9
                    replace b7 := b7.below bb9
                    replace b8 := b8.below bb9
                    replace b9 := b9.below bb9
                    replace bW := bW.trans (bb9.mono bW.size)
                    clear bb9
                    obtain ⟨b9o0, b9o1, b9o2, b9o3, -⟩ := b9.open4
                    obtain ⟨b10o0, b10o1, b10o2, b10o3, -⟩ := b10.open4
                    go_wp2
                    go_ret
                    exact ⟨rfl, bW⟩
                  · obtain ⟨rfl, rfl, rfl, rfl⟩ := mul_assoc4 hm1 hm2 hm5 hm6
                    obtain ⟨V12, hV12, b10, bb9, -⟩ := boxed w12 25 #[.int .i64 p5, .int .i64 q5, .int .i64 r5, .int .i64 s5]
                    replace ht := ht.below bb9
                    replace ba := ba.below bb9
                    replace bb := bb.below bb9
                    replace bc := bc.below bb9
                    replace b1 := b1.below bb9
                    replace b2 := b2.below bb9
                    replace b3 := b3.below bb9
                    replace b4 := b4.below bb9
                    replace b5 := b5.below bb9
                    replace b6 := b6.below bb9
                    replace b7 := b7.below bb9
                    replace b8 := b8.below bb9
                    replace b9 := b9.below bb9
                    replace bW := bW.trans (bb9.mono bW.size)
                    clear bb9
                    obtain ⟨b9o0, b9o1, b9o2, b9o3, -⟩ := b9.open4
                    obtain ⟨b10o0, b10o1, b10o2, b10o3, -⟩ := b10.open4
                    go_wp2
                    go_ret
                    exact ⟨rfl, bW⟩
end Go.Proofs.YthcanmnbaemdbaaDoor
