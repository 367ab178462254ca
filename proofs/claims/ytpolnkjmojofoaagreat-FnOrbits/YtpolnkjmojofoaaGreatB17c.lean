/-
  Drawn points' orbits and what leaves them: the law walked.
-/
import Derived.Test.YtpolnkjmojofoaaGreatB17a
import Derived.Test.YtpolnkjmojofoaaGreatB17b
import Derived.Test.YtpolnkjmojofoaaGreatNN
import Derived.Test.YtpolnkjmojofoaaGreatNO
import Derived.Deep.CutRange
namespace Go.Proofs.YtpolnkjmojofoaaGreat
open Go.RowKit

/-- A point in a new box, and a yes. -/
def CutA (wr : World) (x y z : Int) (s7 s8 : Value) (wc : World) : Prop := ∃ q, s7 = .pointer (some ⟨q, 0, none⟩) ∧ s8 = .bool true ∧ wr.heap.size ≤ q ∧ At 46 wc q #[.int .i64 x, .int .i64 y, .int .i64 z] ∧ Below wr.heap.size wr wc
theorem ptG_congr {w : World} {lo m : Nat} {v : Value} {F G : Nat → T3} (h : PtG w lo v m F) (e : ∀ t, t < m → F t = G t) : PtG w lo v m G := ⟨by
  rw [← iCells_congr (f := fl3 F) (fun j hj => fl3_congr e hj)]; exact h.row, h.nn⟩
set_option maxRecDepth 100000 in
set_option maxHeartbeats 6400000 in
theorem orbits_walk {w : World} {a : Option Addr} {len cap : Nat} (hr : Row w w.heap.size a len) :
    Calls Tryz.prog 5 #[.slice a len cap] w fun e w' => e = .returned (.bool true) ∧ Below w.heap.size w w' := by
  go_enter Tryz.func5, Tryz.ntmps5
  go_wp2_with fail
  refine (big_any a len cap w hr.1).mono ?_
  rintro e w' ⟨rfl, rfl⟩
  by_cases hb : 1048576 < len
  · simp only [decide_eq_true hb]
    go_wp2
    go_ret
    exact ⟨rfl, Below.refl _ _⟩
  simp only [decide_eq_false hb]
  have hlen : (len : Int) ≤ 1048576 := by omega
  go_wp2_with fail
  refine (drawOrbit_any hr).mono ?_
  rintro e w1 ⟨g, n, c, A, x, y, z, rfl, hn, L, B⟩
  obtain ⟨V1, hV1, b4, bb, -⟩ := boxed w1 46 #[.int .i64 x, .int .i64 y, .int .i64 z]
  obtain ⟨q4, hq4⟩ : ∃ q, w1.heap.size = q := ⟨_, rfl⟩
  rw [hq4] at b4
  have HX1 := hid_of b4
  have HL1 := hid_of (L.below bb)
  have HB1 := hid_of (B.trans (bb.mono B.size))
  obtain ⟨d0, d1, d2, -⟩ := b4.open3
  have CO := specOrbit_any (c := c) x y z HL1.out (by omega)
  clear hr hb L B b4 bb
  unfold pV
  unfold pV at CO
  go_wp2_with fail
  refine CO.mono ?_
  rintro e w2 ⟨⟨v2, m, F, rfl, G2, HI0⟩, b2⟩
  obtain ⟨g2, c2, _, rfl, -⟩ := G2.open
  have HB2 := hid_of (HB1.out.trans (b2.mono HB1.out.size))
  by_cases hm : m = 0
  · subst hm
    clear CO G2 HI0 b2 d0 d1 d2 HX1 HL1 HB1 hV1 hq4
    go_wp2
    go_ret
    exact ⟨rfl, HB2.out⟩
  obtain ⟨HG0, HP0, HI1⟩ : isG n A ∧ inP x y z ∧ OrbI (orbP A x y z) n m F := by
    rcases HI0 with ⟨⟨h1, h2⟩, h3⟩ | ⟨-, h3⟩
    · exact ⟨h1, h2, h3⟩
    · exact absurd h3 hm
  have hn2 := HG0.1
  have hmn := HI1.le
  have HX2 := hid_of (HX1.out.below b2)
  have HL2 := hid_of (HL1.out.below b2)
  have HG := hid_of HG0
  have HP := hid_of HP0
  have HI := hid_of HI1
  have hm0 : ((m : Int) == 0) = false := by simp; omega
  clear CO G2 HI0 b2 d0 d1 d2 HX1 HL1 HB1 hV1 hq4 HG0 HP0 HI1
  go_wp2_with fail
  obtain ⟨u0, hu0, bb⟩ : ∃ uu, w2.drew = uu ∧ Below w2.heap.size w2 uu := ⟨_, rfl, (Below.refl _ _).drew⟩
  have bk0 : Kb w2 u0 := bb
  clear bb
  refine wp_region_held_drew (S := Kb u0) (by kernel_rfl) (by rw [hu0]; exact Below.refl _ _) (fun hHeld => ?_)
  rw [hu0] at hHeld ⊢
  clear hu0
  have bu : Kb u0 u0 := Below.refl _ _
  change wpAnyH _ _ _ _ _ 5 #[false, false, false, false, false] _ _
  refine wpAnyH_take (i := 0) (v := .slice ((some ⟨g, 0, none⟩)) n c) rfl (by kernel_rfl) (by kernel_rfl) (by kernel_rfl) (fun _ _ _ h => h) (Or.inl ⟨by kernel_rfl, ?_⟩) hHeld ?_
  · intro w' hSw; go_simp
  try simp only [Act.put, List.setIfInBounds_toArray, List.set_cons_zero, List.set_cons_succ, List.getElem_toArray, List.getElem_cons_zero]
  refine wpAnyH_take (i := 2) (v := .agg #[.int .i64 x, .int .i64 y, .int .i64 z]) rfl (by kernel_rfl) (by kernel_rfl) (by kernel_rfl) (fun _ _ _ h => h) (Or.inl ⟨by kernel_rfl, ?_⟩) hHeld ?_
  · intro w' hSw; obtain ⟨z0, z1, z2, -⟩ := (HX2.out.below (bk0.trans (Below.mono hSw bk0.size))).open3; go_simp
  try simp only [Act.put, List.setIfInBounds_toArray, List.set_cons_zero, List.set_cons_succ, List.getElem_toArray, List.getElem_cons_succ, List.getElem_cons_zero]
  refine wpAnyH_ready (rs := [1]) (by kernel_rfl) (by simp) ?_
  refine AllReadyH.cons rfl (fun KK hK' => ?_) AllReadyH.nil
  go_simp
  refine (copyOps_any (HL2.out.below (bk0.trans (Below.mono bu bk0.size))) hn2 HG.out.2.1).mono ?_
  rintro e u1 ⟨⟨X6, Y6, v6, rfl, P6⟩, bb⟩
  obtain ⟨g6, c6, rfl, -, L6⟩ := P6.opsL
  have HL6 := hid_of L6
  replace bu : Kb u0 u1 := bu.trans (bb.mono bu.size)
  clear bb P6 L6
  try go_wp2_with fail
  clear hHeld
  refine hK'.out _ _ (bu) (fun hHeld => ?_)
  clear hK' KK
  try simp only [List.setIfInBounds_toArray, List.set_cons_zero, List.set_cons_succ]
  refine wpAnyH_ready (rs := [3]) (by kernel_rfl) (by simp) ?_
  refine AllReadyH.cons rfl (fun KK hK' => ?_) AllReadyH.nil
  go_simp
  have CI := implOrbit_any (c := c6) x y z HL6.out (by omega)
  unfold pV at CI
  refine CI.mono ?_
  rintro e u2 ⟨⟨v7, m7, F7, rfl, G7, HI7⟩, bb⟩
  obtain ⟨rfl, HF7⟩ : m = m7 ∧ ∀ t, t < m → F t = F7 t := by
    rcases HI7 with ⟨-, h⟩ | ⟨h, -⟩
    · exact HI.out.same h
    · exact absurd ⟨HG.out, HP.out⟩ h
  have G8 : PtG u2 0 v7 m F := ptG_congr (G7.lower (Nat.zero_le _)) (fun t ht => (HF7 t ht).symm)
  obtain ⟨g7, c7, _, rfl, -⟩ := G8.open
  have HO := hid_of G8
  replace bu : Kb u0 u2 := bu.trans (bb.mono bu.size)
  clear bb CI G7 G8 HI7 HF7 HL6
  try go_wp2_with fail
  clear hHeld
  refine hK'.out _ _ (bu) (fun hHeld => ?_)
  clear hK' KK
  try simp only [List.setIfInBounds_toArray, List.set_cons_zero, List.set_cons_succ]
  refine wpAnyH_take (i := 4) (v := .slice ((some ⟨g7, 0, none⟩)) m c7) rfl (by kernel_rfl) (by kernel_rfl) (by kernel_rfl) (fun _ _ _ h => h) (Or.inl ⟨by kernel_rfl, ?_⟩) hHeld ?_
  · intro w' hSw; go_simp
  try simp only [Act.put, List.setIfInBounds_toArray, List.set_cons_zero, List.set_cons_succ, List.getElem_toArray, List.getElem_cons_succ, List.getElem_cons_zero]
  refine wpAnyH_done (by kernel_rfl) ?_ _
  clear hHeld
  have bz := bk0.trans (Below.mono bu bk0.size)
  obtain ⟨w6, hw6⟩ : ∃ W, u2 = W := ⟨_, rfl⟩
  rw [hw6] at bz HO ⊢
  have HX6 := hid_of (HX2.out.below bz)
  have HL6 := hid_of (HL2.out.below bz)
  have HB6 := hid_of (HB2.out.trans (bz.mono HB2.out.size))
  clear bu bk0 bz HX2 HL2 HB2 hw6
  go_wp2_with fail
  have HLa := HL6
  clear HL6
  obtain ⟨u0, hu0, bb⟩ : ∃ uu, w6.drew = uu ∧ Below w6.heap.size w6 uu := ⟨_, rfl, (Below.refl _ _).drew⟩
  have bk0 : Kb w6 u0 := bb
  clear bb
  refine wp_region_held_drew (S := Kb u0) (by kernel_rfl) (by rw [hu0]; exact Below.refl _ _) (fun hHeld => ?_)
  rw [hu0] at hHeld ⊢
  clear hu0
  have bu : Kb u0 u0 := Below.refl _ _
  change wpAnyH _ _ _ _ _ 5 #[false, false, false, false, false] _ _
  refine wpAnyH_take (i := 0) (v := .slice ((some ⟨g, 0, none⟩)) n c) rfl (by kernel_rfl) (by kernel_rfl) (by kernel_rfl) (fun _ _ _ h => h) (Or.inl ⟨by kernel_rfl, ?_⟩) hHeld ?_
  · intro w' hSw; go_simp
  try simp only [Act.put, List.setIfInBounds_toArray, List.set_cons_zero, List.set_cons_succ, List.getElem_toArray, List.getElem_cons_zero]
  refine wpAnyH_take (i := 2) (v := .agg #[.int .i64 x, .int .i64 y, .int .i64 z]) rfl (by kernel_rfl) (by kernel_rfl) (by kernel_rfl) (fun _ _ _ h => h) (Or.inl ⟨by kernel_rfl, ?_⟩) hHeld ?_
  · intro w' hSw; obtain ⟨z0, z1, z2, -⟩ := (HX6.out.below (bk0.trans (Below.mono hSw bk0.size))).open3; go_simp
  try simp only [Act.put, List.setIfInBounds_toArray, List.set_cons_zero, List.set_cons_succ, List.getElem_toArray, List.getElem_cons_succ, List.getElem_cons_zero]
  refine wpAnyH_ready (rs := [1]) (by kernel_rfl) (by simp) ?_
  refine AllReadyH.cons rfl (fun KK hK' => ?_) AllReadyH.nil
  go_simp
  refine (copyOps_any (HLa.out.below (bk0.trans (Below.mono bu bk0.size))) hn2 HG.out.2.1).mono ?_
  rintro e u1 ⟨⟨X6, Y6, v6, rfl, P6⟩, bb⟩
  obtain ⟨g6, c6, rfl, -, L6⟩ := P6.opsL
  have HL6 := hid_of L6
  replace bu : Kb u0 u1 := bu.trans (bb.mono bu.size)
  clear bb P6 L6
  try go_wp2_with fail
  clear hHeld
  refine hK'.out _ _ (bu) (fun hHeld => ?_)
  clear hK' KK
  try simp only [List.setIfInBounds_toArray, List.set_cons_zero, List.set_cons_succ]
  refine wpAnyH_ready (rs := [3]) (by kernel_rfl) (by simp) ?_
  refine AllReadyH.cons rfl (fun KK hK' => ?_) AllReadyH.nil
  go_simp
  have CI := implSta_any (c := c6) x y z HL6.out (by omega)
  unfold pV at CI
  refine CI.mono ?_
  rintro e u2 ⟨⟨v8, rfl, hS⟩, bb⟩
  obtain ⟨g8, c8, X8, Y8, s8, rfl, hOA, hs8⟩ := hS.toP
  obtain ⟨s, hs⟩ : ∃ s, kN (fun i => stay x y z (A i)) n = s := ⟨_, rfl⟩
  obtain rfl : s = s8 := by
    rcases hs8 with ⟨-, h⟩ | ⟨h, -⟩
    · exact (h.trans hs).symm
    · exact absurd ⟨HG.out, HP.out⟩ h
  have HS := hid_of hOA.opsL
  replace HO := hid_of (HO.out.below (Below.trans (bk0.trans (Below.mono bu bk0.size)) (bb.mono (Below.size (bk0.trans (Below.mono bu bk0.size))))))
  replace bu : Kb u0 u2 := bu.trans (bb.mono bu.size)
  clear bb CI hS hOA hs8 HL6
  try go_wp2_with fail
  clear hHeld
  refine hK'.out _ _ (bu) (fun hHeld => ?_)
  clear hK' KK
  try simp only [List.setIfInBounds_toArray, List.set_cons_zero, List.set_cons_succ]
  refine wpAnyH_take (i := 4) (v := .slice ((some ⟨g8, 0, none⟩)) s c8) rfl (by kernel_rfl) (by kernel_rfl) (by kernel_rfl) (fun _ _ _ h => h) (Or.inl ⟨by kernel_rfl, ?_⟩) hHeld ?_
  · intro w' hSw; go_simp
  try simp only [Act.put, List.setIfInBounds_toArray, List.set_cons_zero, List.set_cons_succ, List.getElem_toArray, List.getElem_cons_succ, List.getElem_cons_zero]
  refine wpAnyH_done (by kernel_rfl) ?_ _
  clear hHeld
  have bz := bk0.trans (Below.mono bu bk0.size)
  obtain ⟨w7, hw7⟩ : ∃ W, u2 = W := ⟨_, rfl⟩
  rw [hw7] at bz HO HS ⊢
  have HX7 := hid_of (HX6.out.below bz)
  have HL7 := hid_of (HLa.out.below bz)
  have HB7 := hid_of (HB6.out.trans (bz.mono HB6.out.size))
  have HO7 := HO
  have HS7 := HS
  clear bu bk0 bz HX6 HLa HB6 hw7 HO HS
  have hms : (m : Int) * (s : Int) = (n : Int) := by
    have h := orb_stab HG.out HP.out HI.out
    rw [hs] at h
    have h2 := congrArg (fun k : Nat => (k : Int)) h
    simpa using h2
  have hsn : s ≤ 192 := by rw [← hs]; exact Nat.le_trans (kN_le _ _) hn2
  have hnn : ((n : Int) != (n : Int)) = false := by simp
  clear hm0
  go_wp2_with fail
  refine (implGroupOk_any HS7.out (by omega)).mono ?_
  rintro e w8 ⟨⟨r8, rfl, hr8⟩, b8⟩
  obtain rfl : r8 = true := hr8.2 (by rw [← hs]; exact stab_group HG.out HP.out)
  have HX8 := hid_of (HX7.out.below b8)
  have HL8 := hid_of (HL7.out.below b8)
  have HB8 := hid_of (HB7.out.trans (b8.mono HB7.out.size))
  have HO8 := hid_of (HO7.out.below b8)
  obtain ⟨o0, o1, o2, hF0⟩ : ∃ o0 o1 o2, F 0 = (o0, o1, o2) := ⟨_, _, _, rfl⟩
  have HF0 := hid_of hF0
  clear HX7 HL7 HB7 HO7 b8 hr8 hms hnn HS7 hF0
  go_wp2_with fail
  go_cut [7, 8] from 45 to 52 (fun s7 s8 wc => CutA w8 o0 o1 o2 s7 s8 wc)
  case first =>
    obtain ⟨u0, hu0, bb⟩ : ∃ uu, w8.drew = uu ∧ Below w8.heap.size w8 uu := ⟨_, rfl, (Below.refl _ _).drew⟩
    have bk0 : Kb w8 u0 := bb
    clear bb
    refine wp_region_held_drew (S := Kb u0) (by kernel_rfl) (by rw [hu0]; exact Below.refl _ _) (fun hHeld => ?_)
    rw [hu0] at hHeld ⊢
    clear hu0
    have bu : Kb u0 u0 := Below.refl _ _
    change wpAnyH _ _ _ _ _ 10 #[false, false, false, false, false, false, false, false, false, false] _ _
    refine wpAnyH_take (i := 0) (v := .slice ((some ⟨g, 0, none⟩)) n c) rfl (by kernel_rfl) (by kernel_rfl) (by kernel_rfl) (fun _ _ _ h => h) (Or.inl ⟨by kernel_rfl, ?_⟩) hHeld ?_
    · intro w' hSw; go_simp
    try simp only [Act.put, List.setIfInBounds_toArray, List.set_cons_zero, List.set_cons_succ, List.getElem_toArray, List.getElem_cons_zero]
    refine wpAnyH_take (i := 2) (v := .agg #[.int .i64 x, .int .i64 y, .int .i64 z]) rfl (by kernel_rfl) (by kernel_rfl) (by kernel_rfl) (fun _ _ _ h => h) (Or.inl ⟨by kernel_rfl, ?_⟩) hHeld ?_
    · intro w' hSw; obtain ⟨z0, z1, z2, -⟩ := (HX8.out.below (bk0.trans (Below.mono hSw bk0.size))).open3; go_simp
    try simp only [Act.put, List.setIfInBounds_toArray, List.set_cons_zero, List.set_cons_succ, List.getElem_toArray, List.getElem_cons_succ, List.getElem_cons_zero]
    refine wpAnyH_ready (rs := [1, 7]) (by kernel_rfl) (by simp) ?_
    refine AllReadyH.cons rfl (fun KK hK' => ?_) (AllReadyH.cons rfl (fun KK hK' => ?_) AllReadyH.nil)
    · go_simp
      refine (copyOps_any (HL8.out.below (bk0.trans (Below.mono bu bk0.size))) hn2 HG.out.2.1).mono ?_
      rintro e u1 ⟨⟨X6, Y6, v6, rfl, P6⟩, bb⟩
      obtain ⟨g6, c6, rfl, -, L6⟩ := P6.opsL
      have HL6 := hid_of L6
      replace bu : Kb u0 u1 := bu.trans (bb.mono bu.size)
      clear bb P6 L6
      try go_wp2_with fail
      clear hHeld
      refine hK'.out _ _ (bu) (fun hHeld => ?_)
      clear hK' KK
      try simp only [List.setIfInBounds_toArray, List.set_cons_zero, List.set_cons_succ]
      refine wpAnyH_ready (rs := [3, 7]) (by kernel_rfl) (by simp) ?_
      refine AllReadyH.cons rfl (fun KK hK' => ?_) (AllReadyH.cons rfl (fun KK hK' => ?_) AllReadyH.nil)
      · go_simp
        have CI := implAsy_any (c := c6) x y z HL6.out (by omega)
        unfold pV at CI
        refine CI.mono ?_
        rintro e u2 ⟨⟨a0, a1, a2, b, rfl, hA⟩, bb⟩
        unfold pV
        obtain ⟨rfl, rfl, rfl, rfl⟩ : b = true ∧ a0 = o0 ∧ a1 = o1 ∧ a2 = o2 := by
          rcases hA with ⟨-, hb, m', F', hI', hm', e0⟩ | ⟨hno, -⟩
          · obtain ⟨rfl, e2⟩ := HI.out.same hI'
            have e3 := (e2 0 hm').symm.trans HF0.out
            rw [← e0] at e3
            simp only [Prod.mk.injEq] at e3
            exact ⟨hb, e3.1, e3.2.1, e3.2.2⟩
          · exact absurd ⟨HG.out, HP.out⟩ hno
        replace bu : Kb u0 u2 := bu.trans (bb.mono bu.size)
        clear bb CI hA HL6
        try go_wp2_with fail
        clear hHeld
        refine hK'.out _ _ (bu) (fun hHeld => ?_)
        clear hK' KK
        try simp only [List.setIfInBounds_toArray, List.set_cons_zero, List.set_cons_succ]
        refine wpAnyH_take (i := 4) (v := .tuple #[.agg #[.int .i64 a0, .int .i64 a1, .int .i64 a2], .bool true]) rfl (by kernel_rfl) (by kernel_rfl) (by kernel_rfl) (fun _ _ _ h => h) (Or.inl ⟨by kernel_rfl, ?_⟩) hHeld ?_
        · intro w' hSw; go_simp
        try simp only [Act.put, List.setIfInBounds_toArray, List.set_cons_zero, List.set_cons_succ, List.getElem_toArray, List.getElem_cons_succ, List.getElem_cons_zero]
        refine wpAnyH_take (i := 5) (v := .agg #[.int .i64 a0, .int .i64 a1, .int .i64 a2]) rfl (by kernel_rfl) (by kernel_rfl) (by kernel_rfl) (fun _ _ _ h => h) (Or.inl ⟨by kernel_rfl, ?_⟩) hHeld ?_
        · intro w' hSw; (go_simp; try rfl)
        try simp only [Act.put, List.setIfInBounds_toArray, List.set_cons_zero, List.set_cons_succ, List.getElem_toArray, List.getElem_cons_succ, List.getElem_cons_zero]
        refine wpAnyH_take (i := 6) (v := .bool true) rfl (by kernel_rfl) (by kernel_rfl) (by kernel_rfl) (fun _ _ _ h => h) (Or.inl ⟨by kernel_rfl, ?_⟩) hHeld ?_
        · intro w' hSw; go_simp
        try simp only [Act.put, List.setIfInBounds_toArray, List.set_cons_zero, List.set_cons_succ, List.getElem_toArray, List.getElem_cons_succ, List.getElem_cons_zero]
        refine wpAnyH_ready (rs := [7]) (by kernel_rfl) (by simp) ?_
        refine AllReadyH.cons rfl (fun KK hK' => ?_) AllReadyH.nil
        go_simp
        obtain ⟨u3, h6, G6, bb, -⟩ := boxed u2 46 #[.int .i64 0, .int .i64 0, .int .i64 0]
        rw [h6]
        clear h6
        obtain ⟨gq, hgq⟩ : ∃ q, u2.heap.size = q := ⟨_, rfl⟩
        rw [hgq] at G6 ⊢
        have hgu : u0.heap.size ≤ gq := by have := bu.size; omega
        clear hgq
        replace bu : Kb u0 u3 := bu.trans (bb.mono bu.size)
        clear bb
        clear hHeld
        refine hK'.out _ _ (bu) (fun hHeld => ?_)
        clear hK' KK
        try simp only [List.setIfInBounds_toArray, List.set_cons_zero, List.set_cons_succ]
        refine wpAnyH_ready (rs := [8]) (by kernel_rfl) (by simp) ?_
        refine AllReadyH.cons rfl (fun KK hK' => ?_) AllReadyH.nil
        obtain ⟨y0, y1, y2, y3, y4, y5⟩ := G6.open3
        go_simp
        have G7 := put3c_at G6 (.int .i64 a0) (.int .i64 a1) (.int .i64 a2)
        replace bu : Kb u0 (((u3.setCell ⟨gq, 0, none⟩ (.int .i64 a0)).setCell ⟨gq, 1, none⟩ (.int .i64 a1)).setCell ⟨gq, 2, none⟩ (.int .i64 a2)) := ((bu.setCell hgu _).setCell hgu _).setCell hgu _
        obtain ⟨u4, hv⟩ : ∃ V, ((u3.setCell ⟨gq, 0, none⟩ (.int .i64 a0)).setCell ⟨gq, 1, none⟩ (.int .i64 a1)).setCell ⟨gq, 2, none⟩ (.int .i64 a2) = V := ⟨_, rfl⟩
        rw [hv] at G7 bu ⊢
        clear hv G6 y0 y1 y2 y3 y4 y5
        clear hHeld
        refine hK'.out _ _ (bu) (fun hHeld => ?_)
        clear hK' KK
        try simp only [List.setIfInBounds_toArray, List.set_cons_zero, List.set_cons_succ]
        refine wpAnyH_take (i := 9) (v := .bool true) rfl (by kernel_rfl) (by kernel_rfl) (by kernel_rfl) (fun _ _ _ h => h) (Or.inl ⟨by kernel_rfl, ?_⟩) hHeld ?_
        · intro w' hSw; go_simp
        try simp only [Act.put, List.setIfInBounds_toArray, List.set_cons_zero, List.set_cons_succ, List.getElem_toArray, List.getElem_cons_succ, List.getElem_cons_zero]
        refine wpAnyH_done (by kernel_rfl) ?_ _
        clear hHeld
        have bz := bk0.trans (Below.mono bu bk0.size)
        have hg7 : w8.heap.size ≤ gq := by have := bk0.size; omega
        go_wp2_with fail
        go_meet
        case rel => exact ⟨gq, rfl, rfl, hg7, G7, bz⟩
      · go_simp
        obtain ⟨u2, h6, G6, bb, -⟩ := boxed u1 46 #[.int .i64 0, .int .i64 0, .int .i64 0]
        rw [h6]
        clear h6
        obtain ⟨gq, hgq⟩ : ∃ q, u1.heap.size = q := ⟨_, rfl⟩
        rw [hgq] at G6 ⊢
        have hgu : u0.heap.size ≤ gq := by have := bu.size; omega
        clear hgq
        replace HL6 := hid_of (HL6.out.below bb)
        replace bu : Kb u0 u2 := bu.trans (bb.mono bu.size)
        clear bb
        clear hHeld
        refine hK'.out _ _ (bu) (fun hHeld => ?_)
        clear hK' KK
        try simp only [List.setIfInBounds_toArray, List.set_cons_zero, List.set_cons_succ]
        refine wpAnyH_ready (rs := [3]) (by kernel_rfl) (by simp) ?_
        refine AllReadyH.cons rfl (fun KK hK' => ?_) AllReadyH.nil
        go_simp
        have CI := implAsy_any (c := c6) x y z HL6.out (by omega)
        unfold pV at CI
        refine CI.mono ?_
        rintro e u3 ⟨⟨a0, a1, a2, b, rfl, hA⟩, bb⟩
        unfold pV
        obtain ⟨rfl, rfl, rfl, rfl⟩ : b = true ∧ a0 = o0 ∧ a1 = o1 ∧ a2 = o2 := by
          rcases hA with ⟨-, hb, m', F', hI', hm', e0⟩ | ⟨hno, -⟩
          · obtain ⟨rfl, e2⟩ := HI.out.same hI'
            have e3 := (e2 0 hm').symm.trans HF0.out
            rw [← e0] at e3
            simp only [Prod.mk.injEq] at e3
            exact ⟨hb, e3.1, e3.2.1, e3.2.2⟩
          · exact absurd ⟨HG.out, HP.out⟩ hno
        replace G6 := G6.below bb
        replace bu : Kb u0 u3 := bu.trans (bb.mono bu.size)
        clear bb CI hA HL6
        try go_wp2_with fail
        clear hHeld
        refine hK'.out _ _ (bu) (fun hHeld => ?_)
        clear hK' KK
        try simp only [List.setIfInBounds_toArray, List.set_cons_zero, List.set_cons_succ]
        refine wpAnyH_take (i := 4) (v := .tuple #[.agg #[.int .i64 a0, .int .i64 a1, .int .i64 a2], .bool true]) rfl (by kernel_rfl) (by kernel_rfl) (by kernel_rfl) (fun _ _ _ h => h) (Or.inl ⟨by kernel_rfl, ?_⟩) hHeld ?_
        · intro w' hSw; go_simp
        try simp only [Act.put, List.setIfInBounds_toArray, List.set_cons_zero, List.set_cons_succ, List.getElem_toArray, List.getElem_cons_succ, List.getElem_cons_zero]
        refine wpAnyH_take (i := 5) (v := .agg #[.int .i64 a0, .int .i64 a1, .int .i64 a2]) rfl (by kernel_rfl) (by kernel_rfl) (by kernel_rfl) (fun _ _ _ h => h) (Or.inl ⟨by kernel_rfl, ?_⟩) hHeld ?_
        · intro w' hSw; (go_simp; try rfl)
        try simp only [Act.put, List.setIfInBounds_toArray, List.set_cons_zero, List.set_cons_succ, List.getElem_toArray, List.getElem_cons_succ, List.getElem_cons_zero]
        refine wpAnyH_take (i := 6) (v := .bool true) rfl (by kernel_rfl) (by kernel_rfl) (by kernel_rfl) (fun _ _ _ h => h) (Or.inl ⟨by kernel_rfl, ?_⟩) hHeld ?_
        · intro w' hSw; go_simp
        try simp only [Act.put, List.setIfInBounds_toArray, List.set_cons_zero, List.set_cons_succ, List.getElem_toArray, List.getElem_cons_succ, List.getElem_cons_zero]
        refine wpAnyH_ready (rs := [8]) (by kernel_rfl) (by simp) ?_
        refine AllReadyH.cons rfl (fun KK hK' => ?_) AllReadyH.nil
        obtain ⟨y0, y1, y2, y3, y4, y5⟩ := G6.open3
        go_simp
        have G7 := put3c_at G6 (.int .i64 a0) (.int .i64 a1) (.int .i64 a2)
        replace bu : Kb u0 (((u3.setCell ⟨gq, 0, none⟩ (.int .i64 a0)).setCell ⟨gq, 1, none⟩ (.int .i64 a1)).setCell ⟨gq, 2, none⟩ (.int .i64 a2)) := ((bu.setCell hgu _).setCell hgu _).setCell hgu _
        obtain ⟨u4, hv⟩ : ∃ V, ((u3.setCell ⟨gq, 0, none⟩ (.int .i64 a0)).setCell ⟨gq, 1, none⟩ (.int .i64 a1)).setCell ⟨gq, 2, none⟩ (.int .i64 a2) = V := ⟨_, rfl⟩
        rw [hv] at G7 bu ⊢
        clear hv G6 y0 y1 y2 y3 y4 y5
        clear hHeld
        refine hK'.out _ _ (bu) (fun hHeld => ?_)
        clear hK' KK
        try simp only [List.setIfInBounds_toArray, List.set_cons_zero, List.set_cons_succ]
        refine wpAnyH_take (i := 9) (v := .bool true) rfl (by kernel_rfl) (by kernel_rfl) (by kernel_rfl) (fun _ _ _ h => h) (Or.inl ⟨by kernel_rfl, ?_⟩) hHeld ?_
        · intro w' hSw; go_simp
        try simp only [Act.put, List.setIfInBounds_toArray, List.set_cons_zero, List.set_cons_succ, List.getElem_toArray, List.getElem_cons_succ, List.getElem_cons_zero]
        refine wpAnyH_done (by kernel_rfl) ?_ _
        clear hHeld
        have bz := bk0.trans (Below.mono bu bk0.size)
        have hg7 : w8.heap.size ≤ gq := by have := bk0.size; omega
        go_wp2_with fail
        go_meet
        case rel => exact ⟨gq, rfl, rfl, hg7, G7, bz⟩
    · go_simp
      obtain ⟨u1, h6, G6, bb, -⟩ := boxed u0 46 #[.int .i64 0, .int .i64 0, .int .i64 0]
      rw [h6]
      clear h6
      obtain ⟨gq, hgq⟩ : ∃ q, u0.heap.size = q := ⟨_, rfl⟩
      rw [hgq] at G6 ⊢
      have hgu : u0.heap.size ≤ gq := by have := bu.size; omega
      clear hgq
      replace bu : Kb u0 u1 := bu.trans (bb.mono bu.size)
      clear bb
      clear hHeld
      refine hK'.out _ _ (bu) (fun hHeld => ?_)
      clear hK' KK
      try simp only [List.setIfInBounds_toArray, List.set_cons_zero, List.set_cons_succ]
      refine wpAnyH_ready (rs := [1]) (by kernel_rfl) (by simp) ?_
      refine AllReadyH.cons rfl (fun KK hK' => ?_) AllReadyH.nil
      go_simp
      refine (copyOps_any (HL8.out.below (bk0.trans (Below.mono bu bk0.size))) hn2 HG.out.2.1).mono ?_
      rintro e u2 ⟨⟨X6, Y6, v6, rfl, P6⟩, bb⟩
      obtain ⟨g6, c6, rfl, -, L6⟩ := P6.opsL
      have HL6 := hid_of L6
      replace G6 := G6.below bb
      replace bu : Kb u0 u2 := bu.trans (bb.mono bu.size)
      clear bb P6 L6
      try go_wp2_with fail
      clear hHeld
      refine hK'.out _ _ (bu) (fun hHeld => ?_)
      clear hK' KK
      try simp only [List.setIfInBounds_toArray, List.set_cons_zero, List.set_cons_succ]
      refine wpAnyH_ready (rs := [3]) (by kernel_rfl) (by simp) ?_
      refine AllReadyH.cons rfl (fun KK hK' => ?_) AllReadyH.nil
      go_simp
      have CI := implAsy_any (c := c6) x y z HL6.out (by omega)
      unfold pV at CI
      refine CI.mono ?_
      rintro e u3 ⟨⟨a0, a1, a2, b, rfl, hA⟩, bb⟩
      unfold pV
      obtain ⟨rfl, rfl, rfl, rfl⟩ : b = true ∧ a0 = o0 ∧ a1 = o1 ∧ a2 = o2 := by
        rcases hA with ⟨-, hb, m', F', hI', hm', e0⟩ | ⟨hno, -⟩
        · obtain ⟨rfl, e2⟩ := HI.out.same hI'
          have e3 := (e2 0 hm').symm.trans HF0.out
          rw [← e0] at e3
          simp only [Prod.mk.injEq] at e3
          exact ⟨hb, e3.1, e3.2.1, e3.2.2⟩
        · exact absurd ⟨HG.out, HP.out⟩ hno
      replace G6 := G6.below bb
      replace bu : Kb u0 u3 := bu.trans (bb.mono bu.size)
      clear bb CI hA HL6
      try go_wp2_with fail
      clear hHeld
      refine hK'.out _ _ (bu) (fun hHeld => ?_)
      clear hK' KK
      try simp only [List.setIfInBounds_toArray, List.set_cons_zero, List.set_cons_succ]
      refine wpAnyH_take (i := 4) (v := .tuple #[.agg #[.int .i64 a0, .int .i64 a1, .int .i64 a2], .bool true]) rfl (by kernel_rfl) (by kernel_rfl) (by kernel_rfl) (fun _ _ _ h => h) (Or.inl ⟨by kernel_rfl, ?_⟩) hHeld ?_
      · intro w' hSw; go_simp
      try simp only [Act.put, List.setIfInBounds_toArray, List.set_cons_zero, List.set_cons_succ, List.getElem_toArray, List.getElem_cons_succ, List.getElem_cons_zero]
      refine wpAnyH_take (i := 5) (v := .agg #[.int .i64 a0, .int .i64 a1, .int .i64 a2]) rfl (by kernel_rfl) (by kernel_rfl) (by kernel_rfl) (fun _ _ _ h => h) (Or.inl ⟨by kernel_rfl, ?_⟩) hHeld ?_
      · intro w' hSw; (go_simp; try rfl)
      try simp only [Act.put, List.setIfInBounds_toArray, List.set_cons_zero, List.set_cons_succ, List.getElem_toArray, List.getElem_cons_succ, List.getElem_cons_zero]
      refine wpAnyH_take (i := 6) (v := .bool true) rfl (by kernel_rfl) (by kernel_rfl) (by kernel_rfl) (fun _ _ _ h => h) (Or.inl ⟨by kernel_rfl, ?_⟩) hHeld ?_
      · intro w' hSw; go_simp
      try simp only [Act.put, List.setIfInBounds_toArray, List.set_cons_zero, List.set_cons_succ, List.getElem_toArray, List.getElem_cons_succ, List.getElem_cons_zero]
      refine wpAnyH_ready (rs := [8]) (by kernel_rfl) (by simp) ?_
      refine AllReadyH.cons rfl (fun KK hK' => ?_) AllReadyH.nil
      obtain ⟨y0, y1, y2, y3, y4, y5⟩ := G6.open3
      go_simp
      have G7 := put3c_at G6 (.int .i64 a0) (.int .i64 a1) (.int .i64 a2)
      replace bu : Kb u0 (((u3.setCell ⟨gq, 0, none⟩ (.int .i64 a0)).setCell ⟨gq, 1, none⟩ (.int .i64 a1)).setCell ⟨gq, 2, none⟩ (.int .i64 a2)) := ((bu.setCell hgu _).setCell hgu _).setCell hgu _
      obtain ⟨u4, hv⟩ : ∃ V, ((u3.setCell ⟨gq, 0, none⟩ (.int .i64 a0)).setCell ⟨gq, 1, none⟩ (.int .i64 a1)).setCell ⟨gq, 2, none⟩ (.int .i64 a2) = V := ⟨_, rfl⟩
      rw [hv] at G7 bu ⊢
      clear hv G6 y0 y1 y2 y3 y4 y5
      clear hHeld
      refine hK'.out _ _ (bu) (fun hHeld => ?_)
      clear hK' KK
      try simp only [List.setIfInBounds_toArray, List.set_cons_zero, List.set_cons_succ]
      refine wpAnyH_take (i := 9) (v := .bool true) rfl (by kernel_rfl) (by kernel_rfl) (by kernel_rfl) (fun _ _ _ h => h) (Or.inl ⟨by kernel_rfl, ?_⟩) hHeld ?_
      · intro w' hSw; go_simp
      try simp only [Act.put, List.setIfInBounds_toArray, List.set_cons_zero, List.set_cons_succ, List.getElem_toArray, List.getElem_cons_succ, List.getElem_cons_zero]
      refine wpAnyH_done (by kernel_rfl) ?_ _
      clear hHeld
      have bz := bk0.trans (Below.mono bu bk0.size)
      have hg7 : w8.heap.size ≤ gq := by have := bk0.size; omega
      go_wp2_with fail
      go_meet
      case rel => exact ⟨gq, rfl, rfl, hg7, G7, bz⟩
  case rest =>
    obtain ⟨q7, rfl, rfl, hq7, Q7, b9⟩ := hcut
    rename World => w9
    have hm' : 0 < m := by omega
    have hj0 : len % m < m := Nat.mod_lt _ hm'
    obtain ⟨j0, hj⟩ : ∃ j, len % m = j := ⟨_, rfl⟩
    rw [hj] at hj0
    have hjm : (len : Int) % (m : Int) = (j0 : Int) := by rw [← hj]; simp
    have hjt : Int.tmod (len : Int) (m : Int) = (j0 : Int) := by rw [← hj, Int.tmod_eq_emod_of_nonneg (by omega)]; simp
    obtain ⟨y0, y1, y2, hFj⟩ : ∃ y0 y1 y2, F j0 = (y0, y1, y2) := ⟨_, _, _, rfl⟩
    have HFJ := hid_of hFj
    have HX9 := hid_of (HX8.out.below b9)
    have HL9 := hid_of (HL8.out.below b9)
    have HB9 := hid_of (HB8.out.trans (b9.mono HB8.out.size))
    have HO9 := hid_of (HO8.out.below b9)
    have HQ9 := hid_of Q7
    obtain ⟨_, _, cur, eo, -, ao, -, -, -, hH⟩ := HO9.out.open
    cases eo
    have h3 := h3_cells ao (hH j0 hj0)
    rw [hFj] at h3
    obtain ⟨d0, d1, d2⟩ := h3
    obtain ⟨V2, hV2, b10, bb, -⟩ := boxed w9 46 #[.int .i64 y0, .int .i64 y1, .int .i64 y2]
    obtain ⟨q9, hq9⟩ : ∃ q, w9.heap.size = q := ⟨_, rfl⟩
    rw [hq9] at b10
    obtain ⟨i0, i1, i2, -⟩ := b10.open3
    have hl7 := HQ9.out.lt
    have HX10 := hid_of (HX9.out.below bb)
    have HL10 := hid_of (HL9.out.below bb)
    have HB10 := hid_of (HB9.out.trans (bb.mono HB9.out.size))
    have HO10 := hid_of (HO9.out.below bb)
    have HQ10 := hid_of (HQ9.out.below bb)
    obtain ⟨hin, hoj⟩ := orb_of HG.out HI.out hj0
    rw [hFj] at hin hoj
    have HIN := hid_of hin
    have HOJ := hid_of hoj
    have hm0' : ¬ (m : Int) = 0 := by omega
    clear HX8 HL8 HB8 HO8 b9 Q7 HX9 HL9 HB9 HO9 HQ9 ao hH b10 bb hin hoj hFj hl7 hq7
    go_wp2_with fail
    have CA := implAsy_any (c := c) y0 y1 y2 HL10.out (by omega)
    unfold pV at CA
    refine CA.mono ?_
    rintro e w11 ⟨⟨a0, a1, a2, b, rfl, hA⟩, b11⟩
    unfold pV
    obtain ⟨rfl, rfl, rfl, rfl⟩ : b = true ∧ a0 = o0 ∧ a1 = o1 ∧ a2 = o2 := by
      rcases hA with ⟨-, hb, m', F', hI', hm', e0⟩ | ⟨hno, -⟩
      · obtain ⟨rfl, e2⟩ := HOJ.out.same hI'
        have e3 := (e2 0 hm').symm.trans HF0.out
        rw [← e0] at e3
        simp only [Prod.mk.injEq] at e3
        exact ⟨hb, e3.1, e3.2.1, e3.2.2⟩
      · exact absurd ⟨HG.out, HIN.out⟩ hno
    have HB11 := hid_of (HB10.out.trans (b11.mono HB10.out.size))
    have HO11 := hid_of (HO10.out.below b11)
    have HQ11 := hid_of (HQ10.out.below b11)
    clear CA hA b11 HX10 HL10 HB10 HO10 HQ10 d0 d1 d2 i0 i1 i2 hV2 hq9 hj hjm hjt
    obtain ⟨V3, hV3, b12, bb, -⟩ := boxed w11 46 #[.int .i64 a0, .int .i64 a1, .int .i64 a2]
    obtain ⟨q10, hq10⟩ : ∃ q, w11.heap.size = q := ⟨_, rfl⟩
    rw [hq10] at b12
    have HB12 := hid_of (HB11.out.trans (bb.mono HB11.out.size))
    have HO12 := hid_of (HO11.out.below bb)
    have HQ12 := hid_of (HQ11.out.below bb)
    have HR12 := hid_of b12
    clear HB11 HO11 HQ11 b12 bb
    go_wp2_with fail
    have HOC : Hid (∀ wq, Kb V3 wq → wq.cell? ⟨g7, 0, none⟩ = some (.int .i64 a0) ∧ wq.cell? ⟨g7, 1, none⟩ = some (.int .i64 a1) ∧ wq.cell? ⟨g7, 2, none⟩ = some (.int .i64 a2)) := fun wq hq => by
      obtain ⟨_, _, cur, eo, -, ao, -, -, -, hH⟩ := (HO12.out.below hq).open
      cases eo
      have h3 := h3_cells ao (hH 0 hm')
      rw [HF0.out] at h3
      simpa using h3
    obtain ⟨u0, hu0, bb⟩ : ∃ uu, V3.drew = uu ∧ Below V3.heap.size V3 uu := ⟨_, rfl, (Below.refl _ _).drew⟩
    have bk0 : Kb V3 u0 := bb
    clear bb
    refine wp_region_held_drew (S := Kb u0) (by kernel_rfl) (by rw [hu0]; exact Below.refl _ _) (fun hHeld => ?_)
    rw [hu0] at hHeld ⊢
    clear hu0
    have bu : Kb u0 u0 := Below.refl _ _
    change wpAnyH _ _ _ _ _ 14 #[false, false, false, false, false, false, false, false, false, false, false, false, false, false] _ _
    refine wpAnyH_take (i := 0) (v := .bool true) rfl (by kernel_rfl) (by kernel_rfl) (by kernel_rfl) (fun _ _ _ h => h) (Or.inl ⟨by kernel_rfl, ?_⟩) hHeld ?_
    · intro w' hSw; go_simp
    try simp only [Act.put, List.setIfInBounds_toArray, List.set_cons_zero, List.set_cons_succ, List.getElem_toArray, List.getElem_cons_zero]
    refine wpAnyH_take (i := 1) (v := .bool true) rfl (by kernel_rfl) (by kernel_rfl) (by kernel_rfl) (fun _ _ _ h => h) (Or.inl ⟨by kernel_rfl, ?_⟩) hHeld ?_
    · intro w' hSw; go_simp
    try simp only [Act.put, List.setIfInBounds_toArray, List.set_cons_zero, List.set_cons_succ, List.getElem_toArray, List.getElem_cons_succ, List.getElem_cons_zero]
    refine wpAnyH_take (i := 2) (v := .agg #[.int .i64 a0, .int .i64 a1, .int .i64 a2]) rfl (by kernel_rfl) (by kernel_rfl) (by kernel_rfl) (fun _ _ _ h => h) (Or.inl ⟨by kernel_rfl, ?_⟩) hHeld ?_
    · intro w' hSw; obtain ⟨z0, z1, z2, -⟩ := (HQ12.out.below (bk0.trans (Below.mono hSw bk0.size))).open3; go_simp
    try simp only [Act.put, List.setIfInBounds_toArray, List.set_cons_zero, List.set_cons_succ, List.getElem_toArray, List.getElem_cons_succ, List.getElem_cons_zero]
    refine wpAnyH_take (i := 3) (v := .agg #[.int .i64 a0, .int .i64 a1, .int .i64 a2]) rfl (by kernel_rfl) (by kernel_rfl) (by kernel_rfl) (fun _ _ _ h => h) (Or.inl ⟨by kernel_rfl, ?_⟩) hHeld ?_
    · intro w' hSw; obtain ⟨z0, z1, z2, -⟩ := (HR12.out.below (bk0.trans (Below.mono hSw bk0.size))).open3; go_simp
    try simp only [Act.put, List.setIfInBounds_toArray, List.set_cons_zero, List.set_cons_succ, List.getElem_toArray, List.getElem_cons_succ, List.getElem_cons_zero]
    refine wpAnyH_take (i := 4) (v := .bool true) rfl (by kernel_rfl) (by kernel_rfl) (by kernel_rfl) (fun _ _ _ h => h) (Or.inl ⟨by kernel_rfl, ?_⟩) hHeld ?_
    · intro w' hSw; go_simp
    try simp only [Act.put, List.setIfInBounds_toArray, List.set_cons_zero, List.set_cons_succ, List.getElem_toArray, List.getElem_cons_succ, List.getElem_cons_zero]
    refine wpAnyH_take (i := 5) (v := .bool true) rfl (by kernel_rfl) (by kernel_rfl) (by kernel_rfl) (fun _ _ _ h => h) (Or.inl ⟨by kernel_rfl, ?_⟩) hHeld ?_
    · intro w' hSw; go_simp
    try simp only [Act.put, List.setIfInBounds_toArray, List.set_cons_zero, List.set_cons_succ, List.getElem_toArray, List.getElem_cons_succ, List.getElem_cons_zero]
    refine wpAnyH_take (i := 6) (v := .bool true) rfl (by kernel_rfl) (by kernel_rfl) (by kernel_rfl) (fun _ _ _ h => h) (Or.inl ⟨by kernel_rfl, ?_⟩) hHeld ?_
    · intro w' hSw; go_simp
    try simp only [Act.put, List.setIfInBounds_toArray, List.set_cons_zero, List.set_cons_succ, List.getElem_toArray, List.getElem_cons_succ, List.getElem_cons_zero]
    refine wpAnyH_take (i := 7) (v := .agg #[.int .i64 a0, .int .i64 a1, .int .i64 a2]) rfl (by kernel_rfl) (by kernel_rfl) (by kernel_rfl) (fun _ _ _ h => h) (Or.inl ⟨by kernel_rfl, ?_⟩) hHeld ?_
    · intro w' hSw; obtain ⟨z0, z1, z2, -⟩ := (HQ12.out.below (bk0.trans (Below.mono hSw bk0.size))).open3; go_simp
    try simp only [Act.put, List.setIfInBounds_toArray, List.set_cons_zero, List.set_cons_succ, List.getElem_toArray, List.getElem_cons_succ, List.getElem_cons_zero]
    refine wpAnyH_take (i := 8) (v := .slice ((some ⟨g7, 0, none⟩)) m c7) rfl (by kernel_rfl) (by kernel_rfl) (by kernel_rfl) (fun _ _ _ h => h) (Or.inl ⟨by kernel_rfl, ?_⟩) hHeld ?_
    · intro w' hSw; go_simp
    try simp only [Act.put, List.setIfInBounds_toArray, List.set_cons_zero, List.set_cons_succ, List.getElem_toArray, List.getElem_cons_succ, List.getElem_cons_zero]
    refine wpAnyH_take (i := 9) (v := .pointer (some ⟨g7, 0, none⟩)) rfl (by kernel_rfl) (by kernel_rfl) (by kernel_rfl) (fun _ _ _ h => h) (Or.inl ⟨by kernel_rfl, ?_⟩) hHeld ?_
    · intro w' hSw; go_simp
    try simp only [Act.put, List.setIfInBounds_toArray, List.set_cons_zero, List.set_cons_succ, List.getElem_toArray, List.getElem_cons_succ, List.getElem_cons_zero]
    refine wpAnyH_take (i := 10) (v := .agg #[.int .i64 a0, .int .i64 a1, .int .i64 a2]) rfl (by kernel_rfl) (by kernel_rfl) (by kernel_rfl) (fun _ _ _ h => h) (Or.inl ⟨by kernel_rfl, ?_⟩) hHeld ?_
    · intro w' hSw; obtain ⟨z0, z1, z2⟩ := HOC.out _ (bk0.trans (Below.mono hSw bk0.size)); go_simp
    try simp only [Act.put, List.setIfInBounds_toArray, List.set_cons_zero, List.set_cons_succ, List.getElem_toArray, List.getElem_cons_succ, List.getElem_cons_zero]
    refine wpAnyH_take (i := 11) (v := .bool true) rfl (by kernel_rfl) (by kernel_rfl) (by kernel_rfl) (fun _ _ _ h => h) (Or.inl ⟨by kernel_rfl, ?_⟩) hHeld ?_
    · intro w' hSw; go_simp
    try simp only [Act.put, List.setIfInBounds_toArray, List.set_cons_zero, List.set_cons_succ, List.getElem_toArray, List.getElem_cons_succ, List.getElem_cons_zero]
    refine wpAnyH_take (i := 12) (v := .bool true) rfl (by kernel_rfl) (by kernel_rfl) (by kernel_rfl) (fun _ _ _ h => h) (Or.inl ⟨by kernel_rfl, ?_⟩) hHeld ?_
    · intro w' hSw; go_simp
    try simp only [Act.put, List.setIfInBounds_toArray, List.set_cons_zero, List.set_cons_succ, List.getElem_toArray, List.getElem_cons_succ, List.getElem_cons_zero]
    refine wpAnyH_take (i := 13) (v := .bool true) rfl (by kernel_rfl) (by kernel_rfl) (by kernel_rfl) (fun _ _ _ h => h) (Or.inl ⟨by kernel_rfl, ?_⟩) hHeld ?_
    · intro w' hSw; go_simp
    try simp only [Act.put, List.setIfInBounds_toArray, List.set_cons_zero, List.set_cons_succ, List.getElem_toArray, List.getElem_cons_succ, List.getElem_cons_zero]
    refine wpAnyH_done (by kernel_rfl) ?_ _
    clear hHeld
    have bz := bk0.trans (Below.mono bu bk0.size)
    have HBZ := hid_of (HB12.out.trans (bz.mono HB12.out.size))
    clear bu bk0 bz
    go_wp2
    go_ret
    exact ⟨rfl, HBZ.out⟩
end Go.Proofs.YtpolnkjmojofoaaGreat
