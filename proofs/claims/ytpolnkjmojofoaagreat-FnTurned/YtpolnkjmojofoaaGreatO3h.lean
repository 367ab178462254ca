/-
  Orbit and Asymmetric, by the program and by the specification: walked.
-/
import Derived.Test.YtpolnkjmojofoaaGreatNF
import Derived.Test.YtpolnkjmojofoaaGreatMT
namespace Go.Proofs.YtpolnkjmojofoaaGreat
open Go.RowKit Go.Lib

/-- What both orbits tell: the same list. -/
def OrbR (w : World) (n : Nat) (A : Nat → OpD) (x y z : Int) (e : Ending) (w' : World) : Prop :=
  (∃ v m F, e = .returned v ∧ PtG w' w.heap.size v m F ∧ ((isG n A ∧ inP x y z) ∧ OrbI (orbP A x y z) n m F ∨ ¬ (isG n A ∧ inP x y z) ∧ m = 0)) ∧ Below w.heap.size w w'
theorem PtG.lower {w : World} {lo lo' m : Nat} {v : Value} {F : Nat → T3} (h : PtG w lo v m F) (hl : lo' ≤ lo) : PtG w lo' v m F := ⟨by
  obtain ⟨e0, h1 | ⟨g', c', cur', e', hb', r⟩⟩ := h.row
  · exact ⟨e0, .inl h1⟩
  · exact ⟨e0, .inr ⟨g', c', cur', e', Nat.le_trans hl hb', r⟩⟩, h.nn⟩
theorem ptG_new {w W : World} {lo : Nat} (F : Nat → T3) (a1 : At 46 W w.heap.size #[]) (hl : lo ≤ w.heap.size) : PtG W lo (.slice (some ⟨w.heap.size, 0, none⟩) 0 0) 0 F := ptG_of (cur := #[]) a1 rfl (Nat.le_refl _) (Nat.zero_le _) hl (fun t ht => by omega)
set_option maxRecDepth 100000 in
set_option maxHeartbeats 3000000 in
theorem specOrbit_any {w : World} {g n c : Nat} {A : Nat → OpD} (x y z : Int) (hL : OpsL w g n A) (hn : n ≤ 1048576) :
    Calls Tryz.prog 22 #[.slice (some ⟨g, 0, none⟩) n c, pV x y z] w (OrbR w n A x y z) := by
  have hbs : ∀ w, (Instr.buildSlice 49 0 #[]).run Tryz.prog w = .ok (.slice (some ⟨w.heap.size, 0, none⟩) 0 0) (w.alloc (.cells #[] 46)) := fun _ => by kernel_rfl
  obtain ⟨W1, hW1, A1, B1, -⟩ := boxed w 46 #[.int .i64 x, .int .i64 y, .int .i64 z]
  obtain ⟨q1, hq1⟩ : ∃ q, w.heap.size = q := ⟨_, rfl⟩
  rw [hq1] at A1
  have HL := hid_of (hL.below B1)
  clear hL
  unfold pV
  go_enter Tryz.func22, Tryz.ntmps22
  go_wp2_with fail
  refine (groupOk_any HL.out hn).mono ?_
  rintro e w2 ⟨⟨r, rfl, hr⟩, b2⟩
  have HL2 := hid_of (HL.out.below b2)
  have A2 := A1.below b2
  have HB := hid_of (B1.trans (b2.mono B1.size))
  have HR := hid_of hr
  clear HL A1 B1 b2 hr hW1 hq1
  cases r
  · obtain ⟨W3, hW3, a3, b3, -⟩ := boxed w2 46 #[]
    have G3 := hid_of (ptG_new (fun _ => (0, 0, 0)) a3 HB.out.size)
    have HB3 := hid_of (HB.out.trans (b3.mono HB.out.size))
    have HNO : Hid (¬ (isG n A ∧ inP x y z)) := fun h => absurd (HR.out.2 h.1) (by decide)
    clear a3 b3 HR HL2 HB A2
    go_wp2
    go_ret
    exact ⟨⟨_, 0, _, rfl, G3.out, .inr ⟨HNO.out, rfl⟩⟩, HB3.out⟩
  have HG := hid_of (HR.out.1 rfl)
  obtain ⟨d0, d1, d2, -⟩ := A2.open3
  clear HR
  go_wp2_with fail
  refine (l5Point_any x y z _).mono ?_
  rintro e w3 ⟨rfl, b3⟩
  have HL3 := hid_of (HL2.out.below b3)
  have A3 := A2.below b3
  have HB3 := hid_of (HB.out.trans (b3.mono HB.out.size))
  clear HL2 A2 HB b3 d0 d1 d2
  by_cases hp : inP x y z
  rotate_left
  · rw [decide_eq_false hp]
    obtain ⟨W4, hW4, a4, b4, -⟩ := boxed w3 46 #[]
    have G4 := hid_of (ptG_new (fun _ => (0, 0, 0)) a4 HB3.out.size)
    have HB4 := hid_of (HB3.out.trans (b4.mono HB3.out.size))
    have HNO : Hid (¬ (isG n A ∧ inP x y z)) := fun h => hp h.2
    clear a4 b4 HL3 HB3 A3 hp
    go_wp2
    go_ret
    exact ⟨⟨_, 0, _, rfl, G4.out, .inr ⟨HNO.out, rfl⟩⟩, HB4.out⟩
  rw [decide_eq_true hp]
  have HP := hid_of hp
  clear hp
  obtain ⟨d0, d1, d2, -⟩ := A3.open3
  have CO := l5Orbit_any (c := c) HL3.out HG.out.1 HG.out.2.1 HP.out
  unfold pV at CO
  go_wp2_with fail
  refine CO.mono ?_
  rintro e w4 ⟨⟨v, m, F, rfl, G4, HI⟩, b4⟩
  have HB4 := hid_of (HB3.out.trans (b4.mono HB3.out.size))
  have G5 := hid_of (G4.lower HB3.out.size)
  have HI5 := hid_of HI
  clear CO b4 G4 HI HL3 HB3 A3 d0 d1 d2
  go_wp2
  go_ret
  exact ⟨⟨_, m, F, rfl, G5.out, .inl ⟨⟨HG.out, HP.out⟩, HI5.out⟩⟩, HB4.out⟩
set_option maxRecDepth 100000 in
set_option maxHeartbeats 3000000 in
theorem implOrbit_any {w : World} {g n c : Nat} {A : Nat → OpD} (x y z : Int) (hL : OpsL w g n A) (hn : n ≤ 1048576) :
    Calls Tryz.prog 23 #[.slice (some ⟨g, 0, none⟩) n c, pV x y z] w (OrbR w n A x y z) := by
  have hbs : ∀ w, (Instr.buildSlice 49 0 #[]).run Tryz.prog w = .ok (.slice (some ⟨w.heap.size, 0, none⟩) 0 0) (w.alloc (.cells #[] 46)) := fun _ => by kernel_rfl
  obtain ⟨W1, hW1, A1, B1, -⟩ := boxed w 46 #[.int .i64 x, .int .i64 y, .int .i64 z]
  obtain ⟨q1, hq1⟩ : ∃ q, w.heap.size = q := ⟨_, rfl⟩
  rw [hq1] at A1
  have HL := hid_of (hL.below B1)
  obtain ⟨d0, d1, d2, -⟩ := A1.open3
  clear hL
  unfold pV
  go_enter Tryz.func23, Tryz.ntmps23
  go_wp2_with fail
  refine (pright_any x y z _).mono ?_
  rintro e w2 ⟨rfl, b2⟩
  have HL2 := hid_of (HL.out.below b2)
  have A2 := A1.below b2
  have HB := hid_of (B1.trans (b2.mono B1.size))
  clear HL A1 B1 b2 hW1 hq1 d0 d1 d2
  by_cases hp : inP x y z
  rotate_left
  · rw [decide_eq_false hp]
    obtain ⟨W4, hW4, a4, b4, -⟩ := boxed w2 46 #[]
    have G4 := hid_of (ptG_new (fun _ => (0, 0, 0)) a4 HB.out.size)
    have HB4 := hid_of (HB.out.trans (b4.mono HB.out.size))
    have HNO : Hid (¬ (isG n A ∧ inP x y z)) := fun h => hp h.2
    clear a4 b4 HL2 HB A2 hp
    go_wp2
    go_ret
    exact ⟨⟨_, 0, _, rfl, G4.out, .inr ⟨HNO.out, rfl⟩⟩, HB4.out⟩
  rw [decide_eq_true hp]
  have HP := hid_of hp
  have HA2 := hid_of A2
  clear hp A2
  go_wp2_with fail
  obtain ⟨u0, hu0, bb⟩ : ∃ uu, w2.drew = uu ∧ Below w2.heap.size w2 uu := ⟨_, rfl, (Below.refl _ _).drew⟩
  have bk0 : Kb w2 u0 := bb
  clear bb
  refine wp_region_held_drew (S := Kb u0) (by kernel_rfl) (by rw [hu0]; exact Below.refl _ _) (fun hHeld => ?_)
  rw [hu0] at hHeld ⊢
  clear hu0
  have bu : Kb u0 u0 := Below.refl _ _
  change wpAnyH _ _ _ _ _ 6 #[false, false, false, false, false, false] _ _
  refine wpAnyH_take (i := 0) (v := .agg #[.int .i64 x, .int .i64 y, .int .i64 z]) rfl (by kernel_rfl) (by kernel_rfl) (by kernel_rfl) (fun _ _ _ h => h) (Or.inl ⟨by kernel_rfl, ?_⟩) hHeld ?_
  · intro w' hSw; obtain ⟨z0, z1, z2, -⟩ := (HA2.out.below (bk0.trans (Below.mono hSw bk0.size))).open3; go_simp
  try simp only [Act.put, List.setIfInBounds_toArray, List.set_cons_zero, List.set_cons_succ, List.getElem_toArray, List.getElem_cons_zero]
  refine wpAnyH_take (i := 1) (v := .slice ((some ⟨g, 0, none⟩)) n c) rfl (by kernel_rfl) (by kernel_rfl) (by kernel_rfl) (fun _ _ _ h => h) (Or.inl ⟨by kernel_rfl, ?_⟩) hHeld ?_
  · intro w' hSw; go_simp
  try simp only [Act.put, List.setIfInBounds_toArray, List.set_cons_zero, List.set_cons_succ, List.getElem_toArray, List.getElem_cons_succ, List.getElem_cons_zero]
  refine wpAnyH_ready (rs := [2]) (by kernel_rfl) (by simp) ?_
  refine AllReadyH.cons rfl (fun KK hK' => ?_) AllReadyH.nil
  go_simp
  refine (groupOf_any (HL2.out.below (bk0.trans (Below.mono bu bk0.size))) hn).mono ?_
  rintro e u1 ⟨⟨v6, rfl, hG⟩, bb⟩
  obtain ⟨g6, m6, c6, rfl, hO, hm6, hmn, hGm⟩ := grp_one hG
  have HO := hid_of hO
  have HGm := hid_of hGm
  replace bu : Kb u0 u1 := bu.trans (bb.mono bu.size)
  clear bb hG hO hGm
  try go_wp2_with fail
  clear hHeld
  refine hK'.out _ _ (bu) (fun hHeld => ?_)
  clear hK' KK
  try simp only [List.setIfInBounds_toArray, List.set_cons_zero, List.set_cons_succ]
  refine wpAnyH_ready (rs := [3]) (by kernel_rfl) (by simp) ?_
  refine AllReadyH.cons rfl (fun KK hK' => ?_) AllReadyH.nil
  go_simp
  refine (deedsOf_any HO.out hm6).mono ?_
  rintro e u2 ⟨⟨v7, Q, rfl, hD⟩, bb⟩
  have HD := hid_of hD
  obtain ⟨gd, cd, ev7, -⟩ := hD.open
  subst ev7
  replace bu : Kb u0 u2 := bu.trans (bb.mono bu.size)
  clear bb hD HO
  try go_wp2_with fail
  clear hHeld
  refine hK'.out _ _ (bu) (fun hHeld => ?_)
  clear hK' KK
  try simp only [List.setIfInBounds_toArray, List.set_cons_zero, List.set_cons_succ]
  refine wpAnyH_ready (rs := [4]) (by kernel_rfl) (by simp) ?_
  refine AllReadyH.cons rfl (fun KK hK' => ?_) AllReadyH.nil
  go_simp
  refine (orbitOf_any (x := (x, y, z)) HD.out hm6 (fun i hi => key_R (by rcases HGm.out with h | h; exact h.1.2.1 i (by omega); omega)) HP.out).mono ?_
  rintro e u3 ⟨⟨v8, m8, F8, rfl, hG8, hI8⟩, bb⟩
  have HG8 := hid_of (hG8.lower (Nat.le_trans HB.out.size (Nat.le_trans bk0.size bu.size)))
  have HI8 := hid_of hI8
  obtain ⟨g8, c8, _, ev8, -⟩ := hG8.open
  subst ev8
  replace bu : Kb u0 u3 := bu.trans (bb.mono bu.size)
  clear bb hG8 hI8 HD
  try go_wp2_with fail
  clear hHeld
  refine hK'.out _ _ (bu) (fun hHeld => ?_)
  clear hK' KK
  try simp only [List.setIfInBounds_toArray, List.set_cons_zero, List.set_cons_succ]
  refine wpAnyH_ready (rs := [5]) (by kernel_rfl) (by simp) ?_
  refine AllReadyH.cons rfl (fun KK hK' => ?_) AllReadyH.nil
  go_simp
  clear hHeld
  refine hK'.out _ _ (bu) (fun hHeld => ?_)
  clear hK' KK
  try simp only [List.setIfInBounds_toArray, List.set_cons_zero, List.set_cons_succ]
  refine wpAnyH_done (by kernel_rfl) ?_ _
  clear hHeld
  have HBz := hid_of (HB.out.trans ((bk0.trans (Below.mono bu bk0.size)).mono HB.out.size))
  clear bu bk0 HB HA2 HL2
  go_wp2_with fail
  go_ret
  refine ⟨⟨_, m8, F8, rfl, HG8.out, ?_⟩, HBz.out⟩
  rcases HGm.out with ⟨h1, rfl⟩ | ⟨h1, rfl⟩
  · refine .inl ⟨⟨h1, HP.out⟩, HI8.out.congr (fun j _ => ?_)⟩
    show tO _ = tO _
    unfold tO
    rw [key_act _ _ 0 (by decide), key_act _ _ 1 (by decide), key_act _ _ 2 (by decide)]
  · exact .inr ⟨fun h => h1 h.1, by have := HI8.out.le; omega⟩
end Go.Proofs.YtpolnkjmojofoaaGreat
