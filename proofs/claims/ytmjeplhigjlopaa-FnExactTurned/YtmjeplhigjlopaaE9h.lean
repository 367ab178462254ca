/-
  Turned by the program: walked.
-/
import Derived.Test.YtmjeplhigjlopaaE9g
import Derived.Test.YtmjeplhigjlopaaE6b
import Derived.Test.YtmjeplhigjlopaaMQ
namespace Go.Proofs.Ytmjeplhigjlopaa
open Go.RowKit

theorem adj_congr {f f' : Nat → Int} (h : ∀ j, j < 9 → f j = f' j) : adj f = adj f' := by
  funext i
  unfold adj
  split <;> simp only [h 0 (by decide), h 1 (by decide), h 2 (by decide), h 3 (by decide), h 4 (by decide), h 5 (by decide), h 6 (by decide), h 7 (by decide), h 8 (by decide)]
theorem det3_congr {f f' : Nat → Int} (h : ∀ j, j < 9 → f j = f' j) : det3 f = det3 f' := by
  unfold det3
  simp only [h 0 (by decide), h 1 (by decide), h 2 (by decide), h 3 (by decide), h 4 (by decide), h 5 (by decide), h 6 (by decide), h 7 (by decide), h 8 (by decide)]
theorem back_key (o : OpD) : backK o.key = (backD o).key := by
  have h1 : ∀ j, j < 9 → o.key j = o.f j := fun j hj => key_lo o hj
  have h2 : kh o.key = o.h := by funext j; exact key_hi o j
  have h3 : backM o.key = backM o.f := by
    funext i
    unfold backM
    rw [adj_congr h1, det3_congr h1]
  unfold backK backV
  rw [h2, h3]
  rfl
theorem mulD_okR {x y : OpD} : (mulD x y).ok ↔ kR (mulQ x.key y.key) :=
  ⟨fun h => kR_congr (mulD_key x y) (ok_R h), fun h => ⟨rfl, rfl, isR_cat (kR_congr (mulD_key x y).symm h)⟩⟩
theorem whole_key (o : OpD) (A : Nat → OpD) (i : Nat) : kV (wholeD o A i).key = kV (wholeK o.key (fun i => (A i).key) i) := by
  unfold wholeD wholeK
  rw [mulD_key, mulQ_congr (mulD_key o (A i)), back_key]
theorem whole_okR {o : OpD} {A : Nat → OpD} {i : Nat} : (wholeD o A i).ok ↔ kR (wholeK o.key (fun i => (A i).key) i) :=
  ⟨fun h => kR_congr (whole_key o A i) (ok_R h), fun h => ⟨rfl, rfl, isR_cat (kR_congr (whole_key o A i).symm h)⟩⟩
theorem backD_okR {o : OpD} : (backD o).ok ↔ kR (backK o.key) := by
  rw [back_key]
  exact ⟨fun h => ok_R h, fun h => ⟨rfl, rfl, isR_cat h⟩⟩
theorem tbOk_iff {n : Nat} {A : Nat → OpD} {o : OpD} (hG : isG n A) (ho : o.ok) : TbOk n (fun i => (A i).key) o.key ↔ TurOk n A o :=
  ⟨fun h => ⟨hG, ho, backD_okR.2 h.1, fun i hi => ⟨mulD_okR.2 (h.2 i hi).1, whole_okR.2 (h.2 i hi).2⟩⟩, fun h => ⟨backD_okR.1 h.2.2.1, fun i hi => ⟨mulD_okR.1 (h.2.2.2 i hi).1, whole_okR.1 (h.2.2.2 i hi).2⟩⟩⟩
/-- What turnedBy tells, of a group or none. -/
theorem turT_of {n m m' : Nat} {A : Nat → OpD} {o : OpD} {G : Nat → Nat → Int} (hGm : isG n A ∧ m = n ∨ ¬ isG n A ∧ m = 0) (ho : o.ok) (h : (TbOk m (fun i => (A i).key) o.key ∧ m' = m ∧ SortOf m (wholeK o.key (fun i => (A i).key)) G) ∨ (¬ TbOk m (fun i => (A i).key) o.key ∧ m' = 0)) : TurT n A o m' G (decide (0 < m')) := by
  rcases hGm with ⟨hG, rfl⟩ | ⟨hG, rfl⟩
  · rcases h with ⟨h1, rfl, hp, hs⟩ | ⟨h1, rfl⟩
    · have h0 : 0 < m' := by
        obtain ⟨i, hi, -⟩ := hG.2.2.2.1
        omega
      refine .inl ⟨decide_eq_true h0, rfl, (tbOk_iff hG ho).1 h1, ?_, hs⟩
      have := hp.map kV
      refine this.trans (List.Perm.of_eq ?_)
      rw [List.map_map]
      exact List.map_congr_left (fun t _ => (whole_key o A t).symm)
    · exact .inr ⟨rfl, rfl, fun h => h1 ((tbOk_iff hG ho).2 h)⟩
  · have : m' = 0 := by rcases h with ⟨-, h, -⟩ | ⟨-, h⟩ <;> exact h
    subst this
    exact .inr ⟨rfl, rfl, fun h => hG h.1⟩
/-- How the program's Turned ends. -/
def TurF (w : World) (n : Nat) (A : Nat → OpD) (o : OpD) (e : Ending) (w' : World) : Prop :=
  (∃ g' m c' b X Y G, e = .returned (.tuple #[.slice (some ⟨g', 0, none⟩) m c', .bool b]) ∧ OpsA w' w.heap.size w'.heap.size g' m X Y (fun i => opD (G i)) ∧ TurT n A o m G b) ∧ Below w.heap.size w w'
set_option maxRecDepth 100000 in
set_option maxHeartbeats 3000000 in
theorem implTurned_any {w : World} {g n c : Nat} {A : Nat → OpD} {a b : Option Addr} {c1 c2 : Nat} {o : OpD} (hL : OpsL w g n A) (hn : n ≤ 1048576) (s1 : Src w a o.n o.f) (s2 : Src w b o.k o.h) :
    Calls Try.prog 21 #[.slice (some ⟨g, 0, none⟩) n c, .agg #[.slice a o.n c1, .slice b o.k c2]] w fun e w' => TurF w n A o e w' := by
  have hbs : ∀ w, (Instr.buildSlice 24 0 #[]).run Try.prog w = .ok (.slice (some ⟨w.heap.size, 0, none⟩) 0 0) (w.alloc (.cells #[] 37)) := fun _ => by kernel_rfl
  obtain ⟨N, hN⟩ : ∃ N, o.n = N := ⟨_, rfl⟩
  obtain ⟨K, hK⟩ : ∃ N, o.k = N := ⟨_, rfl⟩
  rw [hN] at s1 ⊢
  rw [hK] at s2 ⊢
  have HOK : Hid (isOp N o.f K o.h ↔ o.ok) := by rw [← hN, ← hK]; exact Iff.rfl
  clear hN hK
  obtain ⟨W1, hW1, Q1, B1, -⟩ := boxed w 37 #[.slice a N c1, .slice b K c2]
  obtain ⟨q1, hq1⟩ : ∃ q, w.heap.size = q := ⟨_, rfl⟩
  rw [hq1] at Q1
  obtain ⟨d0, d1, -⟩ := Q1.open2
  go_enter Try.func21, Try.ntmps21
  go_wp2_with fail
  refine (operatorOf_any c1 c2 (s1.below B1) (s2.below B1)).mono ?_
  rintro e w2 ⟨rfl, b2⟩
  clear d0 d1 Q1 hW1 hq1
  have B2 := B1.trans (b2.mono B1.size)
  by_cases ho : isOp N o.f K o.h
  rotate_left
  · rw [decide_eq_false ho]
    obtain ⟨ff, hff⟩ : ∃ f, tf N K o.f = f := ⟨_, rfl⟩
    obtain ⟨fh, hfh⟩ : ∃ f, tf N K o.h = f := ⟨_, rfl⟩
    rw [hff, hfh]
    obtain ⟨W3, hW3, Q6, B3, -⟩ := boxed w2 77 (opA ff fh)
    have B3' := B2.trans (B3.mono B2.size)
    have FI : Hid (TurF w n A o (.returned (.tuple #[.slice (some ⟨W3.heap.size, 0, none⟩) 0 0, .bool false])) (W3.alloc (.cells #[] 37))) :=
      ⟨⟨_, 0, 0, false, _, _, nth [], rfl, opsA_empty (fun i => opD (nth [] i)) B3'.size, .inr ⟨rfl, rfl, fun h => ho (HOK.out.2 h.2.1)⟩⟩, B3'.trans ((below_alloc _ _).mono B3'.size)⟩
    clear B3' B3 B2 b2 B1 Q6 hL s1 s2 hff hfh ho
    unfold opA at hW3 ⊢
    go_wp2
    refine bodyPost_ret (v := .tuple #[.slice (some ⟨_, 0, none⟩) 0 0, .bool false]) (by simp [results, Try.results21, go_sem]) rfl FI.out
  rw [decide_eq_true ho]
  have HO := hid_of (HOK.out.1 ho)
  obtain ⟨rfl, rfl, -⟩ := ho
  have e1 : tf 9 3 o.f = o.f := by simp [tf]
  have e2 : tf 9 3 o.h = o.h := by simp [tf]
  rw [e1, e2, ← kV_opA]
  clear e1 e2
  obtain ⟨P, hP⟩ : ∃ P, cat 9 o.f o.h = P := ⟨_, rfl⟩
  have HPK : Hid (o.key = P) := hP
  rw [hP]
  clear hP
  obtain ⟨W3, hW3, Q6, B3, -⟩ := boxed w2 77 (kc P).toArray
  obtain ⟨q6, hq6⟩ : ∃ q, w2.heap.size = q := ⟨_, rfl⟩
  rw [hq6] at Q6
  have BW := B2.trans (B3.mono B2.size)
  unfold kV
  unfold kc at hW3 ⊢
  go_wp2_with fail
  clear hW3 hq6 B3 B2 b2 B1
  obtain ⟨u0, hu0, bb⟩ : ∃ uu, W3.drew = uu ∧ Below W3.heap.size W3 uu := ⟨_, rfl, (Below.refl _ _).drew⟩
  have Q6u := Q6.below bb
  have bk0 : Kb W3 u0 := bb
  clear bb
  refine wp_region_held_drew (S := Kb u0) (by kernel_rfl) (by rw [hu0]; exact Below.refl _ _) (fun hHeld => ?_)
  rw [hu0] at hHeld ⊢
  clear hu0
  have bu : Kb u0 u0 := Below.refl _ _
  change wpAnyH _ _ _ _ _ 5 #[false, false, false, false, false] _ _
  refine wpAnyH_take (i := 0) (v := .slice ((some ⟨g, 0, none⟩)) n c) rfl (by kernel_rfl) (by kernel_rfl) (by kernel_rfl) (fun _ _ _ h => h) (Or.inl ⟨by kernel_rfl, ?_⟩) hHeld ?_
  · intro w' hSw; go_simp
  try simp only [Act.put, List.setIfInBounds_toArray, List.set_cons_zero, List.set_cons_succ, List.getElem_toArray, List.getElem_cons_zero]
  refine wpAnyH_take (i := 2) (v := .agg #[.int .i64 (P 0), .int .i64 (P 1), .int .i64 (P 2), .int .i64 (P 3), .int .i64 (P 4), .int .i64 (P 5), .int .i64 (P 6), .int .i64 (P 7), .int .i64 (P 8), .int .i64 (P 9), .int .i64 (P 10), .int .i64 (P 11)]) rfl (by kernel_rfl) (by kernel_rfl) (by kernel_rfl) (fun _ _ _ h => h) (Or.inl ⟨by kernel_rfl, ?_⟩) hHeld ?_
  · intro w' hSw; obtain ⟨z0, z1, z2, z3, z4, z5, z6, z7, z8, z9, z10, z11⟩ := At.openk (x := P) (Q6u.below hSw); go_simp
  try simp only [Act.put, List.setIfInBounds_toArray, List.set_cons_zero, List.set_cons_succ, List.getElem_toArray, List.getElem_cons_succ, List.getElem_cons_zero]
  refine wpAnyH_ready (rs := [1]) (by kernel_rfl) (by simp) ?_
  refine AllReadyH.cons rfl (fun KK hK' => ?_) AllReadyH.nil
  go_simp
  refine (groupOf_any (hL.below (BW.trans ((bk0.trans (Below.mono bu bk0.size)).mono BW.size))) hn).mono ?_
  rintro e u1 ⟨⟨v6, rfl, hG⟩, bb⟩
  obtain ⟨g6, m, c6, rfl, hO, hm, hmn, hGm⟩ := grp_one hG
  have HGm := hid_of hGm
  clear hG hGm
  replace bu : Kb u0 u1 := bu.trans (bb.mono bu.size)
  clear bb
  try go_wp2_with fail
  clear hHeld
  refine hK'.out _ _ (bu) (fun hHeld => ?_)
  clear hK' KK
  try simp only [List.setIfInBounds_toArray, List.set_cons_zero, List.set_cons_succ]
  refine wpAnyH_ready (rs := [3]) (by kernel_rfl) (by simp) ?_
  refine AllReadyH.cons rfl (fun KK hK' => ?_) AllReadyH.nil
  go_simp
  refine (turnedBy_any hO (fun i hi => by
    rcases HGm.out with h | h
    · exact ok_R (h.1.2.1 i (by omega))
    · omega) (p := P) (HPK.out ▸ ok_R HO.out) hm).mono ?_
  rintro e u2 ⟨⟨v7, m', G, rfl, hO5, hT⟩, bb⟩
  replace bu : Kb u0 u2 := bu.trans (bb.mono bu.size)
  clear bb hO
  try go_wp2_with fail
  clear hHeld
  refine hK'.out _ _ (bu) (fun hHeld => ?_)
  clear hK' KK
  try simp only [List.setIfInBounds_toArray, List.set_cons_zero, List.set_cons_succ]
  refine wpAnyH_take (i := 4) (v := v7) rfl (by kernel_rfl) (by kernel_rfl) (by kernel_rfl) (fun _ _ _ h => h) (Or.inl ⟨by kernel_rfl, ?_⟩) hHeld ?_
  · intro w' hSw; go_simp
  try simp only [Act.put, List.setIfInBounds_toArray, List.set_cons_zero, List.set_cons_succ, List.getElem_toArray, List.getElem_cons_succ, List.getElem_cons_zero]
  refine wpAnyH_done (by kernel_rfl) ?_ _
  clear hHeld
  have bz := bk0.trans (Below.mono bu bk0.size)
  clear bu bk0 Q6u
  have hTT : TurT n A o m' G (decide (0 < m')) := turT_of HGm.out HO.out (HPK.out ▸ hT)
  have HTT := hid_of hTT
  have hm' : m' ≤ 192 := by rcases hT with ⟨-, h, -⟩ | ⟨-, h⟩ <;> omega
  obtain ⟨g7, c7, rfl⟩ := oprs_open hO5
  have B5 := BW.trans (bz.mono BW.size)
  replace hO5 := oprs_base hO5 (Nat.le_refl _)
  clear hT hTT bz BW Q6
  go_wp2_with fail
  refine (toldOps_any hO5 (by omega)).mono ?_
  rintro e w8 ⟨⟨g8, c8, X, Y, rfl, H⟩, b8⟩
  have B8 := B5.trans (b8.mono B5.size)
  have H' := hid_of (H.lower B5.size)
  obtain ⟨bo, hbo⟩ : ∃ b, decide (0 < m') = b := ⟨_, rfl⟩
  have hbo2 : decide ((0 : Int) < (m' : Int)) = bo := by rw [← hbo]; exact decide_eq_decide.2 (by omega)
  have hmi : (m' : Int) ≤ 192 := by omega
  rw [hbo] at HTT
  clear H b8 hO5
  go_wp2
  refine bodyPost_ret (v := .tuple #[.slice (some ⟨g8, 0, none⟩) m' c8, .bool bo]) (by simp [results, Try.results21, go_sem]) rfl ⟨⟨g8, m', c8, bo, X, Y, G, rfl, H'.out, HTT.out⟩, B8⟩
end Go.Proofs.Ytmjeplhigjlopaa
