/-
  Labs copied: both lists new. Walked.
-/
import Derived.Test.YtnjnffemidaopaaAl
import Derived.Test.YtnjnffemidaopaaL17f
namespace Go.Proofs.Ytnjnffemidaopaa
open Go.RowKit

theorem ArK.fit {K : Nat} {t : TypeId} {w : World} {lo hi : Nat} {v : Value} {n : Nat} {f : Nat → Int} (h : ArK K t w lo hi v n f) : ArK K t w lo w.heap.size v n f :=
  h.imp id (fun ⟨g, c, e, a, _, d, e1, l⟩ => ⟨g, c, e, a, l.lt, d, e1, l⟩)
/-- A lab lies here. -/
def LabAt (q : Nat) (u v : Value) (T : Int) (w : World) : Prop := At 27 w q #[u, v, .int .i64 T]
theorem LabAt.at {q : Nat} {u v : Value} {T : Int} {w : World} (h : LabAt q u v T w) : At 27 w q #[u, v, .int .i64 T] := h
/-- What is told of a lab that is new. -/
def NwP (n m : Nat) (T : Int) (f k : Nat → Int) (w : World) (e : Ending) (w' : World) : Prop := ∃ vS vJ, e = .returned (labV vS vJ T) ∧ ArK 3 37 w' w.heap.size w'.heap.size vS n f ∧ ArK 4 39 w' w.heap.size w'.heap.size vJ m k ∧ vS ≠ .slice none 0 0 ∧ vJ ≠ .slice none 0 0 ∧ Below w.heap.size w w'
theorem cat0 (f g : Nat → Int) (K n : Nat) : ∀ i, i < n * K → cat f (0 * K) g i = g i := fun i _ => by simp [cat]
theorem put3_only (w : World) (q : Nat) (v0 v1 v2 : Value) : Only (.slice (some ⟨q, 0, none⟩) 0 0) w (((w.setCell ⟨q, 0, none⟩ v0).setCell ⟨q, 1, none⟩ v1).setCell ⟨q, 2, none⟩ v2) :=
  .of_kept (a := ⟨q, 0, none⟩) (((Kept.set (Kept.set (Kept.set (Kept.refl q w) v0) v1) v2)))
theorem apart_box {q : Nat} {v : Value} (h : v.ownBlock ≠ some q) : Apart (.slice (some ⟨q, 0, none⟩) 0 0) v := by
  intro j h1 h2
  have : q = j := by simpa [Value.ownBlock] using h1
  subst this
  exact h h2
set_option maxRecDepth 100000 in
set_option maxHeartbeats 3200000 in
theorem copied_any {w : World} {a b : Option Addr} {n c m d : Nat} {T : Int} {f k : Nat → Int} (hs : Ls 3 w a n f) (hj : Ls 4 w b m k) (hcS : a = none → n = 0 ∧ c = 0) (hcJ : b = none → m = 0 ∧ d = 0) (hn : n ≤ 900000) (hm : m ≤ 900000) :
    Calls Try.prog 40 #[lbV a n c b m d T] w (NwP n m T f k w) := by
  have hbS : ∀ w, (Instr.buildSlice 24 0 #[]).run Try.prog w = .ok (.slice (some ⟨w.heap.size, 0, none⟩) 0 0) (w.alloc (.cells #[] 37)) := fun _ => by kernel_rfl
  have hbJ : ∀ w, (Instr.buildSlice 25 0 #[]).run Try.prog w = .ok (.slice (some ⟨w.heap.size, 0, none⟩) 0 0) (w.alloc (.cells #[] 39)) := fun _ => by kernel_rfl
  obtain ⟨W1, hW1, A1, B1, -⟩ := boxed w 27 #[.slice a n c, .slice b m d, .int .i64 T]
  obtain ⟨W2, hW2, A2, B2, -⟩ := boxed W1 27 #[.slice none 0 0, .slice none 0 0, .int .i64 0]
  obtain ⟨q1, hq1⟩ : ∃ q, w.heap.size = q := ⟨_, rfl⟩
  obtain ⟨q2, hq2⟩ : ∃ q, W1.heap.size = q := ⟨_, rfl⟩
  have hl1 := A1.lt
  have BW := B1.trans (B2.mono B1.size)
  replace A1 := A1.below B2
  rw [hq1] at A1
  rw [hq2] at A2
  have hq12 : q1 ≠ q2 := by omega
  have hq2w : w.heap.size ≤ q2 := by omega
  clear B1 B2 hl1
  go_enter Try.func40, Try.ntmps40
  go_wp2_with fail
  clear hW1 hW2 hq1 hq2
  obtain ⟨u0, hu0, bb⟩ : ∃ uu, W2.drew = uu ∧ Below W2.heap.size W2 uu := ⟨_, rfl, (Below.refl _ _).drew⟩
  replace A1 := A1.below bb
  replace A2 := A2.below bb
  replace BW := BW.trans (bb.mono BW.size)
  clear bb
  refine wp_region_held_drew (S := LabAt q1 (.slice a n c) (.slice b m d) T) (by kernel_rfl) (by rw [hu0]; exact A1) (fun hHeld => ?_)
  rw [hu0] at hHeld ⊢
  clear hu0
  change wpAnyH _ _ _ _ _ 12 #[false, false, false, false, false, false, false, false, false, false, false, false] _ _
  refine wpAnyH_take (i := 1) (v := .pointer (some ⟨q1, 0, none⟩)) rfl (by kernel_rfl) (by kernel_rfl) (by kernel_rfl) (fun _ _ _ h => h) (Or.inl ⟨by kernel_rfl, ?_⟩) hHeld ?_
  · intro w' hSw; go_simp
  try simp only [Act.put, List.setIfInBounds_toArray, List.set_cons_zero, List.set_cons_succ, List.getElem_toArray, List.getElem_cons_succ, List.getElem_cons_zero]
  refine wpAnyH_take (i := 2) (v := .slice a n c) rfl (by kernel_rfl) (by kernel_rfl) (by kernel_rfl) (fun _ _ _ h => h) (Or.inl ⟨by kernel_rfl, ?_⟩) hHeld ?_
  · intro w' hSw; obtain ⟨z0, z1, z2, -⟩ := (LabAt.at hSw).open3; go_simp
  try simp only [Act.put, List.setIfInBounds_toArray, List.set_cons_zero, List.set_cons_succ, List.getElem_toArray, List.getElem_cons_succ, List.getElem_cons_zero]
  refine wpAnyH_take (i := 5) (v := .pointer (some ⟨q1, 1, none⟩)) rfl (by kernel_rfl) (by kernel_rfl) (by kernel_rfl) (fun _ _ _ h => h) (Or.inl ⟨by kernel_rfl, ?_⟩) hHeld ?_
  · intro w' hSw; go_simp
  try simp only [Act.put, List.setIfInBounds_toArray, List.set_cons_zero, List.set_cons_succ, List.getElem_toArray, List.getElem_cons_succ, List.getElem_cons_zero]
  refine wpAnyH_take (i := 6) (v := .slice b m d) rfl (by kernel_rfl) (by kernel_rfl) (by kernel_rfl) (fun _ _ _ h => h) (Or.inl ⟨by kernel_rfl, ?_⟩) hHeld ?_
  · intro w' hSw; obtain ⟨z0, z1, z2, -⟩ := (LabAt.at hSw).open3; go_simp
  try simp only [Act.put, List.setIfInBounds_toArray, List.set_cons_zero, List.set_cons_succ, List.getElem_toArray, List.getElem_cons_succ, List.getElem_cons_zero]
  refine wpAnyH_take (i := 8) (v := .pointer (some ⟨q1, 2, none⟩)) rfl (by kernel_rfl) (by kernel_rfl) (by kernel_rfl) (fun _ _ _ h => h) (Or.inl ⟨by kernel_rfl, ?_⟩) hHeld ?_
  · intro w' hSw; go_simp
  try simp only [Act.put, List.setIfInBounds_toArray, List.set_cons_zero, List.set_cons_succ, List.getElem_toArray, List.getElem_cons_succ, List.getElem_cons_zero]
  refine wpAnyH_take (i := 9) (v := .int .i64 (T)) rfl (by kernel_rfl) (by kernel_rfl) (by kernel_rfl) (fun _ _ _ h => h) (Or.inl ⟨by kernel_rfl, ?_⟩) hHeld ?_
  · intro w' hSw; obtain ⟨z0, z1, z2, -⟩ := (LabAt.at hSw).open3; go_simp
  try simp only [Act.put, List.setIfInBounds_toArray, List.set_cons_zero, List.set_cons_succ, List.getElem_toArray, List.getElem_cons_succ, List.getElem_cons_zero]
  refine wpAnyH_ready (rs := [0, 4]) (by kernel_rfl) (by simp) ?_
  refine AllReadyH.cons rfl (fun KK hK' => ?_) (AllReadyH.cons rfl (fun KK hK' => ?_) AllReadyH.nil)
  · go_simp
    obtain ⟨u1, h6, P6, bb, -⟩ := boxed u0 37 #[]
    rw [h6]
    clear h6
    obtain ⟨pS, hpS⟩ : ∃ q, u0.heap.size = q := ⟨_, rfl⟩
    rw [hpS] at P6 ⊢
    have zpS : w.heap.size ≤ pS := by have := BW.size; omega
    have OS : ArK 3 37 u1 w.heap.size u1.heap.size (.slice (some ⟨pS, 0, none⟩) 0 0) 0 (fun _ => 0) := .inr ⟨pS, 0, rfl, zpS, P6.lt, Nat.le_refl _, Nat.zero_le _, #[], P6, rfl, fun i hi => by omega⟩
    have NS : Value.slice (some ⟨pS, 0, none⟩) 0 0 ≠ .slice none 0 0 := fun h => by cases h
    clear P6 hpS
    replace A1 := A1.below bb
    replace A2 := A2.below bb
    replace BW := BW.trans (bb.mono BW.size)
    clear bb
    clear hHeld
    refine hK'.out _ _ (A1) (fun hHeld => ?_)
    clear hK' KK
    try simp only [List.setIfInBounds_toArray, List.set_cons_zero]
    refine wpAnyH_ready (rs := [3, 4]) (by kernel_rfl) (by simp) ?_
    refine AllReadyH.cons rfl (fun KK hK' => ?_) (AllReadyH.cons rfl (fun KK hK' => ?_) AllReadyH.nil)
    · refine stepK_append Try.underlying24 infoSample rfl (by omega) (by omega) _ rfl _ _ rfl rfl OS rfl (hs.below BW) hcS (by omega) BW.size ?_
      intro vS u2 hA hO hN
      rw [Nat.zero_add] at hA
      replace hA := hA.same (cat0 _ f 3 n)
      replace NS := hN NS
      obtain ⟨gS, eS, rfl, -, -, -, -⟩ := hA.nn NS
      replace A1 := A1.only hO (OS.box A1 (by decide))
      replace A2 := A2.only hO (OS.box A2 (by decide))
      replace BW := hO.belowK OS (Nat.le_refl _) BW BW.size
      clear hO hN
      replace OS := hA
      clear hA
      clear hHeld
      refine hK'.out _ _ (A1) (fun hHeld => ?_)
      clear hK' KK
      try simp only [List.setIfInBounds_toArray, List.set_cons_zero, List.set_cons_succ]
      refine wpAnyH_ready (rs := [4]) (by kernel_rfl) (by simp) ?_
      refine AllReadyH.cons rfl (fun KK hK' => ?_) AllReadyH.nil
      go_simp
      obtain ⟨u3, h6, P6, bb, -⟩ := boxed u2 39 #[]
      rw [h6]
      clear h6
      obtain ⟨pJ, hpJ⟩ : ∃ q, u2.heap.size = q := ⟨_, rfl⟩
      rw [hpJ] at P6 ⊢
      have zpJ : w.heap.size ≤ pJ := by have := BW.size; omega
      have OJ : ArK 4 39 u3 w.heap.size u3.heap.size (.slice (some ⟨pJ, 0, none⟩) 0 0) 0 (fun _ => 0) := .inr ⟨pJ, 0, rfl, zpJ, P6.lt, Nat.le_refl _, Nat.zero_le _, #[], P6, rfl, fun i hi => by omega⟩
      have NJ : Value.slice (some ⟨pJ, 0, none⟩) 0 0 ≠ .slice none 0 0 := fun h => by cases h
      clear P6 hpJ
      replace A1 := A1.below bb
      replace A2 := A2.below bb
      replace BW := BW.trans (bb.mono BW.size)
      replace OS := OS.below bb
      clear bb
      clear hHeld
      refine hK'.out _ _ (A1) (fun hHeld => ?_)
      clear hK' KK
      try simp only [List.setIfInBounds_toArray, List.set_cons_zero, List.set_cons_succ]
      refine wpAnyH_ready (rs := [7]) (by kernel_rfl) (by simp) ?_
      refine AllReadyH.cons rfl (fun KK hK' => ?_) AllReadyH.nil
      refine stepK_append Try.underlying25 infoJob rfl (by omega) (by omega) _ rfl _ _ rfl rfl OJ rfl (hj.below BW) hcJ (by omega) BW.size ?_
      intro vJ u4 hA hO hN
      rw [Nat.zero_add] at hA
      replace hA := hA.same (cat0 _ k 4 m)
      replace NJ := hN NJ
      obtain ⟨gJ, eJ, rfl, -, -, -, -⟩ := hA.nn NJ
      replace A1 := A1.only hO (OJ.box A1 (by decide))
      replace A2 := A2.only hO (OJ.box A2 (by decide))
      replace BW := hO.belowK OJ (Nat.le_refl _) BW BW.size
      replace OS := OS.only hO (OJ.apart OS (by decide))
      clear hO hN
      replace OJ := hA
      clear hA
      clear hHeld
      refine hK'.out _ _ (A1) (fun hHeld => ?_)
      clear hK' KK
      try simp only [List.setIfInBounds_toArray, List.set_cons_zero, List.set_cons_succ]
      refine wpAnyH_take (i := 10) (v := labV (.slice (some ⟨gS, 0, none⟩) n eS) (.slice (some ⟨gJ, 0, none⟩) m eJ) T) rfl (by kernel_rfl) (by kernel_rfl) (by kernel_rfl) (fun _ _ _ h => h) (Or.inl ⟨by kernel_rfl, ?_⟩) hHeld ?_
      · intro w' hSw; go_simp
      try simp only [Act.put, List.setIfInBounds_toArray, List.set_cons_zero, List.set_cons_succ, List.getElem_toArray, List.getElem_cons_succ, List.getElem_cons_zero]
      refine wpAnyH_ready (rs := [11]) (by kernel_rfl) (by simp) ?_
      refine AllReadyH.cons rfl (fun KK hK' => ?_) AllReadyH.nil
      obtain ⟨d0, d1, d2, e0, e1, e2⟩ := A2.open3
      go_simp
      have A3 := put3_at A2 (.slice (some ⟨gS, 0, none⟩) n eS) (.slice (some ⟨gJ, 0, none⟩) m eJ) (.int .i64 T)
      have BX := below_put3 BW (by omega : w.heap.size ≤ q2) (.slice (some ⟨gS, 0, none⟩) n eS) (.slice (some ⟨gJ, 0, none⟩) m eJ) (.int .i64 T)
      replace OS := OS.only (put3_only u4 q2 (.slice (some ⟨gS, 0, none⟩) n eS) (.slice (some ⟨gJ, 0, none⟩) m eJ) (.int .i64 T)) (apart_box (OS.box A2 (by decide)))
      replace OJ := OJ.only (put3_only u4 q2 (.slice (some ⟨gS, 0, none⟩) n eS) (.slice (some ⟨gJ, 0, none⟩) m eJ) (.int .i64 T)) (apart_box (OJ.box A2 (by decide)))
      obtain ⟨u5, hv⟩ : ∃ V, ((u4.setCell ⟨q2, 0, none⟩ (.slice (some ⟨gS, 0, none⟩) n eS)).setCell ⟨q2, 1, none⟩ (.slice (some ⟨gJ, 0, none⟩) m eJ)).setCell ⟨q2, 2, none⟩ (.int .i64 T) = V := ⟨_, rfl⟩
      rw [hv] at A3 BX OS OJ ⊢
      replace A1 : At 27 u5 q1 #[.slice a n c, .slice b m d, .int .i64 T] := by rw [← hv]; exact ((A1.setOther hq12 _).setOther hq12 _).setOther hq12 _
      clear hv A2 BW d0 d1 d2 e0 e1 e2
      clear hHeld
      refine hK'.out _ _ (A1) (fun hHeld => ?_)
      clear hK' KK
      try simp only [List.setIfInBounds_toArray, List.set_cons_zero, List.set_cons_succ]
      refine wpAnyH_done (by kernel_rfl) ?_ _
      clear hHeld
      go_wp2
      obtain ⟨p0, p1, p2, -⟩ := A3.open3
      refine bodyPost_ret (v := labV (.slice (some ⟨gS, 0, none⟩) n eS) (.slice (some ⟨gJ, 0, none⟩) m eJ) T) (by simp [results, Try.results40, go_sem, p0, p1, p2]) rfl ?_
      exact ⟨_, _, rfl, OS.fit, OJ.fit, NS, NJ, BX⟩
    · go_simp
      obtain ⟨u2, h6, P6, bb, -⟩ := boxed u1 39 #[]
      rw [h6]
      clear h6
      obtain ⟨pJ, hpJ⟩ : ∃ q, u1.heap.size = q := ⟨_, rfl⟩
      rw [hpJ] at P6 ⊢
      have zpJ : w.heap.size ≤ pJ := by have := BW.size; omega
      have OJ : ArK 4 39 u2 w.heap.size u2.heap.size (.slice (some ⟨pJ, 0, none⟩) 0 0) 0 (fun _ => 0) := .inr ⟨pJ, 0, rfl, zpJ, P6.lt, Nat.le_refl _, Nat.zero_le _, #[], P6, rfl, fun i hi => by omega⟩
      have NJ : Value.slice (some ⟨pJ, 0, none⟩) 0 0 ≠ .slice none 0 0 := fun h => by cases h
      clear P6 hpJ
      replace A1 := A1.below bb
      replace A2 := A2.below bb
      replace BW := BW.trans (bb.mono BW.size)
      replace OS := OS.below bb
      clear bb
      clear hHeld
      refine hK'.out _ _ (A1) (fun hHeld => ?_)
      clear hK' KK
      try simp only [List.setIfInBounds_toArray, List.set_cons_zero, List.set_cons_succ]
      refine wpAnyH_ready (rs := [3]) (by kernel_rfl) (by simp) ?_
      refine AllReadyH.cons rfl (fun KK hK' => ?_) AllReadyH.nil
      refine stepK_append Try.underlying24 infoSample rfl (by omega) (by omega) _ rfl _ _ rfl rfl OS rfl (hs.below BW) hcS (by omega) BW.size ?_
      intro vS u3 hA hO hN
      rw [Nat.zero_add] at hA
      replace hA := hA.same (cat0 _ f 3 n)
      replace NS := hN NS
      obtain ⟨gS, eS, rfl, -, -, -, -⟩ := hA.nn NS
      replace A1 := A1.only hO (OS.box A1 (by decide))
      replace A2 := A2.only hO (OS.box A2 (by decide))
      replace BW := hO.belowK OS (Nat.le_refl _) BW BW.size
      replace OJ := OJ.only hO (OS.apart OJ (by decide))
      clear hO hN
      replace OS := hA
      clear hA
      clear hHeld
      refine hK'.out _ _ (A1) (fun hHeld => ?_)
      clear hK' KK
      try simp only [List.setIfInBounds_toArray, List.set_cons_zero, List.set_cons_succ]
      refine wpAnyH_ready (rs := [7]) (by kernel_rfl) (by simp) ?_
      refine AllReadyH.cons rfl (fun KK hK' => ?_) AllReadyH.nil
      refine stepK_append Try.underlying25 infoJob rfl (by omega) (by omega) _ rfl _ _ rfl rfl OJ rfl (hj.below BW) hcJ (by omega) BW.size ?_
      intro vJ u4 hA hO hN
      rw [Nat.zero_add] at hA
      replace hA := hA.same (cat0 _ k 4 m)
      replace NJ := hN NJ
      obtain ⟨gJ, eJ, rfl, -, -, -, -⟩ := hA.nn NJ
      replace A1 := A1.only hO (OJ.box A1 (by decide))
      replace A2 := A2.only hO (OJ.box A2 (by decide))
      replace BW := hO.belowK OJ (Nat.le_refl _) BW BW.size
      replace OS := OS.only hO (OJ.apart OS (by decide))
      clear hO hN
      replace OJ := hA
      clear hA
      clear hHeld
      refine hK'.out _ _ (A1) (fun hHeld => ?_)
      clear hK' KK
      try simp only [List.setIfInBounds_toArray, List.set_cons_zero, List.set_cons_succ]
      refine wpAnyH_take (i := 10) (v := labV (.slice (some ⟨gS, 0, none⟩) n eS) (.slice (some ⟨gJ, 0, none⟩) m eJ) T) rfl (by kernel_rfl) (by kernel_rfl) (by kernel_rfl) (fun _ _ _ h => h) (Or.inl ⟨by kernel_rfl, ?_⟩) hHeld ?_
      · intro w' hSw; go_simp
      try simp only [Act.put, List.setIfInBounds_toArray, List.set_cons_zero, List.set_cons_succ, List.getElem_toArray, List.getElem_cons_succ, List.getElem_cons_zero]
      refine wpAnyH_ready (rs := [11]) (by kernel_rfl) (by simp) ?_
      refine AllReadyH.cons rfl (fun KK hK' => ?_) AllReadyH.nil
      obtain ⟨d0, d1, d2, e0, e1, e2⟩ := A2.open3
      go_simp
      have A3 := put3_at A2 (.slice (some ⟨gS, 0, none⟩) n eS) (.slice (some ⟨gJ, 0, none⟩) m eJ) (.int .i64 T)
      have BX := below_put3 BW (by omega : w.heap.size ≤ q2) (.slice (some ⟨gS, 0, none⟩) n eS) (.slice (some ⟨gJ, 0, none⟩) m eJ) (.int .i64 T)
      replace OS := OS.only (put3_only u4 q2 (.slice (some ⟨gS, 0, none⟩) n eS) (.slice (some ⟨gJ, 0, none⟩) m eJ) (.int .i64 T)) (apart_box (OS.box A2 (by decide)))
      replace OJ := OJ.only (put3_only u4 q2 (.slice (some ⟨gS, 0, none⟩) n eS) (.slice (some ⟨gJ, 0, none⟩) m eJ) (.int .i64 T)) (apart_box (OJ.box A2 (by decide)))
      obtain ⟨u5, hv⟩ : ∃ V, ((u4.setCell ⟨q2, 0, none⟩ (.slice (some ⟨gS, 0, none⟩) n eS)).setCell ⟨q2, 1, none⟩ (.slice (some ⟨gJ, 0, none⟩) m eJ)).setCell ⟨q2, 2, none⟩ (.int .i64 T) = V := ⟨_, rfl⟩
      rw [hv] at A3 BX OS OJ ⊢
      replace A1 : At 27 u5 q1 #[.slice a n c, .slice b m d, .int .i64 T] := by rw [← hv]; exact ((A1.setOther hq12 _).setOther hq12 _).setOther hq12 _
      clear hv A2 BW d0 d1 d2 e0 e1 e2
      clear hHeld
      refine hK'.out _ _ (A1) (fun hHeld => ?_)
      clear hK' KK
      try simp only [List.setIfInBounds_toArray, List.set_cons_zero, List.set_cons_succ]
      refine wpAnyH_done (by kernel_rfl) ?_ _
      clear hHeld
      go_wp2
      obtain ⟨p0, p1, p2, -⟩ := A3.open3
      refine bodyPost_ret (v := labV (.slice (some ⟨gS, 0, none⟩) n eS) (.slice (some ⟨gJ, 0, none⟩) m eJ) T) (by simp [results, Try.results40, go_sem, p0, p1, p2]) rfl ?_
      exact ⟨_, _, rfl, OS.fit, OJ.fit, NS, NJ, BX⟩
  · go_simp
    obtain ⟨u1, h6, P6, bb, -⟩ := boxed u0 39 #[]
    rw [h6]
    clear h6
    obtain ⟨pJ, hpJ⟩ : ∃ q, u0.heap.size = q := ⟨_, rfl⟩
    rw [hpJ] at P6 ⊢
    have zpJ : w.heap.size ≤ pJ := by have := BW.size; omega
    have OJ : ArK 4 39 u1 w.heap.size u1.heap.size (.slice (some ⟨pJ, 0, none⟩) 0 0) 0 (fun _ => 0) := .inr ⟨pJ, 0, rfl, zpJ, P6.lt, Nat.le_refl _, Nat.zero_le _, #[], P6, rfl, fun i hi => by omega⟩
    have NJ : Value.slice (some ⟨pJ, 0, none⟩) 0 0 ≠ .slice none 0 0 := fun h => by cases h
    clear P6 hpJ
    replace A1 := A1.below bb
    replace A2 := A2.below bb
    replace BW := BW.trans (bb.mono BW.size)
    clear bb
    clear hHeld
    refine hK'.out _ _ (A1) (fun hHeld => ?_)
    clear hK' KK
    try simp only [List.setIfInBounds_toArray, List.set_cons_zero, List.set_cons_succ]
    refine wpAnyH_ready (rs := [0]) (by kernel_rfl) (by simp) ?_
    refine AllReadyH.cons rfl (fun KK hK' => ?_) AllReadyH.nil
    go_simp
    obtain ⟨u2, h6, P6, bb, -⟩ := boxed u1 37 #[]
    rw [h6]
    clear h6
    obtain ⟨pS, hpS⟩ : ∃ q, u1.heap.size = q := ⟨_, rfl⟩
    rw [hpS] at P6 ⊢
    have zpS : w.heap.size ≤ pS := by have := BW.size; omega
    have OS : ArK 3 37 u2 w.heap.size u2.heap.size (.slice (some ⟨pS, 0, none⟩) 0 0) 0 (fun _ => 0) := .inr ⟨pS, 0, rfl, zpS, P6.lt, Nat.le_refl _, Nat.zero_le _, #[], P6, rfl, fun i hi => by omega⟩
    have NS : Value.slice (some ⟨pS, 0, none⟩) 0 0 ≠ .slice none 0 0 := fun h => by cases h
    clear P6 hpS
    replace A1 := A1.below bb
    replace A2 := A2.below bb
    replace BW := BW.trans (bb.mono BW.size)
    replace OJ := OJ.below bb
    clear bb
    clear hHeld
    refine hK'.out _ _ (A1) (fun hHeld => ?_)
    clear hK' KK
    try simp only [List.setIfInBounds_toArray, List.set_cons_zero]
    refine wpAnyH_ready (rs := [3]) (by kernel_rfl) (by simp) ?_
    refine AllReadyH.cons rfl (fun KK hK' => ?_) AllReadyH.nil
    refine stepK_append Try.underlying24 infoSample rfl (by omega) (by omega) _ rfl _ _ rfl rfl OS rfl (hs.below BW) hcS (by omega) BW.size ?_
    intro vS u3 hA hO hN
    rw [Nat.zero_add] at hA
    replace hA := hA.same (cat0 _ f 3 n)
    replace NS := hN NS
    obtain ⟨gS, eS, rfl, -, -, -, -⟩ := hA.nn NS
    replace A1 := A1.only hO (OS.box A1 (by decide))
    replace A2 := A2.only hO (OS.box A2 (by decide))
    replace BW := hO.belowK OS (Nat.le_refl _) BW BW.size
    replace OJ := OJ.only hO (OS.apart OJ (by decide))
    clear hO hN
    replace OS := hA
    clear hA
    clear hHeld
    refine hK'.out _ _ (A1) (fun hHeld => ?_)
    clear hK' KK
    try simp only [List.setIfInBounds_toArray, List.set_cons_zero, List.set_cons_succ]
    refine wpAnyH_ready (rs := [7]) (by kernel_rfl) (by simp) ?_
    refine AllReadyH.cons rfl (fun KK hK' => ?_) AllReadyH.nil
    refine stepK_append Try.underlying25 infoJob rfl (by omega) (by omega) _ rfl _ _ rfl rfl OJ rfl (hj.below BW) hcJ (by omega) BW.size ?_
    intro vJ u4 hA hO hN
    rw [Nat.zero_add] at hA
    replace hA := hA.same (cat0 _ k 4 m)
    replace NJ := hN NJ
    obtain ⟨gJ, eJ, rfl, -, -, -, -⟩ := hA.nn NJ
    replace A1 := A1.only hO (OJ.box A1 (by decide))
    replace A2 := A2.only hO (OJ.box A2 (by decide))
    replace BW := hO.belowK OJ (Nat.le_refl _) BW BW.size
    replace OS := OS.only hO (OJ.apart OS (by decide))
    clear hO hN
    replace OJ := hA
    clear hA
    clear hHeld
    refine hK'.out _ _ (A1) (fun hHeld => ?_)
    clear hK' KK
    try simp only [List.setIfInBounds_toArray, List.set_cons_zero, List.set_cons_succ]
    refine wpAnyH_take (i := 10) (v := labV (.slice (some ⟨gS, 0, none⟩) n eS) (.slice (some ⟨gJ, 0, none⟩) m eJ) T) rfl (by kernel_rfl) (by kernel_rfl) (by kernel_rfl) (fun _ _ _ h => h) (Or.inl ⟨by kernel_rfl, ?_⟩) hHeld ?_
    · intro w' hSw; go_simp
    try simp only [Act.put, List.setIfInBounds_toArray, List.set_cons_zero, List.set_cons_succ, List.getElem_toArray, List.getElem_cons_succ, List.getElem_cons_zero]
    refine wpAnyH_ready (rs := [11]) (by kernel_rfl) (by simp) ?_
    refine AllReadyH.cons rfl (fun KK hK' => ?_) AllReadyH.nil
    obtain ⟨d0, d1, d2, e0, e1, e2⟩ := A2.open3
    go_simp
    have A3 := put3_at A2 (.slice (some ⟨gS, 0, none⟩) n eS) (.slice (some ⟨gJ, 0, none⟩) m eJ) (.int .i64 T)
    have BX := below_put3 BW (by omega : w.heap.size ≤ q2) (.slice (some ⟨gS, 0, none⟩) n eS) (.slice (some ⟨gJ, 0, none⟩) m eJ) (.int .i64 T)
    replace OS := OS.only (put3_only u4 q2 (.slice (some ⟨gS, 0, none⟩) n eS) (.slice (some ⟨gJ, 0, none⟩) m eJ) (.int .i64 T)) (apart_box (OS.box A2 (by decide)))
    replace OJ := OJ.only (put3_only u4 q2 (.slice (some ⟨gS, 0, none⟩) n eS) (.slice (some ⟨gJ, 0, none⟩) m eJ) (.int .i64 T)) (apart_box (OJ.box A2 (by decide)))
    obtain ⟨u5, hv⟩ : ∃ V, ((u4.setCell ⟨q2, 0, none⟩ (.slice (some ⟨gS, 0, none⟩) n eS)).setCell ⟨q2, 1, none⟩ (.slice (some ⟨gJ, 0, none⟩) m eJ)).setCell ⟨q2, 2, none⟩ (.int .i64 T) = V := ⟨_, rfl⟩
    rw [hv] at A3 BX OS OJ ⊢
    replace A1 : At 27 u5 q1 #[.slice a n c, .slice b m d, .int .i64 T] := by rw [← hv]; exact ((A1.setOther hq12 _).setOther hq12 _).setOther hq12 _
    clear hv A2 BW d0 d1 d2 e0 e1 e2
    clear hHeld
    refine hK'.out _ _ (A1) (fun hHeld => ?_)
    clear hK' KK
    try simp only [List.setIfInBounds_toArray, List.set_cons_zero, List.set_cons_succ]
    refine wpAnyH_done (by kernel_rfl) ?_ _
    clear hHeld
    go_wp2
    obtain ⟨p0, p1, p2, -⟩ := A3.open3
    refine bodyPost_ret (v := labV (.slice (some ⟨gS, 0, none⟩) n eS) (.slice (some ⟨gJ, 0, none⟩) m eJ) T) (by simp [results, Try.results40, go_sem, p0, p1, p2]) rfl ?_
    exact ⟨_, _, rfl, OS.fit, OJ.fit, NS, NJ, BX⟩
set_option maxRecDepth 100000 in
set_option maxHeartbeats 3200000 in
theorem l17Copy_any {w : World} {a b : Option Addr} {n c m d : Nat} {T : Int} {f k : Nat → Int} (hs : Ls 3 w a n f) (hj : Ls 4 w b m k) (hcS : a = none → n = 0 ∧ c = 0) (hcJ : b = none → m = 0 ∧ d = 0) (hn : n ≤ 900000) (hm : m ≤ 900000) :
    Calls Try.prog 60 #[lbV a n c b m d T] w (NwP n m T f k w) := by
  have hbS : ∀ w, (Instr.buildSlice 24 0 #[]).run Try.prog w = .ok (.slice (some ⟨w.heap.size, 0, none⟩) 0 0) (w.alloc (.cells #[] 37)) := fun _ => by kernel_rfl
  have hbJ : ∀ w, (Instr.buildSlice 25 0 #[]).run Try.prog w = .ok (.slice (some ⟨w.heap.size, 0, none⟩) 0 0) (w.alloc (.cells #[] 39)) := fun _ => by kernel_rfl
  obtain ⟨W1, hW1, A1, B1, -⟩ := boxed w 27 #[.slice a n c, .slice b m d, .int .i64 T]
  obtain ⟨W2, hW2, A2, B2, -⟩ := boxed W1 27 #[.slice none 0 0, .slice none 0 0, .int .i64 0]
  obtain ⟨q1, hq1⟩ : ∃ q, w.heap.size = q := ⟨_, rfl⟩
  obtain ⟨q2, hq2⟩ : ∃ q, W1.heap.size = q := ⟨_, rfl⟩
  have hl1 := A1.lt
  have BW := B1.trans (B2.mono B1.size)
  replace A1 := A1.below B2
  rw [hq1] at A1
  rw [hq2] at A2
  have hq12 : q1 ≠ q2 := by omega
  have hq2w : w.heap.size ≤ q2 := by omega
  clear B1 B2 hl1
  go_enter Try.func60, Try.ntmps60
  go_wp2_with fail
  clear hW1 hW2 hq1 hq2
  obtain ⟨u0, hu0, bb⟩ : ∃ uu, W2.drew = uu ∧ Below W2.heap.size W2 uu := ⟨_, rfl, (Below.refl _ _).drew⟩
  replace A1 := A1.below bb
  replace A2 := A2.below bb
  replace BW := BW.trans (bb.mono BW.size)
  clear bb
  refine wp_region_held_drew (S := LabAt q1 (.slice a n c) (.slice b m d) T) (by kernel_rfl) (by rw [hu0]; exact A1) (fun hHeld => ?_)
  rw [hu0] at hHeld ⊢
  clear hu0
  change wpAnyH _ _ _ _ _ 12 #[false, false, false, false, false, false, false, false, false, false, false, false] _ _
  refine wpAnyH_take (i := 1) (v := .pointer (some ⟨q1, 0, none⟩)) rfl (by kernel_rfl) (by kernel_rfl) (by kernel_rfl) (fun _ _ _ h => h) (Or.inl ⟨by kernel_rfl, ?_⟩) hHeld ?_
  · intro w' hSw; go_simp
  try simp only [Act.put, List.setIfInBounds_toArray, List.set_cons_zero, List.set_cons_succ, List.getElem_toArray, List.getElem_cons_succ, List.getElem_cons_zero]
  refine wpAnyH_take (i := 2) (v := .slice a n c) rfl (by kernel_rfl) (by kernel_rfl) (by kernel_rfl) (fun _ _ _ h => h) (Or.inl ⟨by kernel_rfl, ?_⟩) hHeld ?_
  · intro w' hSw; obtain ⟨z0, z1, z2, -⟩ := (LabAt.at hSw).open3; go_simp
  try simp only [Act.put, List.setIfInBounds_toArray, List.set_cons_zero, List.set_cons_succ, List.getElem_toArray, List.getElem_cons_succ, List.getElem_cons_zero]
  refine wpAnyH_take (i := 5) (v := .pointer (some ⟨q1, 1, none⟩)) rfl (by kernel_rfl) (by kernel_rfl) (by kernel_rfl) (fun _ _ _ h => h) (Or.inl ⟨by kernel_rfl, ?_⟩) hHeld ?_
  · intro w' hSw; go_simp
  try simp only [Act.put, List.setIfInBounds_toArray, List.set_cons_zero, List.set_cons_succ, List.getElem_toArray, List.getElem_cons_succ, List.getElem_cons_zero]
  refine wpAnyH_take (i := 6) (v := .slice b m d) rfl (by kernel_rfl) (by kernel_rfl) (by kernel_rfl) (fun _ _ _ h => h) (Or.inl ⟨by kernel_rfl, ?_⟩) hHeld ?_
  · intro w' hSw; obtain ⟨z0, z1, z2, -⟩ := (LabAt.at hSw).open3; go_simp
  try simp only [Act.put, List.setIfInBounds_toArray, List.set_cons_zero, List.set_cons_succ, List.getElem_toArray, List.getElem_cons_succ, List.getElem_cons_zero]
  refine wpAnyH_take (i := 8) (v := .pointer (some ⟨q1, 2, none⟩)) rfl (by kernel_rfl) (by kernel_rfl) (by kernel_rfl) (fun _ _ _ h => h) (Or.inl ⟨by kernel_rfl, ?_⟩) hHeld ?_
  · intro w' hSw; go_simp
  try simp only [Act.put, List.setIfInBounds_toArray, List.set_cons_zero, List.set_cons_succ, List.getElem_toArray, List.getElem_cons_succ, List.getElem_cons_zero]
  refine wpAnyH_take (i := 9) (v := .int .i64 (T)) rfl (by kernel_rfl) (by kernel_rfl) (by kernel_rfl) (fun _ _ _ h => h) (Or.inl ⟨by kernel_rfl, ?_⟩) hHeld ?_
  · intro w' hSw; obtain ⟨z0, z1, z2, -⟩ := (LabAt.at hSw).open3; go_simp
  try simp only [Act.put, List.setIfInBounds_toArray, List.set_cons_zero, List.set_cons_succ, List.getElem_toArray, List.getElem_cons_succ, List.getElem_cons_zero]
  refine wpAnyH_ready (rs := [0, 4]) (by kernel_rfl) (by simp) ?_
  refine AllReadyH.cons rfl (fun KK hK' => ?_) (AllReadyH.cons rfl (fun KK hK' => ?_) AllReadyH.nil)
  · go_simp
    obtain ⟨u1, h6, P6, bb, -⟩ := boxed u0 37 #[]
    rw [h6]
    clear h6
    obtain ⟨pS, hpS⟩ : ∃ q, u0.heap.size = q := ⟨_, rfl⟩
    rw [hpS] at P6 ⊢
    have zpS : w.heap.size ≤ pS := by have := BW.size; omega
    have OS : ArK 3 37 u1 w.heap.size u1.heap.size (.slice (some ⟨pS, 0, none⟩) 0 0) 0 (fun _ => 0) := .inr ⟨pS, 0, rfl, zpS, P6.lt, Nat.le_refl _, Nat.zero_le _, #[], P6, rfl, fun i hi => by omega⟩
    have NS : Value.slice (some ⟨pS, 0, none⟩) 0 0 ≠ .slice none 0 0 := fun h => by cases h
    clear P6 hpS
    replace A1 := A1.below bb
    replace A2 := A2.below bb
    replace BW := BW.trans (bb.mono BW.size)
    clear bb
    clear hHeld
    refine hK'.out _ _ (A1) (fun hHeld => ?_)
    clear hK' KK
    try simp only [List.setIfInBounds_toArray, List.set_cons_zero]
    refine wpAnyH_ready (rs := [3, 4]) (by kernel_rfl) (by simp) ?_
    refine AllReadyH.cons rfl (fun KK hK' => ?_) (AllReadyH.cons rfl (fun KK hK' => ?_) AllReadyH.nil)
    · refine stepK_append Try.underlying24 infoSample rfl (by omega) (by omega) _ rfl _ _ rfl rfl OS rfl (hs.below BW) hcS (by omega) BW.size ?_
      intro vS u2 hA hO hN
      rw [Nat.zero_add] at hA
      replace hA := hA.same (cat0 _ f 3 n)
      replace NS := hN NS
      obtain ⟨gS, eS, rfl, -, -, -, -⟩ := hA.nn NS
      replace A1 := A1.only hO (OS.box A1 (by decide))
      replace A2 := A2.only hO (OS.box A2 (by decide))
      replace BW := hO.belowK OS (Nat.le_refl _) BW BW.size
      clear hO hN
      replace OS := hA
      clear hA
      clear hHeld
      refine hK'.out _ _ (A1) (fun hHeld => ?_)
      clear hK' KK
      try simp only [List.setIfInBounds_toArray, List.set_cons_zero, List.set_cons_succ]
      refine wpAnyH_ready (rs := [4]) (by kernel_rfl) (by simp) ?_
      refine AllReadyH.cons rfl (fun KK hK' => ?_) AllReadyH.nil
      go_simp
      obtain ⟨u3, h6, P6, bb, -⟩ := boxed u2 39 #[]
      rw [h6]
      clear h6
      obtain ⟨pJ, hpJ⟩ : ∃ q, u2.heap.size = q := ⟨_, rfl⟩
      rw [hpJ] at P6 ⊢
      have zpJ : w.heap.size ≤ pJ := by have := BW.size; omega
      have OJ : ArK 4 39 u3 w.heap.size u3.heap.size (.slice (some ⟨pJ, 0, none⟩) 0 0) 0 (fun _ => 0) := .inr ⟨pJ, 0, rfl, zpJ, P6.lt, Nat.le_refl _, Nat.zero_le _, #[], P6, rfl, fun i hi => by omega⟩
      have NJ : Value.slice (some ⟨pJ, 0, none⟩) 0 0 ≠ .slice none 0 0 := fun h => by cases h
      clear P6 hpJ
      replace A1 := A1.below bb
      replace A2 := A2.below bb
      replace BW := BW.trans (bb.mono BW.size)
      replace OS := OS.below bb
      clear bb
      clear hHeld
      refine hK'.out _ _ (A1) (fun hHeld => ?_)
      clear hK' KK
      try simp only [List.setIfInBounds_toArray, List.set_cons_zero, List.set_cons_succ]
      refine wpAnyH_ready (rs := [7]) (by kernel_rfl) (by simp) ?_
      refine AllReadyH.cons rfl (fun KK hK' => ?_) AllReadyH.nil
      refine stepK_append Try.underlying25 infoJob rfl (by omega) (by omega) _ rfl _ _ rfl rfl OJ rfl (hj.below BW) hcJ (by omega) BW.size ?_
      intro vJ u4 hA hO hN
      rw [Nat.zero_add] at hA
      replace hA := hA.same (cat0 _ k 4 m)
      replace NJ := hN NJ
      obtain ⟨gJ, eJ, rfl, -, -, -, -⟩ := hA.nn NJ
      replace A1 := A1.only hO (OJ.box A1 (by decide))
      replace A2 := A2.only hO (OJ.box A2 (by decide))
      replace BW := hO.belowK OJ (Nat.le_refl _) BW BW.size
      replace OS := OS.only hO (OJ.apart OS (by decide))
      clear hO hN
      replace OJ := hA
      clear hA
      clear hHeld
      refine hK'.out _ _ (A1) (fun hHeld => ?_)
      clear hK' KK
      try simp only [List.setIfInBounds_toArray, List.set_cons_zero, List.set_cons_succ]
      refine wpAnyH_take (i := 10) (v := labV (.slice (some ⟨gS, 0, none⟩) n eS) (.slice (some ⟨gJ, 0, none⟩) m eJ) T) rfl (by kernel_rfl) (by kernel_rfl) (by kernel_rfl) (fun _ _ _ h => h) (Or.inl ⟨by kernel_rfl, ?_⟩) hHeld ?_
      · intro w' hSw; go_simp
      try simp only [Act.put, List.setIfInBounds_toArray, List.set_cons_zero, List.set_cons_succ, List.getElem_toArray, List.getElem_cons_succ, List.getElem_cons_zero]
      refine wpAnyH_ready (rs := [11]) (by kernel_rfl) (by simp) ?_
      refine AllReadyH.cons rfl (fun KK hK' => ?_) AllReadyH.nil
      obtain ⟨d0, d1, d2, e0, e1, e2⟩ := A2.open3
      go_simp
      have A3 := put3_at A2 (.slice (some ⟨gS, 0, none⟩) n eS) (.slice (some ⟨gJ, 0, none⟩) m eJ) (.int .i64 T)
      have BX := below_put3 BW (by omega : w.heap.size ≤ q2) (.slice (some ⟨gS, 0, none⟩) n eS) (.slice (some ⟨gJ, 0, none⟩) m eJ) (.int .i64 T)
      replace OS := OS.only (put3_only u4 q2 (.slice (some ⟨gS, 0, none⟩) n eS) (.slice (some ⟨gJ, 0, none⟩) m eJ) (.int .i64 T)) (apart_box (OS.box A2 (by decide)))
      replace OJ := OJ.only (put3_only u4 q2 (.slice (some ⟨gS, 0, none⟩) n eS) (.slice (some ⟨gJ, 0, none⟩) m eJ) (.int .i64 T)) (apart_box (OJ.box A2 (by decide)))
      obtain ⟨u5, hv⟩ : ∃ V, ((u4.setCell ⟨q2, 0, none⟩ (.slice (some ⟨gS, 0, none⟩) n eS)).setCell ⟨q2, 1, none⟩ (.slice (some ⟨gJ, 0, none⟩) m eJ)).setCell ⟨q2, 2, none⟩ (.int .i64 T) = V := ⟨_, rfl⟩
      rw [hv] at A3 BX OS OJ ⊢
      replace A1 : At 27 u5 q1 #[.slice a n c, .slice b m d, .int .i64 T] := by rw [← hv]; exact ((A1.setOther hq12 _).setOther hq12 _).setOther hq12 _
      clear hv A2 BW d0 d1 d2 e0 e1 e2
      clear hHeld
      refine hK'.out _ _ (A1) (fun hHeld => ?_)
      clear hK' KK
      try simp only [List.setIfInBounds_toArray, List.set_cons_zero, List.set_cons_succ]
      refine wpAnyH_done (by kernel_rfl) ?_ _
      clear hHeld
      go_wp2
      obtain ⟨p0, p1, p2, -⟩ := A3.open3
      refine bodyPost_ret (v := labV (.slice (some ⟨gS, 0, none⟩) n eS) (.slice (some ⟨gJ, 0, none⟩) m eJ) T) (by simp [results, Try.results60, go_sem, p0, p1, p2]) rfl ?_
      exact ⟨_, _, rfl, OS.fit, OJ.fit, NS, NJ, BX⟩
    · go_simp
      obtain ⟨u2, h6, P6, bb, -⟩ := boxed u1 39 #[]
      rw [h6]
      clear h6
      obtain ⟨pJ, hpJ⟩ : ∃ q, u1.heap.size = q := ⟨_, rfl⟩
      rw [hpJ] at P6 ⊢
      have zpJ : w.heap.size ≤ pJ := by have := BW.size; omega
      have OJ : ArK 4 39 u2 w.heap.size u2.heap.size (.slice (some ⟨pJ, 0, none⟩) 0 0) 0 (fun _ => 0) := .inr ⟨pJ, 0, rfl, zpJ, P6.lt, Nat.le_refl _, Nat.zero_le _, #[], P6, rfl, fun i hi => by omega⟩
      have NJ : Value.slice (some ⟨pJ, 0, none⟩) 0 0 ≠ .slice none 0 0 := fun h => by cases h
      clear P6 hpJ
      replace A1 := A1.below bb
      replace A2 := A2.below bb
      replace BW := BW.trans (bb.mono BW.size)
      replace OS := OS.below bb
      clear bb
      clear hHeld
      refine hK'.out _ _ (A1) (fun hHeld => ?_)
      clear hK' KK
      try simp only [List.setIfInBounds_toArray, List.set_cons_zero, List.set_cons_succ]
      refine wpAnyH_ready (rs := [3]) (by kernel_rfl) (by simp) ?_
      refine AllReadyH.cons rfl (fun KK hK' => ?_) AllReadyH.nil
      refine stepK_append Try.underlying24 infoSample rfl (by omega) (by omega) _ rfl _ _ rfl rfl OS rfl (hs.below BW) hcS (by omega) BW.size ?_
      intro vS u3 hA hO hN
      rw [Nat.zero_add] at hA
      replace hA := hA.same (cat0 _ f 3 n)
      replace NS := hN NS
      obtain ⟨gS, eS, rfl, -, -, -, -⟩ := hA.nn NS
      replace A1 := A1.only hO (OS.box A1 (by decide))
      replace A2 := A2.only hO (OS.box A2 (by decide))
      replace BW := hO.belowK OS (Nat.le_refl _) BW BW.size
      replace OJ := OJ.only hO (OS.apart OJ (by decide))
      clear hO hN
      replace OS := hA
      clear hA
      clear hHeld
      refine hK'.out _ _ (A1) (fun hHeld => ?_)
      clear hK' KK
      try simp only [List.setIfInBounds_toArray, List.set_cons_zero, List.set_cons_succ]
      refine wpAnyH_ready (rs := [7]) (by kernel_rfl) (by simp) ?_
      refine AllReadyH.cons rfl (fun KK hK' => ?_) AllReadyH.nil
      refine stepK_append Try.underlying25 infoJob rfl (by omega) (by omega) _ rfl _ _ rfl rfl OJ rfl (hj.below BW) hcJ (by omega) BW.size ?_
      intro vJ u4 hA hO hN
      rw [Nat.zero_add] at hA
      replace hA := hA.same (cat0 _ k 4 m)
      replace NJ := hN NJ
      obtain ⟨gJ, eJ, rfl, -, -, -, -⟩ := hA.nn NJ
      replace A1 := A1.only hO (OJ.box A1 (by decide))
      replace A2 := A2.only hO (OJ.box A2 (by decide))
      replace BW := hO.belowK OJ (Nat.le_refl _) BW BW.size
      replace OS := OS.only hO (OJ.apart OS (by decide))
      clear hO hN
      replace OJ := hA
      clear hA
      clear hHeld
      refine hK'.out _ _ (A1) (fun hHeld => ?_)
      clear hK' KK
      try simp only [List.setIfInBounds_toArray, List.set_cons_zero, List.set_cons_succ]
      refine wpAnyH_take (i := 10) (v := labV (.slice (some ⟨gS, 0, none⟩) n eS) (.slice (some ⟨gJ, 0, none⟩) m eJ) T) rfl (by kernel_rfl) (by kernel_rfl) (by kernel_rfl) (fun _ _ _ h => h) (Or.inl ⟨by kernel_rfl, ?_⟩) hHeld ?_
      · intro w' hSw; go_simp
      try simp only [Act.put, List.setIfInBounds_toArray, List.set_cons_zero, List.set_cons_succ, List.getElem_toArray, List.getElem_cons_succ, List.getElem_cons_zero]
      refine wpAnyH_ready (rs := [11]) (by kernel_rfl) (by simp) ?_
      refine AllReadyH.cons rfl (fun KK hK' => ?_) AllReadyH.nil
      obtain ⟨d0, d1, d2, e0, e1, e2⟩ := A2.open3
      go_simp
      have A3 := put3_at A2 (.slice (some ⟨gS, 0, none⟩) n eS) (.slice (some ⟨gJ, 0, none⟩) m eJ) (.int .i64 T)
      have BX := below_put3 BW (by omega : w.heap.size ≤ q2) (.slice (some ⟨gS, 0, none⟩) n eS) (.slice (some ⟨gJ, 0, none⟩) m eJ) (.int .i64 T)
      replace OS := OS.only (put3_only u4 q2 (.slice (some ⟨gS, 0, none⟩) n eS) (.slice (some ⟨gJ, 0, none⟩) m eJ) (.int .i64 T)) (apart_box (OS.box A2 (by decide)))
      replace OJ := OJ.only (put3_only u4 q2 (.slice (some ⟨gS, 0, none⟩) n eS) (.slice (some ⟨gJ, 0, none⟩) m eJ) (.int .i64 T)) (apart_box (OJ.box A2 (by decide)))
      obtain ⟨u5, hv⟩ : ∃ V, ((u4.setCell ⟨q2, 0, none⟩ (.slice (some ⟨gS, 0, none⟩) n eS)).setCell ⟨q2, 1, none⟩ (.slice (some ⟨gJ, 0, none⟩) m eJ)).setCell ⟨q2, 2, none⟩ (.int .i64 T) = V := ⟨_, rfl⟩
      rw [hv] at A3 BX OS OJ ⊢
      replace A1 : At 27 u5 q1 #[.slice a n c, .slice b m d, .int .i64 T] := by rw [← hv]; exact ((A1.setOther hq12 _).setOther hq12 _).setOther hq12 _
      clear hv A2 BW d0 d1 d2 e0 e1 e2
      clear hHeld
      refine hK'.out _ _ (A1) (fun hHeld => ?_)
      clear hK' KK
      try simp only [List.setIfInBounds_toArray, List.set_cons_zero, List.set_cons_succ]
      refine wpAnyH_done (by kernel_rfl) ?_ _
      clear hHeld
      go_wp2
      obtain ⟨p0, p1, p2, -⟩ := A3.open3
      refine bodyPost_ret (v := labV (.slice (some ⟨gS, 0, none⟩) n eS) (.slice (some ⟨gJ, 0, none⟩) m eJ) T) (by simp [results, Try.results60, go_sem, p0, p1, p2]) rfl ?_
      exact ⟨_, _, rfl, OS.fit, OJ.fit, NS, NJ, BX⟩
  · go_simp
    obtain ⟨u1, h6, P6, bb, -⟩ := boxed u0 39 #[]
    rw [h6]
    clear h6
    obtain ⟨pJ, hpJ⟩ : ∃ q, u0.heap.size = q := ⟨_, rfl⟩
    rw [hpJ] at P6 ⊢
    have zpJ : w.heap.size ≤ pJ := by have := BW.size; omega
    have OJ : ArK 4 39 u1 w.heap.size u1.heap.size (.slice (some ⟨pJ, 0, none⟩) 0 0) 0 (fun _ => 0) := .inr ⟨pJ, 0, rfl, zpJ, P6.lt, Nat.le_refl _, Nat.zero_le _, #[], P6, rfl, fun i hi => by omega⟩
    have NJ : Value.slice (some ⟨pJ, 0, none⟩) 0 0 ≠ .slice none 0 0 := fun h => by cases h
    clear P6 hpJ
    replace A1 := A1.below bb
    replace A2 := A2.below bb
    replace BW := BW.trans (bb.mono BW.size)
    clear bb
    clear hHeld
    refine hK'.out _ _ (A1) (fun hHeld => ?_)
    clear hK' KK
    try simp only [List.setIfInBounds_toArray, List.set_cons_zero, List.set_cons_succ]
    refine wpAnyH_ready (rs := [0]) (by kernel_rfl) (by simp) ?_
    refine AllReadyH.cons rfl (fun KK hK' => ?_) AllReadyH.nil
    go_simp
    obtain ⟨u2, h6, P6, bb, -⟩ := boxed u1 37 #[]
    rw [h6]
    clear h6
    obtain ⟨pS, hpS⟩ : ∃ q, u1.heap.size = q := ⟨_, rfl⟩
    rw [hpS] at P6 ⊢
    have zpS : w.heap.size ≤ pS := by have := BW.size; omega
    have OS : ArK 3 37 u2 w.heap.size u2.heap.size (.slice (some ⟨pS, 0, none⟩) 0 0) 0 (fun _ => 0) := .inr ⟨pS, 0, rfl, zpS, P6.lt, Nat.le_refl _, Nat.zero_le _, #[], P6, rfl, fun i hi => by omega⟩
    have NS : Value.slice (some ⟨pS, 0, none⟩) 0 0 ≠ .slice none 0 0 := fun h => by cases h
    clear P6 hpS
    replace A1 := A1.below bb
    replace A2 := A2.below bb
    replace BW := BW.trans (bb.mono BW.size)
    replace OJ := OJ.below bb
    clear bb
    clear hHeld
    refine hK'.out _ _ (A1) (fun hHeld => ?_)
    clear hK' KK
    try simp only [List.setIfInBounds_toArray, List.set_cons_zero]
    refine wpAnyH_ready (rs := [3]) (by kernel_rfl) (by simp) ?_
    refine AllReadyH.cons rfl (fun KK hK' => ?_) AllReadyH.nil
    refine stepK_append Try.underlying24 infoSample rfl (by omega) (by omega) _ rfl _ _ rfl rfl OS rfl (hs.below BW) hcS (by omega) BW.size ?_
    intro vS u3 hA hO hN
    rw [Nat.zero_add] at hA
    replace hA := hA.same (cat0 _ f 3 n)
    replace NS := hN NS
    obtain ⟨gS, eS, rfl, -, -, -, -⟩ := hA.nn NS
    replace A1 := A1.only hO (OS.box A1 (by decide))
    replace A2 := A2.only hO (OS.box A2 (by decide))
    replace BW := hO.belowK OS (Nat.le_refl _) BW BW.size
    replace OJ := OJ.only hO (OS.apart OJ (by decide))
    clear hO hN
    replace OS := hA
    clear hA
    clear hHeld
    refine hK'.out _ _ (A1) (fun hHeld => ?_)
    clear hK' KK
    try simp only [List.setIfInBounds_toArray, List.set_cons_zero, List.set_cons_succ]
    refine wpAnyH_ready (rs := [7]) (by kernel_rfl) (by simp) ?_
    refine AllReadyH.cons rfl (fun KK hK' => ?_) AllReadyH.nil
    refine stepK_append Try.underlying25 infoJob rfl (by omega) (by omega) _ rfl _ _ rfl rfl OJ rfl (hj.below BW) hcJ (by omega) BW.size ?_
    intro vJ u4 hA hO hN
    rw [Nat.zero_add] at hA
    replace hA := hA.same (cat0 _ k 4 m)
    replace NJ := hN NJ
    obtain ⟨gJ, eJ, rfl, -, -, -, -⟩ := hA.nn NJ
    replace A1 := A1.only hO (OJ.box A1 (by decide))
    replace A2 := A2.only hO (OJ.box A2 (by decide))
    replace BW := hO.belowK OJ (Nat.le_refl _) BW BW.size
    replace OS := OS.only hO (OJ.apart OS (by decide))
    clear hO hN
    replace OJ := hA
    clear hA
    clear hHeld
    refine hK'.out _ _ (A1) (fun hHeld => ?_)
    clear hK' KK
    try simp only [List.setIfInBounds_toArray, List.set_cons_zero, List.set_cons_succ]
    refine wpAnyH_take (i := 10) (v := labV (.slice (some ⟨gS, 0, none⟩) n eS) (.slice (some ⟨gJ, 0, none⟩) m eJ) T) rfl (by kernel_rfl) (by kernel_rfl) (by kernel_rfl) (fun _ _ _ h => h) (Or.inl ⟨by kernel_rfl, ?_⟩) hHeld ?_
    · intro w' hSw; go_simp
    try simp only [Act.put, List.setIfInBounds_toArray, List.set_cons_zero, List.set_cons_succ, List.getElem_toArray, List.getElem_cons_succ, List.getElem_cons_zero]
    refine wpAnyH_ready (rs := [11]) (by kernel_rfl) (by simp) ?_
    refine AllReadyH.cons rfl (fun KK hK' => ?_) AllReadyH.nil
    obtain ⟨d0, d1, d2, e0, e1, e2⟩ := A2.open3
    go_simp
    have A3 := put3_at A2 (.slice (some ⟨gS, 0, none⟩) n eS) (.slice (some ⟨gJ, 0, none⟩) m eJ) (.int .i64 T)
    have BX := below_put3 BW (by omega : w.heap.size ≤ q2) (.slice (some ⟨gS, 0, none⟩) n eS) (.slice (some ⟨gJ, 0, none⟩) m eJ) (.int .i64 T)
    replace OS := OS.only (put3_only u4 q2 (.slice (some ⟨gS, 0, none⟩) n eS) (.slice (some ⟨gJ, 0, none⟩) m eJ) (.int .i64 T)) (apart_box (OS.box A2 (by decide)))
    replace OJ := OJ.only (put3_only u4 q2 (.slice (some ⟨gS, 0, none⟩) n eS) (.slice (some ⟨gJ, 0, none⟩) m eJ) (.int .i64 T)) (apart_box (OJ.box A2 (by decide)))
    obtain ⟨u5, hv⟩ : ∃ V, ((u4.setCell ⟨q2, 0, none⟩ (.slice (some ⟨gS, 0, none⟩) n eS)).setCell ⟨q2, 1, none⟩ (.slice (some ⟨gJ, 0, none⟩) m eJ)).setCell ⟨q2, 2, none⟩ (.int .i64 T) = V := ⟨_, rfl⟩
    rw [hv] at A3 BX OS OJ ⊢
    replace A1 : At 27 u5 q1 #[.slice a n c, .slice b m d, .int .i64 T] := by rw [← hv]; exact ((A1.setOther hq12 _).setOther hq12 _).setOther hq12 _
    clear hv A2 BW d0 d1 d2 e0 e1 e2
    clear hHeld
    refine hK'.out _ _ (A1) (fun hHeld => ?_)
    clear hK' KK
    try simp only [List.setIfInBounds_toArray, List.set_cons_zero, List.set_cons_succ]
    refine wpAnyH_done (by kernel_rfl) ?_ _
    clear hHeld
    go_wp2
    obtain ⟨p0, p1, p2, -⟩ := A3.open3
    refine bodyPost_ret (v := labV (.slice (some ⟨gS, 0, none⟩) n eS) (.slice (some ⟨gJ, 0, none⟩) m eJ) T) (by simp [results, Try.results60, go_sem, p0, p1, p2]) rfl ?_
    exact ⟨_, _, rfl, OS.fit, OJ.fit, NS, NJ, BX⟩
set_option maxRecDepth 100000 in
set_option maxHeartbeats 3200000 in
theorem copyLab_any {w : World} {a b : Option Addr} {n c m d : Nat} {T : Int} {f k : Nat → Int} (hs : Ls 3 w a n f) (hj : Ls 4 w b m k) (hcS : a = none → n = 0 ∧ c = 0) (hcJ : b = none → m = 0 ∧ d = 0) (hn : n ≤ 900000) (hm : m ≤ 900000) :
    Calls Try.prog 13 #[lbV a n c b m d T] w (NwP n m T f k w) := by
  have hbS : ∀ w, (Instr.buildSlice 24 0 #[]).run Try.prog w = .ok (.slice (some ⟨w.heap.size, 0, none⟩) 0 0) (w.alloc (.cells #[] 37)) := fun _ => by kernel_rfl
  have hbJ : ∀ w, (Instr.buildSlice 25 0 #[]).run Try.prog w = .ok (.slice (some ⟨w.heap.size, 0, none⟩) 0 0) (w.alloc (.cells #[] 39)) := fun _ => by kernel_rfl
  obtain ⟨W1, hW1, A1, B1, -⟩ := boxed w 27 #[.slice a n c, .slice b m d, .int .i64 T]
  obtain ⟨W2, hW2, A2, B2, -⟩ := boxed W1 27 #[.slice none 0 0, .slice none 0 0, .int .i64 0]
  obtain ⟨q1, hq1⟩ : ∃ q, w.heap.size = q := ⟨_, rfl⟩
  obtain ⟨q2, hq2⟩ : ∃ q, W1.heap.size = q := ⟨_, rfl⟩
  have hl1 := A1.lt
  have BW := B1.trans (B2.mono B1.size)
  replace A1 := A1.below B2
  rw [hq1] at A1
  rw [hq2] at A2
  have hq12 : q1 ≠ q2 := by omega
  have hq2w : w.heap.size ≤ q2 := by omega
  clear B1 B2 hl1
  go_enter Try.func13, Try.ntmps13
  go_wp2_with fail
  clear hW1 hW2 hq1 hq2
  obtain ⟨u0, hu0, bb⟩ : ∃ uu, W2.drew = uu ∧ Below W2.heap.size W2 uu := ⟨_, rfl, (Below.refl _ _).drew⟩
  replace A1 := A1.below bb
  replace A2 := A2.below bb
  replace BW := BW.trans (bb.mono BW.size)
  clear bb
  refine wp_region_held_drew (S := LabAt q1 (.slice a n c) (.slice b m d) T) (by kernel_rfl) (by rw [hu0]; exact A1) (fun hHeld => ?_)
  rw [hu0] at hHeld ⊢
  clear hu0
  change wpAnyH _ _ _ _ _ 12 #[false, false, false, false, false, false, false, false, false, false, false, false] _ _
  refine wpAnyH_take (i := 1) (v := .pointer (some ⟨q1, 0, none⟩)) rfl (by kernel_rfl) (by kernel_rfl) (by kernel_rfl) (fun _ _ _ h => h) (Or.inl ⟨by kernel_rfl, ?_⟩) hHeld ?_
  · intro w' hSw; go_simp
  try simp only [Act.put, List.setIfInBounds_toArray, List.set_cons_zero, List.set_cons_succ, List.getElem_toArray, List.getElem_cons_succ, List.getElem_cons_zero]
  refine wpAnyH_take (i := 2) (v := .slice a n c) rfl (by kernel_rfl) (by kernel_rfl) (by kernel_rfl) (fun _ _ _ h => h) (Or.inl ⟨by kernel_rfl, ?_⟩) hHeld ?_
  · intro w' hSw; obtain ⟨z0, z1, z2, -⟩ := (LabAt.at hSw).open3; go_simp
  try simp only [Act.put, List.setIfInBounds_toArray, List.set_cons_zero, List.set_cons_succ, List.getElem_toArray, List.getElem_cons_succ, List.getElem_cons_zero]
  refine wpAnyH_take (i := 5) (v := .pointer (some ⟨q1, 1, none⟩)) rfl (by kernel_rfl) (by kernel_rfl) (by kernel_rfl) (fun _ _ _ h => h) (Or.inl ⟨by kernel_rfl, ?_⟩) hHeld ?_
  · intro w' hSw; go_simp
  try simp only [Act.put, List.setIfInBounds_toArray, List.set_cons_zero, List.set_cons_succ, List.getElem_toArray, List.getElem_cons_succ, List.getElem_cons_zero]
  refine wpAnyH_take (i := 6) (v := .slice b m d) rfl (by kernel_rfl) (by kernel_rfl) (by kernel_rfl) (fun _ _ _ h => h) (Or.inl ⟨by kernel_rfl, ?_⟩) hHeld ?_
  · intro w' hSw; obtain ⟨z0, z1, z2, -⟩ := (LabAt.at hSw).open3; go_simp
  try simp only [Act.put, List.setIfInBounds_toArray, List.set_cons_zero, List.set_cons_succ, List.getElem_toArray, List.getElem_cons_succ, List.getElem_cons_zero]
  refine wpAnyH_take (i := 8) (v := .pointer (some ⟨q1, 2, none⟩)) rfl (by kernel_rfl) (by kernel_rfl) (by kernel_rfl) (fun _ _ _ h => h) (Or.inl ⟨by kernel_rfl, ?_⟩) hHeld ?_
  · intro w' hSw; go_simp
  try simp only [Act.put, List.setIfInBounds_toArray, List.set_cons_zero, List.set_cons_succ, List.getElem_toArray, List.getElem_cons_succ, List.getElem_cons_zero]
  refine wpAnyH_take (i := 9) (v := .int .i64 (T)) rfl (by kernel_rfl) (by kernel_rfl) (by kernel_rfl) (fun _ _ _ h => h) (Or.inl ⟨by kernel_rfl, ?_⟩) hHeld ?_
  · intro w' hSw; obtain ⟨z0, z1, z2, -⟩ := (LabAt.at hSw).open3; go_simp
  try simp only [Act.put, List.setIfInBounds_toArray, List.set_cons_zero, List.set_cons_succ, List.getElem_toArray, List.getElem_cons_succ, List.getElem_cons_zero]
  refine wpAnyH_ready (rs := [0, 4]) (by kernel_rfl) (by simp) ?_
  refine AllReadyH.cons rfl (fun KK hK' => ?_) (AllReadyH.cons rfl (fun KK hK' => ?_) AllReadyH.nil)
  · go_simp
    obtain ⟨u1, h6, P6, bb, -⟩ := boxed u0 37 #[]
    rw [h6]
    clear h6
    obtain ⟨pS, hpS⟩ : ∃ q, u0.heap.size = q := ⟨_, rfl⟩
    rw [hpS] at P6 ⊢
    have zpS : w.heap.size ≤ pS := by have := BW.size; omega
    have OS : ArK 3 37 u1 w.heap.size u1.heap.size (.slice (some ⟨pS, 0, none⟩) 0 0) 0 (fun _ => 0) := .inr ⟨pS, 0, rfl, zpS, P6.lt, Nat.le_refl _, Nat.zero_le _, #[], P6, rfl, fun i hi => by omega⟩
    have NS : Value.slice (some ⟨pS, 0, none⟩) 0 0 ≠ .slice none 0 0 := fun h => by cases h
    clear P6 hpS
    replace A1 := A1.below bb
    replace A2 := A2.below bb
    replace BW := BW.trans (bb.mono BW.size)
    clear bb
    clear hHeld
    refine hK'.out _ _ (A1) (fun hHeld => ?_)
    clear hK' KK
    try simp only [List.setIfInBounds_toArray, List.set_cons_zero]
    refine wpAnyH_ready (rs := [3, 4]) (by kernel_rfl) (by simp) ?_
    refine AllReadyH.cons rfl (fun KK hK' => ?_) (AllReadyH.cons rfl (fun KK hK' => ?_) AllReadyH.nil)
    · refine stepK_append Try.underlying24 infoSample rfl (by omega) (by omega) _ rfl _ _ rfl rfl OS rfl (hs.below BW) hcS (by omega) BW.size ?_
      intro vS u2 hA hO hN
      rw [Nat.zero_add] at hA
      replace hA := hA.same (cat0 _ f 3 n)
      replace NS := hN NS
      obtain ⟨gS, eS, rfl, -, -, -, -⟩ := hA.nn NS
      replace A1 := A1.only hO (OS.box A1 (by decide))
      replace A2 := A2.only hO (OS.box A2 (by decide))
      replace BW := hO.belowK OS (Nat.le_refl _) BW BW.size
      clear hO hN
      replace OS := hA
      clear hA
      clear hHeld
      refine hK'.out _ _ (A1) (fun hHeld => ?_)
      clear hK' KK
      try simp only [List.setIfInBounds_toArray, List.set_cons_zero, List.set_cons_succ]
      refine wpAnyH_ready (rs := [4]) (by kernel_rfl) (by simp) ?_
      refine AllReadyH.cons rfl (fun KK hK' => ?_) AllReadyH.nil
      go_simp
      obtain ⟨u3, h6, P6, bb, -⟩ := boxed u2 39 #[]
      rw [h6]
      clear h6
      obtain ⟨pJ, hpJ⟩ : ∃ q, u2.heap.size = q := ⟨_, rfl⟩
      rw [hpJ] at P6 ⊢
      have zpJ : w.heap.size ≤ pJ := by have := BW.size; omega
      have OJ : ArK 4 39 u3 w.heap.size u3.heap.size (.slice (some ⟨pJ, 0, none⟩) 0 0) 0 (fun _ => 0) := .inr ⟨pJ, 0, rfl, zpJ, P6.lt, Nat.le_refl _, Nat.zero_le _, #[], P6, rfl, fun i hi => by omega⟩
      have NJ : Value.slice (some ⟨pJ, 0, none⟩) 0 0 ≠ .slice none 0 0 := fun h => by cases h
      clear P6 hpJ
      replace A1 := A1.below bb
      replace A2 := A2.below bb
      replace BW := BW.trans (bb.mono BW.size)
      replace OS := OS.below bb
      clear bb
      clear hHeld
      refine hK'.out _ _ (A1) (fun hHeld => ?_)
      clear hK' KK
      try simp only [List.setIfInBounds_toArray, List.set_cons_zero, List.set_cons_succ]
      refine wpAnyH_ready (rs := [7]) (by kernel_rfl) (by simp) ?_
      refine AllReadyH.cons rfl (fun KK hK' => ?_) AllReadyH.nil
      refine stepK_append Try.underlying25 infoJob rfl (by omega) (by omega) _ rfl _ _ rfl rfl OJ rfl (hj.below BW) hcJ (by omega) BW.size ?_
      intro vJ u4 hA hO hN
      rw [Nat.zero_add] at hA
      replace hA := hA.same (cat0 _ k 4 m)
      replace NJ := hN NJ
      obtain ⟨gJ, eJ, rfl, -, -, -, -⟩ := hA.nn NJ
      replace A1 := A1.only hO (OJ.box A1 (by decide))
      replace A2 := A2.only hO (OJ.box A2 (by decide))
      replace BW := hO.belowK OJ (Nat.le_refl _) BW BW.size
      replace OS := OS.only hO (OJ.apart OS (by decide))
      clear hO hN
      replace OJ := hA
      clear hA
      clear hHeld
      refine hK'.out _ _ (A1) (fun hHeld => ?_)
      clear hK' KK
      try simp only [List.setIfInBounds_toArray, List.set_cons_zero, List.set_cons_succ]
      refine wpAnyH_take (i := 10) (v := labV (.slice (some ⟨gS, 0, none⟩) n eS) (.slice (some ⟨gJ, 0, none⟩) m eJ) T) rfl (by kernel_rfl) (by kernel_rfl) (by kernel_rfl) (fun _ _ _ h => h) (Or.inl ⟨by kernel_rfl, ?_⟩) hHeld ?_
      · intro w' hSw; go_simp
      try simp only [Act.put, List.setIfInBounds_toArray, List.set_cons_zero, List.set_cons_succ, List.getElem_toArray, List.getElem_cons_succ, List.getElem_cons_zero]
      refine wpAnyH_ready (rs := [11]) (by kernel_rfl) (by simp) ?_
      refine AllReadyH.cons rfl (fun KK hK' => ?_) AllReadyH.nil
      obtain ⟨d0, d1, d2, e0, e1, e2⟩ := A2.open3
      go_simp
      have A3 := put3_at A2 (.slice (some ⟨gS, 0, none⟩) n eS) (.slice (some ⟨gJ, 0, none⟩) m eJ) (.int .i64 T)
      have BX := below_put3 BW (by omega : w.heap.size ≤ q2) (.slice (some ⟨gS, 0, none⟩) n eS) (.slice (some ⟨gJ, 0, none⟩) m eJ) (.int .i64 T)
      replace OS := OS.only (put3_only u4 q2 (.slice (some ⟨gS, 0, none⟩) n eS) (.slice (some ⟨gJ, 0, none⟩) m eJ) (.int .i64 T)) (apart_box (OS.box A2 (by decide)))
      replace OJ := OJ.only (put3_only u4 q2 (.slice (some ⟨gS, 0, none⟩) n eS) (.slice (some ⟨gJ, 0, none⟩) m eJ) (.int .i64 T)) (apart_box (OJ.box A2 (by decide)))
      obtain ⟨u5, hv⟩ : ∃ V, ((u4.setCell ⟨q2, 0, none⟩ (.slice (some ⟨gS, 0, none⟩) n eS)).setCell ⟨q2, 1, none⟩ (.slice (some ⟨gJ, 0, none⟩) m eJ)).setCell ⟨q2, 2, none⟩ (.int .i64 T) = V := ⟨_, rfl⟩
      rw [hv] at A3 BX OS OJ ⊢
      replace A1 : At 27 u5 q1 #[.slice a n c, .slice b m d, .int .i64 T] := by rw [← hv]; exact ((A1.setOther hq12 _).setOther hq12 _).setOther hq12 _
      clear hv A2 BW d0 d1 d2 e0 e1 e2
      clear hHeld
      refine hK'.out _ _ (A1) (fun hHeld => ?_)
      clear hK' KK
      try simp only [List.setIfInBounds_toArray, List.set_cons_zero, List.set_cons_succ]
      refine wpAnyH_done (by kernel_rfl) ?_ _
      clear hHeld
      go_wp2
      obtain ⟨p0, p1, p2, -⟩ := A3.open3
      refine bodyPost_ret (v := labV (.slice (some ⟨gS, 0, none⟩) n eS) (.slice (some ⟨gJ, 0, none⟩) m eJ) T) (by simp [results, Try.results13, go_sem, p0, p1, p2]) rfl ?_
      exact ⟨_, _, rfl, OS.fit, OJ.fit, NS, NJ, BX⟩
    · go_simp
      obtain ⟨u2, h6, P6, bb, -⟩ := boxed u1 39 #[]
      rw [h6]
      clear h6
      obtain ⟨pJ, hpJ⟩ : ∃ q, u1.heap.size = q := ⟨_, rfl⟩
      rw [hpJ] at P6 ⊢
      have zpJ : w.heap.size ≤ pJ := by have := BW.size; omega
      have OJ : ArK 4 39 u2 w.heap.size u2.heap.size (.slice (some ⟨pJ, 0, none⟩) 0 0) 0 (fun _ => 0) := .inr ⟨pJ, 0, rfl, zpJ, P6.lt, Nat.le_refl _, Nat.zero_le _, #[], P6, rfl, fun i hi => by omega⟩
      have NJ : Value.slice (some ⟨pJ, 0, none⟩) 0 0 ≠ .slice none 0 0 := fun h => by cases h
      clear P6 hpJ
      replace A1 := A1.below bb
      replace A2 := A2.below bb
      replace BW := BW.trans (bb.mono BW.size)
      replace OS := OS.below bb
      clear bb
      clear hHeld
      refine hK'.out _ _ (A1) (fun hHeld => ?_)
      clear hK' KK
      try simp only [List.setIfInBounds_toArray, List.set_cons_zero, List.set_cons_succ]
      refine wpAnyH_ready (rs := [3]) (by kernel_rfl) (by simp) ?_
      refine AllReadyH.cons rfl (fun KK hK' => ?_) AllReadyH.nil
      refine stepK_append Try.underlying24 infoSample rfl (by omega) (by omega) _ rfl _ _ rfl rfl OS rfl (hs.below BW) hcS (by omega) BW.size ?_
      intro vS u3 hA hO hN
      rw [Nat.zero_add] at hA
      replace hA := hA.same (cat0 _ f 3 n)
      replace NS := hN NS
      obtain ⟨gS, eS, rfl, -, -, -, -⟩ := hA.nn NS
      replace A1 := A1.only hO (OS.box A1 (by decide))
      replace A2 := A2.only hO (OS.box A2 (by decide))
      replace BW := hO.belowK OS (Nat.le_refl _) BW BW.size
      replace OJ := OJ.only hO (OS.apart OJ (by decide))
      clear hO hN
      replace OS := hA
      clear hA
      clear hHeld
      refine hK'.out _ _ (A1) (fun hHeld => ?_)
      clear hK' KK
      try simp only [List.setIfInBounds_toArray, List.set_cons_zero, List.set_cons_succ]
      refine wpAnyH_ready (rs := [7]) (by kernel_rfl) (by simp) ?_
      refine AllReadyH.cons rfl (fun KK hK' => ?_) AllReadyH.nil
      refine stepK_append Try.underlying25 infoJob rfl (by omega) (by omega) _ rfl _ _ rfl rfl OJ rfl (hj.below BW) hcJ (by omega) BW.size ?_
      intro vJ u4 hA hO hN
      rw [Nat.zero_add] at hA
      replace hA := hA.same (cat0 _ k 4 m)
      replace NJ := hN NJ
      obtain ⟨gJ, eJ, rfl, -, -, -, -⟩ := hA.nn NJ
      replace A1 := A1.only hO (OJ.box A1 (by decide))
      replace A2 := A2.only hO (OJ.box A2 (by decide))
      replace BW := hO.belowK OJ (Nat.le_refl _) BW BW.size
      replace OS := OS.only hO (OJ.apart OS (by decide))
      clear hO hN
      replace OJ := hA
      clear hA
      clear hHeld
      refine hK'.out _ _ (A1) (fun hHeld => ?_)
      clear hK' KK
      try simp only [List.setIfInBounds_toArray, List.set_cons_zero, List.set_cons_succ]
      refine wpAnyH_take (i := 10) (v := labV (.slice (some ⟨gS, 0, none⟩) n eS) (.slice (some ⟨gJ, 0, none⟩) m eJ) T) rfl (by kernel_rfl) (by kernel_rfl) (by kernel_rfl) (fun _ _ _ h => h) (Or.inl ⟨by kernel_rfl, ?_⟩) hHeld ?_
      · intro w' hSw; go_simp
      try simp only [Act.put, List.setIfInBounds_toArray, List.set_cons_zero, List.set_cons_succ, List.getElem_toArray, List.getElem_cons_succ, List.getElem_cons_zero]
      refine wpAnyH_ready (rs := [11]) (by kernel_rfl) (by simp) ?_
      refine AllReadyH.cons rfl (fun KK hK' => ?_) AllReadyH.nil
      obtain ⟨d0, d1, d2, e0, e1, e2⟩ := A2.open3
      go_simp
      have A3 := put3_at A2 (.slice (some ⟨gS, 0, none⟩) n eS) (.slice (some ⟨gJ, 0, none⟩) m eJ) (.int .i64 T)
      have BX := below_put3 BW (by omega : w.heap.size ≤ q2) (.slice (some ⟨gS, 0, none⟩) n eS) (.slice (some ⟨gJ, 0, none⟩) m eJ) (.int .i64 T)
      replace OS := OS.only (put3_only u4 q2 (.slice (some ⟨gS, 0, none⟩) n eS) (.slice (some ⟨gJ, 0, none⟩) m eJ) (.int .i64 T)) (apart_box (OS.box A2 (by decide)))
      replace OJ := OJ.only (put3_only u4 q2 (.slice (some ⟨gS, 0, none⟩) n eS) (.slice (some ⟨gJ, 0, none⟩) m eJ) (.int .i64 T)) (apart_box (OJ.box A2 (by decide)))
      obtain ⟨u5, hv⟩ : ∃ V, ((u4.setCell ⟨q2, 0, none⟩ (.slice (some ⟨gS, 0, none⟩) n eS)).setCell ⟨q2, 1, none⟩ (.slice (some ⟨gJ, 0, none⟩) m eJ)).setCell ⟨q2, 2, none⟩ (.int .i64 T) = V := ⟨_, rfl⟩
      rw [hv] at A3 BX OS OJ ⊢
      replace A1 : At 27 u5 q1 #[.slice a n c, .slice b m d, .int .i64 T] := by rw [← hv]; exact ((A1.setOther hq12 _).setOther hq12 _).setOther hq12 _
      clear hv A2 BW d0 d1 d2 e0 e1 e2
      clear hHeld
      refine hK'.out _ _ (A1) (fun hHeld => ?_)
      clear hK' KK
      try simp only [List.setIfInBounds_toArray, List.set_cons_zero, List.set_cons_succ]
      refine wpAnyH_done (by kernel_rfl) ?_ _
      clear hHeld
      go_wp2
      obtain ⟨p0, p1, p2, -⟩ := A3.open3
      refine bodyPost_ret (v := labV (.slice (some ⟨gS, 0, none⟩) n eS) (.slice (some ⟨gJ, 0, none⟩) m eJ) T) (by simp [results, Try.results13, go_sem, p0, p1, p2]) rfl ?_
      exact ⟨_, _, rfl, OS.fit, OJ.fit, NS, NJ, BX⟩
  · go_simp
    obtain ⟨u1, h6, P6, bb, -⟩ := boxed u0 39 #[]
    rw [h6]
    clear h6
    obtain ⟨pJ, hpJ⟩ : ∃ q, u0.heap.size = q := ⟨_, rfl⟩
    rw [hpJ] at P6 ⊢
    have zpJ : w.heap.size ≤ pJ := by have := BW.size; omega
    have OJ : ArK 4 39 u1 w.heap.size u1.heap.size (.slice (some ⟨pJ, 0, none⟩) 0 0) 0 (fun _ => 0) := .inr ⟨pJ, 0, rfl, zpJ, P6.lt, Nat.le_refl _, Nat.zero_le _, #[], P6, rfl, fun i hi => by omega⟩
    have NJ : Value.slice (some ⟨pJ, 0, none⟩) 0 0 ≠ .slice none 0 0 := fun h => by cases h
    clear P6 hpJ
    replace A1 := A1.below bb
    replace A2 := A2.below bb
    replace BW := BW.trans (bb.mono BW.size)
    clear bb
    clear hHeld
    refine hK'.out _ _ (A1) (fun hHeld => ?_)
    clear hK' KK
    try simp only [List.setIfInBounds_toArray, List.set_cons_zero, List.set_cons_succ]
    refine wpAnyH_ready (rs := [0]) (by kernel_rfl) (by simp) ?_
    refine AllReadyH.cons rfl (fun KK hK' => ?_) AllReadyH.nil
    go_simp
    obtain ⟨u2, h6, P6, bb, -⟩ := boxed u1 37 #[]
    rw [h6]
    clear h6
    obtain ⟨pS, hpS⟩ : ∃ q, u1.heap.size = q := ⟨_, rfl⟩
    rw [hpS] at P6 ⊢
    have zpS : w.heap.size ≤ pS := by have := BW.size; omega
    have OS : ArK 3 37 u2 w.heap.size u2.heap.size (.slice (some ⟨pS, 0, none⟩) 0 0) 0 (fun _ => 0) := .inr ⟨pS, 0, rfl, zpS, P6.lt, Nat.le_refl _, Nat.zero_le _, #[], P6, rfl, fun i hi => by omega⟩
    have NS : Value.slice (some ⟨pS, 0, none⟩) 0 0 ≠ .slice none 0 0 := fun h => by cases h
    clear P6 hpS
    replace A1 := A1.below bb
    replace A2 := A2.below bb
    replace BW := BW.trans (bb.mono BW.size)
    replace OJ := OJ.below bb
    clear bb
    clear hHeld
    refine hK'.out _ _ (A1) (fun hHeld => ?_)
    clear hK' KK
    try simp only [List.setIfInBounds_toArray, List.set_cons_zero]
    refine wpAnyH_ready (rs := [3]) (by kernel_rfl) (by simp) ?_
    refine AllReadyH.cons rfl (fun KK hK' => ?_) AllReadyH.nil
    refine stepK_append Try.underlying24 infoSample rfl (by omega) (by omega) _ rfl _ _ rfl rfl OS rfl (hs.below BW) hcS (by omega) BW.size ?_
    intro vS u3 hA hO hN
    rw [Nat.zero_add] at hA
    replace hA := hA.same (cat0 _ f 3 n)
    replace NS := hN NS
    obtain ⟨gS, eS, rfl, -, -, -, -⟩ := hA.nn NS
    replace A1 := A1.only hO (OS.box A1 (by decide))
    replace A2 := A2.only hO (OS.box A2 (by decide))
    replace BW := hO.belowK OS (Nat.le_refl _) BW BW.size
    replace OJ := OJ.only hO (OS.apart OJ (by decide))
    clear hO hN
    replace OS := hA
    clear hA
    clear hHeld
    refine hK'.out _ _ (A1) (fun hHeld => ?_)
    clear hK' KK
    try simp only [List.setIfInBounds_toArray, List.set_cons_zero, List.set_cons_succ]
    refine wpAnyH_ready (rs := [7]) (by kernel_rfl) (by simp) ?_
    refine AllReadyH.cons rfl (fun KK hK' => ?_) AllReadyH.nil
    refine stepK_append Try.underlying25 infoJob rfl (by omega) (by omega) _ rfl _ _ rfl rfl OJ rfl (hj.below BW) hcJ (by omega) BW.size ?_
    intro vJ u4 hA hO hN
    rw [Nat.zero_add] at hA
    replace hA := hA.same (cat0 _ k 4 m)
    replace NJ := hN NJ
    obtain ⟨gJ, eJ, rfl, -, -, -, -⟩ := hA.nn NJ
    replace A1 := A1.only hO (OJ.box A1 (by decide))
    replace A2 := A2.only hO (OJ.box A2 (by decide))
    replace BW := hO.belowK OJ (Nat.le_refl _) BW BW.size
    replace OS := OS.only hO (OJ.apart OS (by decide))
    clear hO hN
    replace OJ := hA
    clear hA
    clear hHeld
    refine hK'.out _ _ (A1) (fun hHeld => ?_)
    clear hK' KK
    try simp only [List.setIfInBounds_toArray, List.set_cons_zero, List.set_cons_succ]
    refine wpAnyH_take (i := 10) (v := labV (.slice (some ⟨gS, 0, none⟩) n eS) (.slice (some ⟨gJ, 0, none⟩) m eJ) T) rfl (by kernel_rfl) (by kernel_rfl) (by kernel_rfl) (fun _ _ _ h => h) (Or.inl ⟨by kernel_rfl, ?_⟩) hHeld ?_
    · intro w' hSw; go_simp
    try simp only [Act.put, List.setIfInBounds_toArray, List.set_cons_zero, List.set_cons_succ, List.getElem_toArray, List.getElem_cons_succ, List.getElem_cons_zero]
    refine wpAnyH_ready (rs := [11]) (by kernel_rfl) (by simp) ?_
    refine AllReadyH.cons rfl (fun KK hK' => ?_) AllReadyH.nil
    obtain ⟨d0, d1, d2, e0, e1, e2⟩ := A2.open3
    go_simp
    have A3 := put3_at A2 (.slice (some ⟨gS, 0, none⟩) n eS) (.slice (some ⟨gJ, 0, none⟩) m eJ) (.int .i64 T)
    have BX := below_put3 BW (by omega : w.heap.size ≤ q2) (.slice (some ⟨gS, 0, none⟩) n eS) (.slice (some ⟨gJ, 0, none⟩) m eJ) (.int .i64 T)
    replace OS := OS.only (put3_only u4 q2 (.slice (some ⟨gS, 0, none⟩) n eS) (.slice (some ⟨gJ, 0, none⟩) m eJ) (.int .i64 T)) (apart_box (OS.box A2 (by decide)))
    replace OJ := OJ.only (put3_only u4 q2 (.slice (some ⟨gS, 0, none⟩) n eS) (.slice (some ⟨gJ, 0, none⟩) m eJ) (.int .i64 T)) (apart_box (OJ.box A2 (by decide)))
    obtain ⟨u5, hv⟩ : ∃ V, ((u4.setCell ⟨q2, 0, none⟩ (.slice (some ⟨gS, 0, none⟩) n eS)).setCell ⟨q2, 1, none⟩ (.slice (some ⟨gJ, 0, none⟩) m eJ)).setCell ⟨q2, 2, none⟩ (.int .i64 T) = V := ⟨_, rfl⟩
    rw [hv] at A3 BX OS OJ ⊢
    replace A1 : At 27 u5 q1 #[.slice a n c, .slice b m d, .int .i64 T] := by rw [← hv]; exact ((A1.setOther hq12 _).setOther hq12 _).setOther hq12 _
    clear hv A2 BW d0 d1 d2 e0 e1 e2
    clear hHeld
    refine hK'.out _ _ (A1) (fun hHeld => ?_)
    clear hK' KK
    try simp only [List.setIfInBounds_toArray, List.set_cons_zero, List.set_cons_succ]
    refine wpAnyH_done (by kernel_rfl) ?_ _
    clear hHeld
    go_wp2
    obtain ⟨p0, p1, p2, -⟩ := A3.open3
    refine bodyPost_ret (v := labV (.slice (some ⟨gS, 0, none⟩) n eS) (.slice (some ⟨gJ, 0, none⟩) m eJ) T) (by simp [results, Try.results13, go_sem, p0, p1, p2]) rfl ?_
    exact ⟨_, _, rfl, OS.fit, OJ.fit, NS, NJ, BX⟩
end Go.Proofs.Ytnjnffemidaopaa
