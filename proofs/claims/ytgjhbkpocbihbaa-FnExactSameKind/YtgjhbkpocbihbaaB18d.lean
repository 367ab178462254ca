/-
  SameKind by the specification: walked.
-/
import Derived.Test.YtgjhbkpocbihbaaB18b
namespace Go.Proofs.Ytgjhbkpocbihbaa
open Go.RowKit

/-- The same, one by one. -/
def SamL (n m : Nat) (H C : Nat → OpD) : Prop := n = m ∧ ∀ i, i < n → lexC 12 (H i).key (C i).key = 0
set_option maxRecDepth 100000 in
set_option maxHeartbeats 2000000 in
theorem l4Same_any {w : World} {g1 g2 n m c1 c2 : Nat} {H C : Nat → OpD} (h1 : OpsL w g1 n H) (h2 : OpsL w g2 m C) (hn : n ≤ 1000) (hm : m ≤ 1000) (k1 : ∀ i, i < n → (H i).n = 9 ∧ (H i).k = 3) (k2 : ∀ i, i < m → (C i).n = 9 ∧ (C i).k = 3) :
    Calls Try.prog 13 #[.slice (some ⟨g1, 0, none⟩) n c1, .slice (some ⟨g2, 0, none⟩) m c2] w fun e w' => Tells e (SamL n m H C) ∧ Below w.heap.size w w' := by
  have H1 := hid_of h1
  have H2 := hid_of h2
  have K1 := hid_of k1
  have K2 := hid_of k2
  clear h1 h2 k1 k2
  by_cases hnm : n = m
  rotate_left
  · have hb : ((n : Int) == (m : Int)) = false := by simp; omega
    have T : Hid (Tells (.returned (.bool false)) (SamL n m H C)) := tells_no (fun h => hnm h.1)
    go_enter Try.func13, Try.ntmps13
    go_wp2
    go_ret
    exact ⟨T.out, Below.refl _ _⟩
  subst hnm
  go_enter Try.func13, Try.ntmps13
  go_wp2
  go_loopw [5] (fun s wr => ∃ i : Nat, i ≤ n ∧ s = .int .i64 (i : Int) ∧ Hid (∀ j, j < i → lexC 12 (H j).key (C j).key = 0) ∧ Below w.heap.size w wr) (fun s _ => n - (intOf s).toNat)
  case atStart => exact ⟨0, Nat.zero_le _, rfl, fun j hj => by omega, Below.refl _ _⟩
  case round =>
    obtain ⟨i, hi, rfl, D, B⟩ := hrel
    by_cases hin : i < n
    rotate_left
    · obtain rfl : i = n := by omega
      have hin' : ¬ (i : Int) < (i : Int) := by omega
      have T : Hid (Tells (.returned (.bool true)) (SamL i i H C)) := tells_yes ⟨rfl, D.out⟩
      clear D
      go_wp2
      go_ret
      exact ⟨T.out, B⟩
    have hin' : (i : Int) < (n : Int) := by omega
    obtain ⟨x1, y1, x2, y2, e1, e2, s1, s2⟩ := (H1.out.below B).2 i hin
    obtain ⟨x3, y3, x4, y4, e3, e4, s3, s4⟩ := (H2.out.below B).2 i hin
    rw [(K1.out i hin).1] at e1 s1
    rw [(K1.out i hin).2] at e2 s2
    rw [(K2.out i hin).1] at e3 s3
    rw [(K2.out i hin).2] at e4 s4
    have hg1 := (H1.out.below B).1
    have hg2 := (H2.out.below B).1
    obtain ⟨D0, hD0⟩ : ∃ x, lexC 12 (H i).key (C i).key = x := ⟨_, rfl⟩
    have HD0 := hid_of hD0
    have CP : Hid (∀ wq, Kb wr wq → Calls Try.prog 24 #[.agg #[.slice x1 9 y1, .slice x2 3 y2], .agg #[.slice x3 9 y3, .slice x4 3 y4]] wq fun e w' => e = .returned (.int .i64 D0) ∧ Below wq.heap.size wq w') := fun wq hq => by rw [← hD0]; exact cmpR_any (s1.below hq) (s2.below hq) (s3.below hq) (s4.below hq)
    have C1 : Hid (∀ wq, Kb wr wq → wq.cell? ⟨g1, i * 2, none⟩ = some (.slice x1 9 y1) ∧ wq.cell? ⟨g1, i * 2 + 1, none⟩ = some (.slice x2 3 y2)) := fun wq hq => ⟨(hq.cell (p := ⟨g1, i * 2, none⟩) hg1).trans e1, (hq.cell (p := ⟨g1, i * 2 + 1, none⟩) hg1).trans e2⟩
    have C2 : Hid (∀ wq, Kb wr wq → wq.cell? ⟨g2, i * 2, none⟩ = some (.slice x3 9 y3) ∧ wq.cell? ⟨g2, i * 2 + 1, none⟩ = some (.slice x4 3 y4)) := fun wq hq => ⟨(hq.cell (p := ⟨g2, i * 2, none⟩) hg2).trans e3, (hq.cell (p := ⟨g2, i * 2 + 1, none⟩) hg2).trans e4⟩
    clear e1 e2 e3 e4 s1 s2 s3 s4 hg1 hg2 hD0
    go_wp2_with fail
    obtain ⟨u0, hu0, bb⟩ : ∃ uu, wr.drew = uu ∧ Below wr.heap.size wr uu := ⟨_, rfl, (Below.refl _ _).drew⟩
    replace B := B.trans (bb.mono B.size)
    have bk0 : Kb wr u0 := bb
    clear bb
    refine wp_region_held_drew (S := Kb u0) (by kernel_rfl) (by rw [hu0]; exact Below.refl _ _) (fun hHeld => ?_)
    rw [hu0] at hHeld ⊢
    clear hu0
    have bu : Kb u0 u0 := Below.refl _ _
    change wpAnyH _ _ _ _ _ 10 #[false, false, false, false, false, false, false, false, false, false] _ _
    refine wpAnyH_take (i := 0) (v := .slice ((some ⟨g1, 0, none⟩)) n c1) rfl (by kernel_rfl) (by kernel_rfl) (by kernel_rfl) (fun _ _ _ h => h) (Or.inl ⟨by kernel_rfl, ?_⟩) hHeld ?_
    · intro w' hSw; go_simp
    try simp only [Act.put, List.setIfInBounds_toArray, List.set_cons_zero, List.set_cons_succ, List.getElem_toArray, List.getElem_cons_zero]
    refine wpAnyH_take (i := 1) (v := .int .i64 ((i : Int))) rfl (by kernel_rfl) (by kernel_rfl) (by kernel_rfl) (fun _ _ _ h => h) (Or.inl ⟨by kernel_rfl, ?_⟩) hHeld ?_
    · intro w' hSw; go_simp
    try simp only [Act.put, List.setIfInBounds_toArray, List.set_cons_zero, List.set_cons_succ, List.getElem_toArray, List.getElem_cons_succ, List.getElem_cons_zero]
    refine wpAnyH_take (i := 2) (v := .pointer (some ⟨g1, i * 2, none⟩)) rfl (by kernel_rfl) (by kernel_rfl) (by kernel_rfl) (fun _ _ _ h => h) (Or.inl ⟨by kernel_rfl, ?_⟩) hHeld ?_
    · intro w' hSw; go_simp
    try simp only [Act.put, List.setIfInBounds_toArray, List.set_cons_zero, List.set_cons_succ, List.getElem_toArray, List.getElem_cons_succ, List.getElem_cons_zero]
    refine wpAnyH_take (i := 3) (v := .agg #[.slice x1 9 y1, .slice x2 3 y2]) rfl (by kernel_rfl) (by kernel_rfl) (by kernel_rfl) (fun _ _ _ h => h) (Or.inl ⟨by kernel_rfl, ?_⟩) hHeld ?_
    · intro w' hSw; obtain ⟨z0, z1⟩ := C1.out _ (bk0.trans (Below.mono hSw bk0.size)); go_simp
    try simp only [Act.put, List.setIfInBounds_toArray, List.set_cons_zero, List.set_cons_succ, List.getElem_toArray, List.getElem_cons_succ, List.getElem_cons_zero]
    refine wpAnyH_take (i := 4) (v := .slice ((some ⟨g2, 0, none⟩)) n c2) rfl (by kernel_rfl) (by kernel_rfl) (by kernel_rfl) (fun _ _ _ h => h) (Or.inl ⟨by kernel_rfl, ?_⟩) hHeld ?_
    · intro w' hSw; go_simp
    try simp only [Act.put, List.setIfInBounds_toArray, List.set_cons_zero, List.set_cons_succ, List.getElem_toArray, List.getElem_cons_succ, List.getElem_cons_zero]
    refine wpAnyH_take (i := 5) (v := .int .i64 ((i : Int))) rfl (by kernel_rfl) (by kernel_rfl) (by kernel_rfl) (fun _ _ _ h => h) (Or.inl ⟨by kernel_rfl, ?_⟩) hHeld ?_
    · intro w' hSw; go_simp
    try simp only [Act.put, List.setIfInBounds_toArray, List.set_cons_zero, List.set_cons_succ, List.getElem_toArray, List.getElem_cons_succ, List.getElem_cons_zero]
    refine wpAnyH_take (i := 6) (v := .pointer (some ⟨g2, i * 2, none⟩)) rfl (by kernel_rfl) (by kernel_rfl) (by kernel_rfl) (fun _ _ _ h => h) (Or.inl ⟨by kernel_rfl, ?_⟩) hHeld ?_
    · intro w' hSw; go_simp
    try simp only [Act.put, List.setIfInBounds_toArray, List.set_cons_zero, List.set_cons_succ, List.getElem_toArray, List.getElem_cons_succ, List.getElem_cons_zero]
    refine wpAnyH_take (i := 7) (v := .agg #[.slice x3 9 y3, .slice x4 3 y4]) rfl (by kernel_rfl) (by kernel_rfl) (by kernel_rfl) (fun _ _ _ h => h) (Or.inl ⟨by kernel_rfl, ?_⟩) hHeld ?_
    · intro w' hSw; obtain ⟨z0, z1⟩ := C2.out _ (bk0.trans (Below.mono hSw bk0.size)); go_simp
    try simp only [Act.put, List.setIfInBounds_toArray, List.set_cons_zero, List.set_cons_succ, List.getElem_toArray, List.getElem_cons_succ, List.getElem_cons_zero]
    refine wpAnyH_ready (rs := [8]) (by kernel_rfl) (by simp) ?_
    refine AllReadyH.cons rfl (fun KK hK' => ?_) AllReadyH.nil
    go_simp
    refine (CP.out _ (bk0.trans (Below.mono bu bk0.size))).mono ?_
    rintro e u1 ⟨rfl, bb⟩
    replace B := B.trans (bb.mono B.size)
    replace bu : Kb u0 u1 := bu.trans (bb.mono bu.size)
    clear bb
    try go_wp2_with fail
    clear hHeld
    refine hK'.out _ _ (bu) (fun hHeld => ?_)
    clear hK' KK
    try simp only [List.setIfInBounds_toArray, List.set_cons_zero, List.set_cons_succ]
    refine wpAnyH_take (i := 9) (v := .bool (D0 != 0)) rfl (by kernel_rfl) (by kernel_rfl) (by kernel_rfl) (fun _ _ _ h => h) (Or.inl ⟨by kernel_rfl, ?_⟩) hHeld ?_
    · intro w' hSw; go_simp
    try simp only [Act.put, List.setIfInBounds_toArray, List.set_cons_zero, List.set_cons_succ, List.getElem_toArray, List.getElem_cons_succ, List.getElem_cons_zero]
    refine wpAnyH_done (by kernel_rfl) ?_ _
    clear hHeld
    clear bu bk0
    by_cases hz : D0 = 0
    · have D2 : Hid (∀ j, j < i + 1 → lexC 12 (H j).key (C j).key = 0) := fun j hj => by
        by_cases e : j = i
        · rw [e, HD0.out]; exact hz
        · exact D.out j (by omega)
      clear D HD0 CP C1 C2
      subst hz
      go_wp2
      exact ⟨⟨i + 1, by omega, by go_num, D2, B⟩, by simp [intOf]; omega⟩
    · have T : Hid (Tells (.returned (.bool false)) (SamL n n H C)) := tells_no (fun h => hz (by rw [← HD0.out]; exact h.2 i hin))
      clear D HD0 CP C1 C2
      go_wp2
      go_ret
      exact ⟨T.out, B⟩
end Go.Proofs.Ytgjhbkpocbihbaa
