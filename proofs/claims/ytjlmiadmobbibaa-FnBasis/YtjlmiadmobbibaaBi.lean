/-
  Votes compared; cmp.Compare and cmp.Or, walked.
-/
import Derived.Test.YtjlmiadmobbibaaBb
import Derived.Test.YtjlmiadmobbibaaBh
namespace Go.Proofs.Ytjlmiadmobbibaa
open Go.RowKit

def cmp3 (x y : Int) : Int := if x < y then -1 else if y < x then 1 else 0
theorem isNaN_any (x : Int) (w : World) : Calls Try.prog 64 #[.int .i64 x] w fun e w' => e = .returned (.bool false) ∧ w = w' := by
  have h : (x != x) = false := by simp
  go_enter Try.func64, Try.ntmps64
  go_wp2
  go_ret
  exact ⟨rfl, rfl⟩
theorem cmp_any (x y : Int) (w : World) : Calls Try.prog 53 #[.int .i64 x, .int .i64 y] w fun e w' => e = .returned (.int .i64 (cmp3 x y)) ∧ w = w' := by
  unfold cmp3
  rcases (by omega : x < y ∨ (¬ x < y ∧ y < x) ∨ (¬ x < y ∧ ¬ y < x)) with h | ⟨h, h'⟩ | ⟨h, h'⟩
  · rw [if_pos h]
    go_enter Try.func53, Try.ntmps53
    go_wp2_with (go_at_call 64; refine (isNaN_any _ _).mono ?_; rintro e w2 ⟨rfl, rfl⟩)
    go_ret
    exact ⟨rfl, rfl⟩
  · rw [if_neg h, if_pos h']
    go_enter Try.func53, Try.ntmps53
    go_wp2_with (go_at_call 64; refine (isNaN_any _ _).mono ?_; rintro e w2 ⟨rfl, rfl⟩)
    go_ret
    exact ⟨rfl, rfl⟩
  · rw [if_neg h, if_neg h']
    go_enter Try.func53, Try.ntmps53
    go_wp2_with (go_at_call 64; refine (isNaN_any _ _).mono ?_; rintro e w2 ⟨rfl, rfl⟩)
    go_ret
    exact ⟨rfl, rfl⟩
/-- The first that is not 0. -/
def orF (z : Nat → Int) : Nat → Int
  | 0 => 0
  | m + 1 => if orF z m = 0 then z m else orF z m
theorem orF_zero {z : Nat → Int} {m : Nat} (h : orF z m = 0) : orF z (m + 1) = z m := by rw [orF, if_pos h]
theorem orF_stay {z : Nat → Int} {k m : Nat} (h : orF z k ≠ 0) (hm : k ≤ m) : orF z m = orF z k := by
  induction m with
  | zero => obtain rfl : k = 0 := by omega
            rfl
  | succ m ih =>
    by_cases e : k = m + 1
    · rw [e]
    · have := ih (by omega)
      rw [orF, if_neg (by rw [this]; exact h), this]
set_option maxHeartbeats 1000000 in
theorem or_any {w : World} {g m cap : Nat} (z : Nat → Int) (h : Ints w g 0 m z) (_ : g < w.heap.size) (hm : m ≤ 1000) :
    Calls Try.prog 52 #[.slice (some ⟨g, 0, none⟩) m cap] w fun e w' => e = .returned (.int .i64 (orF z m)) ∧ w = w' := by
  obtain ⟨R, hR⟩ : ∃ R, orF z m = R := ⟨_, rfl⟩
  rw [hR]
  have hm' : (m : Int) ≤ 1000 := by omega
  go_enter Try.func52, Try.ntmps52
  go_wp2
  go_loopw [8] (fun s wr => ∃ k : Nat, k ≤ m ∧ s = .int .i64 k ∧ w = wr ∧ orF z k = 0) (fun s _ => m - (intOf s).toNat)
  case atStart => exact ⟨0, Nat.zero_le _, rfl, rfl, rfl⟩
  case round =>
    obtain ⟨k, hk, rfl, rfl, h0⟩ := hrel
    by_cases hlt : k < m
    · have hlt' : (k : Int) < (m : Int) := by omega
      have c0 := h k hlt
      rw [Nat.zero_add] at c0
      have h1 := orF_zero h0
      have h2 := fun hh => orF_stay (z := z) (k := k + 1) (m := m) hh (by omega)
      rw [hR] at h2
      obtain ⟨X, hX⟩ : ∃ X, z k = X := ⟨_, rfl⟩
      rw [hX] at c0 h1
      rw [h1] at h2
      by_cases hz : X = 0
      · have hz' : (X != 0) = false := by simp [hz]
        have HZ : Hid (orF z (k + 1) = 0) := h1.trans hz
        clear hz h1 h2 h0 hX hR
        go_wp2
        exact ⟨⟨k + 1, by omega, by go_num, by trivial, HZ.out⟩, by simp [intOf]; omega⟩
      · have hz' : (X != 0) = true := by simp [hz]
        obtain rfl := h2 hz
        clear h1 h2 h0 hX hR
        go_wp2
        go_ret
        exact ⟨rfl, rfl⟩
    · have hlt' : ¬ (k : Int) < (m : Int) := by omega
      obtain rfl : k = m := by omega
      obtain rfl : R = 0 := hR.symm.trans h0
      clear h0 hR
      go_wp2
      go_ret
      exact ⟨rfl, rfl⟩
/-- A vote. -/
structure Vt where
  x : Int
  y : Int
  c : Int
abbrev vV (v : Vt) : Value := .agg #[.int .i64 v.x, .int .i64 v.y, .int .i64 v.c]
/-- Which of two votes comes first. -/
def vlt (a b : Vt) : Prop := b.c < a.c ∨ (a.c = b.c ∧ (a.x < b.x ∨ (a.x = b.x ∧ a.y < b.y)))
theorem vlt_swo : Swo vlt := by
  refine ⟨fun x => ?_, fun x y z => ?_, fun x y z => ?_⟩ <;> unfold vlt <;> omega
theorem orF_neg (z : Nat → Int) (m : Nat) : orF z (m + 1) < 0 ↔ (orF z m < 0 ∨ (orF z m = 0 ∧ z m < 0)) := by
  rw [orF]; split <;> omega
theorem orF_nul (z : Nat → Int) (m : Nat) : orF z (m + 1) = 0 ↔ (orF z m = 0 ∧ z m = 0) := by
  rw [orF]; split <;> omega
theorem cmp3_neg (x y : Int) : cmp3 x y < 0 ↔ x < y := by unfold cmp3; repeat' split
                                                          all_goals omega
theorem cmp3_nul (x y : Int) : cmp3 x y = 0 ↔ x = y := by unfold cmp3; repeat' split
                                                          all_goals omega
theorem vlt_or (a b : Vt) (z : Nat → Int) (h0 : cmp3 b.c a.c = z 0) (h1 : cmp3 a.x b.x = z 1) (h2 : cmp3 a.y b.y = z 2) : orF z 3 < 0 ↔ vlt a b := by
  have a1 : orF z 3 < 0 ↔ _ := orF_neg z 2
  have a2 : orF z 2 < 0 ↔ _ := orF_neg z 1
  have a3 : orF z 1 < 0 ↔ _ := orF_neg z 0
  have b1 : orF z 2 = 0 ↔ _ := orF_nul z 1
  have b2 : orF z 1 = 0 ↔ _ := orF_nul z 0
  have o : orF z 0 = 0 := rfl
  have c0 := cmp3_neg b.c a.c
  have c1 := cmp3_neg a.x b.x
  have c2 := cmp3_neg a.y b.y
  have d0 := cmp3_nul b.c a.c
  have d1 := cmp3_nul a.x b.x
  rw [h0] at c0 d0
  rw [h1] at c1 d1
  rw [h2] at c2
  unfold vlt
  omega
set_option maxRecDepth 100000 in
set_option maxHeartbeats 4000000 in
theorem vBefore_any (a b : Vt) (w : World) : Calls Try.prog 38 #[vV a, vV b] w fun e w' => e = .returned (.bool (pd (vlt a b))) ∧ Below w.heap.size w w' := by
  obtain ⟨z, z0, z1, z2⟩ : ∃ z : Nat → Int, cmp3 b.c a.c = z 0 ∧ cmp3 a.x b.x = z 1 ∧ cmp3 a.y b.y = z 2 := ⟨fun i => match i with | 0 => cmp3 b.c a.c | 1 => cmp3 a.x b.x | _ => cmp3 a.y b.y, rfl, rfl, rfl⟩
  have HR := vlt_or a b z z0 z1 z2
  obtain ⟨D, hD⟩ : ∃ D, pd (vlt a b) = D := ⟨_, rfl⟩
  rw [hD]
  obtain ⟨R, hRR⟩ : ∃ R, orF z 3 = R := ⟨_, rfl⟩
  have hE : decide (R < 0) = D := by
    rw [← hD, ← hRR]
    by_cases h : vlt a b
    · rw [pd_yes h, decide_eq_true (HR.2 h)]
    · rw [pd_no h, decide_eq_false (fun hh => h (HR.1 hh))]
  clear hD HR
  obtain ⟨ax, ay, ac⟩ := a
  obtain ⟨bx, b_y, bc⟩ := b
  simp only at z0 z1 z2
  obtain ⟨W, hW, b0, b1, bW, -⟩ := boxed2 w 36 36 #[.int .i64 ax, .int .i64 ay, .int .i64 ac] #[.int .i64 bx, .int .i64 b_y, .int .i64 bc]
  go_enter Try.func38, Try.ntmps38
  go_wp2_with fail
  clear hW
  obtain ⟨q1, e1⟩ : ∃ z, w.heap.size = z := ⟨_, rfl⟩
  obtain ⟨q2, e2⟩ : ∃ z, q1 + 1 = z := ⟨_, rfl⟩
  have BW : Hid (Below w.heap.size w W) := bW
  rw [e1] at b0 b1 ⊢
  rw [e2] at b1 ⊢
  clear e1 e2
  obtain ⟨u0, hu0, bb⟩ : ∃ uu, W.drew = uu ∧ Below W.heap.size W uu := ⟨_, rfl, (Below.refl _ _).drew⟩
  replace b0 := b0.below bb
  replace b1 := b1.below bb
  replace bW := bW.trans (bb.mono bW.size)
  clear bb
  refine wp_region_held_drew (S := Kb u0) (by kernel_rfl) (by rw [hu0]; exact Below.refl _ _) (fun hHeld => ?_)
  rw [hu0] at hHeld ⊢
  clear hu0
  have bu : Kb u0 u0 := Below.refl _ _
  change wpAnyH _ _ _ _ _ 19 #[false, false, false, false, false, false, false, false, false, false, false, false, false, false, false, false, false, false, false] _ _
  refine wpAnyH_take (i := 0) (v := .pointer (some ⟨q2, 2, none⟩)) rfl (by kernel_rfl) (by kernel_rfl) (by kernel_rfl) (fun _ _ _ h => h) (Or.inl ⟨by kernel_rfl, ?_⟩) hHeld ?_
  · intro w' hSw; go_simp
  try simp only [Act.put, List.setIfInBounds_toArray, List.set_cons_zero, List.set_cons_succ, List.getElem_toArray, List.getElem_cons_zero]
  refine wpAnyH_take (i := 1) (v := .int .i64 (bc)) rfl (by kernel_rfl) (by kernel_rfl) (by kernel_rfl) (fun _ _ _ h => h) (Or.inl ⟨by kernel_rfl, ?_⟩) hHeld ?_
  · intro w' hSw; obtain ⟨z0, z1, z2, -⟩ := (b1.below hSw).open3; go_simp
  try simp only [Act.put, List.setIfInBounds_toArray, List.set_cons_zero, List.set_cons_succ, List.getElem_toArray, List.getElem_cons_succ, List.getElem_cons_zero]
  refine wpAnyH_take (i := 2) (v := .pointer (some ⟨q1, 2, none⟩)) rfl (by kernel_rfl) (by kernel_rfl) (by kernel_rfl) (fun _ _ _ h => h) (Or.inl ⟨by kernel_rfl, ?_⟩) hHeld ?_
  · intro w' hSw; go_simp
  try simp only [Act.put, List.setIfInBounds_toArray, List.set_cons_zero, List.set_cons_succ, List.getElem_toArray, List.getElem_cons_succ, List.getElem_cons_zero]
  refine wpAnyH_take (i := 3) (v := .int .i64 (ac)) rfl (by kernel_rfl) (by kernel_rfl) (by kernel_rfl) (fun _ _ _ h => h) (Or.inl ⟨by kernel_rfl, ?_⟩) hHeld ?_
  · intro w' hSw; obtain ⟨z0, z1, z2, -⟩ := (b0.below hSw).open3; go_simp
  try simp only [Act.put, List.setIfInBounds_toArray, List.set_cons_zero, List.set_cons_succ, List.getElem_toArray, List.getElem_cons_succ, List.getElem_cons_zero]
  refine wpAnyH_take (i := 5) (v := .pointer (some ⟨q1, 0, none⟩)) rfl (by kernel_rfl) (by kernel_rfl) (by kernel_rfl) (fun _ _ _ h => h) (Or.inl ⟨by kernel_rfl, ?_⟩) hHeld ?_
  · intro w' hSw; go_simp
  try simp only [Act.put, List.setIfInBounds_toArray, List.set_cons_zero, List.set_cons_succ, List.getElem_toArray, List.getElem_cons_succ, List.getElem_cons_zero]
  refine wpAnyH_take (i := 6) (v := .int .i64 (ax)) rfl (by kernel_rfl) (by kernel_rfl) (by kernel_rfl) (fun _ _ _ h => h) (Or.inl ⟨by kernel_rfl, ?_⟩) hHeld ?_
  · intro w' hSw; obtain ⟨z0, z1, z2, -⟩ := (b0.below hSw).open3; go_simp
  try simp only [Act.put, List.setIfInBounds_toArray, List.set_cons_zero, List.set_cons_succ, List.getElem_toArray, List.getElem_cons_succ, List.getElem_cons_zero]
  refine wpAnyH_take (i := 7) (v := .pointer (some ⟨q2, 0, none⟩)) rfl (by kernel_rfl) (by kernel_rfl) (by kernel_rfl) (fun _ _ _ h => h) (Or.inl ⟨by kernel_rfl, ?_⟩) hHeld ?_
  · intro w' hSw; go_simp
  try simp only [Act.put, List.setIfInBounds_toArray, List.set_cons_zero, List.set_cons_succ, List.getElem_toArray, List.getElem_cons_succ, List.getElem_cons_zero]
  refine wpAnyH_take (i := 8) (v := .int .i64 (bx)) rfl (by kernel_rfl) (by kernel_rfl) (by kernel_rfl) (fun _ _ _ h => h) (Or.inl ⟨by kernel_rfl, ?_⟩) hHeld ?_
  · intro w' hSw; obtain ⟨z0, z1, z2, -⟩ := (b1.below hSw).open3; go_simp
  try simp only [Act.put, List.setIfInBounds_toArray, List.set_cons_zero, List.set_cons_succ, List.getElem_toArray, List.getElem_cons_succ, List.getElem_cons_zero]
  refine wpAnyH_take (i := 10) (v := .pointer (some ⟨q1, 1, none⟩)) rfl (by kernel_rfl) (by kernel_rfl) (by kernel_rfl) (fun _ _ _ h => h) (Or.inl ⟨by kernel_rfl, ?_⟩) hHeld ?_
  · intro w' hSw; go_simp
  try simp only [Act.put, List.setIfInBounds_toArray, List.set_cons_zero, List.set_cons_succ, List.getElem_toArray, List.getElem_cons_succ, List.getElem_cons_zero]
  refine wpAnyH_take (i := 11) (v := .int .i64 (ay)) rfl (by kernel_rfl) (by kernel_rfl) (by kernel_rfl) (fun _ _ _ h => h) (Or.inl ⟨by kernel_rfl, ?_⟩) hHeld ?_
  · intro w' hSw; obtain ⟨z0, z1, z2, -⟩ := (b0.below hSw).open3; go_simp
  try simp only [Act.put, List.setIfInBounds_toArray, List.set_cons_zero, List.set_cons_succ, List.getElem_toArray, List.getElem_cons_succ, List.getElem_cons_zero]
  refine wpAnyH_take (i := 12) (v := .pointer (some ⟨q2, 1, none⟩)) rfl (by kernel_rfl) (by kernel_rfl) (by kernel_rfl) (fun _ _ _ h => h) (Or.inl ⟨by kernel_rfl, ?_⟩) hHeld ?_
  · intro w' hSw; go_simp
  try simp only [Act.put, List.setIfInBounds_toArray, List.set_cons_zero, List.set_cons_succ, List.getElem_toArray, List.getElem_cons_succ, List.getElem_cons_zero]
  refine wpAnyH_take (i := 13) (v := .int .i64 (b_y)) rfl (by kernel_rfl) (by kernel_rfl) (by kernel_rfl) (fun _ _ _ h => h) (Or.inl ⟨by kernel_rfl, ?_⟩) hHeld ?_
  · intro w' hSw; obtain ⟨z0, z1, z2, -⟩ := (b1.below hSw).open3; go_simp
  try simp only [Act.put, List.setIfInBounds_toArray, List.set_cons_zero, List.set_cons_succ, List.getElem_toArray, List.getElem_cons_succ, List.getElem_cons_zero]
  refine wpAnyH_ready (rs := [4]) (by kernel_rfl) (by simp) ?_
  refine AllReadyH.cons rfl (fun KK hK' => ?_) AllReadyH.nil
  go_simp
  refine (cmp_any bc ac _).mono ?_
  rintro e u1 ⟨rfl, hh⟩
  rw [z0]
  replace bu : Kb u0 u1 := by rw [← hh]; exact bu
  clear hh
  try go_wp2_with fail
  clear hHeld
  refine hK'.out _ _ (bu) (fun hHeld => ?_)
  clear hK' KK
  try simp only [List.setIfInBounds_toArray, List.set_cons_zero, List.set_cons_succ]
  refine wpAnyH_ready (rs := [9]) (by kernel_rfl) (by simp) ?_
  refine AllReadyH.cons rfl (fun KK hK' => ?_) AllReadyH.nil
  go_simp
  refine (cmp_any ax bx _).mono ?_
  rintro e u2 ⟨rfl, hh⟩
  rw [z1]
  replace bu : Kb u0 u2 := by rw [← hh]; exact bu
  clear hh
  try go_wp2_with fail
  clear hHeld
  refine hK'.out _ _ (bu) (fun hHeld => ?_)
  clear hK' KK
  try simp only [List.setIfInBounds_toArray, List.set_cons_zero, List.set_cons_succ]
  refine wpAnyH_ready (rs := [14]) (by kernel_rfl) (by simp) ?_
  refine AllReadyH.cons rfl (fun KK hK' => ?_) AllReadyH.nil
  go_simp
  refine (cmp_any ay b_y _).mono ?_
  rintro e u3 ⟨rfl, hh⟩
  rw [z2]
  replace bu : Kb u0 u3 := by rw [← hh]; exact bu
  clear hh
  try go_wp2_with fail
  clear hHeld
  refine hK'.out _ _ (bu) (fun hHeld => ?_)
  clear hK' KK
  try simp only [List.setIfInBounds_toArray, List.set_cons_zero, List.set_cons_succ]
  refine wpAnyH_ready (rs := [15]) (by kernel_rfl) (by simp) ?_
  refine AllReadyH.cons rfl (fun KK hK' => ?_) AllReadyH.nil
  go_simp
  obtain ⟨UU, hUU, aU, bb, -⟩ := boxed u3 3 #[.int .i64 (z 0), .int .i64 (z 1), .int .i64 (z 2)]
  rw [hUU]
  have bs : u3.heap.size < UU.heap.size := aU.lt
  replace bu : Kb u0 UU := bu.trans (bb.mono bu.size)
  clear bb hUU
  clear hHeld
  refine hK'.out _ _ (bu) (fun hHeld => ?_)
  clear hK' KK
  try simp only [List.setIfInBounds_toArray, List.set_cons_zero, List.set_cons_succ]
  refine wpAnyH_ready (rs := [16]) (by kernel_rfl) (by simp) ?_
  refine AllReadyH.cons rfl (fun KK hK' => ?_) AllReadyH.nil
  go_simp
  refine (or_any z (fun i hi => by rcases (by omega : i = 0 ∨ i = 1 ∨ i = 2) with rfl | rfl | rfl; exact aU.cell 0 rfl; exact aU.cell 1 rfl; exact aU.cell 2 rfl) bs (by omega)).mono ?_
  rintro e u5 ⟨rfl, hh⟩
  rw [hRR]
  replace bu : Kb u0 u5 := by rw [← hh]; exact bu
  clear hh aU bs
  try go_wp2_with fail
  clear hHeld
  refine hK'.out _ _ (bu) (fun hHeld => ?_)
  clear hK' KK
  try simp only [List.setIfInBounds_toArray, List.set_cons_zero, List.set_cons_succ]
  refine wpAnyH_take (i := 17) (v := .bool D) rfl (by kernel_rfl) (by kernel_rfl) (by kernel_rfl) (fun _ _ _ h => h) (Or.inl ⟨by kernel_rfl, ?_⟩) hHeld ?_
  · intro w' hSw; go_simp
  try simp only [Act.put, List.setIfInBounds_toArray, List.set_cons_zero, List.set_cons_succ, List.getElem_toArray, List.getElem_cons_succ, List.getElem_cons_zero]
  refine wpAnyH_take (i := 18) (v := .bool D) rfl (by kernel_rfl) (by kernel_rfl) (by kernel_rfl) (fun _ _ _ h => h) (Or.inl ⟨by kernel_rfl, ?_⟩) hHeld ?_
  · intro w' hSw; go_simp
  try simp only [Act.put, List.setIfInBounds_toArray, List.set_cons_zero, List.set_cons_succ, List.getElem_toArray, List.getElem_cons_succ, List.getElem_cons_zero]
  refine wpAnyH_done (by kernel_rfl) ?_ _
  clear hHeld
  go_wp2
  go_ret
  exact ⟨by simp, bW.trans (bu.mono bW.size)⟩
end Go.Proofs.Ytjlmiadmobbibaa
