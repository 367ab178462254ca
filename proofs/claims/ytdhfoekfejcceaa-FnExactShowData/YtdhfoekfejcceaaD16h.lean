/-
  Which data are right: by the program: walked.
-/
import Derived.Test.YtdhfoekfejcceaaD16g
namespace Go.Proofs.Ytdhfoekfejcceaa
open Go.RowKit

def AnyW (_ : World) : Prop := True
theorem slice_from {g o n c k : Nat} (hk : k ≤ n) (hn : n ≤ c) : ∃ o', (k < c → o' = o + k * 3) ∧ ∀ w, (Instr.slice 28 (.slice (some ⟨g, o, none⟩) n c) (some (.int .i64 (k : Int))) none none).run Try.prog w = .ok (.slice (some ⟨g, o', none⟩) (n - k) (c - k)) w := by
  have hz : ∀ w, (sizeOf (Program.elem Try.prog 28)).run Try.prog w = .ok 3 w := fun _ => by kernel_rfl
  by_cases h : k < c
  · refine ⟨o + k * 3, fun _ => rfl, fun w => ?_⟩
    rw [run_slice_l (P := Try.prog) w 28 _ n c (by kernel_rfl) .i64 (k : Int) (by omega) (by omega), hz]
    simp only [Result.andThen, sliced, Int.toNat_natCast, if_neg (show ¬ c = k by omega), Option.map, Addr.add]
    by_cases h0 : k * 3 = 0
    · simp [h0]
    · simp
      exact h0
  · refine ⟨o, fun h' => absurd h' h, fun w => ?_⟩
    rw [run_slice_l (P := Try.prog) w 28 _ n c (by kernel_rfl) .i64 (k : Int) (by omega) (by omega), hz]
    simp only [Result.andThen, sliced, Int.toNat_natCast, if_pos (show c = k by omega)]
theorem slice_to {g o n c k : Nat} (hk : k ≤ c) : ∀ w, (Instr.slice 28 (.slice (some ⟨g, o, none⟩) n c) none (some (.int .i64 (k : Int))) none).run Try.prog w = .ok (.slice (some ⟨g, o, none⟩) k c) w := fun w => by
  have hz : ∀ w, (sizeOf (Program.elem Try.prog 28)).run Try.prog w = .ok 3 w := fun _ => by kernel_rfl
  rw [run_slice_h (P := Try.prog) w 28 _ n c (by kernel_rfl) .i64 (k : Int) (by omega) (by omega), hz]
  simp only [Result.andThen, sliced, Int.toNat_natCast, Nat.zero_mul, Nat.sub_zero, Option.map, Addr.add]
  by_cases h : c = 0 <;> simp
/-- Item x + k of a list that begins at item x. -/
theorem ItO.from {w : World} {g N x k o : Nat} {vb : Nat → Nat} {nm : Nat → ByteArray} {n : Nat → Nat} {rw : Nat → Int} {f : Nat → Nat → ByteArray} (h : ItO w g N N vb nm n rw f) (ho : o = x * 3) (hi : x + k < N) : w.cell? ⟨g, o + k * 3, none⟩ = some (.string (nm (x + k))) ∧ w.cell? ⟨g, o + k * 3 + 1, none⟩ = some (.slice (some ⟨vb (x + k), 0, none⟩) (n (x + k)) (n (x + k))) ∧ w.cell? ⟨g, o + k * 3 + 2, none⟩ = some (.int .i64 (rw (x + k))) := by
  have := h.at hi
  rw [show (x + k) * 3 = o + k * 3 by omega] at this
  exact this
def OlOk (x L : Nat) (rw : Nat → Int) : Prop := ∀ k, k < L → rw (x + k) ≠ -1 ∧ rw (x + k) = rw x
set_option maxRecDepth 100000 in
set_option maxHeartbeats 6400000 in
theorem oneLoop_any {w : World} {g N x L C o : Nat} {vb : Nat → Nat} {nm : Nat → ByteArray} {n : Nat → Nat} {rw : Nat → Int} {f : Nat → Nat → ByteArray} (D : ItO w g N N vb nm n rw f) (ho : o = x * 3) (hx : x + L ≤ N) (hL : 0 < L) (hN : N ≤ 1048576) (b : Bool) (hb : Hid (b = true ↔ OlOk x L rw)) :
    Calls Try.prog 46 #[.slice (some ⟨g, o, none⟩) L C] w fun e w' => e = .returned (.bool b) ∧ Below w.heap.size w w' := by
  have hL' : (L : Int) ≤ 1048576 := by omega
  have HD : Hid (ItO w g N N vb nm n rw f) := D
  have HO : Hid (o = x * 3) := ho
  clear D ho
  go_enter Try.func46, Try.ntmps46
  go_wp2
  go_loopw [7] (fun u wr => ∃ k : Nat, k ≤ L ∧ u = .int .i64 (k : Int) ∧ (∀ j, j < k → rw (x + j) ≠ -1 ∧ rw (x + j) = rw x) ∧ Below w.heap.size w wr) (fun u _ => L - (intOf u).toNat)
  case atStart => exact ⟨0, Nat.zero_le _, rfl, fun j hj => by omega, Below.refl _ _⟩
  case round =>
    obtain ⟨k, hk, rfl, hall, B⟩ := hrel
    have HA : Hid (∀ j, j < k → rw (x + j) ≠ -1 ∧ rw (x + j) = rw x) := hall
    clear hall
    by_cases hlt : k < L
    · have hlt' : (k : Int) < (L : Int) := by omega
      have hL0 : (0 : Int) < (L : Int) := by omega
      have D := HD.out.below B
      obtain ⟨d0, d1, d2⟩ := D.from HO.out (show x + k < N by omega)
      obtain ⟨R, hR⟩ : ∃ R, rw (x + k) = R := ⟨_, rfl⟩
      obtain ⟨R0, hR0⟩ : ∃ R, rw x = R := ⟨_, rfl⟩
      have HR : Hid (rw (x + k) = R) := hR
      have HR0 : Hid (rw x = R0) := hR0
      rw [hR] at d2
      clear hR hR0
      obtain ⟨V1, hV1, m1, bb1, -⟩ := boxed wr 46 #[.string (nm (x + k)), .slice (some ⟨vb (x + k), 0, none⟩) (n (x + k)) (n (x + k)), .int .i64 R]
      obtain ⟨r1, hr1⟩ : ∃ r, wr.heap.size = r := ⟨_, rfl⟩
      rw [hr1] at m1
      replace D := D.below bb1
      replace B := B.trans (bb1.mono B.size)
      obtain ⟨Z, hZ⟩ : ∃ Z, (R == -1) = Z := ⟨_, rfl⟩
      have HZ : Hid ((R == -1) = Z) := hZ
      have IS := fun w => isSingle_any (nm (x + k)) (.slice (some ⟨vb (x + k), 0, none⟩) (n (x + k)) (n (x + k))) R w ⟨_, _, _, rfl⟩
      rw [hZ] at IS
      clear hZ bb1
      go_wp2_with fail
      clear hV1 hr1 d0 d1 d2
      cases Z
      · have hne : R ≠ -1 := beq_eq_false_iff_ne.1 HZ.out
        by_cases e : R = R0
        · subst e
          have HK : Hid (∀ j, j < k + 1 → rw (x + j) ≠ -1 ∧ rw (x + j) = rw x) := show ∀ j, j < k + 1 → rw (x + j) ≠ -1 ∧ rw (x + j) = rw x from fun j hj => by
            by_cases e : j = k
            · rw [e, HR.out, HR0.out]; exact ⟨hne, rfl⟩
            · exact HA.out j (by omega)
          clear HA HZ hne
          obtain ⟨u0, hu0, bb⟩ : ∃ uu, V1.drew = uu ∧ Below V1.heap.size V1 uu := ⟨_, rfl, (Below.refl _ _).drew⟩
          replace m1 := m1.below bb
          replace D := D.below bb
          replace B := B.trans (bb.mono B.size)
          have mu := m1
          have Y0 : ∀ w', Kb u0 w' → w'.cell? ⟨g, o + 2, none⟩ = some (.int .i64 R) := fun w' h => by have z := ((D.below h).from (k := 0) HO.out (show x + 0 < N by omega)).2.2; simp only [Nat.zero_mul, Nat.add_zero] at z; rw [HR0.out] at z; exact z
          clear bb
          refine wp_region_held_drew (S := Kb u0) (by kernel_rfl) (by rw [hu0]; exact Below.refl _ _) (fun hHeld => ?_)
          rw [hu0] at hHeld ⊢
          clear hu0
          have bu : Kb u0 u0 := Below.refl _ _
          change wpAnyH _ _ _ _ _ 11 #[false, false, false, false, false, false, false, false, false, false, false] _ _
          refine wpAnyH_take (i := 0) (v := .agg #[.string (nm (x + k)), .slice ((some ⟨vb (x + k), 0, none⟩)) ((n (x + k))) ((n (x + k))), .int .i64 (R)]) rfl (by kernel_rfl) (by kernel_rfl) (by kernel_rfl) (fun _ _ _ h => h) (Or.inl ⟨by kernel_rfl, ?_⟩) hHeld ?_
          · intro w' hSw; obtain ⟨z0, z1, z2, -⟩ := (mu.below hSw).open3; go_simp
          try simp only [Act.put, List.setIfInBounds_toArray, List.set_cons_zero, List.set_cons_succ, List.getElem_toArray, List.getElem_cons_zero]
          refine wpAnyH_ready (rs := [1]) (by kernel_rfl) (by simp) ?_
          refine AllReadyH.cons rfl (fun KK hK' => ?_) AllReadyH.nil
          go_simp
          refine (IS _).mono ?_
          rintro e u1 ⟨rfl, bb⟩
          replace D := D.below bb
          replace m1 := m1.below bb
          replace B := B.trans (bb.mono B.size)
          replace bu : Kb u0 u1 := bu.trans (bb.mono bu.size)
          clear bb
          try go_wp2_with fail
          clear hHeld
          refine hK'.out _ _ (bu) (fun hHeld => ?_)
          clear hK' KK
          try simp only [List.setIfInBounds_toArray, List.set_cons_zero, List.set_cons_succ]
          refine wpAnyH_take (i := 2) (v := .bool false) rfl (by kernel_rfl) (by kernel_rfl) (by kernel_rfl) (fun _ _ _ h => h) (Or.inl ⟨by kernel_rfl, ?_⟩) hHeld ?_
          · intro w' hSw; go_simp
          try simp only [Act.put, List.setIfInBounds_toArray, List.set_cons_zero, List.set_cons_succ, List.getElem_toArray, List.getElem_cons_succ, List.getElem_cons_zero]
          refine wpAnyH_take (i := 3) (v := .pointer (some ⟨r1, 2, none⟩)) rfl (by kernel_rfl) (by kernel_rfl) (by kernel_rfl) (fun _ _ _ h => h) (Or.inl ⟨by kernel_rfl, ?_⟩) hHeld ?_
          · intro w' hSw; go_simp
          try simp only [Act.put, List.setIfInBounds_toArray, List.set_cons_zero, List.set_cons_succ, List.getElem_toArray, List.getElem_cons_succ, List.getElem_cons_zero]
          refine wpAnyH_take (i := 4) (v := .int .i64 (R)) rfl (by kernel_rfl) (by kernel_rfl) (by kernel_rfl) (fun _ _ _ h => h) (Or.inl ⟨by kernel_rfl, ?_⟩) hHeld ?_
          · intro w' hSw; obtain ⟨z0, z1, z2, -⟩ := (mu.below hSw).open3; go_simp
          try simp only [Act.put, List.setIfInBounds_toArray, List.set_cons_zero, List.set_cons_succ, List.getElem_toArray, List.getElem_cons_succ, List.getElem_cons_zero]
          refine wpAnyH_take (i := 5) (v := .slice ((some ⟨g, o, none⟩)) L C) rfl (by kernel_rfl) (by kernel_rfl) (by kernel_rfl) (fun _ _ _ h => h) (Or.inl ⟨by kernel_rfl, ?_⟩) hHeld ?_
          · intro w' hSw; go_simp
          try simp only [Act.put, List.setIfInBounds_toArray, List.set_cons_zero, List.set_cons_succ, List.getElem_toArray, List.getElem_cons_succ, List.getElem_cons_zero]
          refine wpAnyH_take (i := 6) (v := .pointer (some ⟨g, o, none⟩)) rfl (by kernel_rfl) (by kernel_rfl) (by kernel_rfl) (fun _ _ _ h => h) (Or.inl ⟨by kernel_rfl, ?_⟩) hHeld ?_
          · intro w' hSw; go_simp
          try simp only [Act.put, List.setIfInBounds_toArray, List.set_cons_zero, List.set_cons_succ, List.getElem_toArray, List.getElem_cons_succ, List.getElem_cons_zero]
          refine wpAnyH_take (i := 7) (v := .pointer (some ⟨g, o + 2, none⟩)) rfl (by kernel_rfl) (by kernel_rfl) (by kernel_rfl) (fun _ _ _ h => h) (Or.inl ⟨by kernel_rfl, ?_⟩) hHeld ?_
          · intro w' hSw; go_simp
          try simp only [Act.put, List.setIfInBounds_toArray, List.set_cons_zero, List.set_cons_succ, List.getElem_toArray, List.getElem_cons_succ, List.getElem_cons_zero]
          refine wpAnyH_take (i := 8) (v := .int .i64 (R)) rfl (by kernel_rfl) (by kernel_rfl) (by kernel_rfl) (fun _ _ _ h => h) (Or.inl ⟨by kernel_rfl, ?_⟩) hHeld ?_
          · intro w' hSw; have z0 := Y0 _ hSw; go_simp
          try simp only [Act.put, List.setIfInBounds_toArray, List.set_cons_zero, List.set_cons_succ, List.getElem_toArray, List.getElem_cons_succ, List.getElem_cons_zero]
          refine wpAnyH_take (i := 9) (v := .bool false) rfl (by kernel_rfl) (by kernel_rfl) (by kernel_rfl) (fun _ _ _ h => h) (Or.inl ⟨by kernel_rfl, ?_⟩) hHeld ?_
          · intro w' hSw; go_simp
          try simp only [Act.put, List.setIfInBounds_toArray, List.set_cons_zero, List.set_cons_succ, List.getElem_toArray, List.getElem_cons_succ, List.getElem_cons_zero]
          refine wpAnyH_take (i := 10) (v := .bool false) rfl (by kernel_rfl) (by kernel_rfl) (by kernel_rfl) (fun _ _ _ h => h) (Or.inl ⟨by kernel_rfl, ?_⟩) hHeld ?_
          · intro w' hSw; go_simp
          try simp only [Act.put, List.setIfInBounds_toArray, List.set_cons_zero, List.set_cons_succ, List.getElem_toArray, List.getElem_cons_succ, List.getElem_cons_zero]
          refine wpAnyH_done (by kernel_rfl) ?_ _
          clear hHeld
          go_wp2
          exact ⟨⟨k + 1, by omega, by go_num, HK.out, B⟩, by simp [intOf]; omega⟩
        · obtain rfl := no_of hb (fun K => e (by rw [← HR.out, ← HR0.out]; exact (K k hlt).2))
          have hne2 : (R != R0) = true := by simpa using e
          clear e HZ hne
          obtain ⟨u0, hu0, bb⟩ : ∃ uu, V1.drew = uu ∧ Below V1.heap.size V1 uu := ⟨_, rfl, (Below.refl _ _).drew⟩
          replace m1 := m1.below bb
          replace D := D.below bb
          replace B := B.trans (bb.mono B.size)
          have mu := m1
          have Y0 : ∀ w', Kb u0 w' → w'.cell? ⟨g, o + 2, none⟩ = some (.int .i64 R0) := fun w' h => by have z := ((D.below h).from (k := 0) HO.out (show x + 0 < N by omega)).2.2; simp only [Nat.zero_mul, Nat.add_zero] at z; rw [HR0.out] at z; exact z
          clear bb
          refine wp_region_held_drew (S := Kb u0) (by kernel_rfl) (by rw [hu0]; exact Below.refl _ _) (fun hHeld => ?_)
          rw [hu0] at hHeld ⊢
          clear hu0
          have bu : Kb u0 u0 := Below.refl _ _
          change wpAnyH _ _ _ _ _ 11 #[false, false, false, false, false, false, false, false, false, false, false] _ _
          refine wpAnyH_take (i := 0) (v := .agg #[.string (nm (x + k)), .slice ((some ⟨vb (x + k), 0, none⟩)) ((n (x + k))) ((n (x + k))), .int .i64 (R)]) rfl (by kernel_rfl) (by kernel_rfl) (by kernel_rfl) (fun _ _ _ h => h) (Or.inl ⟨by kernel_rfl, ?_⟩) hHeld ?_
          · intro w' hSw; obtain ⟨z0, z1, z2, -⟩ := (mu.below hSw).open3; go_simp
          try simp only [Act.put, List.setIfInBounds_toArray, List.set_cons_zero, List.set_cons_succ, List.getElem_toArray, List.getElem_cons_zero]
          refine wpAnyH_ready (rs := [1]) (by kernel_rfl) (by simp) ?_
          refine AllReadyH.cons rfl (fun KK hK' => ?_) AllReadyH.nil
          go_simp
          refine (IS _).mono ?_
          rintro e u1 ⟨rfl, bb⟩
          replace D := D.below bb
          replace m1 := m1.below bb
          replace B := B.trans (bb.mono B.size)
          replace bu : Kb u0 u1 := bu.trans (bb.mono bu.size)
          clear bb
          try go_wp2_with fail
          clear hHeld
          refine hK'.out _ _ (bu) (fun hHeld => ?_)
          clear hK' KK
          try simp only [List.setIfInBounds_toArray, List.set_cons_zero, List.set_cons_succ]
          refine wpAnyH_take (i := 2) (v := .bool false) rfl (by kernel_rfl) (by kernel_rfl) (by kernel_rfl) (fun _ _ _ h => h) (Or.inl ⟨by kernel_rfl, ?_⟩) hHeld ?_
          · intro w' hSw; go_simp
          try simp only [Act.put, List.setIfInBounds_toArray, List.set_cons_zero, List.set_cons_succ, List.getElem_toArray, List.getElem_cons_succ, List.getElem_cons_zero]
          refine wpAnyH_take (i := 3) (v := .pointer (some ⟨r1, 2, none⟩)) rfl (by kernel_rfl) (by kernel_rfl) (by kernel_rfl) (fun _ _ _ h => h) (Or.inl ⟨by kernel_rfl, ?_⟩) hHeld ?_
          · intro w' hSw; go_simp
          try simp only [Act.put, List.setIfInBounds_toArray, List.set_cons_zero, List.set_cons_succ, List.getElem_toArray, List.getElem_cons_succ, List.getElem_cons_zero]
          refine wpAnyH_take (i := 4) (v := .int .i64 (R)) rfl (by kernel_rfl) (by kernel_rfl) (by kernel_rfl) (fun _ _ _ h => h) (Or.inl ⟨by kernel_rfl, ?_⟩) hHeld ?_
          · intro w' hSw; obtain ⟨z0, z1, z2, -⟩ := (mu.below hSw).open3; go_simp
          try simp only [Act.put, List.setIfInBounds_toArray, List.set_cons_zero, List.set_cons_succ, List.getElem_toArray, List.getElem_cons_succ, List.getElem_cons_zero]
          refine wpAnyH_take (i := 5) (v := .slice ((some ⟨g, o, none⟩)) L C) rfl (by kernel_rfl) (by kernel_rfl) (by kernel_rfl) (fun _ _ _ h => h) (Or.inl ⟨by kernel_rfl, ?_⟩) hHeld ?_
          · intro w' hSw; go_simp
          try simp only [Act.put, List.setIfInBounds_toArray, List.set_cons_zero, List.set_cons_succ, List.getElem_toArray, List.getElem_cons_succ, List.getElem_cons_zero]
          refine wpAnyH_take (i := 6) (v := .pointer (some ⟨g, o, none⟩)) rfl (by kernel_rfl) (by kernel_rfl) (by kernel_rfl) (fun _ _ _ h => h) (Or.inl ⟨by kernel_rfl, ?_⟩) hHeld ?_
          · intro w' hSw; go_simp
          try simp only [Act.put, List.setIfInBounds_toArray, List.set_cons_zero, List.set_cons_succ, List.getElem_toArray, List.getElem_cons_succ, List.getElem_cons_zero]
          refine wpAnyH_take (i := 7) (v := .pointer (some ⟨g, o + 2, none⟩)) rfl (by kernel_rfl) (by kernel_rfl) (by kernel_rfl) (fun _ _ _ h => h) (Or.inl ⟨by kernel_rfl, ?_⟩) hHeld ?_
          · intro w' hSw; go_simp
          try simp only [Act.put, List.setIfInBounds_toArray, List.set_cons_zero, List.set_cons_succ, List.getElem_toArray, List.getElem_cons_succ, List.getElem_cons_zero]
          refine wpAnyH_take (i := 8) (v := .int .i64 (R0)) rfl (by kernel_rfl) (by kernel_rfl) (by kernel_rfl) (fun _ _ _ h => h) (Or.inl ⟨by kernel_rfl, ?_⟩) hHeld ?_
          · intro w' hSw; have z0 := Y0 _ hSw; go_simp
          try simp only [Act.put, List.setIfInBounds_toArray, List.set_cons_zero, List.set_cons_succ, List.getElem_toArray, List.getElem_cons_succ, List.getElem_cons_zero]
          refine wpAnyH_take (i := 9) (v := .bool true) rfl (by kernel_rfl) (by kernel_rfl) (by kernel_rfl) (fun _ _ _ h => h) (Or.inl ⟨by kernel_rfl, ?_⟩) hHeld ?_
          · intro w' hSw; go_simp
          try simp only [Act.put, List.setIfInBounds_toArray, List.set_cons_zero, List.set_cons_succ, List.getElem_toArray, List.getElem_cons_succ, List.getElem_cons_zero]
          refine wpAnyH_take (i := 10) (v := .bool true) rfl (by kernel_rfl) (by kernel_rfl) (by kernel_rfl) (fun _ _ _ h => h) (Or.inl ⟨by kernel_rfl, ?_⟩) hHeld ?_
          · intro w' hSw; go_simp
          try simp only [Act.put, List.setIfInBounds_toArray, List.set_cons_zero, List.set_cons_succ, List.getElem_toArray, List.getElem_cons_succ, List.getElem_cons_zero]
          refine wpAnyH_done (by kernel_rfl) ?_ _
          clear hHeld
          go_wp2
          go_ret
          exact ⟨rfl, B⟩
      · obtain rfl := no_of hb (fun K => (K k hlt).1 (by rw [HR.out]; exact beq_iff_eq.1 HZ.out))
        clear HZ
        obtain ⟨u0, hu0, bb⟩ : ∃ uu, V1.drew = uu ∧ Below V1.heap.size V1 uu := ⟨_, rfl, (Below.refl _ _).drew⟩
        replace m1 := m1.below bb
        replace D := D.below bb
        replace B := B.trans (bb.mono B.size)
        have mu := m1
        have Y0 : ∀ w', Kb u0 w' → w'.cell? ⟨g, o + 2, none⟩ = some (.int .i64 R0) := fun w' h => by have z := ((D.below h).from (k := 0) HO.out (show x + 0 < N by omega)).2.2; simp only [Nat.zero_mul, Nat.add_zero] at z; rw [HR0.out] at z; exact z
        clear bb
        refine wp_region_held_drew (S := Kb u0) (by kernel_rfl) (by rw [hu0]; exact Below.refl _ _) (fun hHeld => ?_)
        rw [hu0] at hHeld ⊢
        clear hu0
        have bu : Kb u0 u0 := Below.refl _ _
        change wpAnyH _ _ _ _ _ 11 #[false, false, false, false, false, false, false, false, false, false, false] _ _
        refine wpAnyH_take (i := 0) (v := .agg #[.string (nm (x + k)), .slice ((some ⟨vb (x + k), 0, none⟩)) ((n (x + k))) ((n (x + k))), .int .i64 (R)]) rfl (by kernel_rfl) (by kernel_rfl) (by kernel_rfl) (fun _ _ _ h => h) (Or.inl ⟨by kernel_rfl, ?_⟩) hHeld ?_
        · intro w' hSw; obtain ⟨z0, z1, z2, -⟩ := (mu.below hSw).open3; go_simp
        try simp only [Act.put, List.setIfInBounds_toArray, List.set_cons_zero, List.set_cons_succ, List.getElem_toArray, List.getElem_cons_zero]
        refine wpAnyH_ready (rs := [1]) (by kernel_rfl) (by simp) ?_
        refine AllReadyH.cons rfl (fun KK hK' => ?_) AllReadyH.nil
        go_simp
        refine (IS _).mono ?_
        rintro e u1 ⟨rfl, bb⟩
        replace D := D.below bb
        replace m1 := m1.below bb
        replace B := B.trans (bb.mono B.size)
        replace bu : Kb u0 u1 := bu.trans (bb.mono bu.size)
        clear bb
        try go_wp2_with fail
        clear hHeld
        refine hK'.out _ _ (bu) (fun hHeld => ?_)
        clear hK' KK
        try simp only [List.setIfInBounds_toArray, List.set_cons_zero, List.set_cons_succ]
        refine wpAnyH_take (i := 2) (v := .bool true) rfl (by kernel_rfl) (by kernel_rfl) (by kernel_rfl) (fun _ _ _ h => h) (Or.inl ⟨by kernel_rfl, ?_⟩) hHeld ?_
        · intro w' hSw; go_simp
        try simp only [Act.put, List.setIfInBounds_toArray, List.set_cons_zero, List.set_cons_succ, List.getElem_toArray, List.getElem_cons_succ, List.getElem_cons_zero]
        refine wpAnyH_take (i := 3) (v := undef) rfl (by kernel_rfl) (by kernel_rfl) (by kernel_rfl) (fun _ _ _ h => h) (Or.inr ⟨by kernel_rfl, rfl⟩) hHeld ?_
        try simp only [Act.put, List.setIfInBounds_toArray, List.set_cons_zero, List.set_cons_succ, List.getElem_toArray, List.getElem_cons_succ, List.getElem_cons_zero]
        refine wpAnyH_take (i := 4) (v := undef) rfl (by kernel_rfl) (by kernel_rfl) (by kernel_rfl) (fun _ _ _ h => h) (Or.inr ⟨by kernel_rfl, rfl⟩) hHeld ?_
        try simp only [Act.put, List.setIfInBounds_toArray, List.set_cons_zero, List.set_cons_succ, List.getElem_toArray, List.getElem_cons_succ, List.getElem_cons_zero]
        refine wpAnyH_take (i := 5) (v := undef) rfl (by kernel_rfl) (by kernel_rfl) (by kernel_rfl) (fun _ _ _ h => h) (Or.inr ⟨by kernel_rfl, rfl⟩) hHeld ?_
        try simp only [Act.put, List.setIfInBounds_toArray, List.set_cons_zero, List.set_cons_succ, List.getElem_toArray, List.getElem_cons_succ, List.getElem_cons_zero]
        refine wpAnyH_take (i := 6) (v := undef) rfl (by kernel_rfl) (by kernel_rfl) (by kernel_rfl) (fun _ _ _ h => h) (Or.inr ⟨by kernel_rfl, rfl⟩) hHeld ?_
        try simp only [Act.put, List.setIfInBounds_toArray, List.set_cons_zero, List.set_cons_succ, List.getElem_toArray, List.getElem_cons_succ, List.getElem_cons_zero]
        refine wpAnyH_take (i := 7) (v := undef) rfl (by kernel_rfl) (by kernel_rfl) (by kernel_rfl) (fun _ _ _ h => h) (Or.inr ⟨by kernel_rfl, rfl⟩) hHeld ?_
        try simp only [Act.put, List.setIfInBounds_toArray, List.set_cons_zero, List.set_cons_succ, List.getElem_toArray, List.getElem_cons_succ, List.getElem_cons_zero]
        refine wpAnyH_take (i := 8) (v := undef) rfl (by kernel_rfl) (by kernel_rfl) (by kernel_rfl) (fun _ _ _ h => h) (Or.inr ⟨by kernel_rfl, rfl⟩) hHeld ?_
        try simp only [Act.put, List.setIfInBounds_toArray, List.set_cons_zero, List.set_cons_succ, List.getElem_toArray, List.getElem_cons_succ, List.getElem_cons_zero]
        refine wpAnyH_take (i := 9) (v := undef) rfl (by kernel_rfl) (by kernel_rfl) (by kernel_rfl) (fun _ _ _ h => h) (Or.inr ⟨by kernel_rfl, rfl⟩) hHeld ?_
        try simp only [Act.put, List.setIfInBounds_toArray, List.set_cons_zero, List.set_cons_succ, List.getElem_toArray, List.getElem_cons_succ, List.getElem_cons_zero]
        refine wpAnyH_take (i := 10) (v := .bool true) rfl (by kernel_rfl) (by kernel_rfl) (by kernel_rfl) (fun _ _ _ h => h) (Or.inl ⟨by kernel_rfl, ?_⟩) hHeld ?_
        · intro w' hSw; go_simp
        try simp only [Act.put, List.setIfInBounds_toArray, List.set_cons_zero, List.set_cons_succ, List.getElem_toArray, List.getElem_cons_succ, List.getElem_cons_zero]
        refine wpAnyH_done (by kernel_rfl) ?_ _
        clear hHeld
        go_wp2
        go_ret
        exact ⟨rfl, B⟩
    · have hlt' : ¬ (k : Int) < (L : Int) := by omega
      obtain rfl : k = L := by omega
      obtain rfl : b = true := hb.out.2 HA.out
      go_wp2
      go_ret
      exact ⟨rfl, B⟩
end Go.Proofs.Ytdhfoekfejcceaa
