/-
  Whether a reflection is extinct under a list of operators, by the program: walked.
-/
import Derived.Test.YtmjeplhigjlopaaMS
import Derived.Test.YtmjeplhigjlopaaMN
namespace Go.Proofs.Ytmjeplhigjlopaa
open Go.RowKit

/-- The operator forces h to be nought. -/
def exO (x y z : Int) (k : Nat → Int) : Prop := (x * k 0 + y * k 3 + z * k 6 = x ∧ x * k 1 + y * k 4 + z * k 7 = y ∧ x * k 2 + y * k 5 + z * k 8 = z) ∧ (x * k 9 + y * k 10 + z * k 11) % 24 ≠ 0
def ExTo (x y z : Int) (F : Nat → Nat → Int) (n : Nat) : Prop := ∃ i, i < n ∧ exO x y z (F i)
theorem exTo_no {x y z : Int} {F : Nat → Nat → Int} : ¬ ExTo x y z F 0 := fun ⟨_, h, _⟩ => absurd h (Nat.not_lt_zero _)
theorem exTo_step {x y z : Int} {F : Nat → Nat → Int} {i : Nat} (h : ¬ ExTo x y z F i) (he : ¬ exO x y z (F i)) : ¬ ExTo x y z F (i + 1) := by
  rintro ⟨j, hj, e⟩
  by_cases c : j = i
  · subst c; exact he e
  · exact h ⟨j, by omega, e⟩
set_option maxRecDepth 100000 in
set_option maxHeartbeats 3000000 in
theorem isExt_any {w : World} {base g n c : Nat} {F : Nat → Nat → Int} {x y z : Int} (hF : Oprs w base (.slice (some ⟨g, 0, none⟩) n c) n F) (hn : n ≤ 1000) (h : hkR x y z) (hk : ∀ i, i < n → smK (F i)) (b : Bool) (hb : Hid (b = true ↔ ExTo x y z F n)) :
    Calls Try.prog 63 #[hV x y z, .slice (some ⟨g, 0, none⟩) n c] w fun e w' => e = .returned (.bool b) ∧ Below w.heap.size w w' := by
  have hn' : (n : Int) ≤ 1000 := by omega
  have HH : Hid (hkR x y z) := h
  have HK : Hid (∀ i, i < n → smK (F i)) := hk
  obtain ⟨W1, hW1, A1, B1, -⟩ := boxed w 54 #[.int .i64 x, .int .i64 y, .int .i64 z]
  obtain ⟨q1, hq1⟩ : ∃ q, w.heap.size = q := ⟨_, rfl⟩
  rw [hq1] at A1
  clear h hk
  go_enter Try.func63, Try.ntmps63
  go_wp2
  clear hW1 hq1
  go_loopw [10] (fun s wr => ∃ i : Nat, i ≤ n ∧ s = .int .i64 (i : Int) ∧ Hid (¬ ExTo x y z F i) ∧ At 54 wr q1 #[.int .i64 x, .int .i64 y, .int .i64 z] ∧ Below w.heap.size w wr) (fun s _ => n - (intOf s).toNat)
  case atStart => exact ⟨0, Nat.zero_le _, rfl, exTo_no, A1, B1⟩
  case round =>
    clear A1 B1
    obtain ⟨i, hi, rfl, HN, A1, B⟩ := hrel
    by_cases hlt : i < n
    · have hlt' : (i : Int) < (n : Int) := by omega
      obtain ⟨e0, e1, e2, e3, e4, e5, e6, e7, e8, e9, e10, e11⟩ := (hF.below B).open i hlt
      obtain ⟨W2, hW2, A2, b2, -⟩ := boxed wr 77 (kc (F i)).toArray
      obtain ⟨q6, hq6⟩ : ∃ q, wr.heap.size = q := ⟨_, rfl⟩
      rw [hq6] at A2
      have h16 := A1.lt
      replace A1 := A1.below b2
      obtain ⟨f0, f1, f2, f3, f4, f5, f6, f7, f8, f9, f10, f11⟩ := At.openk (x := F i) A2
      obtain ⟨d0, d1, d2, -⟩ := A1.open3
      replace B := B.trans (b2.mono B.size)
      clear b2
      have SH := shift_any HH.out (HK.out i hlt) W2
      unfold kc at hW2 SH
      go_wp2_with fail
      refine SH.mono ?_
      rintro e w3 ⟨rfl, b3⟩
      clear SH e0 e1 e2 e3 e4 e5 e6 e7 e8 e9 e10 e11 f0 f1 f2 f3 f4 f5 f6 f7 f8 f9 f10 f11 hW2 d0 d1 d2 A2 h16
      replace A1 := A1.below b3
      replace B := B.trans (b3.mono B.size)
      clear b3
      have HE : Hid (exO x y z (F i) ↔ ((x * F i 0 + y * F i 3 + z * F i 6 = x ∧ x * F i 1 + y * F i 4 + z * F i 7 = y ∧ x * F i 2 + y * F i 5 + z * F i 8 = z) ∧ (x * F i 9 + y * F i 10 + z * F i 11) % 24 ≠ 0)) := Iff.rfl
      obtain ⟨s0, h0⟩ : ∃ s, x * F i 0 + y * F i 3 + z * F i 6 = s := ⟨_, rfl⟩
      obtain ⟨s1, h1⟩ : ∃ s, x * F i 1 + y * F i 4 + z * F i 7 = s := ⟨_, rfl⟩
      obtain ⟨s2, h2⟩ : ∃ s, x * F i 2 + y * F i 5 + z * F i 8 = s := ⟨_, rfl⟩
      obtain ⟨p, hp⟩ : ∃ s, (x * F i 9 + y * F i 10 + z * F i 11) % 24 = s := ⟨_, rfl⟩
      rw [h0, h1, h2, hp] at HE
      rw [h0, h1, h2, hp]
      clear h0 h1 h2 hp
      obtain ⟨W4, hW4, A4, b4, -⟩ := boxed w3 110 #[.int .i64 s0, .int .i64 s1, .int .i64 s2, .int .i64 p]
      obtain ⟨q7, hq7⟩ : ∃ q, w3.heap.size = q := ⟨_, rfl⟩
      rw [hq7] at A4
      replace A1 := A1.below b4
      replace B := B.trans (b4.mono B.size)
      clear b4
      by_cases c0 : s0 = x
      case neg =>
        have c0' : (s0 == x) = false := by simp [c0]
        have HN2 : Hid (¬ ExTo x y z F (i + 1)) := exTo_step HN.out (fun e => c0 (HE.out.1 e).1.1)
        clear HN HE c0
        go_wp2_with fail
        clear hW4 hq7
        obtain ⟨u0, hu0, bb⟩ : ∃ uu, W4.drew = uu ∧ Below W4.heap.size W4 uu := ⟨_, rfl, (Below.refl _ _).drew⟩
        replace A1 := A1.below bb
        replace A4 := A4.below bb
        replace B := B.trans (bb.mono B.size)
        have A1u := A1
        have A4u := A4
        clear bb
        refine wp_region_held_drew (S := Kb u0) (by kernel_rfl) (by rw [hu0]; exact Below.refl _ _) (fun hHeld => ?_)
        rw [hu0] at hHeld ⊢
        clear hu0
        have bu : Kb u0 u0 := Below.refl _ _
        change wpAnyH _ _ _ _ _ 9 #[false, false, false, false, false, false, false, false, false] _ _
        refine wpAnyH_take (i := 0) (v := shV s0 s1 s2 p) rfl (by kernel_rfl) (by kernel_rfl) (by kernel_rfl) (fun _ _ _ h => h) (Or.inl ⟨by kernel_rfl, ?_⟩) hHeld ?_
        · intro w' hSw; obtain ⟨z0, z1, z2, z3, -⟩ := At.open4f (A4u.below hSw); go_simp
        try simp only [Act.put, List.setIfInBounds_toArray, List.set_cons_zero, List.set_cons_succ, List.getElem_toArray, List.getElem_cons_zero]
        refine wpAnyH_take (i := 2) (v := hV x y z) rfl (by kernel_rfl) (by kernel_rfl) (by kernel_rfl) (fun _ _ _ h => h) (Or.inl ⟨by kernel_rfl, ?_⟩) hHeld ?_
        · intro w' hSw; obtain ⟨z0, z1, z2, -⟩ := (A1u.below hSw).open3; go_simp
        try simp only [Act.put, List.setIfInBounds_toArray, List.set_cons_zero, List.set_cons_succ, List.getElem_toArray, List.getElem_cons_succ, List.getElem_cons_zero]
        refine wpAnyH_ready (rs := [1]) (by kernel_rfl) (by simp) ?_
        refine AllReadyH.cons rfl (fun KK hK' => ?_) AllReadyH.nil
        go_simp
        refine (shkl_any s0 s1 s2 p _).mono ?_
        rintro e u1 ⟨rfl, bb⟩
        replace A1 := A1.below bb
        replace A4 := A4.below bb
        replace B := B.trans (bb.mono B.size)
        replace bu : Kb u0 u1 := bu.trans (bb.mono bu.size)
        clear bb
        try go_wp2_with fail
        clear hHeld
        refine hK'.out _ _ (bu) (fun hHeld => ?_)
        clear hK' KK
        try simp only [List.setIfInBounds_toArray, List.set_cons_zero, List.set_cons_succ]
        refine wpAnyH_take (i := 3) (v := .bool false) rfl (by kernel_rfl) (by kernel_rfl) (by kernel_rfl) (fun _ _ _ h => h) (Or.inl ⟨by kernel_rfl, ?_⟩) hHeld ?_
        · intro w' hSw; go_simp
        try simp only [Act.put, List.setIfInBounds_toArray, List.set_cons_zero, List.set_cons_succ, List.getElem_toArray, List.getElem_cons_succ, List.getElem_cons_zero]
        refine wpAnyH_take (i := 4) (v := .bool false) rfl (by kernel_rfl) (by kernel_rfl) (by kernel_rfl) (fun _ _ _ h => h) (Or.inl ⟨by kernel_rfl, ?_⟩) hHeld ?_
        · intro w' hSw; go_simp
        try simp only [Act.put, List.setIfInBounds_toArray, List.set_cons_zero, List.set_cons_succ, List.getElem_toArray, List.getElem_cons_succ, List.getElem_cons_zero]
        refine wpAnyH_take (i := 5) (v := undef) rfl (by kernel_rfl) (by kernel_rfl) (by kernel_rfl) (fun _ _ _ h => h) (Or.inr ⟨by kernel_rfl, rfl⟩) hHeld ?_
        try simp only [Act.put, List.setIfInBounds_toArray, List.set_cons_zero, List.set_cons_succ, List.getElem_toArray, List.getElem_cons_succ, List.getElem_cons_zero]
        refine wpAnyH_take (i := 6) (v := undef) rfl (by kernel_rfl) (by kernel_rfl) (by kernel_rfl) (fun _ _ _ h => h) (Or.inr ⟨by kernel_rfl, rfl⟩) hHeld ?_
        try simp only [Act.put, List.setIfInBounds_toArray, List.set_cons_zero, List.set_cons_succ, List.getElem_toArray, List.getElem_cons_succ, List.getElem_cons_zero]
        refine wpAnyH_take (i := 7) (v := undef) rfl (by kernel_rfl) (by kernel_rfl) (by kernel_rfl) (fun _ _ _ h => h) (Or.inr ⟨by kernel_rfl, rfl⟩) hHeld ?_
        try simp only [Act.put, List.setIfInBounds_toArray, List.set_cons_zero, List.set_cons_succ, List.getElem_toArray, List.getElem_cons_succ, List.getElem_cons_zero]
        refine wpAnyH_take (i := 8) (v := .bool false) rfl (by kernel_rfl) (by kernel_rfl) (by kernel_rfl) (fun _ _ _ h => h) (Or.inl ⟨by kernel_rfl, ?_⟩) hHeld ?_
        · intro w' hSw; go_simp
        try simp only [Act.put, List.setIfInBounds_toArray, List.set_cons_zero, List.set_cons_succ, List.getElem_toArray, List.getElem_cons_succ, List.getElem_cons_zero]
        refine wpAnyH_done (by kernel_rfl) ?_ _
        clear hHeld
        clear bu A1u A4u A4
        go_wp2
        exact ⟨⟨i + 1, by omega, by go_num, HN2, A1, B⟩, by simp [intOf]; omega⟩
      subst c0
      by_cases c1 : s1 = y
      case neg =>
        have c1' : (s1 == y) = false := by simp [c1]
        have HN2 : Hid (¬ ExTo s0 y z F (i + 1)) := exTo_step HN.out (fun e => c1 (HE.out.1 e).1.2.1)
        clear HN HE c1
        go_wp2_with fail
        clear hW4 hq7
        obtain ⟨u0, hu0, bb⟩ : ∃ uu, W4.drew = uu ∧ Below W4.heap.size W4 uu := ⟨_, rfl, (Below.refl _ _).drew⟩
        replace A1 := A1.below bb
        replace A4 := A4.below bb
        replace B := B.trans (bb.mono B.size)
        have A1u := A1
        have A4u := A4
        clear bb
        refine wp_region_held_drew (S := Kb u0) (by kernel_rfl) (by rw [hu0]; exact Below.refl _ _) (fun hHeld => ?_)
        rw [hu0] at hHeld ⊢
        clear hu0
        have bu : Kb u0 u0 := Below.refl _ _
        change wpAnyH _ _ _ _ _ 9 #[false, false, false, false, false, false, false, false, false] _ _
        refine wpAnyH_take (i := 0) (v := shV s0 s1 s2 p) rfl (by kernel_rfl) (by kernel_rfl) (by kernel_rfl) (fun _ _ _ h => h) (Or.inl ⟨by kernel_rfl, ?_⟩) hHeld ?_
        · intro w' hSw; obtain ⟨z0, z1, z2, z3, -⟩ := At.open4f (A4u.below hSw); go_simp
        try simp only [Act.put, List.setIfInBounds_toArray, List.set_cons_zero, List.set_cons_succ, List.getElem_toArray, List.getElem_cons_zero]
        refine wpAnyH_take (i := 2) (v := hV s0 y z) rfl (by kernel_rfl) (by kernel_rfl) (by kernel_rfl) (fun _ _ _ h => h) (Or.inl ⟨by kernel_rfl, ?_⟩) hHeld ?_
        · intro w' hSw; obtain ⟨z0, z1, z2, -⟩ := (A1u.below hSw).open3; go_simp
        try simp only [Act.put, List.setIfInBounds_toArray, List.set_cons_zero, List.set_cons_succ, List.getElem_toArray, List.getElem_cons_succ, List.getElem_cons_zero]
        refine wpAnyH_ready (rs := [1]) (by kernel_rfl) (by simp) ?_
        refine AllReadyH.cons rfl (fun KK hK' => ?_) AllReadyH.nil
        go_simp
        refine (shkl_any s0 s1 s2 p _).mono ?_
        rintro e u1 ⟨rfl, bb⟩
        replace A1 := A1.below bb
        replace A4 := A4.below bb
        replace B := B.trans (bb.mono B.size)
        replace bu : Kb u0 u1 := bu.trans (bb.mono bu.size)
        clear bb
        try go_wp2_with fail
        clear hHeld
        refine hK'.out _ _ (bu) (fun hHeld => ?_)
        clear hK' KK
        try simp only [List.setIfInBounds_toArray, List.set_cons_zero, List.set_cons_succ]
        refine wpAnyH_take (i := 3) (v := .bool false) rfl (by kernel_rfl) (by kernel_rfl) (by kernel_rfl) (fun _ _ _ h => h) (Or.inl ⟨by kernel_rfl, ?_⟩) hHeld ?_
        · intro w' hSw; go_simp
        try simp only [Act.put, List.setIfInBounds_toArray, List.set_cons_zero, List.set_cons_succ, List.getElem_toArray, List.getElem_cons_succ, List.getElem_cons_zero]
        refine wpAnyH_take (i := 4) (v := .bool false) rfl (by kernel_rfl) (by kernel_rfl) (by kernel_rfl) (fun _ _ _ h => h) (Or.inl ⟨by kernel_rfl, ?_⟩) hHeld ?_
        · intro w' hSw; go_simp
        try simp only [Act.put, List.setIfInBounds_toArray, List.set_cons_zero, List.set_cons_succ, List.getElem_toArray, List.getElem_cons_succ, List.getElem_cons_zero]
        refine wpAnyH_take (i := 5) (v := undef) rfl (by kernel_rfl) (by kernel_rfl) (by kernel_rfl) (fun _ _ _ h => h) (Or.inr ⟨by kernel_rfl, rfl⟩) hHeld ?_
        try simp only [Act.put, List.setIfInBounds_toArray, List.set_cons_zero, List.set_cons_succ, List.getElem_toArray, List.getElem_cons_succ, List.getElem_cons_zero]
        refine wpAnyH_take (i := 6) (v := undef) rfl (by kernel_rfl) (by kernel_rfl) (by kernel_rfl) (fun _ _ _ h => h) (Or.inr ⟨by kernel_rfl, rfl⟩) hHeld ?_
        try simp only [Act.put, List.setIfInBounds_toArray, List.set_cons_zero, List.set_cons_succ, List.getElem_toArray, List.getElem_cons_succ, List.getElem_cons_zero]
        refine wpAnyH_take (i := 7) (v := undef) rfl (by kernel_rfl) (by kernel_rfl) (by kernel_rfl) (fun _ _ _ h => h) (Or.inr ⟨by kernel_rfl, rfl⟩) hHeld ?_
        try simp only [Act.put, List.setIfInBounds_toArray, List.set_cons_zero, List.set_cons_succ, List.getElem_toArray, List.getElem_cons_succ, List.getElem_cons_zero]
        refine wpAnyH_take (i := 8) (v := .bool false) rfl (by kernel_rfl) (by kernel_rfl) (by kernel_rfl) (fun _ _ _ h => h) (Or.inl ⟨by kernel_rfl, ?_⟩) hHeld ?_
        · intro w' hSw; go_simp
        try simp only [Act.put, List.setIfInBounds_toArray, List.set_cons_zero, List.set_cons_succ, List.getElem_toArray, List.getElem_cons_succ, List.getElem_cons_zero]
        refine wpAnyH_done (by kernel_rfl) ?_ _
        clear hHeld
        clear bu A1u A4u A4
        go_wp2
        exact ⟨⟨i + 1, by omega, by go_num, HN2, A1, B⟩, by simp [intOf]; omega⟩
      subst c1
      by_cases c2 : s2 = z
      case neg =>
        have c2' : (s2 == z) = false := by simp [c2]
        have HN2 : Hid (¬ ExTo s0 s1 z F (i + 1)) := exTo_step HN.out (fun e => c2 (HE.out.1 e).1.2.2)
        clear HN HE c2
        go_wp2_with fail
        clear hW4 hq7
        obtain ⟨u0, hu0, bb⟩ : ∃ uu, W4.drew = uu ∧ Below W4.heap.size W4 uu := ⟨_, rfl, (Below.refl _ _).drew⟩
        replace A1 := A1.below bb
        replace A4 := A4.below bb
        replace B := B.trans (bb.mono B.size)
        have A1u := A1
        have A4u := A4
        clear bb
        refine wp_region_held_drew (S := Kb u0) (by kernel_rfl) (by rw [hu0]; exact Below.refl _ _) (fun hHeld => ?_)
        rw [hu0] at hHeld ⊢
        clear hu0
        have bu : Kb u0 u0 := Below.refl _ _
        change wpAnyH _ _ _ _ _ 9 #[false, false, false, false, false, false, false, false, false] _ _
        refine wpAnyH_take (i := 0) (v := shV s0 s1 s2 p) rfl (by kernel_rfl) (by kernel_rfl) (by kernel_rfl) (fun _ _ _ h => h) (Or.inl ⟨by kernel_rfl, ?_⟩) hHeld ?_
        · intro w' hSw; obtain ⟨z0, z1, z2, z3, -⟩ := At.open4f (A4u.below hSw); go_simp
        try simp only [Act.put, List.setIfInBounds_toArray, List.set_cons_zero, List.set_cons_succ, List.getElem_toArray, List.getElem_cons_zero]
        refine wpAnyH_take (i := 2) (v := hV s0 s1 z) rfl (by kernel_rfl) (by kernel_rfl) (by kernel_rfl) (fun _ _ _ h => h) (Or.inl ⟨by kernel_rfl, ?_⟩) hHeld ?_
        · intro w' hSw; obtain ⟨z0, z1, z2, -⟩ := (A1u.below hSw).open3; go_simp
        try simp only [Act.put, List.setIfInBounds_toArray, List.set_cons_zero, List.set_cons_succ, List.getElem_toArray, List.getElem_cons_succ, List.getElem_cons_zero]
        refine wpAnyH_ready (rs := [1]) (by kernel_rfl) (by simp) ?_
        refine AllReadyH.cons rfl (fun KK hK' => ?_) AllReadyH.nil
        go_simp
        refine (shkl_any s0 s1 s2 p _).mono ?_
        rintro e u1 ⟨rfl, bb⟩
        replace A1 := A1.below bb
        replace A4 := A4.below bb
        replace B := B.trans (bb.mono B.size)
        replace bu : Kb u0 u1 := bu.trans (bb.mono bu.size)
        clear bb
        try go_wp2_with fail
        clear hHeld
        refine hK'.out _ _ (bu) (fun hHeld => ?_)
        clear hK' KK
        try simp only [List.setIfInBounds_toArray, List.set_cons_zero, List.set_cons_succ]
        refine wpAnyH_take (i := 3) (v := .bool false) rfl (by kernel_rfl) (by kernel_rfl) (by kernel_rfl) (fun _ _ _ h => h) (Or.inl ⟨by kernel_rfl, ?_⟩) hHeld ?_
        · intro w' hSw; go_simp
        try simp only [Act.put, List.setIfInBounds_toArray, List.set_cons_zero, List.set_cons_succ, List.getElem_toArray, List.getElem_cons_succ, List.getElem_cons_zero]
        refine wpAnyH_take (i := 4) (v := .bool false) rfl (by kernel_rfl) (by kernel_rfl) (by kernel_rfl) (fun _ _ _ h => h) (Or.inl ⟨by kernel_rfl, ?_⟩) hHeld ?_
        · intro w' hSw; go_simp
        try simp only [Act.put, List.setIfInBounds_toArray, List.set_cons_zero, List.set_cons_succ, List.getElem_toArray, List.getElem_cons_succ, List.getElem_cons_zero]
        refine wpAnyH_take (i := 5) (v := undef) rfl (by kernel_rfl) (by kernel_rfl) (by kernel_rfl) (fun _ _ _ h => h) (Or.inr ⟨by kernel_rfl, rfl⟩) hHeld ?_
        try simp only [Act.put, List.setIfInBounds_toArray, List.set_cons_zero, List.set_cons_succ, List.getElem_toArray, List.getElem_cons_succ, List.getElem_cons_zero]
        refine wpAnyH_take (i := 6) (v := undef) rfl (by kernel_rfl) (by kernel_rfl) (by kernel_rfl) (fun _ _ _ h => h) (Or.inr ⟨by kernel_rfl, rfl⟩) hHeld ?_
        try simp only [Act.put, List.setIfInBounds_toArray, List.set_cons_zero, List.set_cons_succ, List.getElem_toArray, List.getElem_cons_succ, List.getElem_cons_zero]
        refine wpAnyH_take (i := 7) (v := undef) rfl (by kernel_rfl) (by kernel_rfl) (by kernel_rfl) (fun _ _ _ h => h) (Or.inr ⟨by kernel_rfl, rfl⟩) hHeld ?_
        try simp only [Act.put, List.setIfInBounds_toArray, List.set_cons_zero, List.set_cons_succ, List.getElem_toArray, List.getElem_cons_succ, List.getElem_cons_zero]
        refine wpAnyH_take (i := 8) (v := .bool false) rfl (by kernel_rfl) (by kernel_rfl) (by kernel_rfl) (fun _ _ _ h => h) (Or.inl ⟨by kernel_rfl, ?_⟩) hHeld ?_
        · intro w' hSw; go_simp
        try simp only [Act.put, List.setIfInBounds_toArray, List.set_cons_zero, List.set_cons_succ, List.getElem_toArray, List.getElem_cons_succ, List.getElem_cons_zero]
        refine wpAnyH_done (by kernel_rfl) ?_ _
        clear hHeld
        clear bu A1u A4u A4
        go_wp2
        exact ⟨⟨i + 1, by omega, by go_num, HN2, A1, B⟩, by simp [intOf]; omega⟩
      subst c2
      by_cases cp : p = 0
      · have cp' : (p != 0) = false := by simp [cp]
        have HN2 : Hid (¬ ExTo s0 s1 s2 F (i + 1)) := exTo_step HN.out (fun e => (HE.out.1 e).2 cp)
        clear HN HE cp
        go_wp2_with fail
        clear hW4 hq7
        obtain ⟨u0, hu0, bb⟩ : ∃ uu, W4.drew = uu ∧ Below W4.heap.size W4 uu := ⟨_, rfl, (Below.refl _ _).drew⟩
        replace A1 := A1.below bb
        replace A4 := A4.below bb
        replace B := B.trans (bb.mono B.size)
        have A1u := A1
        have A4u := A4
        clear bb
        refine wp_region_held_drew (S := Kb u0) (by kernel_rfl) (by rw [hu0]; exact Below.refl _ _) (fun hHeld => ?_)
        rw [hu0] at hHeld ⊢
        clear hu0
        have bu : Kb u0 u0 := Below.refl _ _
        change wpAnyH _ _ _ _ _ 9 #[false, false, false, false, false, false, false, false, false] _ _
        refine wpAnyH_take (i := 0) (v := shV s0 s1 s2 p) rfl (by kernel_rfl) (by kernel_rfl) (by kernel_rfl) (fun _ _ _ h => h) (Or.inl ⟨by kernel_rfl, ?_⟩) hHeld ?_
        · intro w' hSw; obtain ⟨z0, z1, z2, z3, -⟩ := At.open4f (A4u.below hSw); go_simp
        try simp only [Act.put, List.setIfInBounds_toArray, List.set_cons_zero, List.set_cons_succ, List.getElem_toArray, List.getElem_cons_zero]
        refine wpAnyH_take (i := 2) (v := hV s0 s1 s2) rfl (by kernel_rfl) (by kernel_rfl) (by kernel_rfl) (fun _ _ _ h => h) (Or.inl ⟨by kernel_rfl, ?_⟩) hHeld ?_
        · intro w' hSw; obtain ⟨z0, z1, z2, -⟩ := (A1u.below hSw).open3; go_simp
        try simp only [Act.put, List.setIfInBounds_toArray, List.set_cons_zero, List.set_cons_succ, List.getElem_toArray, List.getElem_cons_succ, List.getElem_cons_zero]
        refine wpAnyH_ready (rs := [1]) (by kernel_rfl) (by simp) ?_
        refine AllReadyH.cons rfl (fun KK hK' => ?_) AllReadyH.nil
        go_simp
        refine (shkl_any s0 s1 s2 p _).mono ?_
        rintro e u1 ⟨rfl, bb⟩
        replace A1 := A1.below bb
        replace A4 := A4.below bb
        replace B := B.trans (bb.mono B.size)
        replace bu : Kb u0 u1 := bu.trans (bb.mono bu.size)
        clear bb
        try go_wp2_with fail
        clear hHeld
        refine hK'.out _ _ (bu) (fun hHeld => ?_)
        clear hK' KK
        try simp only [List.setIfInBounds_toArray, List.set_cons_zero, List.set_cons_succ]
        refine wpAnyH_take (i := 3) (v := .bool true) rfl (by kernel_rfl) (by kernel_rfl) (by kernel_rfl) (fun _ _ _ h => h) (Or.inl ⟨by kernel_rfl, ?_⟩) hHeld ?_
        · intro w' hSw; go_simp
        try simp only [Act.put, List.setIfInBounds_toArray, List.set_cons_zero, List.set_cons_succ, List.getElem_toArray, List.getElem_cons_succ, List.getElem_cons_zero]
        refine wpAnyH_take (i := 4) (v := .bool true) rfl (by kernel_rfl) (by kernel_rfl) (by kernel_rfl) (fun _ _ _ h => h) (Or.inl ⟨by kernel_rfl, ?_⟩) hHeld ?_
        · intro w' hSw; go_simp
        try simp only [Act.put, List.setIfInBounds_toArray, List.set_cons_zero, List.set_cons_succ, List.getElem_toArray, List.getElem_cons_succ, List.getElem_cons_zero]
        refine wpAnyH_take (i := 5) (v := .pointer (some ⟨q7, 3, none⟩)) rfl (by kernel_rfl) (by kernel_rfl) (by kernel_rfl) (fun _ _ _ h => h) (Or.inl ⟨by kernel_rfl, ?_⟩) hHeld ?_
        · intro w' hSw; go_simp
        try simp only [Act.put, List.setIfInBounds_toArray, List.set_cons_zero, List.set_cons_succ, List.getElem_toArray, List.getElem_cons_succ, List.getElem_cons_zero]
        refine wpAnyH_take (i := 6) (v := .int .i64 (p)) rfl (by kernel_rfl) (by kernel_rfl) (by kernel_rfl) (fun _ _ _ h => h) (Or.inl ⟨by kernel_rfl, ?_⟩) hHeld ?_
        · intro w' hSw; obtain ⟨z0, z1, z2, z3, -⟩ := At.open4f (A4u.below hSw); go_simp
        try simp only [Act.put, List.setIfInBounds_toArray, List.set_cons_zero, List.set_cons_succ, List.getElem_toArray, List.getElem_cons_succ, List.getElem_cons_zero]
        refine wpAnyH_take (i := 7) (v := .bool false) rfl (by kernel_rfl) (by kernel_rfl) (by kernel_rfl) (fun _ _ _ h => h) (Or.inl ⟨by kernel_rfl, ?_⟩) hHeld ?_
        · intro w' hSw; go_simp
        try simp only [Act.put, List.setIfInBounds_toArray, List.set_cons_zero, List.set_cons_succ, List.getElem_toArray, List.getElem_cons_succ, List.getElem_cons_zero]
        refine wpAnyH_take (i := 8) (v := .bool false) rfl (by kernel_rfl) (by kernel_rfl) (by kernel_rfl) (fun _ _ _ h => h) (Or.inl ⟨by kernel_rfl, ?_⟩) hHeld ?_
        · intro w' hSw; go_simp
        try simp only [Act.put, List.setIfInBounds_toArray, List.set_cons_zero, List.set_cons_succ, List.getElem_toArray, List.getElem_cons_succ, List.getElem_cons_zero]
        refine wpAnyH_done (by kernel_rfl) ?_ _
        clear hHeld
        clear bu A1u A4u A4
        go_wp2
        exact ⟨⟨i + 1, by omega, by go_num, HN2, A1, B⟩, by simp [intOf]; omega⟩
      · have cp' : (p != 0) = true := by simp [cp]
        obtain rfl : b = true := hb.out.2 ⟨i, hlt, HE.out.2 ⟨⟨rfl, rfl, rfl⟩, cp⟩⟩
        clear HN HE cp hb
        go_wp2_with fail
        clear hW4 hq7
        obtain ⟨u0, hu0, bb⟩ : ∃ uu, W4.drew = uu ∧ Below W4.heap.size W4 uu := ⟨_, rfl, (Below.refl _ _).drew⟩
        replace A1 := A1.below bb
        replace A4 := A4.below bb
        replace B := B.trans (bb.mono B.size)
        have A1u := A1
        have A4u := A4
        clear bb
        refine wp_region_held_drew (S := Kb u0) (by kernel_rfl) (by rw [hu0]; exact Below.refl _ _) (fun hHeld => ?_)
        rw [hu0] at hHeld ⊢
        clear hu0
        have bu : Kb u0 u0 := Below.refl _ _
        change wpAnyH _ _ _ _ _ 9 #[false, false, false, false, false, false, false, false, false] _ _
        refine wpAnyH_take (i := 0) (v := shV s0 s1 s2 p) rfl (by kernel_rfl) (by kernel_rfl) (by kernel_rfl) (fun _ _ _ h => h) (Or.inl ⟨by kernel_rfl, ?_⟩) hHeld ?_
        · intro w' hSw; obtain ⟨z0, z1, z2, z3, -⟩ := At.open4f (A4u.below hSw); go_simp
        try simp only [Act.put, List.setIfInBounds_toArray, List.set_cons_zero, List.set_cons_succ, List.getElem_toArray, List.getElem_cons_zero]
        refine wpAnyH_take (i := 2) (v := hV s0 s1 s2) rfl (by kernel_rfl) (by kernel_rfl) (by kernel_rfl) (fun _ _ _ h => h) (Or.inl ⟨by kernel_rfl, ?_⟩) hHeld ?_
        · intro w' hSw; obtain ⟨z0, z1, z2, -⟩ := (A1u.below hSw).open3; go_simp
        try simp only [Act.put, List.setIfInBounds_toArray, List.set_cons_zero, List.set_cons_succ, List.getElem_toArray, List.getElem_cons_succ, List.getElem_cons_zero]
        refine wpAnyH_ready (rs := [1]) (by kernel_rfl) (by simp) ?_
        refine AllReadyH.cons rfl (fun KK hK' => ?_) AllReadyH.nil
        go_simp
        refine (shkl_any s0 s1 s2 p _).mono ?_
        rintro e u1 ⟨rfl, bb⟩
        replace A1 := A1.below bb
        replace A4 := A4.below bb
        replace B := B.trans (bb.mono B.size)
        replace bu : Kb u0 u1 := bu.trans (bb.mono bu.size)
        clear bb
        try go_wp2_with fail
        clear hHeld
        refine hK'.out _ _ (bu) (fun hHeld => ?_)
        clear hK' KK
        try simp only [List.setIfInBounds_toArray, List.set_cons_zero, List.set_cons_succ]
        refine wpAnyH_take (i := 3) (v := .bool true) rfl (by kernel_rfl) (by kernel_rfl) (by kernel_rfl) (fun _ _ _ h => h) (Or.inl ⟨by kernel_rfl, ?_⟩) hHeld ?_
        · intro w' hSw; go_simp
        try simp only [Act.put, List.setIfInBounds_toArray, List.set_cons_zero, List.set_cons_succ, List.getElem_toArray, List.getElem_cons_succ, List.getElem_cons_zero]
        refine wpAnyH_take (i := 4) (v := .bool true) rfl (by kernel_rfl) (by kernel_rfl) (by kernel_rfl) (fun _ _ _ h => h) (Or.inl ⟨by kernel_rfl, ?_⟩) hHeld ?_
        · intro w' hSw; go_simp
        try simp only [Act.put, List.setIfInBounds_toArray, List.set_cons_zero, List.set_cons_succ, List.getElem_toArray, List.getElem_cons_succ, List.getElem_cons_zero]
        refine wpAnyH_take (i := 5) (v := .pointer (some ⟨q7, 3, none⟩)) rfl (by kernel_rfl) (by kernel_rfl) (by kernel_rfl) (fun _ _ _ h => h) (Or.inl ⟨by kernel_rfl, ?_⟩) hHeld ?_
        · intro w' hSw; go_simp
        try simp only [Act.put, List.setIfInBounds_toArray, List.set_cons_zero, List.set_cons_succ, List.getElem_toArray, List.getElem_cons_succ, List.getElem_cons_zero]
        refine wpAnyH_take (i := 6) (v := .int .i64 (p)) rfl (by kernel_rfl) (by kernel_rfl) (by kernel_rfl) (fun _ _ _ h => h) (Or.inl ⟨by kernel_rfl, ?_⟩) hHeld ?_
        · intro w' hSw; obtain ⟨z0, z1, z2, z3, -⟩ := At.open4f (A4u.below hSw); go_simp
        try simp only [Act.put, List.setIfInBounds_toArray, List.set_cons_zero, List.set_cons_succ, List.getElem_toArray, List.getElem_cons_succ, List.getElem_cons_zero]
        refine wpAnyH_take (i := 7) (v := .bool true) rfl (by kernel_rfl) (by kernel_rfl) (by kernel_rfl) (fun _ _ _ h => h) (Or.inl ⟨by kernel_rfl, ?_⟩) hHeld ?_
        · intro w' hSw; go_simp
        try simp only [Act.put, List.setIfInBounds_toArray, List.set_cons_zero, List.set_cons_succ, List.getElem_toArray, List.getElem_cons_succ, List.getElem_cons_zero]
        refine wpAnyH_take (i := 8) (v := .bool true) rfl (by kernel_rfl) (by kernel_rfl) (by kernel_rfl) (fun _ _ _ h => h) (Or.inl ⟨by kernel_rfl, ?_⟩) hHeld ?_
        · intro w' hSw; go_simp
        try simp only [Act.put, List.setIfInBounds_toArray, List.set_cons_zero, List.set_cons_succ, List.getElem_toArray, List.getElem_cons_succ, List.getElem_cons_zero]
        refine wpAnyH_done (by kernel_rfl) ?_ _
        clear hHeld
        clear bu A1u A4u A4
        go_wp2
        go_ret
        exact ⟨rfl, B⟩
    · have hlt' : ¬ (i : Int) < (n : Int) := by omega
      obtain rfl : i = n := by omega
      obtain rfl : b = false := by
        cases b
        · rfl
        · exact absurd (hb.out.1 rfl) HN.out
      clear hb HN
      go_wp2
      go_ret
      exact ⟨rfl, B⟩
end Go.Proofs.Ytmjeplhigjlopaa
