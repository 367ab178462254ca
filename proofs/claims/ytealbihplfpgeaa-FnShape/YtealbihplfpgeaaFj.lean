/-
  Covered, by the program and by the specification: walked.
-/
import Derived.Test.YtealbihplfpgeaaFi
namespace Go.Proofs.Ytealbihplfpgeaa
open Go.RowKit

/-- Facet i is kept by j and k alone. -/
def CvN (f : Nat → Int) (i j k : Nat) : Prop := Cv (f (i * 3)) (f (i * 3 + 1)) (f (i * 3 + 2)) (f (j * 3)) (f (j * 3 + 1)) (f (j * 3 + 2)) (f (k * 3)) (f (k * 3 + 1)) (f (k * 3 + 2))
structure CovP (f : Nat → Int) (n : Nat) (i j k : Int) : Prop where
  hi : n ≤ 40
  has0 : Has f n i
  has1 : Has f n j
  has2 : Has f n k
  ne0 : i ≠ j
  ne1 : j ≠ k
  ne2 : k ≠ i
  kept : CvN f i.toNat j.toNat k.toNat
theorem CovP.no {f : Nat → Int} {n : Nat} {i j k : Int} {b : Bool} (hb : Tells b (CovP f n i j k)) (h : ¬ CovP f n i j k) : b = false := by
  rw [Bool.eq_false_iff]; exact fun e => h (hb.1 e)
/-- Three numbers. -/
def q3 (i j k : Int) : Nat → Int := fun x => match x with | 0 => i | 1 => j | _ => k
theorem has3 {f : Nat → Int} {n : Nat} {i j k : Int} : HasTo f (q3 i j k) n 3 ↔ Has f n i ∧ Has f n j ∧ Has f n k :=
  ⟨fun h => ⟨h 0 (by omega), h 1 (by omega), h 2 (by omega)⟩, fun ⟨h0, h1, h2⟩ x hx => by
    rcases (by omega : x = 0 ∨ x = 1 ∨ x = 2) with rfl | rfl | rfl
    · exact h0
    · exact h1
    · exact h2⟩
theorem tells_of (P : Prop) : ∃ b : Bool, Tells b P := by
  by_cases h : P
  · exact ⟨true, fun _ => h, fun _ => rfl⟩
  · exact ⟨false, fun e => Bool.noConfusion e, fun e => absurd e h⟩
set_option maxHeartbeats 4000000 in
theorem implCov_any {w : World} {g n c : Nat} {f : Nat → Int} (h : Trips w g n f) (hn : n ≤ 1048576) (i j k : Int) (b : Bool) (hb : Tells b (CovP f n i j k)) :
    Calls Try.prog 15 #[.slice (some ⟨g, 0, none⟩) n c, .int .i64 i, .int .i64 j, .int .i64 k] w fun e w' => e = .returned (.bool b) ∧ Below w.heap.size w w' := by
  by_cases hm : 40 < n
  · have hm' : (40 : Int) < (n : Int) := by omega
    obtain rfl := CovP.no hb (fun h => by have := h.hi; omega)
    go_enter Try.func15, Try.ntmps15
    go_wp2
    go_ret
    exact ⟨rfl, Below.refl _ _⟩
  · have hm' : ¬ (40 : Int) < (n : Int) := by omega
    obtain ⟨V, hV, av, bV, -⟩ := boxed w 2 #[.int .i64 i, .int .i64 j, .int .i64 k]
    have LV := h.below bV
    have IV : Ints V w.heap.size 0 3 (q3 i j k) := fun x hx => by
      rcases (by omega : x = 0 ∨ x = 1 ∨ x = 2) with rfl | rfl | rfl
      · exact av.cell 0 rfl
      · exact av.cell 1 rfl
      · exact av.cell 2 rfl
    have lt := av.lt
    obtain ⟨b3, hb3⟩ := tells_of (HasTo f (q3 i j k) n 3)
    go_enter Try.func15, Try.ntmps15
    go_wp2_with fail
    refine (have_any LV IV lt (by omega) b3 hb3).mono ?_
    rintro e w1 ⟨rfl, b1⟩
    have B := bV.trans (b1.mono bV.size)
    clear IV lt av LV hV bV b1
    cases b3
    · obtain rfl := CovP.no hb (fun h => Bool.noConfusion (hb3.2 (has3.2 ⟨h.has0, h.has1, h.has2⟩)))
      clear hb hb3
      go_wp2
      go_ret
      exact ⟨rfl, B⟩
    · obtain ⟨H0, H1, H2⟩ := has3.1 (hb3.1 rfl)
      clear hb3
      by_cases hij : i = j
      · obtain rfl := CovP.no hb (fun h => h.ne0 hij)
        clear hb H0 H1 H2
        go_wp2
        go_ret
        exact ⟨rfl, B⟩
      by_cases hjk : j = k
      · obtain rfl := CovP.no hb (fun h => h.ne1 hjk)
        clear hb H0 H1 H2
        go_wp2
        go_ret
        exact ⟨rfl, B⟩
      by_cases hki : k = i
      · obtain rfl := CovP.no hb (fun h => h.ne2 hki)
        clear hb H0 H1 H2
        go_wp2
        go_ret
        exact ⟨rfl, B⟩
      have hC : Tells b (CvN f i.toNat j.toNat k.toNat) := hb.trans ⟨fun h => h.kept, fun h => ⟨by omega, H0, H1, H2, hij, hjk, hki, h⟩⟩
      clear hb
      obtain ⟨x, rfl⟩ : ∃ x : Nat, (x : Int) = i := ⟨i.toNat, by have := H0.1; omega⟩
      obtain ⟨y, rfl⟩ : ∃ x : Nat, (x : Int) = j := ⟨j.toNat, by have := H1.1; omega⟩
      obtain ⟨z, rfl⟩ : ∃ x : Nat, (x : Int) = k := ⟨k.toNat, by have := H2.1; omega⟩
      simp only [Int.toNat_natCast] at hC
      have hx : x < n := by have := H0.2.1; omega
      have hy : y < n := by have := H1.2.1; omega
      have hz : z < n := by have := H2.2.1; omega
      have rx := Rt.in H0.2.2
      have ry := Rt.in H1.2.2
      have rz := Rt.in H2.2.2
      simp only [Int.toNat_natCast] at rx ry rz
      clear H0 H1 H2
      have L := h.below B
      have e1 : ((x : Int) == (y : Int)) = false := by rw [beq_eq_false_iff_ne]; exact hij
      have e2 : ((y : Int) == (z : Int)) = false := by rw [beq_eq_false_iff_ne]; exact hjk
      have e3 : ((z : Int) == (x : Int)) = false := by rw [beq_eq_false_iff_ne]; exact hki
      go_wp2_with fail
      obtain ⟨u0, hu0, bb⟩ : ∃ uu, w1.drew = uu ∧ Below w1.heap.size w1 uu := ⟨_, rfl, (Below.refl _ _).drew⟩
      replace L := L.below bb
      replace B := B.trans (bb.mono B.size)
      clear bb
      refine wp_region_held_drew (S := Kb u0) (by kernel_rfl) (by rw [hu0]; exact Below.refl _ _) (fun hHeld => ?_)
      rw [hu0] at hHeld ⊢
      clear hu0
      have bu : Kb u0 u0 := Below.refl _ _
      change wpAnyH _ _ _ _ _ 14 #[false, false, false, false, false, false, false, false, false, false, false, false, false, false] _ _
      refine wpAnyH_take (i := 0) (v := .slice (some ⟨g, 0, none⟩) n c) rfl (by kernel_rfl) (by kernel_rfl) (by kernel_rfl) (fun _ _ _ h => h) (Or.inl ⟨by kernel_rfl, ?_⟩) hHeld ?_
      · intro w' hSw; go_simp
      try simp only [Act.put, List.setIfInBounds_toArray, List.set_cons_zero, List.set_cons_succ, List.getElem_toArray, List.getElem_cons_zero]
      refine wpAnyH_take (i := 1) (v := .int .i64 (x : Int)) rfl (by kernel_rfl) (by kernel_rfl) (by kernel_rfl) (fun _ _ _ h => h) (Or.inl ⟨by kernel_rfl, ?_⟩) hHeld ?_
      · intro w' hSw; go_simp
      try simp only [Act.put, List.setIfInBounds_toArray, List.set_cons_zero, List.set_cons_succ, List.getElem_toArray, List.getElem_cons_succ, List.getElem_cons_zero]
      refine wpAnyH_take (i := 2) (v := .pointer (some ⟨g, x * 3, none⟩)) rfl (by kernel_rfl) (by kernel_rfl) (by kernel_rfl) (fun _ _ _ h => h) (Or.inl ⟨by kernel_rfl, ?_⟩) hHeld ?_
      · intro w' hSw; go_simp
      try simp only [Act.put, List.setIfInBounds_toArray, List.set_cons_zero, List.set_cons_succ, List.getElem_toArray, List.getElem_cons_succ, List.getElem_cons_zero]
      refine wpAnyH_take (i := 3) (v := fV (f (x * 3)) (f (x * 3 + 1)) (f (x * 3 + 2))) rfl (by kernel_rfl) (by kernel_rfl) (by kernel_rfl) (fun _ _ _ h => h) (Or.inl ⟨by kernel_rfl, ?_⟩) hHeld ?_
      · intro w' hSw; have zz := (L.below hSw).open x hx; obtain ⟨z0, z1, z2⟩ := zz; go_simp
      try simp only [Act.put, List.setIfInBounds_toArray, List.set_cons_zero, List.set_cons_succ, List.getElem_toArray, List.getElem_cons_succ, List.getElem_cons_zero]
      refine wpAnyH_take (i := 4) (v := .slice (some ⟨g, 0, none⟩) n c) rfl (by kernel_rfl) (by kernel_rfl) (by kernel_rfl) (fun _ _ _ h => h) (Or.inl ⟨by kernel_rfl, ?_⟩) hHeld ?_
      · intro w' hSw; go_simp
      try simp only [Act.put, List.setIfInBounds_toArray, List.set_cons_zero, List.set_cons_succ, List.getElem_toArray, List.getElem_cons_succ, List.getElem_cons_zero]
      refine wpAnyH_take (i := 5) (v := .int .i64 (y : Int)) rfl (by kernel_rfl) (by kernel_rfl) (by kernel_rfl) (fun _ _ _ h => h) (Or.inl ⟨by kernel_rfl, ?_⟩) hHeld ?_
      · intro w' hSw; go_simp
      try simp only [Act.put, List.setIfInBounds_toArray, List.set_cons_zero, List.set_cons_succ, List.getElem_toArray, List.getElem_cons_succ, List.getElem_cons_zero]
      refine wpAnyH_take (i := 6) (v := .pointer (some ⟨g, y * 3, none⟩)) rfl (by kernel_rfl) (by kernel_rfl) (by kernel_rfl) (fun _ _ _ h => h) (Or.inl ⟨by kernel_rfl, ?_⟩) hHeld ?_
      · intro w' hSw; go_simp
      try simp only [Act.put, List.setIfInBounds_toArray, List.set_cons_zero, List.set_cons_succ, List.getElem_toArray, List.getElem_cons_succ, List.getElem_cons_zero]
      refine wpAnyH_take (i := 7) (v := fV (f (y * 3)) (f (y * 3 + 1)) (f (y * 3 + 2))) rfl (by kernel_rfl) (by kernel_rfl) (by kernel_rfl) (fun _ _ _ h => h) (Or.inl ⟨by kernel_rfl, ?_⟩) hHeld ?_
      · intro w' hSw; have zz := (L.below hSw).open y hy; obtain ⟨z0, z1, z2⟩ := zz; go_simp
      try simp only [Act.put, List.setIfInBounds_toArray, List.set_cons_zero, List.set_cons_succ, List.getElem_toArray, List.getElem_cons_succ, List.getElem_cons_zero]
      refine wpAnyH_take (i := 8) (v := .slice (some ⟨g, 0, none⟩) n c) rfl (by kernel_rfl) (by kernel_rfl) (by kernel_rfl) (fun _ _ _ h => h) (Or.inl ⟨by kernel_rfl, ?_⟩) hHeld ?_
      · intro w' hSw; go_simp
      try simp only [Act.put, List.setIfInBounds_toArray, List.set_cons_zero, List.set_cons_succ, List.getElem_toArray, List.getElem_cons_succ, List.getElem_cons_zero]
      refine wpAnyH_take (i := 9) (v := .int .i64 (z : Int)) rfl (by kernel_rfl) (by kernel_rfl) (by kernel_rfl) (fun _ _ _ h => h) (Or.inl ⟨by kernel_rfl, ?_⟩) hHeld ?_
      · intro w' hSw; go_simp
      try simp only [Act.put, List.setIfInBounds_toArray, List.set_cons_zero, List.set_cons_succ, List.getElem_toArray, List.getElem_cons_succ, List.getElem_cons_zero]
      refine wpAnyH_take (i := 10) (v := .pointer (some ⟨g, z * 3, none⟩)) rfl (by kernel_rfl) (by kernel_rfl) (by kernel_rfl) (fun _ _ _ h => h) (Or.inl ⟨by kernel_rfl, ?_⟩) hHeld ?_
      · intro w' hSw; go_simp
      try simp only [Act.put, List.setIfInBounds_toArray, List.set_cons_zero, List.set_cons_succ, List.getElem_toArray, List.getElem_cons_succ, List.getElem_cons_zero]
      refine wpAnyH_take (i := 11) (v := fV (f (z * 3)) (f (z * 3 + 1)) (f (z * 3 + 2))) rfl (by kernel_rfl) (by kernel_rfl) (by kernel_rfl) (fun _ _ _ h => h) (Or.inl ⟨by kernel_rfl, ?_⟩) hHeld ?_
      · intro w' hSw; have zz := (L.below hSw).open z hz; obtain ⟨z0, z1, z2⟩ := zz; go_simp
      try simp only [Act.put, List.setIfInBounds_toArray, List.set_cons_zero, List.set_cons_succ, List.getElem_toArray, List.getElem_cons_succ, List.getElem_cons_zero]
      refine wpAnyH_ready (rs := [12]) (by kernel_rfl) (by simp) ?_
      refine AllReadyH.cons rfl (fun KK hK' => ?_) AllReadyH.nil
      go_simp
      refine (kept_any _ _ _ _ _ _ _ _ _ b hC rx.1 rx.2.1 ry.1 ry.2.1 rz.1 rz.2.1 (by omega) (by omega) (by omega)).mono ?_
      rintro e u1 ⟨rfl, bb⟩
      replace bu : Kb u0 u1 := bu.trans (bb.mono bu.size)
      clear bb
      try go_wp2_with fail
      clear hHeld
      refine hK'.out _ _ bu (fun hHeld => ?_)
      clear hK' KK
      try simp only [List.setIfInBounds_toArray, List.set_cons_zero, List.set_cons_succ]
      refine wpAnyH_ready (rs := [13]) (by kernel_rfl) (by simp) ?_
      refine AllReadyH.cons rfl (fun KK hK' => ?_) AllReadyH.nil
      go_simp
      clear hHeld
      refine hK'.out _ _ (bu) (fun hHeld => ?_)
      clear hK' KK
      try simp only [List.setIfInBounds_toArray, List.set_cons_zero, List.set_cons_succ]
      refine wpAnyH_done (by kernel_rfl) ?_ _
      clear hHeld
      replace B := B.trans (Below.mono bu B.size)
      clear bu L
      go_wp2
      go_ret
      exact ⟨rfl, B⟩
end Go.Proofs.Ytealbihplfpgeaa
