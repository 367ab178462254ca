/-
  Extinct by the program, and the law FnExactExtinct: walked.
-/
import Derived.Test.YtmjeplhigjlopaaE5e
namespace Go.Proofs.Ytmjeplhigjlopaa
open Go.RowKit

theorem oprs_open {w : World} {base n : Nat} {v : Value} {F : Nat → Nat → Int} (h : Oprs w base v n F) : ∃ g c, v = .slice (some ⟨g, 0, none⟩) n c := by
  rcases h.1.2 with ⟨e, _⟩ | ⟨g, c, cur, e, -⟩
  · exact absurd e h.2
  · exact ⟨g, c, e⟩
set_option maxRecDepth 100000 in
set_option maxHeartbeats 3000000 in
theorem implExt_any {w : World} {g n c : Nat} {A : Nat → OpD} (x y z : Int) (hL : OpsL w g n A) (hn : n ≤ 1048576) (b : Bool) (hb : Hid (b = true ↔ ExP n A x y z)) :
    Calls Try.prog 34 #[.slice (some ⟨g, 0, none⟩) n c, hV x y z] w fun e w' => e = .returned (.bool b) ∧ Below w.heap.size w w' := by
  obtain ⟨W1, hW1, A1, B, -⟩ := boxed w 54 #[.int .i64 x, .int .i64 y, .int .i64 z]
  obtain ⟨q1, hq1⟩ : ∃ q, w.heap.size = q := ⟨_, rfl⟩
  rw [hq1] at A1
  have HL : Hid (OpsL w g n A) := hL
  clear hL
  go_enter Try.func34, Try.ntmps34
  go_wp2_with fail
  clear hW1 hq1
  by_cases hr : hkR x y z
  case neg =>
    obtain rfl : b = false := by
      cases b
      · rfl
      · exact absurd (hb.out.1 rfl).2.1 hr
    have HR : Hid (false = true ↔ hkR x y z) := ⟨fun e => (by cases e), fun e => absurd e hr⟩
    clear hb hr
    obtain ⟨u0, hu0, bb⟩ : ∃ uu, W1.drew = uu ∧ Below W1.heap.size W1 uu := ⟨_, rfl, (Below.refl _ _).drew⟩
    replace A1 := A1.below bb
    replace B := B.trans (bb.mono B.size)
    have A1u := A1
    clear bb
    refine wp_region_held_drew (S := Kb u0) (by kernel_rfl) (by rw [hu0]; exact Below.refl _ _) (fun hHeld => ?_)
    rw [hu0] at hHeld ⊢
    clear hu0
    have bu : Kb u0 u0 := Below.refl _ _
    change wpAnyH _ _ _ _ _ 9 #[false, false, false, false, false, false, false, false, false] _ _
    refine wpAnyH_take (i := 0) (v := hV x y z) rfl (by kernel_rfl) (by kernel_rfl) (by kernel_rfl) (fun _ _ _ h => h) (Or.inl ⟨by kernel_rfl, ?_⟩) hHeld ?_
    · intro w' hSw; obtain ⟨z0, z1, z2, -⟩ := (A1u.below hSw).open3; go_simp
    try simp only [Act.put, List.setIfInBounds_toArray, List.set_cons_zero, List.set_cons_succ, List.getElem_toArray, List.getElem_cons_zero]
    refine wpAnyH_ready (rs := [1]) (by kernel_rfl) (by simp) ?_
    refine AllReadyH.cons rfl (fun KK hK' => ?_) AllReadyH.nil
    go_simp
    refine (hkRight_any x y z _ false HR).mono ?_
    rintro e u1 ⟨rfl, bb⟩
    replace A1 := A1.below bb
    replace B := B.trans (bb.mono B.size)
    replace bu : Kb u0 u1 := bu.trans (bb.mono bu.size)
    clear bb
    try go_wp2_with fail
    clear hHeld
    refine hK'.out _ _ (bu) (fun hHeld => ?_)
    clear hK' KK
    try simp only [List.setIfInBounds_toArray, List.set_cons_zero, List.set_cons_succ]
    refine wpAnyH_take (i := 2) (v := .bool false) rfl (by kernel_rfl) (by kernel_rfl) (by kernel_rfl) (fun _ _ _ h => h) (Or.inl ⟨by kernel_rfl, ?_⟩) hHeld ?_
    · intro w' hSw; go_simp
    try simp only [Act.put, List.setIfInBounds_toArray, List.set_cons_zero, List.set_cons_succ, List.getElem_toArray, List.getElem_cons_succ, List.getElem_cons_zero]
    refine wpAnyH_take (i := 3) (v := undef) rfl (by kernel_rfl) (by kernel_rfl) (by kernel_rfl) (fun _ _ _ h => h) (Or.inr ⟨by kernel_rfl, rfl⟩) hHeld ?_
    try simp only [Act.put, List.setIfInBounds_toArray, List.set_cons_zero, List.set_cons_succ, List.getElem_toArray, List.getElem_cons_succ, List.getElem_cons_zero]
    refine wpAnyH_take (i := 4) (v := undef) rfl (by kernel_rfl) (by kernel_rfl) (by kernel_rfl) (fun _ _ _ h => h) (Or.inr ⟨by kernel_rfl, rfl⟩) hHeld ?_
    try simp only [Act.put, List.setIfInBounds_toArray, List.set_cons_zero, List.set_cons_succ, List.getElem_toArray, List.getElem_cons_succ, List.getElem_cons_zero]
    refine wpAnyH_take (i := 5) (v := undef) rfl (by kernel_rfl) (by kernel_rfl) (by kernel_rfl) (fun _ _ _ h => h) (Or.inr ⟨by kernel_rfl, rfl⟩) hHeld ?_
    try simp only [Act.put, List.setIfInBounds_toArray, List.set_cons_zero, List.set_cons_succ, List.getElem_toArray, List.getElem_cons_succ, List.getElem_cons_zero]
    refine wpAnyH_take (i := 6) (v := undef) rfl (by kernel_rfl) (by kernel_rfl) (by kernel_rfl) (fun _ _ _ h => h) (Or.inr ⟨by kernel_rfl, rfl⟩) hHeld ?_
    try simp only [Act.put, List.setIfInBounds_toArray, List.set_cons_zero, List.set_cons_succ, List.getElem_toArray, List.getElem_cons_succ, List.getElem_cons_zero]
    refine wpAnyH_take (i := 7) (v := .bool false) rfl (by kernel_rfl) (by kernel_rfl) (by kernel_rfl) (fun _ _ _ h => h) (Or.inl ⟨by kernel_rfl, ?_⟩) hHeld ?_
    · intro w' hSw; go_simp
    try simp only [Act.put, List.setIfInBounds_toArray, List.set_cons_zero, List.set_cons_succ, List.getElem_toArray, List.getElem_cons_succ, List.getElem_cons_zero]
    refine wpAnyH_take (i := 8) (v := .bool false) rfl (by kernel_rfl) (by kernel_rfl) (by kernel_rfl) (fun _ _ _ h => h) (Or.inl ⟨by kernel_rfl, ?_⟩) hHeld ?_
    · intro w' hSw; go_simp
    try simp only [Act.put, List.setIfInBounds_toArray, List.set_cons_zero, List.set_cons_succ, List.getElem_toArray, List.getElem_cons_succ, List.getElem_cons_zero]
    refine wpAnyH_done (by kernel_rfl) ?_ _
    clear hHeld
    clear bu A1u
    go_wp2
    go_ret
    exact ⟨rfl, B⟩
  have HH : Hid (hkR x y z) := hr
  have RR := fun (wq : World) => hkRight_any x y z wq true (show Hid _ from ⟨fun _ => HH.out, fun _ => rfl⟩)
  by_cases hg : isG n A
  · have HG : Hid (isG n A) := hg
    have HB2 : Hid (b = true ↔ ExTo x y z (fun i => (A i).key) n) := ⟨fun e => (hb.out.1 e).2.2, fun e => hb.out.2 ⟨hg, hr, e⟩⟩
    clear hb hr hg
    obtain ⟨u0, hu0, bb⟩ : ∃ uu, W1.drew = uu ∧ Below W1.heap.size W1 uu := ⟨_, rfl, (Below.refl _ _).drew⟩
    replace A1 := A1.below bb
    replace B := B.trans (bb.mono B.size)
    have A1u := A1
    clear bb
    refine wp_region_held_drew (S := Kb u0) (by kernel_rfl) (by rw [hu0]; exact Below.refl _ _) (fun hHeld => ?_)
    rw [hu0] at hHeld ⊢
    clear hu0
    have bu : Kb u0 u0 := Below.refl _ _
    change wpAnyH _ _ _ _ _ 9 #[false, false, false, false, false, false, false, false, false] _ _
    refine wpAnyH_take (i := 0) (v := hV x y z) rfl (by kernel_rfl) (by kernel_rfl) (by kernel_rfl) (fun _ _ _ h => h) (Or.inl ⟨by kernel_rfl, ?_⟩) hHeld ?_
    · intro w' hSw; obtain ⟨z0, z1, z2, -⟩ := (A1u.below hSw).open3; go_simp
    try simp only [Act.put, List.setIfInBounds_toArray, List.set_cons_zero, List.set_cons_succ, List.getElem_toArray, List.getElem_cons_zero]
    refine wpAnyH_ready (rs := [1]) (by kernel_rfl) (by simp) ?_
    refine AllReadyH.cons rfl (fun KK hK' => ?_) AllReadyH.nil
    go_simp
    refine (RR _).mono ?_
    rintro e u1 ⟨rfl, bb⟩
    replace A1 := A1.below bb
    replace B := B.trans (bb.mono B.size)
    replace bu : Kb u0 u1 := bu.trans (bb.mono bu.size)
    clear bb
    try go_wp2_with fail
    clear hHeld
    refine hK'.out _ _ (bu) (fun hHeld => ?_)
    clear hK' KK
    try simp only [List.setIfInBounds_toArray, List.set_cons_zero, List.set_cons_succ]
    refine wpAnyH_take (i := 2) (v := .bool true) rfl (by kernel_rfl) (by kernel_rfl) (by kernel_rfl) (fun _ _ _ h => h) (Or.inl ⟨by kernel_rfl, ?_⟩) hHeld ?_
    · intro w' hSw; go_simp
    try simp only [Act.put, List.setIfInBounds_toArray, List.set_cons_zero, List.set_cons_succ, List.getElem_toArray, List.getElem_cons_succ, List.getElem_cons_zero]
    refine wpAnyH_take (i := 3) (v := hV x y z) rfl (by kernel_rfl) (by kernel_rfl) (by kernel_rfl) (fun _ _ _ h => h) (Or.inl ⟨by kernel_rfl, ?_⟩) hHeld ?_
    · intro w' hSw; obtain ⟨z0, z1, z2, -⟩ := (A1u.below hSw).open3; go_simp
    try simp only [Act.put, List.setIfInBounds_toArray, List.set_cons_zero, List.set_cons_succ, List.getElem_toArray, List.getElem_cons_succ, List.getElem_cons_zero]
    refine wpAnyH_take (i := 4) (v := .slice ((some ⟨g, 0, none⟩)) n c) rfl (by kernel_rfl) (by kernel_rfl) (by kernel_rfl) (fun _ _ _ h => h) (Or.inl ⟨by kernel_rfl, ?_⟩) hHeld ?_
    · intro w' hSw; go_simp
    try simp only [Act.put, List.setIfInBounds_toArray, List.set_cons_zero, List.set_cons_succ, List.getElem_toArray, List.getElem_cons_succ, List.getElem_cons_zero]
    refine wpAnyH_ready (rs := [5]) (by kernel_rfl) (by simp) ?_
    refine AllReadyH.cons rfl (fun KK hK' => ?_) AllReadyH.nil
    go_simp
    refine (groupOf_any (HL.out.below B) hn).mono ?_
    rintro e u2 ⟨⟨v6, rfl, hG⟩, bb⟩
    replace A1 := A1.below bb
    replace B := B.trans (bb.mono B.size)
    replace bu : Kb u0 u2 := bu.trans (bb.mono bu.size)
    clear bb
    have hO := (hG.resolve_right (fun h => h.1 HG.out)).2
    clear hG
    obtain ⟨g6, c6, rfl⟩ := oprs_open hO
    try go_wp2_with fail
    clear hHeld
    refine hK'.out _ _ (bu) (fun hHeld => ?_)
    clear hK' KK
    try simp only [List.setIfInBounds_toArray, List.set_cons_zero, List.set_cons_succ]
    refine wpAnyH_ready (rs := [6]) (by kernel_rfl) (by simp) ?_
    refine AllReadyH.cons rfl (fun KK hK' => ?_) AllReadyH.nil
    go_simp
    refine (isExt_any hO (by have := HG.out.1; omega) HH.out (fun i hi => ok_small (HG.out.2.1 i hi)) b HB2).mono ?_
    rintro e u3 ⟨rfl, bb⟩
    replace A1 := A1.below bb
    replace B := B.trans (bb.mono B.size)
    replace bu : Kb u0 u3 := bu.trans (bb.mono bu.size)
    clear bb hO
    try go_wp2_with fail
    clear hHeld
    refine hK'.out _ _ (bu) (fun hHeld => ?_)
    clear hK' KK
    try simp only [List.setIfInBounds_toArray, List.set_cons_zero, List.set_cons_succ]
    refine wpAnyH_take (i := 7) (v := .bool b) rfl (by kernel_rfl) (by kernel_rfl) (by kernel_rfl) (fun _ _ _ h => h) (Or.inl ⟨by kernel_rfl, ?_⟩) hHeld ?_
    · intro w' hSw; go_simp
    try simp only [Act.put, List.setIfInBounds_toArray, List.set_cons_zero, List.set_cons_succ, List.getElem_toArray, List.getElem_cons_succ, List.getElem_cons_zero]
    refine wpAnyH_take (i := 8) (v := .bool b) rfl (by kernel_rfl) (by kernel_rfl) (by kernel_rfl) (fun _ _ _ h => h) (Or.inl ⟨by kernel_rfl, ?_⟩) hHeld ?_
    · intro w' hSw; go_simp
    try simp only [Act.put, List.setIfInBounds_toArray, List.set_cons_zero, List.set_cons_succ, List.getElem_toArray, List.getElem_cons_succ, List.getElem_cons_zero]
    refine wpAnyH_done (by kernel_rfl) ?_ _
    clear hHeld
    clear bu A1u
    go_wp2
    go_ret
    exact ⟨rfl, B⟩
  · obtain rfl : b = false := by
      cases b
      · rfl
      · exact absurd (hb.out.1 rfl).1 hg
    have HG : Hid (¬ isG n A) := hg
    clear hb hr hg
    obtain ⟨u0, hu0, bb⟩ : ∃ uu, W1.drew = uu ∧ Below W1.heap.size W1 uu := ⟨_, rfl, (Below.refl _ _).drew⟩
    replace A1 := A1.below bb
    replace B := B.trans (bb.mono B.size)
    have A1u := A1
    clear bb
    refine wp_region_held_drew (S := Kb u0) (by kernel_rfl) (by rw [hu0]; exact Below.refl _ _) (fun hHeld => ?_)
    rw [hu0] at hHeld ⊢
    clear hu0
    have bu : Kb u0 u0 := Below.refl _ _
    change wpAnyH _ _ _ _ _ 9 #[false, false, false, false, false, false, false, false, false] _ _
    refine wpAnyH_take (i := 0) (v := hV x y z) rfl (by kernel_rfl) (by kernel_rfl) (by kernel_rfl) (fun _ _ _ h => h) (Or.inl ⟨by kernel_rfl, ?_⟩) hHeld ?_
    · intro w' hSw; obtain ⟨z0, z1, z2, -⟩ := (A1u.below hSw).open3; go_simp
    try simp only [Act.put, List.setIfInBounds_toArray, List.set_cons_zero, List.set_cons_succ, List.getElem_toArray, List.getElem_cons_zero]
    refine wpAnyH_ready (rs := [1]) (by kernel_rfl) (by simp) ?_
    refine AllReadyH.cons rfl (fun KK hK' => ?_) AllReadyH.nil
    go_simp
    refine (RR _).mono ?_
    rintro e u1 ⟨rfl, bb⟩
    replace A1 := A1.below bb
    replace B := B.trans (bb.mono B.size)
    replace bu : Kb u0 u1 := bu.trans (bb.mono bu.size)
    clear bb
    try go_wp2_with fail
    clear hHeld
    refine hK'.out _ _ (bu) (fun hHeld => ?_)
    clear hK' KK
    try simp only [List.setIfInBounds_toArray, List.set_cons_zero, List.set_cons_succ]
    refine wpAnyH_take (i := 2) (v := .bool true) rfl (by kernel_rfl) (by kernel_rfl) (by kernel_rfl) (fun _ _ _ h => h) (Or.inl ⟨by kernel_rfl, ?_⟩) hHeld ?_
    · intro w' hSw; go_simp
    try simp only [Act.put, List.setIfInBounds_toArray, List.set_cons_zero, List.set_cons_succ, List.getElem_toArray, List.getElem_cons_succ, List.getElem_cons_zero]
    refine wpAnyH_take (i := 3) (v := hV x y z) rfl (by kernel_rfl) (by kernel_rfl) (by kernel_rfl) (fun _ _ _ h => h) (Or.inl ⟨by kernel_rfl, ?_⟩) hHeld ?_
    · intro w' hSw; obtain ⟨z0, z1, z2, -⟩ := (A1u.below hSw).open3; go_simp
    try simp only [Act.put, List.setIfInBounds_toArray, List.set_cons_zero, List.set_cons_succ, List.getElem_toArray, List.getElem_cons_succ, List.getElem_cons_zero]
    refine wpAnyH_take (i := 4) (v := .slice ((some ⟨g, 0, none⟩)) n c) rfl (by kernel_rfl) (by kernel_rfl) (by kernel_rfl) (fun _ _ _ h => h) (Or.inl ⟨by kernel_rfl, ?_⟩) hHeld ?_
    · intro w' hSw; go_simp
    try simp only [Act.put, List.setIfInBounds_toArray, List.set_cons_zero, List.set_cons_succ, List.getElem_toArray, List.getElem_cons_succ, List.getElem_cons_zero]
    refine wpAnyH_ready (rs := [5]) (by kernel_rfl) (by simp) ?_
    refine AllReadyH.cons rfl (fun KK hK' => ?_) AllReadyH.nil
    go_simp
    refine (groupOf_any (HL.out.below B) hn).mono ?_
    rintro e u2 ⟨⟨v6, rfl, hG⟩, bb⟩
    replace A1 := A1.below bb
    replace B := B.trans (bb.mono B.size)
    replace bu : Kb u0 u2 := bu.trans (bb.mono bu.size)
    clear bb
    obtain ⟨F6, hO⟩ := (hG.resolve_left (fun h => HG.out h.1)).2
    clear hG
    obtain ⟨g6, c6, rfl⟩ := oprs_open hO
    try go_wp2_with fail
    clear hHeld
    refine hK'.out _ _ (bu) (fun hHeld => ?_)
    clear hK' KK
    try simp only [List.setIfInBounds_toArray, List.set_cons_zero, List.set_cons_succ]
    refine wpAnyH_ready (rs := [6]) (by kernel_rfl) (by simp) ?_
    refine AllReadyH.cons rfl (fun KK hK' => ?_) AllReadyH.nil
    go_simp
    refine (isExt_any hO (by omega) HH.out (fun i hi => absurd hi (Nat.not_lt_zero _)) false (show Hid _ from ⟨fun e => (by cases e), fun e => absurd e exTo_no⟩)).mono ?_
    rintro e u3 ⟨rfl, bb⟩
    replace A1 := A1.below bb
    replace B := B.trans (bb.mono B.size)
    replace bu : Kb u0 u3 := bu.trans (bb.mono bu.size)
    clear bb hO
    try go_wp2_with fail
    clear hHeld
    refine hK'.out _ _ (bu) (fun hHeld => ?_)
    clear hK' KK
    try simp only [List.setIfInBounds_toArray, List.set_cons_zero, List.set_cons_succ]
    refine wpAnyH_take (i := 7) (v := .bool false) rfl (by kernel_rfl) (by kernel_rfl) (by kernel_rfl) (fun _ _ _ h => h) (Or.inl ⟨by kernel_rfl, ?_⟩) hHeld ?_
    · intro w' hSw; go_simp
    try simp only [Act.put, List.setIfInBounds_toArray, List.set_cons_zero, List.set_cons_succ, List.getElem_toArray, List.getElem_cons_succ, List.getElem_cons_zero]
    refine wpAnyH_take (i := 8) (v := .bool false) rfl (by kernel_rfl) (by kernel_rfl) (by kernel_rfl) (fun _ _ _ h => h) (Or.inl ⟨by kernel_rfl, ?_⟩) hHeld ?_
    · intro w' hSw; go_simp
    try simp only [Act.put, List.setIfInBounds_toArray, List.set_cons_zero, List.set_cons_succ, List.getElem_toArray, List.getElem_cons_succ, List.getElem_cons_zero]
    refine wpAnyH_done (by kernel_rfl) ?_ _
    clear hHeld
    clear bu A1u
    go_wp2
    go_ret
    exact ⟨rfl, B⟩
set_option maxRecDepth 100000 in
set_option maxHeartbeats 3000000 in
theorem exactExtinct_walk {w : World} {a : Option Addr} {n cap : Nat} {A : Nat → OpD} (x y z : Int) (hS : OpsS w a n A) (hn : n ≤ maxLen) :
    Calls Try.prog 8 #[.slice a n cap, hV x y z] w fun e w' => e = .returned (.bool true) ∧ Below w.heap.size w w' := by
  obtain ⟨r, hr0⟩ := bool_ofP (ExP n A x y z)
  have HR : Hid (r = true ↔ ExP n A x y z) := hr0
  clear hr0
  have hrr : (r != r) = false := bne_self_eq_false r
  obtain ⟨W1, hW1, A1, B, -⟩ := boxed w 52 #[.int .i64 x, .int .i64 y, .int .i64 z]
  obtain ⟨q1, hq1⟩ : ∃ q, w.heap.size = q := ⟨_, rfl⟩
  rw [hq1] at A1
  have HS : Hid (OpsS w a n A) := hS
  clear hS
  go_enter Try.func8, Try.ntmps8
  go_wp2_with fail
  refine (szOpS_any (HS.out.below B) hn).mono ?_
  rintro e w1 ⟨rr, rfl, hr, b1⟩
  replace A1 := A1.below b1
  replace B := B.trans (b1.mono B.size)
  clear b1 hW1 hq1
  rcases hr with rfl | ⟨h0, hsh⟩
  · go_wp2
    go_ret
    exact ⟨rfl, B⟩
  have h1 : ¬ rr < 0 := by omega
  go_wp2_with fail
  obtain ⟨u0, hu0, bb⟩ : ∃ uu, w1.drew = uu ∧ Below w1.heap.size w1 uu := ⟨_, rfl, (Below.refl _ _).drew⟩
  replace A1 := A1.below bb
  replace B := B.trans (bb.mono B.size)
  have A1u := A1
  clear bb
  refine wp_region_held_drew (S := Kb u0) (by kernel_rfl) (by rw [hu0]; exact Below.refl _ _) (fun hHeld => ?_)
  rw [hu0] at hHeld ⊢
  clear hu0
  have bu : Kb u0 u0 := Below.refl _ _
  change wpAnyH _ _ _ _ _ 6 #[false, false, false, false, false, false] _ _
  refine wpAnyH_take (i := 0) (v := .slice a n cap) rfl (by kernel_rfl) (by kernel_rfl) (by kernel_rfl) (fun _ _ _ h => h) (Or.inl ⟨by kernel_rfl, ?_⟩) hHeld ?_
  · intro w' hSw; go_simp
  try simp only [Act.put, List.setIfInBounds_toArray, List.set_cons_zero, List.set_cons_succ, List.getElem_toArray, List.getElem_cons_zero]
  refine wpAnyH_take (i := 2) (v := hV x y z) rfl (by kernel_rfl) (by kernel_rfl) (by kernel_rfl) (fun _ _ _ h => h) (Or.inl ⟨by kernel_rfl, ?_⟩) hHeld ?_
  · intro w' hSw; obtain ⟨z0, z1, z2, -⟩ := (A1u.below hSw).open3; go_simp
  try simp only [Act.put, List.setIfInBounds_toArray, List.set_cons_zero, List.set_cons_succ, List.getElem_toArray, List.getElem_cons_succ, List.getElem_cons_zero]
  refine wpAnyH_ready (rs := [1]) (by kernel_rfl) (by simp) ?_
  refine AllReadyH.cons rfl (fun KK hK' => ?_) AllReadyH.nil
  go_simp
  refine (toOpS_any (HS.out.below B) hsh).mono ?_
  rintro e u1 ⟨g2, rfl, L2, bb⟩
  replace A1 := A1.below bb
  replace B := B.trans (bb.mono B.size)
  replace bu : Kb u0 u1 := bu.trans (bb.mono bu.size)
  clear bb
  try go_wp2_with fail
  clear hHeld
  refine hK'.out _ _ (bu) (fun hHeld => ?_)
  clear hK' KK
  try simp only [List.setIfInBounds_toArray, List.set_cons_zero, List.set_cons_succ]
  refine wpAnyH_ready (rs := [3]) (by kernel_rfl) (by simp) ?_
  refine AllReadyH.cons rfl (fun KK hK' => ?_) AllReadyH.nil
  go_simp
  refine (toHkl_any x y z _).mono ?_
  rintro e u2 ⟨rfl, bb⟩
  replace L2 := L2.below bb
  replace A1 := A1.below bb
  replace B := B.trans (bb.mono B.size)
  replace bu : Kb u0 u2 := bu.trans (bb.mono bu.size)
  clear bb
  try go_wp2_with fail
  clear hHeld
  refine hK'.out _ _ (bu) (fun hHeld => ?_)
  clear hK' KK
  try simp only [List.setIfInBounds_toArray, List.set_cons_zero, List.set_cons_succ]
  refine wpAnyH_ready (rs := [4]) (by kernel_rfl) (by simp) ?_
  refine AllReadyH.cons rfl (fun KK hK' => ?_) AllReadyH.nil
  go_simp
  refine (specExt_any x y z L2 hsh.1 r HR).mono ?_
  rintro e u3 ⟨rfl, bb⟩
  replace A1 := A1.below bb
  replace B := B.trans (bb.mono B.size)
  replace bu : Kb u0 u3 := bu.trans (bb.mono bu.size)
  clear bb L2
  try go_wp2_with fail
  clear hHeld
  refine hK'.out _ _ (bu) (fun hHeld => ?_)
  clear hK' KK
  try simp only [List.setIfInBounds_toArray, List.set_cons_zero, List.set_cons_succ]
  refine wpAnyH_take (i := 5) (v := .bool r) rfl (by kernel_rfl) (by kernel_rfl) (by kernel_rfl) (fun _ _ _ h => h) (Or.inl ⟨by kernel_rfl, ?_⟩) hHeld ?_
  · intro w' hSw; go_simp
  try simp only [Act.put, List.setIfInBounds_toArray, List.set_cons_zero, List.set_cons_succ, List.getElem_toArray, List.getElem_cons_succ, List.getElem_cons_zero]
  refine wpAnyH_done (by kernel_rfl) ?_ _
  clear hHeld
  clear bu A1u
  go_wp2_with fail
  refine (toOpS_any (HS.out.below B) hsh).mono ?_
  rintro e w4 ⟨g4, rfl, L4, b4⟩
  replace A1 := A1.below b4
  replace B := B.trans (b4.mono B.size)
  clear b4
  obtain ⟨d0, d1, d2, -⟩ := A1.open3
  go_wp2_with fail
  refine (toHkl_any x y z _).mono ?_
  rintro e w5 ⟨rfl, b5⟩
  replace L4 := L4.below b5
  replace A1 := A1.below b5
  replace B := B.trans (b5.mono B.size)
  clear b5 d0 d1 d2
  go_wp2_with fail
  refine (implExt_any x y z L4 hsh.1 r HR).mono ?_
  rintro e w6 ⟨rfl, b6⟩
  replace L4 := L4.below b6
  replace A1 := A1.below b6
  replace B := B.trans (b6.mono B.size)
  clear b6
  go_wp2_with fail
  refine (toOpS_any (HS.out.below B) hsh).mono ?_
  rintro e w7 ⟨g7, rfl, L7, b7⟩
  replace L4 := L4.below b7
  replace B := B.trans (b7.mono B.size)
  clear b7
  go_wp2_with fail
  refine (eqOpS_true L4 L7 hsh).mono ?_
  rintro e w8 ⟨rfl, b8⟩
  replace B := B.trans (b8.mono B.size)
  go_wp2
  go_ret
  exact ⟨rfl, B⟩
end Go.Proofs.Ytmjeplhigjlopaa
