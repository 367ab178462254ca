/-
  Whether a list is one of reflections with signs, by the program: walked.
-/
import Derived.Test.YtpelbbkkdmlmiaaT15d
namespace Go.Proofs.Ytpelbbkkdmlmiaa
open Go.RowKit

theorem other_any {w : World} {q : Nat} {x y z s : Int} (x' y' z' s' : Int) (h : At 49 w q #[.int .i64 x, .int .i64 y, .int .i64 z, .int .i64 s]) (b : Bool) (hb : Hid (b = true ↔ same3 x' y' z' x y z)) :
    Calls Try.prog 51 #[signed3V x' y' z' s', .pointer (some ⟨q, 0, none⟩)] w fun e w' => e = .returned (.bool b) ∧ Below w.heap.size w w' := by
  obtain ⟨V2, hV2, m2, bb2, -⟩ := boxed w 49 #[.int .i64 x', .int .i64 y', .int .i64 z', .int .i64 s']
  obtain ⟨r2, hr2⟩ : ∃ r, w.heap.size = r := ⟨_, rfl⟩
  have B1 := bb2
  rw [hr2] at m2
  have m1 := h.below bb2
  have EA : b = (x' == x && (y' == y && z' == z)) := by
    rw [Bool.eq_iff_iff, hb.out]
    simp [same3]
  clear bb2 hb h
  go_enter Try.func51, Try.ntmps51
  go_wp2_with fail
  clear hV2 hr2
  obtain ⟨u0, hu0, bb⟩ : ∃ uu, V2.drew = uu ∧ Below V2.heap.size V2 uu := ⟨_, rfl, (Below.refl _ _).drew⟩
  replace m1 := m1.below bb
  replace m2 := m2.below bb
  replace B1 := B1.trans (bb.mono B1.size)
  clear bb
  refine wp_region_held_drew (S := Kb u0) (by kernel_rfl) (by rw [hu0]; exact Below.refl _ _) (fun hHeld => ?_)
  rw [hu0] at hHeld ⊢
  clear hu0
  have bu : Kb u0 u0 := Below.refl _ _
  change wpAnyH _ _ _ _ _ 6 #[false, false, false, false, false, false] _ _
  refine wpAnyH_take (i := 0) (v := .agg #[.int .i64 (x'), .int .i64 (y'), .int .i64 (z'), .int .i64 (s')]) rfl (by kernel_rfl) (by kernel_rfl) (by kernel_rfl) (fun _ _ _ h => h) (Or.inl ⟨by kernel_rfl, ?_⟩) hHeld ?_
  · intro w' hSw; obtain ⟨z0, z1, z2, z3, -⟩ := (m2.below hSw).open4; go_simp
  try simp only [Act.put, List.setIfInBounds_toArray, List.set_cons_zero, List.set_cons_succ, List.getElem_toArray, List.getElem_cons_zero]
  refine wpAnyH_take (i := 2) (v := .agg #[.int .i64 (x), .int .i64 (y), .int .i64 (z), .int .i64 (s)]) rfl (by kernel_rfl) (by kernel_rfl) (by kernel_rfl) (fun _ _ _ h => h) (Or.inl ⟨by kernel_rfl, ?_⟩) hHeld ?_
  · intro w' hSw; obtain ⟨z0, z1, z2, z3, -⟩ := (m1.below hSw).open4; go_simp
  try simp only [Act.put, List.setIfInBounds_toArray, List.set_cons_zero, List.set_cons_succ, List.getElem_toArray, List.getElem_cons_succ, List.getElem_cons_zero]
  refine wpAnyH_ready (rs := [1]) (by kernel_rfl) (by simp) ?_
  refine AllReadyH.cons rfl (fun KK hK' => ?_) AllReadyH.nil
  go_simp
  refine (hkl_any _ _ _ _ _).mono ?_
  rintro e u1 ⟨rfl, bb⟩
  replace B1 := B1.trans (bb.mono B1.size)
  replace m1 := m1.below bb
  replace m2 := m2.below bb
  replace bu : Kb u0 u1 := bu.trans (bb.mono bu.size)
  clear bb
  try go_wp2_with fail
  clear hHeld
  refine hK'.out _ _ (bu) (fun hHeld => ?_)
  clear hK' KK
  try simp only [List.setIfInBounds_toArray, List.set_cons_zero, List.set_cons_succ]
  refine wpAnyH_ready (rs := [3]) (by kernel_rfl) (by simp) ?_
  refine AllReadyH.cons rfl (fun KK hK' => ?_) AllReadyH.nil
  go_simp
  refine (hkl_any _ _ _ _ _).mono ?_
  rintro e u2 ⟨rfl, bb⟩
  replace B1 := B1.trans (bb.mono B1.size)
  replace m1 := m1.below bb
  replace m2 := m2.below bb
  replace bu : Kb u0 u2 := bu.trans (bb.mono bu.size)
  clear bb
  try go_wp2_with fail
  clear hHeld
  refine hK'.out _ _ (bu) (fun hHeld => ?_)
  clear hK' KK
  try simp only [List.setIfInBounds_toArray, List.set_cons_zero, List.set_cons_succ]
  refine wpAnyH_take (i := 4) (v := .bool b) rfl (by kernel_rfl) (by kernel_rfl) (by kernel_rfl) (fun _ _ _ h => h) (Or.inl ⟨by kernel_rfl, ?_⟩) hHeld ?_
  · intro w' hSw; rw [EA]; go_simp; split <;> (try split) <;> (try split) <;> simp_all
  try simp only [Act.put, List.setIfInBounds_toArray, List.set_cons_zero, List.set_cons_succ, List.getElem_toArray, List.getElem_cons_succ, List.getElem_cons_zero]
  refine wpAnyH_take (i := 5) (v := .bool b) rfl (by kernel_rfl) (by kernel_rfl) (by kernel_rfl) (fun _ _ _ h => h) (Or.inl ⟨by kernel_rfl, ?_⟩) hHeld ?_
  · intro w' hSw; go_simp
  try simp only [Act.put, List.setIfInBounds_toArray, List.set_cons_zero, List.set_cons_succ, List.getElem_toArray, List.getElem_cons_succ, List.getElem_cons_zero]
  refine wpAnyH_done (by kernel_rfl) ?_ _
  clear hHeld
  clear EA
  go_wp2
  go_ret
  exact ⟨rfl, B1⟩
/-- Where the first one lies that is the reflection, or -1. -/
def IxP (k : Nat) (f : Nat → Int) (x y z r : Int) : Prop := (r = -1 ∧ ∀ j, j < k → ¬ same3 (f (j * 4)) (f (j * 4 + 1)) (f (j * 4 + 2)) x y z) ∨ (∃ j : Nat, j < k ∧ r = (j : Int) ∧ same3 (f (j * 4)) (f (j * 4 + 1)) (f (j * 4 + 2)) x y z)
set_option maxRecDepth 100000 in
theorem index_any {w : World} {g n k cap q : Nat} {f : Nat → Int} {x y z s : Int} (h : Recs 4 w g n f) (hk : k ≤ n) (hn : n ≤ 60) (ha : At 49 w q #[.int .i64 x, .int .i64 y, .int .i64 z, .int .i64 s]) :
    Calls Try.prog 61 #[.slice (some ⟨g, 0, none⟩) k cap, .func (.func 51) #[] #[.pointer (some ⟨q, 0, none⟩)]] w fun e w' => (∃ r : Int, e = .returned (.int .i64 r) ∧ Hid (IxP k f x y z r)) ∧ Below w.heap.size w w' := by
  have hk' : (k : Int) ≤ 60 := by omega
  go_enter Try.func61, Try.ntmps61
  go_wp2
  go_loopw [8] (fun u wr => ∃ j : Nat, j ≤ k ∧ u = .int .i64 (j : Int) ∧ (∀ i, i < j → ¬ same3 (f (i * 4)) (f (i * 4 + 1)) (f (i * 4 + 2)) x y z) ∧ Below w.heap.size w wr) (fun u _ => k - (intOf u).toNat)
  case atStart => exact ⟨0, Nat.zero_le _, rfl, fun i hi => by omega, Below.refl _ _⟩
  case round =>
    obtain ⟨j, hj, rfl, hno, B1⟩ := hrel
    have HN : Hid (∀ i, i < j → ¬ same3 (f (i * 4)) (f (i * 4 + 1)) (f (i * 4 + 2)) x y z) := hno
    clear hno
    by_cases hjk : j < k
    · have hjk' : (j : Int) < (k : Int) := by omega
      obtain ⟨d0, d1, d2, d3⟩ := Signed3.open (h.below B1) j (by omega)
      have a1 := ha.below B1
      by_cases hs : same3 (f (j * 4)) (f (j * 4 + 1)) (f (j * 4 + 2)) x y z
      · have O := other_any (f (j * 4)) (f (j * 4 + 1)) (f (j * 4 + 2)) (f (j * 4 + 3)) a1 true (show (true = true ↔ _) from ⟨fun _ => hs, fun _ => rfl⟩)
        have HS : Hid (same3 (f (j * 4)) (f (j * 4 + 1)) (f (j * 4 + 2)) x y z) := hs
        clear hs a1
        go_wp2_with (go_at_call 51; refine O.mono ?_; rintro e w2 ⟨rfl, bb⟩)
        go_ret
        exact ⟨⟨_, rfl, .inr ⟨j, hjk, rfl, HS.out⟩⟩, B1.trans (bb.mono B1.size)⟩
      · have O := other_any (f (j * 4)) (f (j * 4 + 1)) (f (j * 4 + 2)) (f (j * 4 + 3)) a1 false (show (false = true ↔ _) from ⟨fun h => by simp at h, fun h => absurd h hs⟩)
        have HS : Hid (¬ same3 (f (j * 4)) (f (j * 4 + 1)) (f (j * 4 + 2)) x y z) := hs
        clear hs a1
        go_wp2_with (go_at_call 51; refine O.mono ?_; rintro e w2 ⟨rfl, bb⟩)
        refine ⟨⟨j + 1, by omega, by go_num, fun i hi => ?_, B1.trans (bb.mono B1.size)⟩, by simp [intOf]; omega⟩
        by_cases e : i = j
        · subst e; exact HS.out
        · exact HN.out i (by omega)
    · have hjk' : ¬ (j : Int) < (k : Int) := by omega
      obtain rfl : j = k := by omega
      go_wp2
      go_ret
      exact ⟨⟨_, rfl, .inl ⟨rfl, HN.out⟩⟩, B1⟩
theorem contains_any {w : World} {g n k cap q : Nat} {f : Nat → Int} {x y z s : Int} (h : Recs 4 w g n f) (hk : k ≤ n) (hn : n ≤ 60) (ha : At 49 w q #[.int .i64 x, .int .i64 y, .int .i64 z, .int .i64 s]) (b : Bool) (hb : Hid (b = true ↔ ∃ j, j < k ∧ same3 (f (j * 4)) (f (j * 4 + 1)) (f (j * 4 + 2)) x y z)) :
    Calls Try.prog 50 #[.slice (some ⟨g, 0, none⟩) k cap, .func (.func 51) #[] #[.pointer (some ⟨q, 0, none⟩)]] w fun e w' => e = .returned (.bool b) ∧ Below w.heap.size w w' := by
  have X := index_any (cap := cap) h hk hn ha
  go_enter Try.func50, Try.ntmps50
  go_wp2_with (go_at_call 61; refine X.mono ?_; rintro e w2 ⟨⟨r, rfl, hr⟩, bb⟩)
  go_ret
  refine ⟨?_, bb⟩
  have : b = decide (0 ≤ r) := by
    rw [Bool.eq_iff_iff, hb.out, decide_eq_true_eq]
    rcases hr.out with ⟨rfl, hno⟩ | ⟨j, hj, rfl, hs⟩
    · exact ⟨fun ⟨j, hj, hs⟩ => absurd hs (hno j hj), fun h => by omega⟩
    · exact ⟨fun _ => by omega, fun _ => ⟨j, hj, hs⟩⟩
  rw [this]
  rfl
set_option maxRecDepth 100000 in
set_option maxHeartbeats 1600000 in
theorem implSigns_any {w : World} {g n cap : Nat} {f : Nat → Int} (h : Recs 4 w g n f) (hn : n ≤ 1048576) (hcap : n ≤ cap) (b : Bool) (hb : Hid (b = true ↔ SgOk n f)) :
    Calls Try.prog 29 #[.slice (some ⟨g, 0, none⟩) n cap] w fun e w' => e = .returned (.bool b) ∧ Below w.heap.size w w' := by
  by_cases hn60 : n ≤ 60
  case neg =>
    have hn' : (60 : Int) < (n : Int) := by omega
    obtain rfl : b = false := by cases b; rfl; exact absurd (hb.out.1 rfl).1 hn60
    go_enter Try.func29, Try.ntmps29
    go_wp2
    go_ret
    exact ⟨rfl, Below.refl _ _⟩
  have hn' : (n : Int) ≤ 60 := by omega
  have hn2 : ¬ (60 : Int) < (n : Int) := by omega
  have hmf : ∀ (fn : Fn) (first cap : Array Value) (w : World), (Instr.makeFunc fn first cap).run Try.prog w = .ok (.func fn first cap) w := fun _ _ _ _ => rfl
  go_enter Try.func29, Try.ntmps29
  go_wp2
  go_loopw [10] (fun u wr => ∃ i : Nat, i ≤ n ∧ u = .int .i64 (i : Int) ∧ (∀ j, j < i → gOk f j) ∧ Recs 4 wr g n f ∧ Below w.heap.size w wr) (fun u _ => n - (intOf u).toNat)
  case atStart => exact ⟨0, Nat.zero_le _, rfl, fun i hi => by omega, h, Below.refl _ _⟩
  case round =>
    obtain ⟨i, hi, rfl, hall, h1, B1⟩ := hrel
    have HA : Hid (∀ j, j < i → gOk f j) := hall
    clear hall
    by_cases hin : i < n
    · have hin' : (i : Int) < (n : Int) := by omega
      have hic : (i : Int) ≤ (cap : Int) := by omega
      obtain ⟨d0, d1, d2, d3⟩ := Signed3.open h1 i hin
      obtain ⟨V1, hV1, m1, bb1, -⟩ := boxed wr 49 #[.int .i64 (f (i * 4)), .int .i64 (f (i * 4 + 1)), .int .i64 (f (i * 4 + 2)), .int .i64 (f (i * 4 + 3))]
      obtain ⟨r1, hr1⟩ : ∃ r, wr.heap.size = r := ⟨_, rfl⟩
      rw [hr1] at m1
      replace h1 := h1.below bb1
      replace B1 := B1.trans (bb1.mono B1.size)
      obtain ⟨k0, k1, k2, k3, -⟩ := Signed3.box m1
      by_cases hs : sOk (f (i * 4)) (f (i * 4 + 1)) (f (i * 4 + 2)) (f (i * 4 + 3))
      case neg =>
        obtain rfl : b = false := by cases b; rfl; exact absurd ((hb.out.1 rfl).2 i hin).1 hs
        have R := fun w => sRight_any (f (i * 4)) (f (i * 4 + 1)) (f (i * 4 + 2)) (f (i * 4 + 3)) w false (show (false = true ↔ _) from ⟨fun h => by simp at h, fun h => absurd h hs⟩)
        clear hs m1 bb1 h1
        go_wp2_with (go_at_call 49; refine (R _).mono ?_; rintro e w2 ⟨rfl, bb⟩)
        go_ret
        exact ⟨rfl, B1.trans (bb.mono B1.size)⟩
      have R := fun w => sRight_any (f (i * 4)) (f (i * 4 + 1)) (f (i * 4 + 2)) (f (i * 4 + 3)) w true (show (true = true ↔ _) from ⟨fun _ => hs, fun _ => rfl⟩)
      by_cases ht : ∃ j, j < i ∧ same3 (f (j * 4)) (f (j * 4 + 1)) (f (j * 4 + 2)) (f (i * 4)) (f (i * 4 + 1)) (f (i * 4 + 2))
      · obtain rfl : b = false := by
          obtain ⟨j, hj, hh⟩ := ht
          cases b; rfl; exact absurd hh (((hb.out.1 rfl).2 i hin).2 j hj)
        have C := fun w (h : Recs 4 w g n f) (m : At 49 w r1 #[.int .i64 (f (i * 4)), .int .i64 (f (i * 4 + 1)), .int .i64 (f (i * 4 + 2)), .int .i64 (f (i * 4 + 3))]) => contains_any (k := i) (cap := cap) h hi hn60 m true (show (true = true ↔ _) from ⟨fun _ => ht, fun _ => rfl⟩)
        clear hs ht bb1
        go_wp2_with (first | (go_at_call 49; refine (R _).mono ?_; rintro e w2 ⟨rfl, bb⟩; have h2 := h1.below bb; have m2 := m1.below bb; have B2 := B1.trans (bb.mono B1.size)) | (go_at_call 50; refine (C _ h2 m2).mono ?_; rintro e w3 ⟨rfl, bb3⟩))
        go_ret
        exact ⟨rfl, B2.trans (bb3.mono B2.size)⟩
      · have C := fun w (h : Recs 4 w g n f) (m : At 49 w r1 #[.int .i64 (f (i * 4)), .int .i64 (f (i * 4 + 1)), .int .i64 (f (i * 4 + 2)), .int .i64 (f (i * 4 + 3))]) => contains_any (k := i) (cap := cap) h hi hn60 m false (show (false = true ↔ _) from ⟨fun h => by simp at h, fun h => absurd h ht⟩)
        have HG : Hid (gOk f i) := show gOk f i from ⟨hs, fun k hk hh => ht ⟨k, hk, hh⟩⟩
        clear hs ht bb1
        go_wp2_with (first | (go_at_call 49; refine (R _).mono ?_; rintro e w2 ⟨rfl, bb⟩; have h2 := h1.below bb; have m2 := m1.below bb; have B2 := B1.trans (bb.mono B1.size)) | (go_at_call 50; refine (C _ h2 m2).mono ?_; rintro e w3 ⟨rfl, bb3⟩))
        refine ⟨⟨i + 1, by omega, by go_num, fun j hj => ?_, h2.below bb3, B2.trans (bb3.mono B2.size)⟩, by simp [intOf]; omega⟩
        by_cases e : j = i
        · subst e; exact HG.out
        · exact HA.out j (by omega)
    · have hin' : ¬ (i : Int) < (n : Int) := by omega
      obtain rfl : i = n := by omega
      obtain rfl : b = true := hb.out.2 ⟨hn60, HA.out⟩
      go_wp2
      go_ret
      exact ⟨rfl, B1⟩
end Go.Proofs.Ytpelbbkkdmlmiaa
