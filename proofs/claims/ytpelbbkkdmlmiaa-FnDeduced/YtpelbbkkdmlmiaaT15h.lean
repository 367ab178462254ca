/-
  Signs deduced, by the program and by the specification: walked, and the law over them.
-/
import Derived.Test.YtpelbbkkdmlmiaaT15g
namespace Go.Proofs.Ytpelbbkkdmlmiaa
open Go.RowKit

/-- What is deduced. -/
def ded (f : Nat → Int) (n : Nat) (a b c t : Int) : Int := if t ≤ (pl f n a b c : Int) - (mi f n a b c : Int) then 1 else if t ≤ (mi f n a b c : Int) - (pl f n a b c : Int) then -1 else 0
def DOk (f : Nat → Int) (n : Nat) (a b c t : Int) : Prop := SgOk n f ∧ hkR a b c ∧ 1 ≤ t ∧ t ≤ 60
theorem implDeduce_no {w : World} {g n cap : Nat} {f : Nat → Int} {a b c t : Int} (h : Recs 4 w g n f) (hn : n ≤ 1048576) (hcap : n ≤ cap) (no : ¬ DOk f n a b c t) :
    Calls Try.prog 15 #[.slice (some ⟨g, 0, none⟩) n cap, hV a b c, .int .i64 t] w fun e w' => e = .returned (.int .i64 0) ∧ Below w.heap.size w w' := by
  obtain ⟨W1, hW1, a1, B1, -⟩ := boxed w 33 #[.int .i64 a, .int .i64 b, .int .i64 c]
  obtain ⟨q, hq⟩ : ∃ q, w.heap.size = q := ⟨_, rfl⟩
  rw [hq] at a1
  have h1 := h.below B1
  by_cases ok : SgOk n f
  case neg =>
    have S := implSigns_any h1 hn hcap false (show (false = true ↔ _) from ⟨fun h => by simp at h, fun h => absurd h ok⟩)
    go_enter Try.func15, Try.ntmps15
    go_wp2_with (go_at_call 29; refine S.mono ?_; rintro e w2 ⟨rfl, bb⟩)
    go_ret
    exact ⟨rfl, B1.trans (bb.mono B1.size)⟩
  have S := implSigns_any h1 hn hcap true (show (true = true ↔ _) from ⟨fun _ => ok, fun _ => rfl⟩)
  by_cases hk : hkR a b c
  case neg =>
    have R := fun w => hkRight_any a b c w false (show (false = true ↔ _) from ⟨fun h => by simp at h, fun h => absurd h hk⟩)
    clear no hk
    go_enter Try.func15, Try.ntmps15
    go_wp2_with (first | (go_at_call 29; refine S.mono ?_; rintro e w2 ⟨rfl, bb⟩; obtain ⟨c0, c1, c2, -⟩ := (a1.below bb).open3) | (go_at_call 35; refine (R _).mono ?_; rintro e w3 ⟨rfl, bb3⟩))
    go_ret
    exact ⟨rfl, (B1.trans (bb.mono B1.size)).trans (bb3.mono (Nat.le_trans B1.size bb.size))⟩
  have R := fun w => hkRight_any a b c w true (show (true = true ↔ _) from ⟨fun _ => hk, fun _ => rfl⟩)
  by_cases h0 : t < 1
  · clear no hk
    go_enter Try.func15, Try.ntmps15
    go_wp2_with (first | (go_at_call 29; refine S.mono ?_; rintro e w2 ⟨rfl, bb⟩; obtain ⟨c0, c1, c2, -⟩ := (a1.below bb).open3) | (go_at_call 35; refine (R _).mono ?_; rintro e w3 ⟨rfl, bb3⟩))
    go_ret
    exact ⟨rfl, (B1.trans (bb.mono B1.size)).trans (bb3.mono (Nat.le_trans B1.size bb.size))⟩
  · have h60 : 60 < t := by
      refine Int.not_le.1 fun h60 => no ⟨ok, hk, by omega, h60⟩
    clear no hk
    go_enter Try.func15, Try.ntmps15
    go_wp2_with (first | (go_at_call 29; refine S.mono ?_; rintro e w2 ⟨rfl, bb⟩; obtain ⟨c0, c1, c2, -⟩ := (a1.below bb).open3) | (go_at_call 35; refine (R _).mono ?_; rintro e w3 ⟨rfl, bb3⟩))
    go_ret
    exact ⟨rfl, (B1.trans (bb.mono B1.size)).trans (bb3.mono (Nat.le_trans B1.size bb.size))⟩
theorem implDeduce_yes {w : World} {g n cap : Nat} {f : Nat → Int} {a b c t : Int} (h : Recs 4 w g n f) (hcap : n ≤ cap) (ok : DOk f n a b c t) :
    Calls Try.prog 15 #[.slice (some ⟨g, 0, none⟩) n cap, hV a b c, .int .i64 t] w fun e w' => e = .returned (.int .i64 (ded f n a b c t)) ∧ Below w.heap.size w w' := by
  obtain ⟨ok, hk, t1, t60⟩ := ok
  have hn60 := ok.1
  obtain ⟨W1, hW1, a1, B1, -⟩ := boxed w 33 #[.int .i64 a, .int .i64 b, .int .i64 c]
  obtain ⟨q, hq⟩ : ∃ q, w.heap.size = q := ⟨_, rfl⟩
  rw [hq] at a1
  have h1 := h.below B1
  have S := implSigns_any h1 (by omega) hcap true (show (true = true ↔ _) from ⟨fun _ => ok, fun _ => rfl⟩)
  have R := fun w => hkRight_any a b c w true (show (true = true ↔ _) from ⟨fun _ => hk, fun _ => rfl⟩)
  have Q := fun w (h : Recs 4 w g n f) => implPairs_any (cap := cap) a b c h ok hcap
  have p1 := pl_le f n a b c hn60
  have p2 := mi_le f n a b c hn60
  have E : ded f n a b c t = if t ≤ (pl f n a b c : Int) - (mi f n a b c : Int) then 1 else if t ≤ (mi f n a b c : Int) - (pl f n a b c : Int) then -1 else 0 := rfl
  obtain ⟨x, hx⟩ : ∃ x, pl f n a b c = x := ⟨_, rfl⟩
  obtain ⟨y, hy⟩ : ∃ y, mi f n a b c = y := ⟨_, rfl⟩
  rw [hx, hy] at E Q
  rw [hx] at p1
  rw [hy] at p2
  clear hx hy hk
  have n1 : ¬ t < 1 := by omega
  have n2 : ¬ 60 < t := by omega
  by_cases hA : t ≤ (x : Int) - (y : Int)
  · rw [if_pos hA] at E
    rw [E]
    clear E
    go_enter Try.func15, Try.ntmps15
    go_wp2_with (first | (go_at_call 29; refine S.mono ?_; rintro e w2 ⟨rfl, bb⟩; have a2 := a1.below bb; have h2 := h1.below bb; obtain ⟨c0, c1, c2, -⟩ := a2.open3) | (go_at_call 35; refine (R _).mono ?_; rintro e w3 ⟨rfl, bb3⟩; have h3 := h2.below bb3; obtain ⟨g0, g1, g2, -⟩ := (a2.below bb3).open3) | (go_at_call 30; refine (Q _ h3).mono ?_; rintro e w4 ⟨rfl, bb4⟩))
    go_ret
    exact ⟨rfl, ((B1.trans (bb.mono B1.size)).trans (bb3.mono (Nat.le_trans B1.size bb.size))).trans (bb4.mono (Nat.le_trans (Nat.le_trans B1.size bb.size) bb3.size))⟩
  rw [if_neg hA] at E
  by_cases hB : t ≤ (y : Int) - (x : Int)
  · rw [if_pos hB] at E
    rw [E]
    have hB' : (x : Int) - (y : Int) ≤ -t := by omega
    clear E
    go_enter Try.func15, Try.ntmps15
    go_wp2_with (first | (go_at_call 29; refine S.mono ?_; rintro e w2 ⟨rfl, bb⟩; have a2 := a1.below bb; have h2 := h1.below bb; obtain ⟨c0, c1, c2, -⟩ := a2.open3) | (go_at_call 35; refine (R _).mono ?_; rintro e w3 ⟨rfl, bb3⟩; have h3 := h2.below bb3; obtain ⟨g0, g1, g2, -⟩ := (a2.below bb3).open3) | (go_at_call 30; refine (Q _ h3).mono ?_; rintro e w4 ⟨rfl, bb4⟩))
    go_ret
    exact ⟨rfl, ((B1.trans (bb.mono B1.size)).trans (bb3.mono (Nat.le_trans B1.size bb.size))).trans (bb4.mono (Nat.le_trans (Nat.le_trans B1.size bb.size) bb3.size))⟩
  · rw [if_neg hB] at E
    rw [E]
    have hB' : ¬ (x : Int) - (y : Int) ≤ -t := by omega
    clear E
    go_enter Try.func15, Try.ntmps15
    go_wp2_with (first | (go_at_call 29; refine S.mono ?_; rintro e w2 ⟨rfl, bb⟩; have a2 := a1.below bb; have h2 := h1.below bb; obtain ⟨c0, c1, c2, -⟩ := a2.open3) | (go_at_call 35; refine (R _).mono ?_; rintro e w3 ⟨rfl, bb3⟩; have h3 := h2.below bb3; obtain ⟨g0, g1, g2, -⟩ := (a2.below bb3).open3) | (go_at_call 30; refine (Q _ h3).mono ?_; rintro e w4 ⟨rfl, bb4⟩))
    go_ret
    exact ⟨rfl, ((B1.trans (bb.mono B1.size)).trans (bb3.mono (Nat.le_trans B1.size bb.size))).trans (bb4.mono (Nat.le_trans (Nat.le_trans B1.size bb.size) bb3.size))⟩
theorem specDeduce_no {w : World} {g n cap : Nat} {f : Nat → Int} {a b c t : Int} (h : Recs 4 w g n f) (hn : n ≤ 1048576) (no : ¬ DOk f n a b c t) :
    Calls Try.prog 13 #[.slice (some ⟨g, 0, none⟩) n cap, hV a b c, .int .i64 t] w fun e w' => e = .returned (.int .i64 0) ∧ Below w.heap.size w w' := by
  obtain ⟨W1, hW1, a1, B1, -⟩ := boxed w 33 #[.int .i64 a, .int .i64 b, .int .i64 c]
  obtain ⟨q, hq⟩ : ∃ q, w.heap.size = q := ⟨_, rfl⟩
  rw [hq] at a1
  have h1 := h.below B1
  by_cases ok : SgOk n f
  case neg =>
    have S := specSigns_any (cap := cap) h1 hn false (show (false = true ↔ _) from ⟨fun h => by simp at h, fun h => absurd h ok⟩)
    go_enter Try.func13, Try.ntmps13
    go_wp2_with (go_at_call 26; refine S.mono ?_; rintro e w2 ⟨rfl, bb⟩)
    go_ret
    exact ⟨rfl, B1.trans (bb.mono B1.size)⟩
  have S := specSigns_any (cap := cap) h1 hn true (show (true = true ↔ _) from ⟨fun _ => ok, fun _ => rfl⟩)
  by_cases hk : hkR a b c
  case neg =>
    have R := fun w => l5Hkl_any a b c w false (show (false = true ↔ _) from ⟨fun h => by simp at h, fun h => absurd h hk⟩)
    clear no hk
    go_enter Try.func13, Try.ntmps13
    go_wp2_with (first | (go_at_call 26; refine S.mono ?_; rintro e w2 ⟨rfl, bb⟩; obtain ⟨c0, c1, c2, -⟩ := (a1.below bb).open3) | (go_at_call 33; refine (R _).mono ?_; rintro e w3 ⟨rfl, bb3⟩))
    go_ret
    exact ⟨rfl, (B1.trans (bb.mono B1.size)).trans (bb3.mono (Nat.le_trans B1.size bb.size))⟩
  have R := fun w => l5Hkl_any a b c w true (show (true = true ↔ _) from ⟨fun _ => hk, fun _ => rfl⟩)
  have I := fun w => in_any t 1 60 w
  rw [decide_eq_false (fun h => no ⟨ok, hk, h.1, h.2⟩)] at I
  clear no hk
  go_enter Try.func13, Try.ntmps13
  go_wp2_with (first | (go_at_call 26; refine S.mono ?_; rintro e w2 ⟨rfl, bb⟩; obtain ⟨c0, c1, c2, -⟩ := (a1.below bb).open3) | (go_at_call 33; refine (R _).mono ?_; rintro e w3 ⟨rfl, bb3⟩) | (go_at_call 34; refine (I _).mono ?_; rintro e w4 ⟨rfl, rfl⟩))
  go_ret
  exact ⟨rfl, (B1.trans (bb.mono B1.size)).trans (bb3.mono (Nat.le_trans B1.size bb.size))⟩
theorem specDeduce_yes {w : World} {g n cap : Nat} {f : Nat → Int} {a b c t : Int} (h : Recs 4 w g n f) (ok : DOk f n a b c t) :
    Calls Try.prog 13 #[.slice (some ⟨g, 0, none⟩) n cap, hV a b c, .int .i64 t] w fun e w' => e = .returned (.int .i64 (ded f n a b c t)) ∧ Below w.heap.size w w' := by
  obtain ⟨ok, hk, t1, t60⟩ := ok
  have hn60 := ok.1
  obtain ⟨W1, hW1, a1, B1, -⟩ := boxed w 33 #[.int .i64 a, .int .i64 b, .int .i64 c]
  obtain ⟨q, hq⟩ : ∃ q, w.heap.size = q := ⟨_, rfl⟩
  rw [hq] at a1
  have h1 := h.below B1
  have S := specSigns_any (cap := cap) h1 (by omega) true (show (true = true ↔ _) from ⟨fun _ => ok, fun _ => rfl⟩)
  have R := fun w => l5Hkl_any a b c w true (show (true = true ↔ _) from ⟨fun _ => hk, fun _ => rfl⟩)
  have I := fun w => in_any t 1 60 w
  rw [decide_eq_true (⟨t1, t60⟩ : 1 ≤ t ∧ t ≤ 60)] at I
  have Q := fun w (h : Recs 4 w g n f) => specPairs_any (cap := cap) a b c h ok
  have p1 := pl_le f n a b c hn60
  have p2 := mi_le f n a b c hn60
  have E : ded f n a b c t = if t ≤ (pl f n a b c : Int) - (mi f n a b c : Int) then 1 else if t ≤ (mi f n a b c : Int) - (pl f n a b c : Int) then -1 else 0 := rfl
  obtain ⟨x, hx⟩ : ∃ x, pl f n a b c = x := ⟨_, rfl⟩
  obtain ⟨y, hy⟩ : ∃ y, mi f n a b c = y := ⟨_, rfl⟩
  rw [hx, hy] at E Q
  rw [hx] at p1
  rw [hy] at p2
  clear hx hy hk
  by_cases hA : t ≤ (x : Int) - (y : Int)
  · rw [if_pos hA] at E
    rw [E]
    clear E
    go_enter Try.func13, Try.ntmps13
    go_wp2_with (first | (go_at_call 26; refine S.mono ?_; rintro e w2 ⟨rfl, bb⟩; have a2 := a1.below bb; have h2 := h1.below bb; obtain ⟨c0, c1, c2, -⟩ := a2.open3) | (go_at_call 33; refine (R _).mono ?_; rintro e w3 ⟨rfl, bb3⟩; have h3 := h2.below bb3; obtain ⟨g0, g1, g2, -⟩ := (a2.below bb3).open3) | (go_at_call 34; refine (I _).mono ?_; rintro e w9 ⟨rfl, rfl⟩) | (go_at_call 27; refine (Q _ h3).mono ?_; rintro e w4 ⟨rfl, bb4⟩))
    go_ret
    exact ⟨rfl, ((B1.trans (bb.mono B1.size)).trans (bb3.mono (Nat.le_trans B1.size bb.size))).trans (bb4.mono (Nat.le_trans (Nat.le_trans B1.size bb.size) bb3.size))⟩
  rw [if_neg hA] at E
  by_cases hB : t ≤ (y : Int) - (x : Int)
  · rw [if_pos hB] at E
    rw [E]
    clear E
    go_enter Try.func13, Try.ntmps13
    go_wp2_with (first | (go_at_call 26; refine S.mono ?_; rintro e w2 ⟨rfl, bb⟩; have a2 := a1.below bb; have h2 := h1.below bb; obtain ⟨c0, c1, c2, -⟩ := a2.open3) | (go_at_call 33; refine (R _).mono ?_; rintro e w3 ⟨rfl, bb3⟩; have h3 := h2.below bb3; obtain ⟨g0, g1, g2, -⟩ := (a2.below bb3).open3) | (go_at_call 34; refine (I _).mono ?_; rintro e w9 ⟨rfl, rfl⟩) | (go_at_call 27; refine (Q _ h3).mono ?_; rintro e w4 ⟨rfl, bb4⟩))
    go_ret
    exact ⟨rfl, ((B1.trans (bb.mono B1.size)).trans (bb3.mono (Nat.le_trans B1.size bb.size))).trans (bb4.mono (Nat.le_trans (Nat.le_trans B1.size bb.size) bb3.size))⟩
  · rw [if_neg hB] at E
    rw [E]
    clear E
    go_enter Try.func13, Try.ntmps13
    go_wp2_with (first | (go_at_call 26; refine S.mono ?_; rintro e w2 ⟨rfl, bb⟩; have a2 := a1.below bb; have h2 := h1.below bb; obtain ⟨c0, c1, c2, -⟩ := a2.open3) | (go_at_call 33; refine (R _).mono ?_; rintro e w3 ⟨rfl, bb3⟩; have h3 := h2.below bb3; obtain ⟨g0, g1, g2, -⟩ := (a2.below bb3).open3) | (go_at_call 34; refine (I _).mono ?_; rintro e w9 ⟨rfl, rfl⟩) | (go_at_call 27; refine (Q _ h3).mono ?_; rintro e w4 ⟨rfl, bb4⟩))
    go_ret
    exact ⟨rfl, ((B1.trans (bb.mono B1.size)).trans (bb3.mono (Nat.le_trans B1.size bb.size))).trans (bb4.mono (Nat.le_trans (Nat.le_trans B1.size bb.size) bb3.size))⟩
theorem deduce_one (n : Nat) (f : Nat → Int) (a b c t : Int) (hn : n ≤ 1048576) : ∃ D : Int, (∀ (w : World) (g cap : Nat), Recs 4 w g n f → n ≤ cap → Calls Try.prog 15 #[.slice (some ⟨g, 0, none⟩) n cap, hV a b c, .int .i64 t] w fun e w' => e = .returned (.int .i64 D) ∧ Below w.heap.size w w') ∧ (∀ (w : World) (g cap : Nat), Recs 4 w g n f → Calls Try.prog 13 #[.slice (some ⟨g, 0, none⟩) n cap, hV a b c, .int .i64 t] w fun e w' => e = .returned (.int .i64 D) ∧ Below w.heap.size w w') := by
  by_cases ok : DOk f n a b c t
  · exact ⟨_, fun w g cap h hc => implDeduce_yes h hc ok, fun w g cap h => specDeduce_yes h ok⟩
  · exact ⟨_, fun w g cap h hc => implDeduce_no h hn hc ok, fun w g cap h => specDeduce_no h hn ok⟩
set_option maxHeartbeats 1600000 in
theorem exactDeduce_walk {w : World} {a : Option Addr} {n cap : Nat} {f : Nat → Int} (x y z t : Int) (hS : Src w a (n * 4) f) (hn : n ≤ maxLen) :
    Calls Try.prog 4 #[.slice a n cap, hV x y z, .int .i64 t] w fun e w' => e = .returned (.bool true) ∧ Below w.heap.size w w' := by
  obtain ⟨W1, hW1, a1, B1, -⟩ := boxed w 31 #[.int .i64 x, .int .i64 y, .int .i64 z]
  obtain ⟨q, hq⟩ : ∃ q, w.heap.size = q := ⟨_, rfl⟩
  rw [hq] at a1
  go_enter Try.func4, Try.ntmps4
  go_wp2_with fail
  refine (szSigned3_any 1048576 (by omega) _ hn).mono ?_
  rintro e w1 ⟨⟨r, rfl, hr⟩, rfl⟩
  clear hW1 hq
  rcases hr with rfl | ⟨r0, r1, hn20⟩
  · go_wp2
    go_ret
    exact ⟨rfl, B1⟩
  have hr0 : ¬ r < 0 := by omega
  obtain ⟨D, cI, cS⟩ := deduce_one n f x y z t hn20
  go_wp2_with fail
  obtain ⟨u0, hu0, bb⟩ : ∃ uu, W1.drew = uu ∧ Below W1.heap.size W1 uu := ⟨_, rfl, (Below.refl _ _).drew⟩
  replace a1 := a1.below bb
  replace B1 := B1.trans (bb.mono B1.size)
  clear bb
  refine wp_region_held_drew (S := Kb u0) (by kernel_rfl) (by rw [hu0]; exact Below.refl _ _) (fun hHeld => ?_)
  rw [hu0] at hHeld ⊢
  clear hu0
  have bu : Kb u0 u0 := Below.refl _ _
  change wpAnyH _ _ _ _ _ 7 #[false, false, false, false, false, false, false] _ _
  refine wpAnyH_take (i := 0) (v := .slice a n cap) rfl (by kernel_rfl) (by kernel_rfl) (by kernel_rfl) (fun _ _ _ h => h) (Or.inl ⟨by kernel_rfl, ?_⟩) hHeld ?_
  · intro w' hSw; go_simp
  try simp only [Act.put, List.setIfInBounds_toArray, List.set_cons_zero, List.set_cons_succ, List.getElem_toArray, List.getElem_cons_zero]
  refine wpAnyH_take (i := 2) (v := .agg #[.int .i64 (x), .int .i64 (y), .int .i64 (z)]) rfl (by kernel_rfl) (by kernel_rfl) (by kernel_rfl) (fun _ _ _ h => h) (Or.inl ⟨by kernel_rfl, ?_⟩) hHeld ?_
  · intro w' hSw; obtain ⟨z0, z1, z2, -⟩ := (a1.below hSw).open3; go_simp
  try simp only [Act.put, List.setIfInBounds_toArray, List.set_cons_zero, List.set_cons_succ, List.getElem_toArray, List.getElem_cons_succ, List.getElem_cons_zero]
  refine wpAnyH_take (i := 4) (v := .int .i64 (t)) rfl (by kernel_rfl) (by kernel_rfl) (by kernel_rfl) (fun _ _ _ h => h) (Or.inl ⟨by kernel_rfl, ?_⟩) hHeld ?_
  · intro w' hSw; go_simp
  try simp only [Act.put, List.setIfInBounds_toArray, List.set_cons_zero, List.set_cons_succ, List.getElem_toArray, List.getElem_cons_succ, List.getElem_cons_zero]
  refine wpAnyH_ready (rs := [1]) (by kernel_rfl) (by simp) ?_
  refine AllReadyH.cons rfl (fun KK hK' => ?_) AllReadyH.nil
  go_simp
  refine (toSigned3S_any (hS.below B1) hn20).mono ?_
  rintro e u1 ⟨g2, rfl, hg2, L2, bb⟩
  have R2 := L2.recs
  replace B1 := B1.trans (bb.mono B1.size)
  replace a1 := a1.below bb
  replace bu : Kb u0 u1 := bu.trans (bb.mono bu.size)
  clear bb L2
  try go_wp2_with fail
  clear hHeld
  refine hK'.out _ _ (bu) (fun hHeld => ?_)
  clear hK' KK
  try simp only [List.setIfInBounds_toArray, List.set_cons_zero, List.set_cons_succ]
  refine wpAnyH_ready (rs := [3]) (by kernel_rfl) (by simp) ?_
  refine AllReadyH.cons rfl (fun KK hK' => ?_) AllReadyH.nil
  go_simp
  refine (toHkl_any x y z _).mono ?_
  rintro e u2 ⟨rfl, bb⟩
  replace B1 := B1.trans (bb.mono B1.size)
  replace a1 := a1.below bb
  replace R2 := R2.below bb
  replace bu : Kb u0 u2 := bu.trans (bb.mono bu.size)
  clear bb
  try go_wp2_with fail
  clear hHeld
  refine hK'.out _ _ (bu) (fun hHeld => ?_)
  clear hK' KK
  try simp only [List.setIfInBounds_toArray, List.set_cons_zero, List.set_cons_succ]
  refine wpAnyH_ready (rs := [5]) (by kernel_rfl) (by simp) ?_
  refine AllReadyH.cons rfl (fun KK hK' => ?_) AllReadyH.nil
  go_simp
  refine (cS _ _ _ R2).mono ?_
  rintro e u3 ⟨rfl, bb⟩
  replace B1 := B1.trans (bb.mono B1.size)
  replace a1 := a1.below bb
  replace bu : Kb u0 u3 := bu.trans (bb.mono bu.size)
  clear bb
  try go_wp2_with fail
  clear hHeld
  refine hK'.out _ _ (bu) (fun hHeld => ?_)
  clear hK' KK
  try simp only [List.setIfInBounds_toArray, List.set_cons_zero, List.set_cons_succ]
  refine wpAnyH_take (i := 6) (v := .int .i64 (D)) rfl (by kernel_rfl) (by kernel_rfl) (by kernel_rfl) (fun _ _ _ h => h) (Or.inl ⟨by kernel_rfl, ?_⟩) hHeld ?_
  · intro w' hSw; go_simp
  try simp only [Act.put, List.setIfInBounds_toArray, List.set_cons_zero, List.set_cons_succ, List.getElem_toArray, List.getElem_cons_succ, List.getElem_cons_zero]
  refine wpAnyH_done (by kernel_rfl) ?_ _
  clear hHeld
  have S3 := hS.below B1
  go_wp2_with fail
  refine (toSigned3S_any S3 hn20).mono ?_
  rintro e w4 ⟨g4, rfl, hg4, L4, b4⟩
  replace B1 := B1.trans (b4.mono B1.size)
  have R4 := L4.recs
  replace a1 := a1.below b4
  obtain ⟨c0, c1, c2, -⟩ := a1.open3
  clear S3 b4 L4
  go_wp2_with fail
  refine (toHkl_any x y z _).mono ?_
  rintro e w8 ⟨rfl, b4⟩
  replace B1 := B1.trans (b4.mono B1.size)
  replace R4 := R4.below b4
  clear c0 c1 c2 b4 a1
  go_wp2_with fail
  refine (cI _ _ _ R4 (Nat.le_refl _)).mono ?_
  rintro e w5 ⟨rfl, b5⟩
  have B5 := B1.trans (b5.mono B1.size)
  have R5 := R4.below b5
  have S5 := hS.below B5
  clear b5 R4 B1
  go_wp2_with fail
  refine (toSigned3S_any S5 hn20).mono ?_
  rintro e w6 ⟨g6, rfl, hg6, L6, b6⟩
  have B6 := B5.trans (b6.mono B5.size)
  have R6 := R5.below b6
  have T6 := L6.recs
  clear b6 R5 B5 S5 L6
  go_wp2_with fail
  refine (eqSigned3S_true R6 T6 hn20).mono ?_
  rintro e w7 ⟨rfl, b7⟩
  have B7 := B6.trans (b7.mono B6.size)
  go_wp2
  go_ret
  exact ⟨rfl, B7⟩
end Go.Proofs.Ytpelbbkkdmlmiaa
