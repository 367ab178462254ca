/-
  Plans compared: cmp.Compare, cmp.Or, slices.Compare, (plan).before, walked.
-/
import Derived.Test.YtcpeaenophaphaaAn
namespace Go.Proofs.Ytcpeaenophaphaa
open Go.RowKit

theorem boxed2 (w : World) (t u : TypeId) (vs us : Array Value) : ∃ W, (w.alloc (.cells vs t)).alloc (.cells us u) = W ∧ At t W w.heap.size vs ∧ At u W (w.heap.size + 1) us ∧ Below w.heap.size w W ∧ w.heap.size + 1 < W.heap.size := by
  refine ⟨_, rfl, (at_new t w vs).below (below_alloc _ _), ?_, (below_alloc _ _).trans ((below_alloc _ _).mono (by simp)), by simp⟩
  have := at_new u (w.alloc (.cells vs t)) us
  simpa using this
def cmp3 (x y : Int) : Int := if x < y then -1 else if y < x then 1 else 0
theorem isNaN_any (x : Int) (w : World) : Calls Try.prog 61 #[.int .i64 x] w fun e w' => e = .returned (.bool false) ∧ w = w' := by
  have h : (x != x) = false := by simp
  go_enter Try.func61, Try.ntmps61
  go_wp2
  go_ret
  exact ⟨rfl, rfl⟩
theorem cmp_any (x y : Int) (w : World) : Calls Try.prog 60 #[.int .i64 x, .int .i64 y] w fun e w' => e = .returned (.int .i64 (cmp3 x y)) ∧ w = w' := by
  unfold cmp3
  rcases (by omega : x < y ∨ (¬ x < y ∧ y < x) ∨ (¬ x < y ∧ ¬ y < x)) with h | ⟨h, h'⟩ | ⟨h, h'⟩
  · rw [if_pos h]
    go_enter Try.func60, Try.ntmps60
    go_wp2_with (go_at_call 61; refine (isNaN_any _ _).mono ?_; rintro e w2 ⟨rfl, rfl⟩)
    go_ret
    exact ⟨rfl, rfl⟩
  · rw [if_neg h, if_pos h']
    go_enter Try.func60, Try.ntmps60
    go_wp2_with (go_at_call 61; refine (isNaN_any _ _).mono ?_; rintro e w2 ⟨rfl, rfl⟩)
    go_ret
    exact ⟨rfl, rfl⟩
  · rw [if_neg h, if_neg h']
    go_enter Try.func60, Try.ntmps60
    go_wp2_with (go_at_call 61; refine (isNaN_any _ _).mono ?_; rintro e w2 ⟨rfl, rfl⟩)
    go_ret
    exact ⟨rfl, rfl⟩
theorem isNaNI_any (x : Int) (w : World) : Calls Try.prog 59 #[.int .i64 x] w fun e w' => e = .returned (.bool false) ∧ w = w' := by
  have h : (x != x) = false := by simp
  go_enter Try.func59, Try.ntmps59
  go_wp2
  go_ret
  exact ⟨rfl, rfl⟩
theorem cmpI_any (x y : Int) (w : World) : Calls Try.prog 53 #[.int .i64 x, .int .i64 y] w fun e w' => e = .returned (.int .i64 (cmp3 x y)) ∧ w = w' := by
  unfold cmp3
  rcases (by omega : x < y ∨ (¬ x < y ∧ y < x) ∨ (¬ x < y ∧ ¬ y < x)) with h | ⟨h, h'⟩ | ⟨h, h'⟩
  · rw [if_pos h]
    go_enter Try.func53, Try.ntmps53
    go_wp2_with (go_at_call 59; refine (isNaNI_any _ _).mono ?_; rintro e w2 ⟨rfl, rfl⟩)
    go_ret
    exact ⟨rfl, rfl⟩
  · rw [if_neg h, if_pos h']
    go_enter Try.func53, Try.ntmps53
    go_wp2_with (go_at_call 59; refine (isNaNI_any _ _).mono ?_; rintro e w2 ⟨rfl, rfl⟩)
    go_ret
    exact ⟨rfl, rfl⟩
  · rw [if_neg h, if_neg h']
    go_enter Try.func53, Try.ntmps53
    go_wp2_with (go_at_call 59; refine (isNaNI_any _ _).mono ?_; rintro e w2 ⟨rfl, rfl⟩)
    go_ret
    exact ⟨rfl, rfl⟩
/-- The first that is not 0. -/
def orF (z : Nat → Int) : Nat → Int
  | 0 => 0
  | m + 1 => if orF z m = 0 then z m else orF z m
theorem orF_zero {z : Nat → Int} {m : Nat} (h : orF z m = 0) : orF z (m + 1) = z m := by rw [orF, if_pos h]
theorem orF_stay {z : Nat → Int} {k m : Nat} (h : orF z k ≠ 0) (hm : k ≤ m) : orF z m = orF z k := by
  induction m with
  | zero => obtain rfl : k = 0 := by omega
            rfl
  | succ m ih =>
    by_cases e : k = m + 1
    · rw [e]
    · have := ih (by omega)
      rw [orF, if_neg (by rw [this]; exact h), this]
set_option maxHeartbeats 1000000 in
theorem or_any {w : World} {g m cap : Nat} (z : Nat → Int) (h : Ints w g 0 m z) (_ : g < w.heap.size) (hm : m ≤ 1000) :
    Calls Try.prog 52 #[.slice (some ⟨g, 0, none⟩) m cap] w fun e w' => e = .returned (.int .i64 (orF z m)) ∧ w = w' := by
  obtain ⟨R, hR⟩ : ∃ R, orF z m = R := ⟨_, rfl⟩
  rw [hR]
  have hm' : (m : Int) ≤ 1000 := by omega
  go_enter Try.func52, Try.ntmps52
  go_wp2
  go_loopw [8] (fun s wr => ∃ k : Nat, k ≤ m ∧ s = .int .i64 k ∧ w = wr ∧ orF z k = 0) (fun s _ => m - (intOf s).toNat)
  case atStart => exact ⟨0, Nat.zero_le _, rfl, rfl, rfl⟩
  case round =>
    obtain ⟨k, hk, rfl, rfl, h0⟩ := hrel
    by_cases hlt : k < m
    · have hlt' : (k : Int) < (m : Int) := by omega
      have c0 := h k hlt
      rw [Nat.zero_add] at c0
      have h1 := orF_zero h0
      have h2 := fun hh => orF_stay (z := z) (k := k + 1) (m := m) hh (by omega)
      rw [hR] at h2
      obtain ⟨X, hX⟩ : ∃ X, z k = X := ⟨_, rfl⟩
      rw [hX] at c0 h1
      rw [h1] at h2
      by_cases hz : X = 0
      · have hz' : (X != 0) = false := by simp [hz]
        have HZ : Hid (orF z (k + 1) = 0) := h1.trans hz
        clear hz h1 h2 h0 hX hR
        go_wp2
        exact ⟨⟨k + 1, by omega, by go_num, by trivial, HZ.out⟩, by simp [intOf]; omega⟩
      · have hz' : (X != 0) = true := by simp [hz]
        obtain rfl := h2 hz
        clear h1 h2 h0 hX hR
        go_wp2
        go_ret
        exact ⟨rfl, rfl⟩
    · have hlt' : ¬ (k : Int) < (m : Int) := by omega
      obtain rfl : k = m := by omega
      obtain rfl : R = 0 := hR.symm.trans h0
      clear h0 hR
      go_wp2
      go_ret
      exact ⟨rfl, rfl⟩
theorem orF_neg (z : Nat → Int) (m : Nat) : orF z (m + 1) < 0 ↔ (orF z m < 0 ∨ (orF z m = 0 ∧ z m < 0)) := by
  rw [orF]; split <;> omega
theorem orF_nul (z : Nat → Int) (m : Nat) : orF z (m + 1) = 0 ↔ (orF z m = 0 ∧ z m = 0) := by
  rw [orF]; split <;> omega
theorem cmp3_neg (x y : Int) : cmp3 x y < 0 ↔ x < y := by unfold cmp3; repeat' split
                                                          all_goals omega
theorem cmp3_nul (x y : Int) : cmp3 x y = 0 ↔ x = y := by unfold cmp3; repeat' split
                                                          all_goals omega

/-- Two lists compared, number by number. -/
def slc (f h : Nat → Int) (n1 n2 : Nat) : Nat → Int
  | 0 => if n1 < n2 then -1 else 0
  | d + 1 => if n2 ≤ n1 - (d + 1) then 1 else if cmp3 (f (n1 - (d + 1))) (h (n1 - (d + 1))) ≠ 0 then cmp3 (f (n1 - (d + 1))) (h (n1 - (d + 1))) else slc f h n1 n2 d
theorem slc_lx {f h : Nat → Int} {n : Nat} : ∀ d, d ≤ n → (∀ i, i < n - d → f i = h i) → (slc f h n n d < 0 ↔ Lx f h n) := by
  intro d
  induction d with
  | zero =>
    intro _ he
    rw [slc, if_neg (by omega)]
    exact ⟨fun hh => by omega, fun ⟨k, hk, h1, h2⟩ => by have := he k (by omega); omega⟩
  | succ d ih =>
    intro hd he
    obtain ⟨k, hk⟩ : ∃ k, n - (d + 1) = k := ⟨_, rfl⟩
    rw [slc, hk, if_neg (by omega)]
    rw [hk] at he
    have c1 := cmp3_neg (f k) (h k)
    have c2 := cmp3_nul (f k) (h k)
    by_cases e : f k = h k
    · rw [if_neg (by rw [ne_eq, Classical.not_not]; exact c2.2 e)]
      refine ih (by omega) (fun i hi => ?_)
      by_cases e' : i = k
      · rw [e', e]
      · exact he i (by omega)
    · rw [if_pos (fun hh => e (c2.1 hh)), c1]
      constructor
      · exact fun hh => ⟨k, by omega, he, hh⟩
      · rintro ⟨j, hj, h1, h2⟩
        rcases Nat.lt_trichotomy j k with x | x | x
        · have := he j x; omega
        · subst x; exact h2
        · exact absurd (h1 k x) e
set_option maxHeartbeats 4000000 in
theorem slCompare_any {w : World} {g1 g2 n1 n2 c1 c2 : Nat} {f h : Nat → Int} (h1 : Ints w g1 0 n1 f) (h2 : Ints w g2 0 n2 h) (hn1 : n1 ≤ 1000) (hn2 : n2 ≤ 1000) :
    Calls Try.prog 54 #[.slice (some ⟨g1, 0, none⟩) n1 c1, .slice (some ⟨g2, 0, none⟩) n2 c2] w fun e w' => e = .returned (.int .i64 (slc f h n1 n2 n1)) ∧ w = w' := by
  have hn1' : (n1 : Int) ≤ 1000 := by omega
  have hn2' : (n2 : Int) ≤ 1000 := by omega
  obtain ⟨R, hR⟩ : ∃ R, slc f h n1 n2 n1 = R := ⟨_, rfl⟩
  rw [hR]
  go_enter Try.func54, Try.ntmps54
  go_wp2
  go_loopw [11] (fun s wr => ∃ k : Nat, k ≤ n1 ∧ s = .int .i64 k ∧ slc f h n1 n2 (n1 - k) = R ∧ w = wr) (fun s _ => n1 - (intOf s).toNat)
  case atStart => exact ⟨0, Nat.zero_le _, rfl, hR, rfl⟩
  case round =>
    clear hR
    obtain ⟨k, hk, rfl, hR, rfl⟩ := hrel
    by_cases hlt : k < n1
    · have hlt' : (k : Int) < (n1 : Int) := by omega
      have a0 := h1 k hlt
      rw [Nat.zero_add] at a0
      rw [show n1 - k = n1 - (k + 1) + 1 by omega, slc, show n1 - (n1 - (k + 1) + 1) = k by omega] at hR
      by_cases hg : n2 ≤ k
      · have hg' : (n2 : Int) ≤ (k : Int) := by omega
        rw [if_pos hg] at hR
        subst hR
        go_wp2
        go_ret
        exact ⟨rfl, rfl⟩
      · have hg' : ¬ (n2 : Int) ≤ (k : Int) := by omega
        have hg2 : (k : Int) < (n2 : Int) := by omega
        have a1 := h2 k (by omega)
        rw [Nat.zero_add] at a1
        rw [if_neg hg] at hR
        obtain ⟨X, hX⟩ : ∃ X, cmp3 (f k) (h k) = X := ⟨_, rfl⟩
        rw [hX] at hR
        have HX : Hid (cmp3 (f k) (h k) = X) := hX
        clear hX
        by_cases e : X = 0
        · rw [if_neg (by simp [e])] at hR
          have HR : Hid (slc f h n1 n2 (n1 - (k + 1)) = R) := hR
          have e2 : (X != 0) = false := by simp [e]
          clear hR e
          go_wp2_with (go_at_call 60; refine (cmp_any _ _ _).mono ?_; rintro e w2 ⟨rfl, rfl⟩; rw [HX.out])
          exact ⟨⟨k + 1, by omega, by go_num, HR.out, by trivial⟩, by simp [intOf]; omega⟩
        · rw [if_pos e] at hR
          subst hR
          have e2 : (X != 0) = true := by simp [e]
          go_wp2_with (go_at_call 60; refine (cmp_any _ _ _).mono ?_; rintro e w2 ⟨rfl, rfl⟩; rw [HX.out])
          go_ret
          exact ⟨rfl, rfl⟩
    · have hlt' : ¬ (k : Int) < (n1 : Int) := by omega
      obtain rfl : n1 = k := by omega
      rw [Nat.sub_self, slc] at hR
      by_cases hg : n1 < n2
      · have hg' : (n1 : Int) < (n2 : Int) := by omega
        rw [if_pos hg] at hR
        subst hR
        go_wp2
        go_ret
        exact ⟨rfl, rfl⟩
      · have hg' : ¬ (n1 : Int) < (n2 : Int) := by omega
        rw [if_neg hg] at hR
        subst hR
        go_wp2
        go_ret
        exact ⟨rfl, rfl⟩
theorem plt_or (s t : List Nat) (z : Nat → Int) (h0 : cmp3 (s.length : Int) (t.length : Int) = z 0) (h1 : slc (fun i => (toI s).getD i 0) (fun i => (toI t).getD i 0) s.length t.length s.length = z 1) : orF z 2 < 0 ↔ plt s t := by
  have a1 : orF z 2 < 0 ↔ _ := orF_neg z 1
  have a2 : orF z 1 < 0 ↔ _ := orF_neg z 0
  have b1 : orF z 1 = 0 ↔ _ := orF_nul z 0
  have o : orF z 0 = 0 := rfl
  have c0 := cmp3_neg (s.length : Int) (t.length : Int)
  have d0 := cmp3_nul (s.length : Int) (t.length : Int)
  rw [h0] at c0 d0
  unfold plt
  by_cases e : s.length = t.length
  · have h2 : z 1 < 0 ↔ lxl s t := by
      rw [← h1, ← e, slc_lx _ (Nat.le_refl _) (fun i hi => by omega)]
      exact lx_lxl s t e
    rw [← h2]
    omega
  · constructor
    · intro hh; exact .inl (by omega)
    · rintro (hh | ⟨hh, -⟩)
      · omega
      · exact absurd hh e
set_option maxRecDepth 100000 in
set_option maxHeartbeats 4000000 in
theorem pBefore_any {w : World} {g1 g2 c1 c2 : Nat} {l1 l2 : List Nat} (s1 s2 : Int) (I1 : Ints w g1 0 l1.length (fun i => (toI l1).getD i 0)) (I2 : Ints w g2 0 l2.length (fun i => (toI l2).getD i 0)) (L1 : g1 < w.heap.size) (L2 : g2 < w.heap.size) (hn1 : l1.length ≤ 1000) (hn2 : l2.length ≤ 1000) :
    Calls Try.prog 39 #[.agg #[.slice (some ⟨g1, 0, none⟩) l1.length c1, .int .u64 s1], .agg #[.slice (some ⟨g2, 0, none⟩) l2.length c2, .int .u64 s2]] w fun e w' => e = .returned (.bool (pd (plt l1 l2))) ∧ Below w.heap.size w w' := by
  obtain ⟨z, z0, z1⟩ : ∃ z : Nat → Int, cmp3 (l1.length : Int) (l2.length : Int) = z 0 ∧ slc (fun i => (toI l1).getD i 0) (fun i => (toI l2).getD i 0) l1.length l2.length l1.length = z 1 := ⟨fun i => match i with | 0 => cmp3 (l1.length : Int) (l2.length : Int) | _ => slc (fun i => (toI l1).getD i 0) (fun i => (toI l2).getD i 0) l1.length l2.length l1.length, rfl, rfl⟩
  have HR := plt_or l1 l2 z z0 z1
  obtain ⟨D, hD⟩ : ∃ D, pd (plt l1 l2) = D := ⟨_, rfl⟩
  rw [hD]
  obtain ⟨R, hRR⟩ : ∃ R, orF z 2 = R := ⟨_, rfl⟩
  have hE : decide (R < 0) = D := by
    rw [← hD, ← hRR]
    by_cases h : plt l1 l2
    · rw [pd_yes h, decide_eq_true (HR.2 h)]
    · rw [pd_no h, decide_eq_false (fun hh => h (HR.1 hh))]
  clear hD HR
  generalize l1.length = n1 at *
  generalize l2.length = n2 at *
  have hn1' : (n1 : Int) ≤ 1000 := by omega
  have hn2' : (n2 : Int) ≤ 1000 := by omega
  obtain ⟨W, hW, b0, b1, bW, -⟩ := boxed2 w 56 56 #[.slice (some ⟨g1, 0, none⟩) n1 c1, .int .u64 s1] #[.slice (some ⟨g2, 0, none⟩) n2 c2, .int .u64 s2]
  go_enter Try.func39, Try.ntmps39
  go_wp2_with fail
  clear hW
  replace I1 := I1.below L1 bW
  replace I2 := I2.below L2 bW
  replace L1 := Nat.lt_of_lt_of_le L1 bW.size
  replace L2 := Nat.lt_of_lt_of_le L2 bW.size
  obtain ⟨q1, e1⟩ : ∃ z, w.heap.size = z := ⟨_, rfl⟩
  obtain ⟨q2, e2⟩ : ∃ z, q1 + 1 = z := ⟨_, rfl⟩
  have BW : Hid (Below w.heap.size w W) := bW
  rw [e1] at b0 b1 ⊢
  rw [e2] at b1 ⊢
  clear e1 e2
  obtain ⟨u0, hu0, bb⟩ : ∃ uu, W.drew = uu ∧ Below W.heap.size W uu := ⟨_, rfl, (Below.refl _ _).drew⟩
  replace b0 := b0.below bb
  replace b1 := b1.below bb
  replace I1 := I1.below L1 bb
  replace I2 := I2.below L2 bb
  replace L1 := Nat.lt_of_lt_of_le L1 bb.size
  replace L2 := Nat.lt_of_lt_of_le L2 bb.size
  replace bW := bW.trans (bb.mono bW.size)
  clear bb
  refine wp_region_held_drew (S := Kb u0) (by kernel_rfl) (by rw [hu0]; exact Below.refl _ _) (fun hHeld => ?_)
  rw [hu0] at hHeld ⊢
  clear hu0
  have bu : Kb u0 u0 := Below.refl _ _
  change wpAnyH _ _ _ _ _ 16 #[false, false, false, false, false, false, false, false, false, false, false, false, false, false, false, false] _ _
  refine wpAnyH_take (i := 0) (v := .pointer (some ⟨q1, 0, none⟩)) rfl (by kernel_rfl) (by kernel_rfl) (by kernel_rfl) (fun _ _ _ h => h) (Or.inl ⟨by kernel_rfl, ?_⟩) hHeld ?_
  · intro w' hSw; go_simp
  try simp only [Act.put, List.setIfInBounds_toArray, List.set_cons_zero, List.set_cons_succ, List.getElem_toArray, List.getElem_cons_zero]
  refine wpAnyH_take (i := 1) (v := .slice ((some ⟨g1, 0, none⟩)) n1 c1) rfl (by kernel_rfl) (by kernel_rfl) (by kernel_rfl) (fun _ _ _ h => h) (Or.inl ⟨by kernel_rfl, ?_⟩) hHeld ?_
  · intro w' hSw; obtain ⟨z0, z1, -⟩ := (b0.below hSw).open2; go_simp
  try simp only [Act.put, List.setIfInBounds_toArray, List.set_cons_zero, List.set_cons_succ, List.getElem_toArray, List.getElem_cons_succ, List.getElem_cons_zero]
  refine wpAnyH_take (i := 2) (v := .int .i64 ((n1 : Int))) rfl (by kernel_rfl) (by kernel_rfl) (by kernel_rfl) (fun _ _ _ h => h) (Or.inl ⟨by kernel_rfl, ?_⟩) hHeld ?_
  · intro w' hSw; go_simp
  try simp only [Act.put, List.setIfInBounds_toArray, List.set_cons_zero, List.set_cons_succ, List.getElem_toArray, List.getElem_cons_succ, List.getElem_cons_zero]
  refine wpAnyH_take (i := 3) (v := .pointer (some ⟨q2, 0, none⟩)) rfl (by kernel_rfl) (by kernel_rfl) (by kernel_rfl) (fun _ _ _ h => h) (Or.inl ⟨by kernel_rfl, ?_⟩) hHeld ?_
  · intro w' hSw; go_simp
  try simp only [Act.put, List.setIfInBounds_toArray, List.set_cons_zero, List.set_cons_succ, List.getElem_toArray, List.getElem_cons_succ, List.getElem_cons_zero]
  refine wpAnyH_take (i := 4) (v := .slice ((some ⟨g2, 0, none⟩)) n2 c2) rfl (by kernel_rfl) (by kernel_rfl) (by kernel_rfl) (fun _ _ _ h => h) (Or.inl ⟨by kernel_rfl, ?_⟩) hHeld ?_
  · intro w' hSw; obtain ⟨z0, z1, -⟩ := (b1.below hSw).open2; go_simp
  try simp only [Act.put, List.setIfInBounds_toArray, List.set_cons_zero, List.set_cons_succ, List.getElem_toArray, List.getElem_cons_succ, List.getElem_cons_zero]
  refine wpAnyH_take (i := 5) (v := .int .i64 ((n2 : Int))) rfl (by kernel_rfl) (by kernel_rfl) (by kernel_rfl) (fun _ _ _ h => h) (Or.inl ⟨by kernel_rfl, ?_⟩) hHeld ?_
  · intro w' hSw; go_simp
  try simp only [Act.put, List.setIfInBounds_toArray, List.set_cons_zero, List.set_cons_succ, List.getElem_toArray, List.getElem_cons_succ, List.getElem_cons_zero]
  refine wpAnyH_take (i := 7) (v := .pointer (some ⟨q1, 0, none⟩)) rfl (by kernel_rfl) (by kernel_rfl) (by kernel_rfl) (fun _ _ _ h => h) (Or.inl ⟨by kernel_rfl, ?_⟩) hHeld ?_
  · intro w' hSw; go_simp
  try simp only [Act.put, List.setIfInBounds_toArray, List.set_cons_zero, List.set_cons_succ, List.getElem_toArray, List.getElem_cons_succ, List.getElem_cons_zero]
  refine wpAnyH_take (i := 8) (v := .slice ((some ⟨g1, 0, none⟩)) n1 c1) rfl (by kernel_rfl) (by kernel_rfl) (by kernel_rfl) (fun _ _ _ h => h) (Or.inl ⟨by kernel_rfl, ?_⟩) hHeld ?_
  · intro w' hSw; obtain ⟨z0, z1, -⟩ := (b0.below hSw).open2; go_simp
  try simp only [Act.put, List.setIfInBounds_toArray, List.set_cons_zero, List.set_cons_succ, List.getElem_toArray, List.getElem_cons_succ, List.getElem_cons_zero]
  refine wpAnyH_take (i := 9) (v := .pointer (some ⟨q2, 0, none⟩)) rfl (by kernel_rfl) (by kernel_rfl) (by kernel_rfl) (fun _ _ _ h => h) (Or.inl ⟨by kernel_rfl, ?_⟩) hHeld ?_
  · intro w' hSw; go_simp
  try simp only [Act.put, List.setIfInBounds_toArray, List.set_cons_zero, List.set_cons_succ, List.getElem_toArray, List.getElem_cons_succ, List.getElem_cons_zero]
  refine wpAnyH_take (i := 10) (v := .slice ((some ⟨g2, 0, none⟩)) n2 c2) rfl (by kernel_rfl) (by kernel_rfl) (by kernel_rfl) (fun _ _ _ h => h) (Or.inl ⟨by kernel_rfl, ?_⟩) hHeld ?_
  · intro w' hSw; obtain ⟨z0, z1, -⟩ := (b1.below hSw).open2; go_simp
  try simp only [Act.put, List.setIfInBounds_toArray, List.set_cons_zero, List.set_cons_succ, List.getElem_toArray, List.getElem_cons_succ, List.getElem_cons_zero]
  refine wpAnyH_ready (rs := [6]) (by kernel_rfl) (by simp) ?_
  refine AllReadyH.cons rfl (fun KK hK' => ?_) AllReadyH.nil
  go_simp
  refine (cmpI_any n1 n2 _).mono ?_
  rintro e u1 ⟨rfl, hh⟩
  rw [z0]
  replace bu : Kb u0 u1 := by rw [← hh]; exact bu
  clear hh
  try go_wp2_with fail
  clear hHeld
  refine hK'.out _ _ (bu) (fun hHeld => ?_)
  clear hK' KK
  try simp only [List.setIfInBounds_toArray, List.set_cons_zero, List.set_cons_succ]
  refine wpAnyH_ready (rs := [11]) (by kernel_rfl) (by simp) ?_
  refine AllReadyH.cons rfl (fun KK hK' => ?_) AllReadyH.nil
  go_simp
  refine (slCompare_any (I1.below L1 bu) (I2.below L2 bu) hn1 hn2).mono ?_
  rintro e u2 ⟨rfl, hh⟩
  rw [z1]
  replace bu : Kb u0 u2 := by rw [← hh]; exact bu
  clear hh
  try go_wp2_with fail
  clear hHeld
  refine hK'.out _ _ (bu) (fun hHeld => ?_)
  clear hK' KK
  try simp only [List.setIfInBounds_toArray, List.set_cons_zero, List.set_cons_succ]
  refine wpAnyH_ready (rs := [12]) (by kernel_rfl) (by simp) ?_
  refine AllReadyH.cons rfl (fun KK hK' => ?_) AllReadyH.nil
  go_simp
  obtain ⟨UU, hUU, aU, bb, -⟩ := boxed u2 3 #[.int .i64 (z 0), .int .i64 (z 1)]
  rw [hUU]
  have bs : u2.heap.size < UU.heap.size := aU.lt
  replace bu : Kb u0 UU := bu.trans (bb.mono bu.size)
  clear bb hUU
  clear hHeld
  refine hK'.out _ _ (bu) (fun hHeld => ?_)
  clear hK' KK
  try simp only [List.setIfInBounds_toArray, List.set_cons_zero, List.set_cons_succ]
  refine wpAnyH_ready (rs := [13]) (by kernel_rfl) (by simp) ?_
  refine AllReadyH.cons rfl (fun KK hK' => ?_) AllReadyH.nil
  go_simp
  refine (or_any z (fun i hi => by rcases (by omega : i = 0 ∨ i = 1) with rfl | rfl; exact aU.cell 0 rfl; exact aU.cell 1 rfl) bs (by omega)).mono ?_
  rintro e u4 ⟨rfl, hh⟩
  rw [hRR]
  replace bu : Kb u0 u4 := by rw [← hh]; exact bu
  clear hh aU bs
  try go_wp2_with fail
  clear hHeld
  refine hK'.out _ _ (bu) (fun hHeld => ?_)
  clear hK' KK
  try simp only [List.setIfInBounds_toArray, List.set_cons_zero, List.set_cons_succ]
  refine wpAnyH_take (i := 14) (v := .bool D) rfl (by kernel_rfl) (by kernel_rfl) (by kernel_rfl) (fun _ _ _ h => h) (Or.inl ⟨by kernel_rfl, ?_⟩) hHeld ?_
  · intro w' hSw; go_simp
  try simp only [Act.put, List.setIfInBounds_toArray, List.set_cons_zero, List.set_cons_succ, List.getElem_toArray, List.getElem_cons_succ, List.getElem_cons_zero]
  refine wpAnyH_take (i := 15) (v := .bool D) rfl (by kernel_rfl) (by kernel_rfl) (by kernel_rfl) (fun _ _ _ h => h) (Or.inl ⟨by kernel_rfl, ?_⟩) hHeld ?_
  · intro w' hSw; go_simp
  try simp only [Act.put, List.setIfInBounds_toArray, List.set_cons_zero, List.set_cons_succ, List.getElem_toArray, List.getElem_cons_succ, List.getElem_cons_zero]
  refine wpAnyH_done (by kernel_rfl) ?_ _
  clear hHeld
  go_wp2
  go_ret
  exact ⟨by simp, bW.trans (bu.mono bW.size)⟩
end Go.Proofs.Ytcpeaenophaphaa
