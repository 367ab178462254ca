/-
  Sums of frames: the numbers; areAlike, add and limit by the program, walked.
-/
import Derived.Test.YtlofbgkefalpoaaUb
import Derived.Test.YtlofbgkefalpoaaVe
namespace Go.Proofs.Ytlofbgkefalpoaa
open Go.RowKit

/-- Which lists of frames may be added. -/
def alk (N : Nat) (W H : Nat → Int) (n : Nat → Nat) (f : Nat → Nat → Int) : Prop := 1 ≤ N ∧ N ≤ 100 ∧ ∀ i, i < N → frOk (W i) (H i) (n i) (f i) ∧ W i = W 0 ∧ H i = H 0
theorem alk.len {N : Nat} {W H : Nat → Int} {n : Nat → Nat} {f : Nat → Nat → Int} (h : alk N W H n f) {i : Nat} (hi : i < N) : n i = n 0 := by
  obtain ⟨⟨-, -, e1, -⟩, e2, e3⟩ := h.2.2 i hi
  obtain ⟨⟨-, -, e4, -⟩, -, -⟩ := h.2.2 0 (by omega)
  rw [e2, e3, ← e4] at e1
  omega
/-- The sum of a pixel in the first k frames. -/
def sm (f : Nat → Nat → Int) : Nat → Nat → Int
  | 0, _ => 0
  | k + 1, i => sm f k i + f k i
theorem sm_le {f : Nat → Nat → Int} {N i : Nat} (h : ∀ j, j < N → 0 ≤ f j i ∧ f j i ≤ 65535) {k : Nat} (hk : k ≤ N) : 0 ≤ sm f k i ∧ sm f k i ≤ 65535 * k := by
  induction k with
  | zero => simp [sm]
  | succ k ih =>
    have := ih (by omega)
    have := h k (by omega)
    simp only [sm]
    omega
def mn (x : Int) : Int := if 65535 < x then 65535 else x
theorem mn_lo {x : Int} (h : ¬ 65535 < x) : mn x = x := if_neg h
theorem mn_hi {x : Int} (h : 65535 < x) : mn x = 65535 := if_pos h
theorem mn_le {x : Int} (h : 0 ≤ x) : 0 ≤ mn x ∧ mn x ≤ x ∧ mn x ≤ 65535 := by
  unfold mn; split <;> omega
/-- What the first k pixels lose. -/
def ls (f : Nat → Int) : Nat → Int
  | 0 => 0
  | k + 1 => ls f k + (f k - mn (f k))
theorem ls_le {f : Nat → Int} {M : Nat} (h : ∀ i, i < M → 0 ≤ f i ∧ f i ≤ 10000000) {k : Nat} (hk : k ≤ M) : 0 ≤ ls f k ∧ ls f k ≤ 10000000 * k := by
  induction k with
  | zero => simp [ls]
  | succ k ih =>
    have := ih (by omega)
    have := h k (by omega)
    have := mn_le (x := f k) (by omega)
    simp only [ls]
    omega
theorem Own.put {w : World} {g n q : Nat} {f : Nat → Int} (h : Own w g n f) (hq : q < n) (x : Int) : Own (w.setCell ⟨g, q, none⟩ (.int .i64 x)) g n (fun i => if i = q then x else f i) := by
  obtain ⟨cur, h1, h2, h3⟩ := h
  refine ⟨_, h1.set q _, by simpa using h2, fun i hi => ?_⟩
  by_cases e : i = q
  · subst e
    have l0 : i < cur.size := by omega
    simp [l0]
  · have := h3 i hi
    rw [Array.getElem?_setIfInBounds, if_neg (by omega)]
    simp only [if_neg e]
    exact this
theorem Own.congr {w : World} {g n : Nat} {f h : Nat → Int} (o : Own w g n f) (e : ∀ i, i < n → f i = h i) : Own w g n h := by
  obtain ⟨cur, h1, h2, h3⟩ := o
  exact ⟨cur, h1, h2, fun i hi => by rw [← e i hi]; exact h3 i hi⟩
theorem Own.turn {w w' : World} {g n lo hi : Nat} {f : Nat → Int} (o : Own w g n f) (ht : Turn lo hi w w') (hd : g < lo ∨ hi ≤ g) : Own w' g n f := by
  obtain ⟨cur, h1, h2⟩ := o
  exact ⟨cur, h1.turn ht hd, h2⟩
/-- What areAlike ends in. -/
def AlP (N : Nat) (W H : Nat → Int) (n : Nat → Nat) (f : Nat → Nat → Int) (w : World) (e : Ending) (w' : World) : Prop := ∃ b : Bool, e = .returned (.bool b) ∧ (b = true ↔ alk N W H n f) ∧ Below w.heap.size w w'
set_option maxRecDepth 100000 in
set_option maxHeartbeats 4000000 in
theorem areAlike_any {w : World} {g N cq : Nat} {a : Nat → Option Addr} {c : Nat → Nat} {W H : Nat → Int} {n : Nat → Nat} {f : Nat → Nat → Int} (hF : Fri w g 0 N a c W H n f) (hN : N ≤ 1048576) (hn : ∀ i, i < N → n i ≤ 1048576) :
    Calls Try.prog 36 #[.slice (some ⟨g, 0, none⟩) N cq] w (AlP N W H n f w) := by
  have hn' : (N : Int) ≤ 1048576 := by omega
  by_cases q1 : N < 1
  · have q1' : (N : Int) < 1 := by omega
    go_enter Try.func36, Try.ntmps36
    go_wp2
    go_ret
    exact ⟨false, rfl, ⟨fun h => (by cases h), fun h => by have := h.1; omega⟩, Below.refl _ _⟩
  have q1' : ¬ (N : Int) < 1 := by omega
  by_cases q2 : 100 < N
  · have q2' : (100 : Int) < (N : Int) := by omega
    go_enter Try.func36, Try.ntmps36
    go_wp2
    go_ret
    exact ⟨false, rfl, ⟨fun h => (by cases h), fun h => by have := h.2.1; omega⟩, Below.refl _ _⟩
  have q2' : ¬ (100 : Int) < (N : Int) := by omega
  have hN0 : 0 < N := by omega
  go_enter Try.func36, Try.ntmps36
  go_wp2
  go_loopw [15] (fun s wr => ∃ k : Nat, k ≤ N ∧ s = .int .i64 k ∧ (∀ i, i < k → frOk (W i) (H i) (n i) (f i) ∧ W i = W 0 ∧ H i = H 0) ∧ Below w.heap.size w wr) (fun s _ => N - (intOf s).toNat)
  case atStart => exact ⟨0, Nat.zero_le _, rfl, fun i hi => absurd hi (Nat.not_lt_zero _), Below.refl _ _⟩
  case round =>
    obtain ⟨k, hk, rfl, hall, bW⟩ := hrel
    have HA : Hid (∀ i, i < k → frOk (W i) (H i) (n i) (f i) ∧ W i = W 0 ∧ H i = H 0) := hall
    clear hall
    by_cases hlt : k < N
    · have hlt' : (k : Int) < (N : Int) := by omega
      have F := hF.below bW
      have hnk := hn k hlt
      obtain ⟨c0, c1, c2⟩ := F.open hlt
      obtain ⟨V, hV, b0, bb, -⟩ := boxed wr 28 #[.int .i64 (W k), .int .i64 (H k), .slice (a k) (n k) (c k)]
      replace F := F.below bb
      replace bW := bW.trans (bb.mono bW.size)
      clear bb hF
      go_wp2_with fail
      clear c0 c1 c2 hV
      rcases hfr : frB (W k) (H k) (n k) (f k) with _ | _
      · have hno := frB_not hfr
        obtain ⟨u0, hu0, bb⟩ : ∃ uu, V.drew = uu ∧ Below V.heap.size V uu := ⟨_, rfl, (Below.refl _ _).drew⟩
        replace b0 := b0.below bb
        replace F := F.below bb
        replace bW := bW.trans (bb.mono bW.size)
        clear bb
        refine wp_region_held_drew (S := Kb u0) (by kernel_rfl) (by rw [hu0]; exact Below.refl _ _) (fun hHeld => ?_)
        rw [hu0] at hHeld ⊢
        clear hu0
        have bu : Kb u0 u0 := Below.refl _ _
        change wpAnyH _ _ _ _ _ 14 #[false, false, false, false, false, false, false, false, false, false, false, false, false, false] _ _
        refine wpAnyH_take (i := 0) (v := .agg #[.int .i64 (W k), .int .i64 (H k), .slice ((a k)) ((n k)) ((c k))]) rfl (by kernel_rfl) (by kernel_rfl) (by kernel_rfl) (fun _ _ _ h => h) (Or.inl ⟨by kernel_rfl, ?_⟩) hHeld ?_
        · intro w' hSw; obtain ⟨z0, z1, z2, -⟩ := (b0.below hSw).open3; go_simp
        try simp only [Act.put, List.setIfInBounds_toArray, List.set_cons_zero, List.set_cons_succ, List.getElem_toArray, List.getElem_cons_zero]
        refine wpAnyH_ready (rs := [1]) (by kernel_rfl) (by simp) ?_
        refine AllReadyH.cons rfl (fun KK hK' => ?_) AllReadyH.nil
        go_simp
        refine (implFrameOk_any (W k) (H k) ((F.below bu).src k hlt) hnk).mono ?_
        rintro e u1 ⟨rfl, bb⟩
        rw [hfr]
        replace bu : Kb u0 u1 := bu.trans (bb.mono bu.size)
        clear bb
        try go_wp2_with fail
        clear hHeld
        refine hK'.out _ _ (bu) (fun hHeld => ?_)
        clear hK' KK
        try simp only [List.setIfInBounds_toArray, List.set_cons_zero, List.set_cons_succ]
        refine wpAnyH_take (i := 2) (v := .bool true) rfl (by kernel_rfl) (by kernel_rfl) (by kernel_rfl) (fun _ _ _ h => h) (Or.inl ⟨by kernel_rfl, ?_⟩) hHeld ?_
        · intro w' hSw; go_simp
        try simp only [Act.put, List.setIfInBounds_toArray, List.set_cons_zero, List.set_cons_succ, List.getElem_toArray, List.getElem_cons_succ, List.getElem_cons_zero]
        refine wpAnyH_take (i := 3) (v := .bool true) rfl (by kernel_rfl) (by kernel_rfl) (by kernel_rfl) (fun _ _ _ h => h) (Or.inl ⟨by kernel_rfl, ?_⟩) hHeld ?_
        · intro w' hSw; go_simp
        try simp only [Act.put, List.setIfInBounds_toArray, List.set_cons_zero, List.set_cons_succ, List.getElem_toArray, List.getElem_cons_succ, List.getElem_cons_zero]
        refine wpAnyH_take (i := 4) (v := undef) rfl (by kernel_rfl) (by kernel_rfl) (by kernel_rfl) (fun _ _ _ h => h) (Or.inr ⟨by kernel_rfl, rfl⟩) hHeld ?_
        try simp only [Act.put, List.setIfInBounds_toArray, List.set_cons_zero, List.set_cons_succ, List.getElem_toArray, List.getElem_cons_succ, List.getElem_cons_zero]
        refine wpAnyH_take (i := 5) (v := undef) rfl (by kernel_rfl) (by kernel_rfl) (by kernel_rfl) (fun _ _ _ h => h) (Or.inr ⟨by kernel_rfl, rfl⟩) hHeld ?_
        try simp only [Act.put, List.setIfInBounds_toArray, List.set_cons_zero, List.set_cons_succ, List.getElem_toArray, List.getElem_cons_succ, List.getElem_cons_zero]
        refine wpAnyH_take (i := 6) (v := undef) rfl (by kernel_rfl) (by kernel_rfl) (by kernel_rfl) (fun _ _ _ h => h) (Or.inr ⟨by kernel_rfl, rfl⟩) hHeld ?_
        try simp only [Act.put, List.setIfInBounds_toArray, List.set_cons_zero, List.set_cons_succ, List.getElem_toArray, List.getElem_cons_succ, List.getElem_cons_zero]
        refine wpAnyH_take (i := 7) (v := undef) rfl (by kernel_rfl) (by kernel_rfl) (by kernel_rfl) (fun _ _ _ h => h) (Or.inr ⟨by kernel_rfl, rfl⟩) hHeld ?_
        try simp only [Act.put, List.setIfInBounds_toArray, List.set_cons_zero, List.set_cons_succ, List.getElem_toArray, List.getElem_cons_succ, List.getElem_cons_zero]
        refine wpAnyH_take (i := 8) (v := undef) rfl (by kernel_rfl) (by kernel_rfl) (by kernel_rfl) (fun _ _ _ h => h) (Or.inr ⟨by kernel_rfl, rfl⟩) hHeld ?_
        try simp only [Act.put, List.setIfInBounds_toArray, List.set_cons_zero, List.set_cons_succ, List.getElem_toArray, List.getElem_cons_succ, List.getElem_cons_zero]
        refine wpAnyH_take (i := 9) (v := undef) rfl (by kernel_rfl) (by kernel_rfl) (by kernel_rfl) (fun _ _ _ h => h) (Or.inr ⟨by kernel_rfl, rfl⟩) hHeld ?_
        try simp only [Act.put, List.setIfInBounds_toArray, List.set_cons_zero, List.set_cons_succ, List.getElem_toArray, List.getElem_cons_succ, List.getElem_cons_zero]
        refine wpAnyH_take (i := 10) (v := undef) rfl (by kernel_rfl) (by kernel_rfl) (by kernel_rfl) (fun _ _ _ h => h) (Or.inr ⟨by kernel_rfl, rfl⟩) hHeld ?_
        try simp only [Act.put, List.setIfInBounds_toArray, List.set_cons_zero, List.set_cons_succ, List.getElem_toArray, List.getElem_cons_succ, List.getElem_cons_zero]
        refine wpAnyH_take (i := 11) (v := undef) rfl (by kernel_rfl) (by kernel_rfl) (by kernel_rfl) (fun _ _ _ h => h) (Or.inr ⟨by kernel_rfl, rfl⟩) hHeld ?_
        try simp only [Act.put, List.setIfInBounds_toArray, List.set_cons_zero, List.set_cons_succ, List.getElem_toArray, List.getElem_cons_succ, List.getElem_cons_zero]
        refine wpAnyH_take (i := 12) (v := undef) rfl (by kernel_rfl) (by kernel_rfl) (by kernel_rfl) (fun _ _ _ h => h) (Or.inr ⟨by kernel_rfl, rfl⟩) hHeld ?_
        try simp only [Act.put, List.setIfInBounds_toArray, List.set_cons_zero, List.set_cons_succ, List.getElem_toArray, List.getElem_cons_succ, List.getElem_cons_zero]
        refine wpAnyH_take (i := 13) (v := .bool true) rfl (by kernel_rfl) (by kernel_rfl) (by kernel_rfl) (fun _ _ _ h => h) (Or.inl ⟨by kernel_rfl, ?_⟩) hHeld ?_
        · intro w' hSw; go_simp
        try simp only [Act.put, List.setIfInBounds_toArray, List.set_cons_zero, List.set_cons_succ, List.getElem_toArray, List.getElem_cons_succ, List.getElem_cons_zero]
        refine wpAnyH_done (by kernel_rfl) ?_ _
        clear hHeld
        go_wp2
        go_ret
        exact ⟨false, rfl, ⟨fun h => (by cases h), fun h => absurd (h.2.2 k hlt).1 hno⟩, bW.trans (bu.mono bW.size)⟩
      · have hok : Hid (frOk (W k) (H k) (n k) (f k)) := frB_of hfr
        by_cases hsm : W k = W 0 ∧ H k = H 0
        · have HW : Hid (W k = W 0) := hsm.1
          have HH : Hid (H k = H 0) := hsm.2
          clear hsm
          obtain ⟨u0, hu0, bb⟩ : ∃ uu, V.drew = uu ∧ Below V.heap.size V uu := ⟨_, rfl, (Below.refl _ _).drew⟩
          replace b0 := b0.below bb
          replace F := F.below bb
          replace bW := bW.trans (bb.mono bW.size)
          clear bb
          refine wp_region_held_drew (S := Kb u0) (by kernel_rfl) (by rw [hu0]; exact Below.refl _ _) (fun hHeld => ?_)
          rw [hu0] at hHeld ⊢
          clear hu0
          have bu : Kb u0 u0 := Below.refl _ _
          change wpAnyH _ _ _ _ _ 14 #[false, false, false, false, false, false, false, false, false, false, false, false, false, false] _ _
          refine wpAnyH_take (i := 0) (v := .agg #[.int .i64 (W k), .int .i64 (H k), .slice ((a k)) ((n k)) ((c k))]) rfl (by kernel_rfl) (by kernel_rfl) (by kernel_rfl) (fun _ _ _ h => h) (Or.inl ⟨by kernel_rfl, ?_⟩) hHeld ?_
          · intro w' hSw; obtain ⟨z0, z1, z2, -⟩ := (b0.below hSw).open3; go_simp
          try simp only [Act.put, List.setIfInBounds_toArray, List.set_cons_zero, List.set_cons_succ, List.getElem_toArray, List.getElem_cons_zero]
          refine wpAnyH_ready (rs := [1]) (by kernel_rfl) (by simp) ?_
          refine AllReadyH.cons rfl (fun KK hK' => ?_) AllReadyH.nil
          go_simp
          refine (implFrameOk_any (W k) (H k) ((F.below bu).src k hlt) hnk).mono ?_
          rintro e u1 ⟨rfl, bb⟩
          rw [hfr]
          replace bu : Kb u0 u1 := bu.trans (bb.mono bu.size)
          clear bb
          try go_wp2_with fail
          clear hHeld
          refine hK'.out _ _ (bu) (fun hHeld => ?_)
          clear hK' KK
          try simp only [List.setIfInBounds_toArray, List.set_cons_zero, List.set_cons_succ]
          refine wpAnyH_take (i := 2) (v := .bool false) rfl (by kernel_rfl) (by kernel_rfl) (by kernel_rfl) (fun _ _ _ h => h) (Or.inl ⟨by kernel_rfl, ?_⟩) hHeld ?_
          · intro w' hSw; go_simp
          try simp only [Act.put, List.setIfInBounds_toArray, List.set_cons_zero, List.set_cons_succ, List.getElem_toArray, List.getElem_cons_succ, List.getElem_cons_zero]
          refine wpAnyH_take (i := 3) (v := .bool false) rfl (by kernel_rfl) (by kernel_rfl) (by kernel_rfl) (fun _ _ _ h => h) (Or.inl ⟨by kernel_rfl, ?_⟩) hHeld ?_
          · intro w' hSw; go_simp
          try simp only [Act.put, List.setIfInBounds_toArray, List.set_cons_zero, List.set_cons_succ, List.getElem_toArray, List.getElem_cons_succ, List.getElem_cons_zero]
          refine wpAnyH_take (i := 4) (v := .agg #[.int .i64 (W k), .int .i64 (H k), .slice ((a k)) ((n k)) ((c k))]) rfl (by kernel_rfl) (by kernel_rfl) (by kernel_rfl) (fun _ _ _ h => h) (Or.inl ⟨by kernel_rfl, ?_⟩) hHeld ?_
          · intro w' hSw; obtain ⟨z0, z1, z2, -⟩ := (b0.below hSw).open3; go_simp
          try simp only [Act.put, List.setIfInBounds_toArray, List.set_cons_zero, List.set_cons_succ, List.getElem_toArray, List.getElem_cons_succ, List.getElem_cons_zero]
          refine wpAnyH_take (i := 7) (v := .slice ((some ⟨g, 0, none⟩)) N cq) rfl (by kernel_rfl) (by kernel_rfl) (by kernel_rfl) (fun _ _ _ h => h) (Or.inl ⟨by kernel_rfl, ?_⟩) hHeld ?_
          · intro w' hSw; go_simp
          try simp only [Act.put, List.setIfInBounds_toArray, List.set_cons_zero, List.set_cons_succ, List.getElem_toArray, List.getElem_cons_succ, List.getElem_cons_zero]
          refine wpAnyH_take (i := 8) (v := .pointer (some ⟨g, 0, none⟩)) rfl (by kernel_rfl) (by kernel_rfl) (by kernel_rfl) (fun _ _ _ h => h) (Or.inl ⟨by kernel_rfl, ?_⟩) hHeld ?_
          · intro w' hSw; go_simp
          try simp only [Act.put, List.setIfInBounds_toArray, List.set_cons_zero, List.set_cons_succ, List.getElem_toArray, List.getElem_cons_succ, List.getElem_cons_zero]
          refine wpAnyH_take (i := 9) (v := .agg #[.int .i64 (W 0), .int .i64 (H 0), .slice ((a 0)) ((n 0)) ((c 0))]) rfl (by kernel_rfl) (by kernel_rfl) (by kernel_rfl) (fun _ _ _ h => h) (Or.inl ⟨by kernel_rfl, ?_⟩) hHeld ?_
          · intro w' hSw; obtain ⟨z0, z1, z2⟩ := (F.below hSw).open hN0; simp only [Nat.zero_mul, Nat.zero_add] at z0 z1 z2; go_simp
          try simp only [Act.put, List.setIfInBounds_toArray, List.set_cons_zero, List.set_cons_succ, List.getElem_toArray, List.getElem_cons_succ, List.getElem_cons_zero]
          refine wpAnyH_ready (rs := [5]) (by kernel_rfl) (by simp) ?_
          refine AllReadyH.cons rfl (fun KK hK' => ?_) AllReadyH.nil
          go_simp
          refine (detectorOf_any (W k) (H k) (a k) (n k) (c k) _).mono ?_
          rintro e u2 ⟨rfl, bb⟩
          replace bu : Kb u0 u2 := bu.trans (bb.mono bu.size)
          clear bb
          try go_wp2_with fail
          clear hHeld
          refine hK'.out _ _ (bu) (fun hHeld => ?_)
          clear hK' KK
          try simp only [List.setIfInBounds_toArray, List.set_cons_zero, List.set_cons_succ]
          refine wpAnyH_take (i := 6) (v := .agg #[.int .i64 (W 0), .int .i64 (H 0)]) rfl (by kernel_rfl) (by kernel_rfl) (by kernel_rfl) (fun _ _ _ h => h) (Or.inl ⟨by kernel_rfl, ?_⟩) hHeld ?_
          · intro w' hSw; rw [HW.out, HH.out]; first | rfl | kernel_rfl
          try simp only [Act.put, List.setIfInBounds_toArray, List.set_cons_zero, List.set_cons_succ, List.getElem_toArray, List.getElem_cons_succ, List.getElem_cons_zero]
          refine wpAnyH_ready (rs := [10]) (by kernel_rfl) (by simp) ?_
          refine AllReadyH.cons rfl (fun KK hK' => ?_) AllReadyH.nil
          go_simp
          refine (detectorOf_any (W 0) (H 0) (a 0) (n 0) (c 0) _).mono ?_
          rintro e u3 ⟨rfl, bb⟩
          replace bu : Kb u0 u3 := bu.trans (bb.mono bu.size)
          clear bb
          try go_wp2_with fail
          clear hHeld
          refine hK'.out _ _ (bu) (fun hHeld => ?_)
          clear hK' KK
          try simp only [List.setIfInBounds_toArray, List.set_cons_zero, List.set_cons_succ]
          refine wpAnyH_take (i := 11) (v := .agg #[.int .i64 (W 0), .int .i64 (H 0)]) rfl (by kernel_rfl) (by kernel_rfl) (by kernel_rfl) (fun _ _ _ h => h) (Or.inl ⟨by kernel_rfl, ?_⟩) hHeld ?_
          · intro w' hSw; first | rfl | kernel_rfl
          try simp only [Act.put, List.setIfInBounds_toArray, List.set_cons_zero, List.set_cons_succ, List.getElem_toArray, List.getElem_cons_succ, List.getElem_cons_zero]
          refine wpAnyH_take (i := 12) (v := .bool false) rfl (by kernel_rfl) (by kernel_rfl) (by kernel_rfl) (fun _ _ _ h => h) (Or.inl ⟨by kernel_rfl, ?_⟩) hHeld ?_
          · intro w' hSw; go_simp
          try simp only [Act.put, List.setIfInBounds_toArray, List.set_cons_zero, List.set_cons_succ, List.getElem_toArray, List.getElem_cons_succ, List.getElem_cons_zero]
          refine wpAnyH_take (i := 13) (v := .bool false) rfl (by kernel_rfl) (by kernel_rfl) (by kernel_rfl) (fun _ _ _ h => h) (Or.inl ⟨by kernel_rfl, ?_⟩) hHeld ?_
          · intro w' hSw; go_simp
          try simp only [Act.put, List.setIfInBounds_toArray, List.set_cons_zero, List.set_cons_succ, List.getElem_toArray, List.getElem_cons_succ, List.getElem_cons_zero]
          refine wpAnyH_done (by kernel_rfl) ?_ _
          clear hHeld
          go_wp2
          refine ⟨⟨k + 1, by omega, by go_num, fun i hi => ?_, bW.trans (bu.mono bW.size)⟩, by simp [intOf]; omega⟩
          by_cases e : i = k
          · subst e; exact ⟨hok.out, HW.out, HH.out⟩
          · exact HA.out i (by omega)
        · have HW : Hid (¬ (W k = W 0 ∧ H k = H 0)) := hsm
          clear hsm
          obtain ⟨u0, hu0, bb⟩ : ∃ uu, V.drew = uu ∧ Below V.heap.size V uu := ⟨_, rfl, (Below.refl _ _).drew⟩
          replace b0 := b0.below bb
          replace F := F.below bb
          replace bW := bW.trans (bb.mono bW.size)
          clear bb
          refine wp_region_held_drew (S := Kb u0) (by kernel_rfl) (by rw [hu0]; exact Below.refl _ _) (fun hHeld => ?_)
          rw [hu0] at hHeld ⊢
          clear hu0
          have bu : Kb u0 u0 := Below.refl _ _
          change wpAnyH _ _ _ _ _ 14 #[false, false, false, false, false, false, false, false, false, false, false, false, false, false] _ _
          refine wpAnyH_take (i := 0) (v := .agg #[.int .i64 (W k), .int .i64 (H k), .slice ((a k)) ((n k)) ((c k))]) rfl (by kernel_rfl) (by kernel_rfl) (by kernel_rfl) (fun _ _ _ h => h) (Or.inl ⟨by kernel_rfl, ?_⟩) hHeld ?_
          · intro w' hSw; obtain ⟨z0, z1, z2, -⟩ := (b0.below hSw).open3; go_simp
          try simp only [Act.put, List.setIfInBounds_toArray, List.set_cons_zero, List.set_cons_succ, List.getElem_toArray, List.getElem_cons_zero]
          refine wpAnyH_ready (rs := [1]) (by kernel_rfl) (by simp) ?_
          refine AllReadyH.cons rfl (fun KK hK' => ?_) AllReadyH.nil
          go_simp
          refine (implFrameOk_any (W k) (H k) ((F.below bu).src k hlt) hnk).mono ?_
          rintro e u1 ⟨rfl, bb⟩
          rw [hfr]
          replace bu : Kb u0 u1 := bu.trans (bb.mono bu.size)
          clear bb
          try go_wp2_with fail
          clear hHeld
          refine hK'.out _ _ (bu) (fun hHeld => ?_)
          clear hK' KK
          try simp only [List.setIfInBounds_toArray, List.set_cons_zero, List.set_cons_succ]
          refine wpAnyH_take (i := 2) (v := .bool false) rfl (by kernel_rfl) (by kernel_rfl) (by kernel_rfl) (fun _ _ _ h => h) (Or.inl ⟨by kernel_rfl, ?_⟩) hHeld ?_
          · intro w' hSw; go_simp
          try simp only [Act.put, List.setIfInBounds_toArray, List.set_cons_zero, List.set_cons_succ, List.getElem_toArray, List.getElem_cons_succ, List.getElem_cons_zero]
          refine wpAnyH_take (i := 3) (v := .bool false) rfl (by kernel_rfl) (by kernel_rfl) (by kernel_rfl) (fun _ _ _ h => h) (Or.inl ⟨by kernel_rfl, ?_⟩) hHeld ?_
          · intro w' hSw; go_simp
          try simp only [Act.put, List.setIfInBounds_toArray, List.set_cons_zero, List.set_cons_succ, List.getElem_toArray, List.getElem_cons_succ, List.getElem_cons_zero]
          refine wpAnyH_take (i := 4) (v := .agg #[.int .i64 (W k), .int .i64 (H k), .slice ((a k)) ((n k)) ((c k))]) rfl (by kernel_rfl) (by kernel_rfl) (by kernel_rfl) (fun _ _ _ h => h) (Or.inl ⟨by kernel_rfl, ?_⟩) hHeld ?_
          · intro w' hSw; obtain ⟨z0, z1, z2, -⟩ := (b0.below hSw).open3; go_simp
          try simp only [Act.put, List.setIfInBounds_toArray, List.set_cons_zero, List.set_cons_succ, List.getElem_toArray, List.getElem_cons_succ, List.getElem_cons_zero]
          refine wpAnyH_take (i := 7) (v := .slice ((some ⟨g, 0, none⟩)) N cq) rfl (by kernel_rfl) (by kernel_rfl) (by kernel_rfl) (fun _ _ _ h => h) (Or.inl ⟨by kernel_rfl, ?_⟩) hHeld ?_
          · intro w' hSw; go_simp
          try simp only [Act.put, List.setIfInBounds_toArray, List.set_cons_zero, List.set_cons_succ, List.getElem_toArray, List.getElem_cons_succ, List.getElem_cons_zero]
          refine wpAnyH_take (i := 8) (v := .pointer (some ⟨g, 0, none⟩)) rfl (by kernel_rfl) (by kernel_rfl) (by kernel_rfl) (fun _ _ _ h => h) (Or.inl ⟨by kernel_rfl, ?_⟩) hHeld ?_
          · intro w' hSw; go_simp
          try simp only [Act.put, List.setIfInBounds_toArray, List.set_cons_zero, List.set_cons_succ, List.getElem_toArray, List.getElem_cons_succ, List.getElem_cons_zero]
          refine wpAnyH_take (i := 9) (v := .agg #[.int .i64 (W 0), .int .i64 (H 0), .slice ((a 0)) ((n 0)) ((c 0))]) rfl (by kernel_rfl) (by kernel_rfl) (by kernel_rfl) (fun _ _ _ h => h) (Or.inl ⟨by kernel_rfl, ?_⟩) hHeld ?_
          · intro w' hSw; obtain ⟨z0, z1, z2⟩ := (F.below hSw).open hN0; simp only [Nat.zero_mul, Nat.zero_add] at z0 z1 z2; go_simp
          try simp only [Act.put, List.setIfInBounds_toArray, List.set_cons_zero, List.set_cons_succ, List.getElem_toArray, List.getElem_cons_succ, List.getElem_cons_zero]
          refine wpAnyH_ready (rs := [5]) (by kernel_rfl) (by simp) ?_
          refine AllReadyH.cons rfl (fun KK hK' => ?_) AllReadyH.nil
          go_simp
          refine (detectorOf_any (W k) (H k) (a k) (n k) (c k) _).mono ?_
          rintro e u2 ⟨rfl, bb⟩
          replace bu : Kb u0 u2 := bu.trans (bb.mono bu.size)
          clear bb
          try go_wp2_with fail
          clear hHeld
          refine hK'.out _ _ (bu) (fun hHeld => ?_)
          clear hK' KK
          try simp only [List.setIfInBounds_toArray, List.set_cons_zero, List.set_cons_succ]
          refine wpAnyH_take (i := 6) (v := .agg #[.int .i64 (W k), .int .i64 (H k)]) rfl (by kernel_rfl) (by kernel_rfl) (by kernel_rfl) (fun _ _ _ h => h) (Or.inl ⟨by kernel_rfl, ?_⟩) hHeld ?_
          · intro w' hSw; first | rfl | kernel_rfl
          try simp only [Act.put, List.setIfInBounds_toArray, List.set_cons_zero, List.set_cons_succ, List.getElem_toArray, List.getElem_cons_succ, List.getElem_cons_zero]
          refine wpAnyH_ready (rs := [10]) (by kernel_rfl) (by simp) ?_
          refine AllReadyH.cons rfl (fun KK hK' => ?_) AllReadyH.nil
          go_simp
          refine (detectorOf_any (W 0) (H 0) (a 0) (n 0) (c 0) _).mono ?_
          rintro e u3 ⟨rfl, bb⟩
          replace bu : Kb u0 u3 := bu.trans (bb.mono bu.size)
          clear bb
          try go_wp2_with fail
          clear hHeld
          refine hK'.out _ _ (bu) (fun hHeld => ?_)
          clear hK' KK
          try simp only [List.setIfInBounds_toArray, List.set_cons_zero, List.set_cons_succ]
          refine wpAnyH_take (i := 11) (v := .agg #[.int .i64 (W 0), .int .i64 (H 0)]) rfl (by kernel_rfl) (by kernel_rfl) (by kernel_rfl) (fun _ _ _ h => h) (Or.inl ⟨by kernel_rfl, ?_⟩) hHeld ?_
          · intro w' hSw; first | rfl | kernel_rfl
          try simp only [Act.put, List.setIfInBounds_toArray, List.set_cons_zero, List.set_cons_succ, List.getElem_toArray, List.getElem_cons_succ, List.getElem_cons_zero]
          refine wpAnyH_take (i := 12) (v := .bool true) rfl (by kernel_rfl) (by kernel_rfl) (by kernel_rfl) (fun _ _ _ h => h) (Or.inl ⟨by kernel_rfl, ?_⟩) hHeld ?_
          · intro w' hSw; have q := HW.out; go_simp; exact fun x y => q ⟨x, y⟩
          try simp only [Act.put, List.setIfInBounds_toArray, List.set_cons_zero, List.set_cons_succ, List.getElem_toArray, List.getElem_cons_succ, List.getElem_cons_zero]
          refine wpAnyH_take (i := 13) (v := .bool true) rfl (by kernel_rfl) (by kernel_rfl) (by kernel_rfl) (fun _ _ _ h => h) (Or.inl ⟨by kernel_rfl, ?_⟩) hHeld ?_
          · intro w' hSw; go_simp
          try simp only [Act.put, List.setIfInBounds_toArray, List.set_cons_zero, List.set_cons_succ, List.getElem_toArray, List.getElem_cons_succ, List.getElem_cons_zero]
          refine wpAnyH_done (by kernel_rfl) ?_ _
          clear hHeld
          go_wp2
          go_ret
          exact ⟨false, rfl, ⟨fun h => (by cases h), fun h => absurd (h.2.2 k hlt).2 HW.out⟩, bW.trans (bu.mono bW.size)⟩
    · have hlt' : ¬ (k : Int) < (N : Int) := by omega
      obtain rfl : k = N := by omega
      go_wp2
      go_ret
      exact ⟨true, rfl, ⟨fun _ => ⟨by omega, by omega, HA.out⟩, fun _ => rfl⟩, bW⟩
theorem Turn.refl (lo hi : Nat) (w : World) : Turn lo hi w w := Turn.of_below (Below.refl _ _)
set_option maxHeartbeats 4000000 in
theorem add_any {w0 w : World} {g n : Nat} {a : Option Addr} {c : Nat} {f h : Nat → Int} (W H : Int) (hs : Src w0 a n h) (hb : Below w0.heap.size w0 w) (hg : w0.heap.size ≤ g) (o : Own w g n f) (hn : n ≤ 1048576) (hx : ∀ i, i < n → (0 ≤ f i ∧ f i ≤ 10000000) ∧ 0 ≤ h i ∧ h i ≤ 65535) :
    Calls Try.prog 39 #[fV W H (.slice (some ⟨g, 0, none⟩) n n), .slice a n c] w fun e w' => e = .returned (.tuple #[]) ∧ Own w' g n (fun i => f i + h i) ∧ Turn g (g + 1) w w' := by
  have hn' : (n : Int) ≤ 1048576 := by omega
  have z0 := o.lt
  obtain ⟨V, hV, b0, bb, -⟩ := boxed w 62 #[.int .i64 W, .int .i64 H, .slice (some ⟨g, 0, none⟩) n n]
  have tt : Turn g (g + 1) w V := Turn.of_below bb
  have o1 : Own V g n (fun i => if i < 0 then f i + h i else f i) := (o.below bb).congr fun i _ => by simp
  replace hb := hb.trans (bb.mono hb.size)
  clear bb o
  go_enter Try.func39, Try.ntmps39
  go_wp2
  clear hV
  go_loopw [8] (fun s wr => ∃ k : Nat, k ≤ n ∧ s = .int .i64 k ∧ Own wr g n (fun i => if i < k then f i + h i else f i) ∧ At 62 wr w.heap.size #[.int .i64 W, .int .i64 H, .slice (some ⟨g, 0, none⟩) n n] ∧ Below w0.heap.size w0 wr ∧ Turn g (g + 1) w wr) (fun s _ => n - (intOf s).toNat)
  case atStart => exact ⟨0, Nat.zero_le _, rfl, o1, b0, hb, tt⟩
  case round =>
    clear o1 b0 hb tt
    obtain ⟨k, hk, rfl, o, b0, hb, tt⟩ := hrel
    by_cases hlt : k < n
    · have hlt' : (k : Int) < (n : Int) := by omega
      obtain ⟨c0, c1, c2, -⟩ := b0.open3
      rcases hs.below hb with h0 | ⟨b, off, rfl, hbl, hr⟩
      · omega
      have g0 := hr k hlt
      obtain ⟨d0, f0⟩ := o.open hlt
      simp only [Nat.lt_irrefl, if_false] at d0
      obtain ⟨⟨x1, x2⟩, x3, x4⟩ := hx k hlt
      have w1 : IntKind.i64.wrap (f k + h k) = f k + h k := by rw [IntKind.wrap_i64]; omega
      have oo := (o.put hlt (f k + h k)).congr (h := fun i => if i < k + 1 then f i + h i else f i) fun i hi => by
        by_cases e : i = k
        · subst e; simp
        · by_cases e2 : i < k
          · simp [e, e2, show i < k + 1 by omega]
          · simp [e, e2, show ¬ i < k + 1 by omega]
      obtain ⟨V1, hV1, b1, hb1, tt1⟩ : ∃ V1, wr.setCell ⟨g, k, none⟩ (.int .i64 (f k + h k)) = V1 ∧ At 62 V1 w.heap.size #[.int .i64 W, .int .i64 H, .slice (some ⟨g, 0, none⟩) n n] ∧ Below w0.heap.size w0 V1 ∧ Turn g (g + 1) w V1 := ⟨_, rfl, b0.setOther (by omega) _, hb.setCell hg _, tt.set (Nat.le_refl _) (by omega) _⟩
      rw [hV1] at oo
      have HO : Hid (Own V1 g n (fun i => if i < k + 1 then f i + h i else f i)) := oo
      clear o b0 hb tt hx oo
      go_wp2
      exact ⟨⟨k + 1, by omega, by go_num, HO.out, b1, hb1, tt1⟩, by simp [intOf]; omega⟩
    · have hlt' : ¬ (k : Int) < (n : Int) := by omega
      obtain rfl : k = n := by omega
      have HO : Hid (Own wr g k (fun i => f i + h i)) := o.congr fun i hi => by simp [hi]
      clear o
      go_wp2
      exact bodyPost_end (v := .tuple #[]) (by simp [results, Try.results39, go_sem]) rfl ⟨rfl, HO.out, tt⟩
set_option maxHeartbeats 4000000 in
theorem limit_any {w : World} {g n : Nat} {f : Nat → Int} (W H : Int) (o : Own w g n f) (hn : n ≤ 5000) (hx : ∀ i, i < n → 0 ≤ f i ∧ f i ≤ 10000000) :
    Calls Try.prog 40 #[fV W H (.slice (some ⟨g, 0, none⟩) n n)] w fun e w' => e = .returned (.int .i64 (ls f n)) ∧ Own w' g n (fun i => mn (f i)) ∧ Turn g (g + 1) w w' := by
  have hn' : (n : Int) ≤ 5000 := by omega
  have z0 := o.lt
  obtain ⟨V, hV, b0, bb, -⟩ := boxed w 62 #[.int .i64 W, .int .i64 H, .slice (some ⟨g, 0, none⟩) n n]
  have tt : Turn g (g + 1) w V := Turn.of_below bb
  have o1 : Own V g n (fun i => if i < 0 then mn (f i) else f i) := (o.below bb).congr fun i _ => by simp
  obtain ⟨c0, c1, c2, -⟩ := b0.open3
  clear bb o
  go_enter Try.func40, Try.ntmps40
  go_wp2
  clear hV c0 c1 c2
  go_loopw [3, 9] (fun l s wr => ∃ k : Nat, k ≤ n ∧ l = .int .i64 (ls f k) ∧ s = .int .i64 k ∧ Own wr g n (fun i => if i < k then mn (f i) else f i) ∧ At 62 wr w.heap.size #[.int .i64 W, .int .i64 H, .slice (some ⟨g, 0, none⟩) n n] ∧ Turn g (g + 1) w wr) (fun _ s _ => n - (intOf s).toNat)
  case atStart => exact ⟨0, Nat.zero_le _, rfl, rfl, o1, b0, tt⟩
  case round =>
    clear o1 b0 tt
    obtain ⟨k, hk, rfl, rfl, o, b0, tt⟩ := hrel
    obtain ⟨L, hL⟩ : ∃ L, ls f k = L := ⟨_, rfl⟩
    have hL1 := ls_le hx hk
    by_cases hlt : k < n
    · have hlt' : (k : Int) < (n : Int) := by omega
      obtain ⟨c0, c1, c2, -⟩ := b0.open3
      obtain ⟨d0, f0⟩ := o.open hlt
      simp only [Nat.lt_irrefl, if_false] at d0
      obtain ⟨x1, x2⟩ := hx k hlt
      have hm := mn_le x1
      have ho := o.put hlt (mn (f k))
      obtain ⟨X, hX⟩ : ∃ X, mn (f k) = X := ⟨_, rfl⟩
      have oo := ho.congr (h := fun i => if i < k + 1 then mn (f i) else f i) fun i hi => by
        by_cases e : i = k
        · subst e; simp
        · by_cases e2 : i < k
          · simp [e, e2, show i < k + 1 by omega]
          · simp [e, e2, show ¬ i < k + 1 by omega]
      have hls : ls f (k + 1) = L + (f k - X) := by rw [← hL, ← hX]; rfl
      rw [hX] at oo ho hm
      rw [hL] at hL1 ⊢
      have w1 : IntKind.i64.wrap (f k - X) = f k - X := by rw [IntKind.wrap_i64]; omega
      have w2 : IntKind.i64.wrap (L + (f k - X)) = L + (f k - X) := by rw [IntKind.wrap_i64]; omega
      obtain ⟨V1, hV1, b1, tt1⟩ : ∃ V1, wr.setCell ⟨g, k, none⟩ (.int .i64 X) = V1 ∧ At 62 V1 w.heap.size #[.int .i64 W, .int .i64 H, .slice (some ⟨g, 0, none⟩) n n] ∧ Turn g (g + 1) w V1 := ⟨_, rfl, b0.setOther (by omega) _, tt.set (Nat.le_refl _) (by omega) _⟩
      rw [hV1] at oo ho
      obtain ⟨p0, p1, p2, -⟩ := b1.open3
      obtain ⟨r0, -⟩ := ho.open hlt
      simp only [if_true] at r0
      have HO : Hid (Own V1 g n (fun i => if i < k + 1 then mn (f i) else f i)) := oo
      have HL : Hid (ls f (k + 1) = L + (f k - X)) := hls
      clear o b0 tt hx oo ho hls hL
      by_cases hc : ¬ 65535 < f k
      · have e1 : X = f k := hX.symm.trans (mn_lo hc)
        subst e1
        clear hX
        go_wp2
        all_goals first | (exfalso; omega) | exact ⟨⟨k + 1, by omega, congrArg (Value.int .i64) (by have := HL.out; omega), by go_num, HO.out, b1, tt1⟩, by simp [intOf]; omega⟩
      · replace hc : 65535 < f k := by omega
        have e1 : X = 65535 := hX.symm.trans (mn_hi hc)
        subst e1
        clear hX
        go_wp2
        all_goals first | (exfalso; omega) | exact ⟨⟨k + 1, by omega, congrArg (Value.int .i64) (by have := HL.out; omega), by go_num, HO.out, b1, tt1⟩, by simp [intOf]; omega⟩
    · have hlt' : ¬ (k : Int) < (n : Int) := by omega
      obtain rfl : k = n := by omega
      have HO : Hid (Own wr g k (fun i => mn (f i))) := o.congr fun i hi => by simp [hi]
      clear o
      go_wp2
      go_ret
      exact ⟨rfl, HO.out, tt⟩
end Go.Proofs.Ytlofbgkefalpoaa
