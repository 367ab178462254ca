/-
  Sublattice, the program's, walked.
-/
import Derived.Test.YtlgkohiempcbhabWalkM
namespace Go.Proofs.Ytlgkohiempcbhab
open Go.RowKit

/-- What the regions read: two matrices. -/
def S2m (V : World) (g1 : Nat) (p : Nat → Int) (g2 : Nat) (q : Nat → Int) (w' : World) : Prop := w'.rangeAt g1 0 (matL p) ∧ w'.rangeAt g2 0 (matL q) ∧ Below V.heap.size V w'
theorem s2m_mk {V : World} {g1 g2 : Nat} {p q : Nat → Int} (h1 : At 39 V g1 (matA p)) (h2 : At 39 V g2 (matA q)) (w' : World) (hw : Below V.heap.size V w') : S2m V g1 p g2 q w' :=
  ⟨(s9m_mk h1 w' hw).1, (s9m_mk h2 w' hw).1, hw⟩
/-- Do the rows lie in the lattice? -/
def rowsIn (f h : Nat → Int) : Bool := spanned f (h 0) (h 1) (h 2) && (spanned f (h 3) (h 4) (h 5) && spanned f (h 6) (h 7) (h 8))
/-- The number that is told. -/
def subOf (n : Nat) (f : Nat → Int) (k : Nat) (h : Nat → Int) : Int := if detOf n f = 0 ∨ detOf k h = 0 ∨ rowsIn f h = false then 0 else mag ((det3 h).tdiv (det3 f))
theorem rowsIn_k {f h : Nat → Int} (hr : ∀ i, i < 3 → spanned f (h (3 * i)) (h (3 * i + 1)) (h (3 * i + 2)) = true) : rowsIn f h = true := by
  have h0 := hr 0 (by decide)
  have h1 := hr 1 (by decide)
  have h2 := hr 2 (by decide)
  show (spanned f (h 0) (h 1) (h 2) && (spanned f (h 3) (h 4) (h 5) && spanned f (h 6) (h 7) (h 8))) = true
  rw [show spanned f (h 0) (h 1) (h 2) = true from h0, show spanned f (h 3) (h 4) (h 5) = true from h1, show spanned f (h 6) (h 7) (h 8) = true from h2]
  rfl
theorem rowsIn_not {f h : Nat → Int} {i : Nat} (hi : i < 3) (hr : spanned f (h (3 * i)) (h (3 * i + 1)) (h (3 * i + 2)) = false) : rowsIn f h = false := by
  unfold rowsIn
  rcases (by omega : i = 0 ∨ i = 1 ∨ i = 2) with rfl | rfl | rfl
  · rw [show spanned f (h 0) (h 1) (h 2) = false from hr]; rfl
  · rw [show spanned f (h 3) (h 4) (h 5) = false from hr]; simp
  · rw [show spanned f (h 6) (h 7) (h 8) = false from hr]; simp
set_option maxRecDepth 100000 in
set_option maxHeartbeats 4000000 in
theorem implSub_any {w : World} {a b : Option Addr} {n k cap cap' : Nat} {f h : Nat → Int} (hs : Src w a n f) (ht : Src w b k h) :
    Calls Try.prog 20 #[.slice a n cap, .slice b k cap'] w fun e w' => e = .returned (.int .i64 (subOf n f k h)) ∧ Below w.heap.size w w' := by
  obtain ⟨p, hpd⟩ : ∃ m, matOf n f = m := ⟨_, rfl⟩
  obtain ⟨q, hqd⟩ : ∃ m, matOf k h = m := ⟨_, rfl⟩
  have hp : ∀ i, i < 9 → -1000 ≤ p i ∧ p i ≤ 1000 := by rw [← hpd]; exact matOf_bound n f
  have hq : ∀ i, i < 9 → -1000 ≤ q i ∧ q i ≤ 1000 := by rw [← hqd]; exact matOf_bound k h
  have hdmp : det3 p = detOf n f := by rw [← hpd]; exact det3_matOf n f
  have hdmq : det3 q = detOf k h := by rw [← hqd]; exact det3_matOf k h
  have hmp : Calls Try.prog 29 #[.slice a n cap] w fun e w' => e = .returned (.agg (matA p)) ∧ Below w.heap.size w w' := by
    have h := matrixOf_any (cap := cap) hs
    rwa [hpd] at h
  have hmq : ∀ w', Below w.heap.size w w' → Calls Try.prog 29 #[.slice b k cap'] w' fun e w'' => e = .returned (.agg (matA q)) ∧ Below w'.heap.size w' w'' := by
    intro w' hw
    have h := matrixOf_any (cap := cap') (ht.below hw)
    rwa [hqd] at h
  have hdp : ∀ w, Calls Try.prog 30 #[.agg (matA p)] w fun e w' => e = .returned (.int .i64 (det3 p)) ∧ Below w.heap.size w w' := det_any hp
  have hdq : ∀ w, Calls Try.prog 30 #[.agg (matA q)] w fun e w' => e = .returned (.int .i64 (det3 q)) ∧ Below w.heap.size w w' := det_any hq
  have hbp := det_bound hp
  have hbq := det_bound hq
  have hix : ∀ i, i < 9 → inIx (q i) := fun i hi => by have := hq i hi; unfold inIx; omega
  have hsp : det3 p ≠ 0 → ∀ i, i < 3 → ∀ w, Calls Try.prog 36 #[.agg (matA p), .agg #[.int .i64 (q (3 * i)), .int .i64 (q (3 * i + 1)), .int .i64 (q (3 * i + 2))]] w fun e w' => e = .returned (.bool (spanned p (q (3 * i)) (q (3 * i + 1)) (q (3 * i + 2)))) ∧ Below w.heap.size w w' :=
    fun h0 i hi w => spans_any hp h0 (hix _ (by omega)) (hix _ (by omega)) (hix _ (by omega)) w
  have hsub : Hid (subOf n f k h = if det3 p = 0 ∨ det3 q = 0 ∨ rowsIn p q = false then 0 else mag ((det3 q).tdiv (det3 p))) := by
    show subOf n f k h = _
    unfold subOf
    by_cases h1 : detOf n f = 0
    · rw [if_pos (.inl h1), if_pos (.inl (hdmp.trans h1))]
    by_cases h2 : detOf k h = 0
    · rw [if_pos (.inr (.inl h2)), if_pos (.inr (.inl (hdmq.trans h2)))]
    have e1 : p = f := by rw [← hpd, matOf, if_pos (isM_of_det h1)]
    have e2 : q = h := by rw [← hqd, matOf, if_pos (isM_of_det h2)]
    rw [← hdmp, ← hdmq, e1, e2]
  clear hs ht hpd hqd hp hq hdmp hdmq hix
  unfold matA at hmp hmq
  go_enter Try.func20, Try.ntmps20
  go_wp2_with fail
  refine hmp.mono ?_
  rintro e w1 ⟨rfl, b1⟩
  go_wp2_with fail
  refine (hmq _ b1).mono ?_
  rintro e w2 ⟨rfl, b2⟩
  replace b1 := b1.trans (b2.mono b1.size)
  obtain ⟨W1, hW1, a1, c1, z1⟩ := boxed w2 39 (matA p)
  obtain ⟨wB, hW2, a2, c2, -⟩ := boxed W1 39 (matA q)
  rw [z1] at a2
  replace a1 := a1.below c2
  have bW : Below w.heap.size w wB := (b1.trans (c1.mono b1.size)).trans (c2.mono (Nat.le_trans b1.size c1.size))
  unfold matA at hW1 hW2
  go_wp2_with fail
  clear hW1 hW2 z1 c1 c2 b1 b2 hmp hmq
  obtain ⟨g1, hg1⟩ : ∃ g, w2.heap.size = g := ⟨_, rfl⟩
  obtain ⟨g2, hg2⟩ : ∃ g, g1 + 1 = g := ⟨_, rfl⟩
  rw [hg1] at a1 a2 ⊢
  rw [hg2] at a2 ⊢
  clear hg1 hg2
  have mk : Hid (∀ w', Below wB.heap.size wB w' → S2m wB g1 p g2 q w') := s2m_mk a1 a2
  clear a1 a2
  have hB : Below wB.heap.size wB wB.drew := (Below.refl _ _).drew
  refine wp_region_held_drew (S := S2m wB g1 p g2 q) (by kernel_rfl) (mk.out _ hB) (fun hHeld => ?_)
  obtain ⟨w0, hw0⟩ : ∃ w0, wB.drew = w0 := ⟨_, rfl⟩
  rw [hw0] at hB hHeld ⊢
  clear hw0
  refine wpAnyH_take (i := 0) (v := .agg (matL p).toArray) rfl (by kernel_rfl) (by kernel_rfl) (by kernel_rfl) (fun _ _ _ h => h) (yieldsIf_load_mid (by rfl) _ _ rfl _ _ rfl (matL p) _ (fun w' h => h.1) Try.underlying39 rfl (size39 p)) hHeld ?_
  try simp only [Act.put]
  refine wpAnyH_take (i := 2) (v := .agg (matL q).toArray) rfl (by kernel_rfl) (by kernel_rfl) (by kernel_rfl) (fun _ _ _ h => h) (yieldsIf_load_mid (by rfl) _ _ rfl _ _ rfl (matL q) _ (fun w' h => h.2.1) Try.underlying39 rfl (size39 q)) hHeld ?_
  try simp only [Act.put]
  refine wpAnyH_ready (rs := [1]) (by kernel_rfl) (by simp) ?_
  refine AllReadyH.cons rfl (fun K hK => ?_) AllReadyH.nil
  go_simp
  refine (hdp _).mono ?_
  rintro e w4 ⟨rfl, b4⟩
  replace hB := bl_step hB b4
  try go_wp2_with fail
  clear hHeld
  refine hK.out _ _ (mk.out _ hB) (fun hHeld => ?_)
  clear hK K
  try simp only [Act.put, List.setIfInBounds_toArray, List.set_cons_zero, List.set_cons_succ]
  refine wpAnyH_ready (rs := [3]) (by kernel_rfl) (by simp) ?_
  refine AllReadyH.cons rfl (fun K hK => ?_) AllReadyH.nil
  go_simp
  refine (hdq _).mono ?_
  rintro e w5 ⟨rfl, b5⟩
  replace hB := bl_step hB b5
  try go_wp2_with fail
  clear hHeld
  refine hK.out _ _ (mk.out _ hB) (fun hHeld => ?_)
  clear hK K
  try simp only [Act.put, List.setIfInBounds_toArray, List.set_cons_zero, List.set_cons_succ]
  refine wpAnyH_ready (rs := [4]) (by kernel_rfl) (by simp) ?_
  refine AllReadyH.cons rfl (fun K hK => ?_) AllReadyH.nil
  go_simp
  clear hHeld
  refine hK.out _ _ (mk.out _ hB) (fun hHeld => ?_)
  clear hK K
  try simp only [Act.put, List.setIfInBounds_toArray, List.set_cons_zero, List.set_cons_succ]
  refine wpAnyH_ready (rs := [5]) (by kernel_rfl) (by simp) ?_
  refine AllReadyH.cons rfl (fun K hK => ?_) AllReadyH.nil
  go_simp
  clear hHeld
  refine hK.out _ _ (mk.out _ hB) (fun hHeld => ?_)
  clear hK K
  try simp only [Act.put, List.setIfInBounds_toArray, List.set_cons_zero, List.set_cons_succ]
  refine wpAnyH_done (by kernel_rfl) ?_ _
  obtain ⟨wr2, hwr2⟩ : ∃ x, w5 = x := ⟨_, rfl⟩
  rw [hwr2] at hB ⊢
  clear hwr2 hHeld
  by_cases h1 : det3 p = 0
  · go_wp2
    go_ret
    refine ⟨?_, bW.trans (hB.mono bW.size)⟩
    rw [hsub.out, if_pos (.inl h1)]
    rfl
  by_cases h2 : det3 q = 0
  · go_wp2
    go_ret
    refine ⟨?_, bW.trans (hB.mono bW.size)⟩
    rw [hsub.out, if_pos (.inr (.inl h2))]
    rfl
  have hbe1 : (det3 p == 0) = false := by simpa using h1
  have hbe2 : (det3 q == 0) = false := by simpa using h2
  replace hsp := hsp h1
  go_wp2
  go_loopw [24] (fun s wl => ∃ i : Nat, i ≤ 3 ∧ s = .int .i64 i ∧ (∀ j, j < i → spanned p (q (3 * j)) (q (3 * j + 1)) (q (3 * j + 2)) = true) ∧ Below wB.heap.size wB wl) (fun s _ => 3 - (intOf s).toNat)
  case atStart => exact ⟨0, Nat.zero_le _, rfl, fun j hj => by omega, hB⟩
  case round =>
    clear hB
    obtain ⟨i, hi, rfl, hall, hbl⟩ := hrel
    by_cases hli : i < 3
    · have hli' : (i : Int) < 3 := by omega
      have hspk := hsp i hli
      have HA : Hid (∀ j, j < i → spanned p (q (3 * j)) (q (3 * j + 1)) (q (3 * j + 2)) = true) := hall
      clear hall hsp
      obtain ⟨c, hc⟩ : ∃ c, spanned p (q (3 * i)) (q (3 * i + 1)) (q (3 * i + 2)) = c := ⟨_, rfl⟩
      rw [hc] at hspk
      cases c
      · have HC : Hid (spanned p (q (3 * i)) (q (3 * i + 1)) (q (3 * i + 2)) = false) := hc
        clear hc
        go_wp2_with fail
        have hC : Below wB.heap.size wB wr.drew := hbl.drew
        refine wp_region_held_drew (S := S2m wB g1 p g2 q) (by kernel_rfl) (mk.out _ hC) (fun hHeld => ?_)
        obtain ⟨w0, hw0⟩ : ∃ w0, wr.drew = w0 := ⟨_, rfl⟩
        rw [hw0] at hC hHeld ⊢
        clear hw0
        refine wpAnyH_take (i := 0) (v := .agg (matL p).toArray) rfl (by kernel_rfl) (by kernel_rfl) (by kernel_rfl) (fun _ _ _ h => h) (yieldsIf_load_mid (by rfl) _ _ rfl _ _ rfl (matL p) _ (fun w' h => h.1) Try.underlying39 rfl (size39 p)) hHeld ?_
        try simp only [Act.put]
        refine wpAnyH_take (i := 1) (v := .agg (matL q).toArray) rfl (by kernel_rfl) (by kernel_rfl) (by kernel_rfl) (fun _ _ _ h => h) (yieldsIf_load_mid (by rfl) _ _ rfl _ _ rfl (matL q) _ (fun w' h => h.2.1) Try.underlying39 rfl (size39 q)) hHeld ?_
        try simp only [Act.put]
        refine wpAnyH_take (i := 2) (v := .int .i64 (i : Int)) rfl (by kernel_rfl) (by kernel_rfl) (by kernel_rfl) (fun _ _ _ h => h) (Or.inl ⟨by kernel_rfl, ?_⟩) hHeld ?_
        · intro w' hSw; go_simp
        try simp only [Act.put]
        refine wpAnyH_ready (rs := [3]) (by kernel_rfl) (by simp) ?_
        refine AllReadyH.cons rfl (fun K hK => ?_) AllReadyH.nil
        go_simp
        refine (row_any q i hli _).mono ?_
        rintro e w6 ⟨rfl, b6⟩
        replace hC := bl_step hC b6
        try go_wp2_with fail
        clear hHeld
        refine hK.out _ _ (mk.out _ hC) (fun hHeld => ?_)
        clear hK K
        try simp only [Act.put, List.setIfInBounds_toArray, List.set_cons_zero, List.set_cons_succ]
        refine wpAnyH_ready (rs := [4]) (by kernel_rfl) (by simp) ?_
        refine AllReadyH.cons rfl (fun K hK => ?_) AllReadyH.nil
        go_simp
        unfold vecA
        refine (hspk _).mono ?_
        rintro e w7 ⟨rfl, b7⟩
        replace hC := bl_step hC b7
        try go_wp2_with fail
        clear hHeld
        refine hK.out _ _ (mk.out _ hC) (fun hHeld => ?_)
        clear hK K
        try simp only [Act.put, List.setIfInBounds_toArray, List.set_cons_zero, List.set_cons_succ]
        refine wpAnyH_ready (rs := [5]) (by kernel_rfl) (by simp) ?_
        refine AllReadyH.cons rfl (fun K hK => ?_) AllReadyH.nil
        go_simp
        clear hHeld
        refine hK.out _ _ (mk.out _ hC) (fun hHeld => ?_)
        clear hK K
        try simp only [Act.put, List.setIfInBounds_toArray, List.set_cons_zero, List.set_cons_succ]
        refine wpAnyH_done (by kernel_rfl) ?_ _
        go_wp2
        go_ret
        refine ⟨?_, bW.trans (hC.mono bW.size)⟩
        rw [hsub.out, if_pos (.inr (.inr (rowsIn_not hli HC.out)))]
        rfl
      · have HC : Hid (spanned p (q (3 * i)) (q (3 * i + 1)) (q (3 * i + 2)) = true) := hc
        clear hc
        go_wp2_with fail
        have hC : Below wB.heap.size wB wr.drew := hbl.drew
        refine wp_region_held_drew (S := S2m wB g1 p g2 q) (by kernel_rfl) (mk.out _ hC) (fun hHeld => ?_)
        obtain ⟨w0, hw0⟩ : ∃ w0, wr.drew = w0 := ⟨_, rfl⟩
        rw [hw0] at hC hHeld ⊢
        clear hw0
        refine wpAnyH_take (i := 0) (v := .agg (matL p).toArray) rfl (by kernel_rfl) (by kernel_rfl) (by kernel_rfl) (fun _ _ _ h => h) (yieldsIf_load_mid (by rfl) _ _ rfl _ _ rfl (matL p) _ (fun w' h => h.1) Try.underlying39 rfl (size39 p)) hHeld ?_
        try simp only [Act.put]
        refine wpAnyH_take (i := 1) (v := .agg (matL q).toArray) rfl (by kernel_rfl) (by kernel_rfl) (by kernel_rfl) (fun _ _ _ h => h) (yieldsIf_load_mid (by rfl) _ _ rfl _ _ rfl (matL q) _ (fun w' h => h.2.1) Try.underlying39 rfl (size39 q)) hHeld ?_
        try simp only [Act.put]
        refine wpAnyH_take (i := 2) (v := .int .i64 (i : Int)) rfl (by kernel_rfl) (by kernel_rfl) (by kernel_rfl) (fun _ _ _ h => h) (Or.inl ⟨by kernel_rfl, ?_⟩) hHeld ?_
        · intro w' hSw; go_simp
        try simp only [Act.put]
        refine wpAnyH_ready (rs := [3]) (by kernel_rfl) (by simp) ?_
        refine AllReadyH.cons rfl (fun K hK => ?_) AllReadyH.nil
        go_simp
        refine (row_any q i hli _).mono ?_
        rintro e w6 ⟨rfl, b6⟩
        replace hC := bl_step hC b6
        try go_wp2_with fail
        clear hHeld
        refine hK.out _ _ (mk.out _ hC) (fun hHeld => ?_)
        clear hK K
        try simp only [Act.put, List.setIfInBounds_toArray, List.set_cons_zero, List.set_cons_succ]
        refine wpAnyH_ready (rs := [4]) (by kernel_rfl) (by simp) ?_
        refine AllReadyH.cons rfl (fun K hK => ?_) AllReadyH.nil
        go_simp
        unfold vecA
        refine (hspk _).mono ?_
        rintro e w7 ⟨rfl, b7⟩
        replace hC := bl_step hC b7
        try go_wp2_with fail
        clear hHeld
        refine hK.out _ _ (mk.out _ hC) (fun hHeld => ?_)
        clear hK K
        try simp only [Act.put, List.setIfInBounds_toArray, List.set_cons_zero, List.set_cons_succ]
        refine wpAnyH_ready (rs := [5]) (by kernel_rfl) (by simp) ?_
        refine AllReadyH.cons rfl (fun K hK => ?_) AllReadyH.nil
        go_simp
        clear hHeld
        refine hK.out _ _ (mk.out _ hC) (fun hHeld => ?_)
        clear hK K
        try simp only [Act.put, List.setIfInBounds_toArray, List.set_cons_zero, List.set_cons_succ]
        refine wpAnyH_done (by kernel_rfl) ?_ _
        go_wp2
        refine ⟨⟨i + 1, by omega, by go_num, fun j hj => ?_, hC⟩, by simp [intOf]; omega⟩
        by_cases e : j = i
        · rw [e]; exact HC.out
        · exact HA.out j (by omega)
    · have hli' : ¬ (i : Int) < 3 := by omega
      obtain rfl : i = 3 := by omega
      have hro := rowsIn_k hall
      have hval : Hid (subOf n f k h = mag ((det3 q).tdiv (det3 p))) := by
        show subOf n f k h = _
        rw [hsub.out, if_neg]
        rintro (e | e | e)
        · exact h1 e
        · exact h2 e
        · rw [hro] at e; cases e
      have hq1 : (det3 q).tdiv (det3 p) = (det3 q).tdiv (det3 p) := rfl
      have hqr : -6000000000 ≤ (det3 q).tdiv (det3 p) ∧ (det3 q).tdiv (det3 p) ≤ 6000000000 := by
        have : ((det3 q).tdiv (det3 p)).natAbs ≤ (det3 q).natAbs := by rw [Int.natAbs_tdiv]; exact Nat.div_le_self _ _
        omega
      clear hall hro hq1 hsp hdp hdq
      go_wp2_with fail
      refine (mag_any _ _ (by omega)).mono ?_
      rintro e w9 ⟨rfl, rfl⟩
      go_wp2
      go_ret
      refine ⟨?_, bW.trans (hbl.mono bW.size)⟩
      rw [hval.out]
      rfl
end Go.Proofs.Ytlgkohiempcbhab
