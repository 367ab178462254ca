/-
  Lists of spots: compared, marked and held, walked.
-/
import Derived.Test.YthfhpnfcodcjlaaXd
import Derived.Test.YthfhpnfcodcjlaaVb
namespace Go.Proofs.Ythfhpnfcodcjlaa
open Go.RowKit

/-- Spots in block g. -/
def Sp3 (w : World) (g n : Nat) (F : Nat → Int) : Prop := g < w.heap.size ∧ Ints w g 0 (n * 3) F
theorem Sp3.below {w w' : World} {g n : Nat} {F : Nat → Int} (h : Sp3 w g n F) (hb : Below w.heap.size w w') : Sp3 w' g n F := ⟨Nat.lt_of_lt_of_le h.1 hb.size, h.2.below h.1 hb⟩
theorem Sp3.open3 {w : World} {g n : Nat} {F : Nat → Int} (h : Sp3 w g n F) (k : Nat) (hk : k < n) : w.cell? ⟨g, k * 3, none⟩ = some (.int .i64 (F (k * 3))) ∧ w.cell? ⟨g, k * 3 + 1, none⟩ = some (.int .i64 (F (k * 3 + 1))) ∧ w.cell? ⟨g, k * 3 + 2, none⟩ = some (.int .i64 (F (k * 3 + 2))) := by
  refine ⟨?_, ?_, ?_⟩
  · simpa using h.2 (k * 3) (by omega)
  · simpa using h.2 (k * 3 + 1) (by omega)
  · simpa using h.2 (k * 3 + 2) (by omega)
/-- A list of spots of its own memory. -/
def SpA (w : World) (lo hi : Nat) (v : Value) (n : Nat) (F : Nat → Int) : Prop := ∃ g c cur, v = .slice (some ⟨g, 0, none⟩) n c ∧ lo ≤ g ∧ g < hi ∧ n ≤ c ∧ At 37 w g cur ∧ cur.size = c * 3 ∧ ∀ i, i < n * 3 → cur[i]? = some (.int .i64 (F i))
theorem SpA.below {w w' : World} {lo hi : Nat} {v : Value} {n : Nat} {F : Nat → Int} (h : SpA w lo hi v n F) (hb : Below w.heap.size w w') : SpA w' lo hi v n F := by
  obtain ⟨g, c, cur, e, h1, h2, h3, h4, h5⟩ := h
  exact ⟨g, c, cur, e, h1, h2, h3, h4.below hb, h5⟩
theorem SpA.turn {w w' : World} {lo hi a b : Nat} {v : Value} {n : Nat} {F : Nat → Int} (h : SpA w a b v n F) (ht : Turn lo hi w w') (hd : b ≤ lo ∨ hi ≤ a) : SpA w' a b v n F := by
  obtain ⟨g, c, cur, e, h1, h2, h3, h4, h5⟩ := h
  exact ⟨g, c, cur, e, h1, h2, h3, h4.turn ht (by omega), h5⟩
theorem SpA.open {w : World} {lo hi : Nat} {v : Value} {n : Nat} {F : Nat → Int} (h : SpA w lo hi v n F) : ∃ g c, v = .slice (some ⟨g, 0, none⟩) n c ∧ Sp3 w g n F := by
  obtain ⟨g, c, cur, e, h1, h2, h3, h4, h5, h6⟩ := h
  refine ⟨g, c, e, h4.lt, fun i hi => ?_⟩
  rw [Nat.zero_add]
  exact h4.cell i (h6 i hi)
theorem Gat.spots {w0 w : World} {B : Nat} {v : Value} {m : Nat} {l : List Int} (s : Gat w0 w B 37 3 v m l) : SpA w B w.heap.size v m (fun i => l.getD i 0) := by
  rcases s.own.2 with ⟨e, _⟩ | ⟨g, c, cur, e, hb, hh, hc1, hc2, hsz, ht⟩
  · exact absurd e s.nn
  · have hl := s.len
    refine ⟨g, c, cur, e, hb, (Array.getElem?_eq_some_iff.1 hh).1, hc1, hh, hsz, fun i hi => ?_⟩
    have a1 : (lCells l)[i]? = some (.int .i64 (l.getD i 0)) := by
      have hi' : i < l.length := by omega
      simp [lCells, hi']
    rw [← ht, List.getElem?_take_of_lt (by omega)] at a1
    simpa using a1
theorem eqSpot_any (a b c : Int) (w : World) : Calls Try.prog 59 #[.agg #[.int .i64 a, .int .i64 b, .int .i64 c], .agg #[.int .i64 a, .int .i64 b, .int .i64 c]] w fun e w' => e = .returned (.bool true) ∧ Below w.heap.size w w' := by
  obtain ⟨V, hV, b0, bV, -⟩ := boxed w 37 #[.int .i64 a, .int .i64 b, .int .i64 c]
  obtain ⟨V2, hV2, b1, bb, -⟩ := boxed V 37 #[.int .i64 a, .int .i64 b, .int .i64 c]
  replace b0 := b0.below bb
  replace bV := bV.trans (bb.mono bV.size)
  obtain ⟨c0, c1, c2, -⟩ := b0.open3
  obtain ⟨d0, d1, d2, -⟩ := b1.open3
  go_enter Try.func59, Try.ntmps59
  go_wp2
  go_ret
  exact ⟨rfl, bV⟩
set_option maxRecDepth 100000 in
set_option maxHeartbeats 4000000 in
theorem eqSpotS_true {w : World} {lo1 hi1 lo2 hi2 : Nat} {v1 v2 : Value} {n : Nat} {F : Nat → Int} (h1 : SpA w lo1 hi1 v1 n F) (h2 : SpA w lo2 hi2 v2 n F) (hn : n ≤ 1048576) :
    Calls Try.prog 23 #[v1, v2] w fun e w' => e = .returned (.bool true) ∧ Below w.heap.size w w' := by
  obtain ⟨g1, c1, rfl, k1⟩ := h1.open
  obtain ⟨g2, c2, rfl, k2⟩ := h2.open
  clear h1 h2
  have hn' : (n : Int) ≤ 1048576 := by omega
  go_enter Try.func23, Try.ntmps23
  go_wp2
  go_loopw [5] (fun s wr => ∃ k : Nat, k ≤ n ∧ s = .int .i64 k ∧ Below w.heap.size w wr) (fun s _ => n - (intOf s).toNat)
  case atStart => exact ⟨0, Nat.zero_le _, rfl, Below.refl _ _⟩
  case round =>
    obtain ⟨k, hk, rfl, B⟩ := hrel
    by_cases hlt : k < n
    · have hlt' : (k : Int) < (n : Int) := by omega
      have hk0 : (0 : Int) ≤ (k : Int) := by omega
      have L1 := k1.below B
      have L2 := k2.below B
      go_wp2_with fail
      obtain ⟨u0, hu0, bb⟩ : ∃ uu, wr.drew = uu ∧ Below wr.heap.size wr uu := ⟨_, rfl, (Below.refl _ _).drew⟩
      replace L1 := L1.below bb
      replace L2 := L2.below bb
      replace B := B.trans (bb.mono B.size)
      clear bb
      refine wp_region_held_drew (S := Kb u0) (by kernel_rfl) (by rw [hu0]; exact Below.refl _ _) (fun hHeld => ?_)
      rw [hu0] at hHeld ⊢
      clear hu0
      have bu : Kb u0 u0 := Below.refl _ _
      change wpAnyH _ _ _ _ _ 10 #[false, false, false, false, false, false, false, false, false, false] _ _
      refine wpAnyH_take (i := 0) (v := .slice ((some ⟨g1, 0, none⟩)) n c1) rfl (by kernel_rfl) (by kernel_rfl) (by kernel_rfl) (fun _ _ _ h => h) (Or.inl ⟨by kernel_rfl, ?_⟩) hHeld ?_
      · intro w' hSw; go_simp
      try simp only [Act.put, List.setIfInBounds_toArray, List.set_cons_zero, List.set_cons_succ, List.getElem_toArray, List.getElem_cons_zero]
      refine wpAnyH_take (i := 1) (v := .int .i64 ((k : Int))) rfl (by kernel_rfl) (by kernel_rfl) (by kernel_rfl) (fun _ _ _ h => h) (Or.inl ⟨by kernel_rfl, ?_⟩) hHeld ?_
      · intro w' hSw; go_simp
      try simp only [Act.put, List.setIfInBounds_toArray, List.set_cons_zero, List.set_cons_succ, List.getElem_toArray, List.getElem_cons_succ, List.getElem_cons_zero]
      refine wpAnyH_take (i := 2) (v := .pointer (some ⟨g1, k * 3, none⟩)) rfl (by kernel_rfl) (by kernel_rfl) (by kernel_rfl) (fun _ _ _ h => h) (Or.inl ⟨by kernel_rfl, ?_⟩) hHeld ?_
      · intro w' hSw; go_simp
      try simp only [Act.put, List.setIfInBounds_toArray, List.set_cons_zero, List.set_cons_succ, List.getElem_toArray, List.getElem_cons_succ, List.getElem_cons_zero]
      refine wpAnyH_take (i := 3) (v := .agg #[.int .i64 (F (k * 3)), .int .i64 (F (k * 3 + 1)), .int .i64 (F (k * 3 + 2))]) rfl (by kernel_rfl) (by kernel_rfl) (by kernel_rfl) (fun _ _ _ h => h) (Or.inl ⟨by kernel_rfl, ?_⟩) hHeld ?_
      · intro w' hSw; obtain ⟨z0, z1, z2⟩ := (L1.below hSw).open3 k hlt; go_simp
      try simp only [Act.put, List.setIfInBounds_toArray, List.set_cons_zero, List.set_cons_succ, List.getElem_toArray, List.getElem_cons_succ, List.getElem_cons_zero]
      refine wpAnyH_take (i := 4) (v := .slice ((some ⟨g2, 0, none⟩)) n c2) rfl (by kernel_rfl) (by kernel_rfl) (by kernel_rfl) (fun _ _ _ h => h) (Or.inl ⟨by kernel_rfl, ?_⟩) hHeld ?_
      · intro w' hSw; go_simp
      try simp only [Act.put, List.setIfInBounds_toArray, List.set_cons_zero, List.set_cons_succ, List.getElem_toArray, List.getElem_cons_succ, List.getElem_cons_zero]
      refine wpAnyH_take (i := 5) (v := .int .i64 ((k : Int))) rfl (by kernel_rfl) (by kernel_rfl) (by kernel_rfl) (fun _ _ _ h => h) (Or.inl ⟨by kernel_rfl, ?_⟩) hHeld ?_
      · intro w' hSw; go_simp
      try simp only [Act.put, List.setIfInBounds_toArray, List.set_cons_zero, List.set_cons_succ, List.getElem_toArray, List.getElem_cons_succ, List.getElem_cons_zero]
      refine wpAnyH_take (i := 6) (v := .pointer (some ⟨g2, k * 3, none⟩)) rfl (by kernel_rfl) (by kernel_rfl) (by kernel_rfl) (fun _ _ _ h => h) (Or.inl ⟨by kernel_rfl, ?_⟩) hHeld ?_
      · intro w' hSw; go_simp
      try simp only [Act.put, List.setIfInBounds_toArray, List.set_cons_zero, List.set_cons_succ, List.getElem_toArray, List.getElem_cons_succ, List.getElem_cons_zero]
      refine wpAnyH_take (i := 7) (v := .agg #[.int .i64 (F (k * 3)), .int .i64 (F (k * 3 + 1)), .int .i64 (F (k * 3 + 2))]) rfl (by kernel_rfl) (by kernel_rfl) (by kernel_rfl) (fun _ _ _ h => h) (Or.inl ⟨by kernel_rfl, ?_⟩) hHeld ?_
      · intro w' hSw; obtain ⟨z0, z1, z2⟩ := (L2.below hSw).open3 k hlt; go_simp
      try simp only [Act.put, List.setIfInBounds_toArray, List.set_cons_zero, List.set_cons_succ, List.getElem_toArray, List.getElem_cons_succ, List.getElem_cons_zero]
      refine wpAnyH_ready (rs := [8]) (by kernel_rfl) (by simp) ?_
      refine AllReadyH.cons rfl (fun KK hK' => ?_) AllReadyH.nil
      go_simp
      refine (eqSpot_any _ _ _ _).mono ?_
      rintro e u1 ⟨rfl, bb⟩
      replace bu : Kb u0 u1 := bu.trans (bb.mono bu.size)
      clear bb
      try go_wp2_with fail
      clear hHeld
      refine hK'.out _ _ (bu) (fun hHeld => ?_)
      clear hK' KK
      try simp only [List.setIfInBounds_toArray, List.set_cons_zero, List.set_cons_succ]
      refine wpAnyH_take (i := 9) (v := .bool false) rfl (by kernel_rfl) (by kernel_rfl) (by kernel_rfl) (fun _ _ _ h => h) (Or.inl ⟨by kernel_rfl, ?_⟩) hHeld ?_
      · intro w' hSw; go_simp
      try simp only [Act.put, List.setIfInBounds_toArray, List.set_cons_zero, List.set_cons_succ, List.getElem_toArray, List.getElem_cons_succ, List.getElem_cons_zero]
      refine wpAnyH_done (by kernel_rfl) ?_ _
      clear hHeld
      go_wp2
      exact ⟨⟨k + 1, by omega, by go_num, B.trans (bu.mono B.size)⟩, by simp [intOf]; omega⟩
    · have hlt' : ¬ (k : Int) < (n : Int) := by omega
      go_wp2
      go_ret
      exact ⟨rfl, B⟩
/-- Marks that are laid: the first j numbers. -/
def Mk3 (w : World) (g c j : Nat) : Prop := ∃ cur : Array Value, At 37 w g cur ∧ cur.size = c * 3 ∧ ∀ i, i < j → cur[i]? = some (.int .i64 ((1 + i : Nat) : Int))
theorem Mk3.cell {w : World} {g c j i : Nat} (h : Mk3 w g c j) (hi : i < c * 3) : w.cell? ⟨g, i, none⟩ = some (cv w g i) ∧ w.frozen? ⟨g, i, none⟩ = false := by
  obtain ⟨cur, h1, h2, -⟩ := h
  have e := h1.cell i (v := cur[i]) (Array.getElem?_eq_getElem (by omega))
  exact ⟨by rw [cv, e]; rfl, h1.frozen i⟩
theorem Mk3.set {w : World} {g c j : Nat} (h : Mk3 w g c j) (hj : j < c * 3) : Mk3 (w.setCell ⟨g, j, none⟩ (.int .i64 ((1 + j : Nat) : Int))) g c (j + 1) := by
  obtain ⟨cur, h1, h2, h3⟩ := h
  refine ⟨_, h1.set j _, by simpa using h2, fun i hi => ?_⟩
  by_cases e : i = j
  · subst e
    have l0 : i < cur.size := by omega
    simp [l0]
  · rw [Array.getElem?_setIfInBounds, if_neg (by omega)]
    exact h3 i (by omega)
set_option maxRecDepth 100000 in
set_option maxHeartbeats 4000000 in
theorem markSpotS_any {w : World} {lo hi : Nat} {v : Value} {n : Nat} {F : Nat → Int} (h : SpA w lo hi v n F) (hn : n ≤ 1048576) :
    Calls Try.prog 26 #[v, .int .i64 1] w fun e w' => e = .returned (.int .i64 ((1 + 3 * n : Nat) : Int)) ∧ SpA w' lo hi v n (fun i => ((1 + i : Nat) : Int)) ∧ Turn lo hi w w' := by
  obtain ⟨g, c, cur, rfl, h1, h2, h3, h4, h5, -⟩ := h
  have hn' : (n : Int) ≤ 1048576 := by omega
  have M0 : Mk3 w g c (0 * 3) := ⟨cur, h4, h5, fun i hi => by omega⟩
  clear h4 h5 cur
  go_enter Try.func26, Try.ntmps26
  go_wp2
  go_loopw [1, 5] (fun s t wr => ∃ k : Nat, k ≤ n ∧ s = .int .i64 ((1 + 3 * k : Nat) : Int) ∧ t = .int .i64 (k : Int) ∧ Mk3 wr g c (k * 3) ∧ Kept g w wr) (fun _ t _ => n - (intOf t).toNat)
  case atStart => exact ⟨0, Nat.zero_le _, rfl, rfl, M0, Kept.refl _ _⟩
  case round =>
    clear M0
    obtain ⟨k, hk', rfl, rfl, h, hK⟩ := hrel
    by_cases hk : k < n
    · have hklt : (k : Int) < (n : Int) := by omega
      obtain ⟨X, hX⟩ : ∃ X : Int, ((1 + 3 * k : Nat) : Int) = X := ⟨_, rfl⟩
      have hX1 : 0 ≤ X ∧ X ≤ 20000000 := by omega
      obtain ⟨c0, f0⟩ := h.cell (i := k * 3) (by omega)
      have e0 : ((1 + k * 3 : Nat) : Int) = X := by omega
      have h1' := h.set (j := k * 3) (by omega)
      rw [e0] at h1'
      obtain ⟨V1, hV1⟩ : ∃ V, wr.setCell ⟨g, k * 3, none⟩ (.int .i64 X) = V := ⟨_, rfl⟩
      have K1 : Kept g w V1 := by rw [← hV1]; exact hK.set _
      rw [hV1] at h1'
      obtain ⟨c1, f1⟩ := h1'.cell (i := k * 3 + 1) (by omega)
      have e1 : ((1 + (k * 3 + 1) : Nat) : Int) = X + 1 := by omega
      have h2' := h1'.set (j := k * 3 + 1) (by omega)
      rw [e1] at h2'
      obtain ⟨V2, hV2⟩ : ∃ V, V1.setCell ⟨g, k * 3 + 1, none⟩ (.int .i64 (X + 1)) = V := ⟨_, rfl⟩
      have K2 : Kept g w V2 := by rw [← hV2]; exact K1.set _
      rw [hV2] at h2'
      obtain ⟨c2, f2⟩ := h2'.cell (i := k * 3 + 2) (by omega)
      have e2 : ((1 + (k * 3 + 2) : Nat) : Int) = X + 2 := by omega
      have h3' := h2'.set (j := k * 3 + 2) (by omega)
      rw [e2] at h3'
      have w1 : IntKind.i64.wrap (X + 1) = X + 1 := by rw [IntKind.wrap_i64]; omega
      have w2 : IntKind.i64.wrap (X + 1 + 1) = X + 2 := by rw [IntKind.wrap_i64]; omega
      have w3 : IntKind.i64.wrap (X + 2 + 1) = X + 3 := by rw [IntKind.wrap_i64]; omega
      rw [hX]
      clear e0 e1 e2 h1' h2'
      go_wp2
      refine ⟨⟨k + 1, by omega, ?_, by go_num, ?_, K2.set _⟩, by simp [intOf]; omega⟩
      · rw [show ((1 + 3 * (k + 1) : Nat) : Int) = X + 3 by omega]
      · rw [show (k + 1) * 3 = k * 3 + 2 + 1 by omega]; exact h3'
    · have hklt : ¬ (k : Int) < (n : Int) := by omega
      obtain rfl : k = n := by omega
      go_wp2
      go_ret
      obtain ⟨cur, m1, m2, m3⟩ := h
      exact ⟨rfl, ⟨g, c, cur, rfl, h1, h2, h3, m1, m2, m3⟩, ⟨hK.os, hK.tape, hK.output, hK.size, fun x hx hd => hK.block x hx (by omega)⟩⟩
set_option maxRecDepth 100000 in
set_option maxHeartbeats 4000000 in
theorem heldSpotS_any {w : World} {lo hi : Nat} {v : Value} {n : Nat} (h : SpA w lo hi v n (fun i => ((1 + i : Nat) : Int))) (hn : n ≤ 1048576) :
    Calls Try.prog 27 #[v, .int .i64 1] w fun e w' => e = .returned (.int .i64 ((1 + 3 * n : Nat) : Int)) ∧ Below w.heap.size w w' := by
  obtain ⟨g, c, rfl, k9⟩ := h.open
  clear h
  have hn' : (n : Int) ≤ 1048576 := by omega
  go_enter Try.func27, Try.ntmps27
  go_wp2
  go_loopw [1, 5] (fun s t wr => ∃ k : Nat, k ≤ n ∧ s = .int .i64 ((1 + 3 * k : Nat) : Int) ∧ t = .int .i64 (k : Int) ∧ Below w.heap.size w wr) (fun _ t _ => n - (intOf t).toNat)
  case atStart => exact ⟨0, Nat.zero_le _, rfl, rfl, Below.refl _ _⟩
  case round =>
    obtain ⟨k, hk', rfl, rfl, B⟩ := hrel
    by_cases hk : k < n
    · have hklt : (k : Int) < (n : Int) := by omega
      obtain ⟨X, hX⟩ : ∃ X : Int, ((1 + 3 * k : Nat) : Int) = X := ⟨_, rfl⟩
      have hX1 : 0 ≤ X ∧ X ≤ 20000000 := by omega
      obtain ⟨c0, c1, c2⟩ := (k9.below B).open3 k hk
      rw [show ((1 + k * 3 : Nat) : Int) = X by omega] at c0
      rw [show ((1 + (k * 3 + 1) : Nat) : Int) = X + 1 by omega] at c1
      rw [show ((1 + (k * 3 + 2) : Nat) : Int) = X + 2 by omega] at c2
      have w1 : IntKind.i64.wrap (X + 1) = X + 1 := by rw [IntKind.wrap_i64]; omega
      have w2 : IntKind.i64.wrap (X + 1 + 1) = X + 2 := by rw [IntKind.wrap_i64]; omega
      have w3 : IntKind.i64.wrap (X + 2 + 1) = X + 3 := by rw [IntKind.wrap_i64]; omega
      rw [hX]
      go_wp2
      refine ⟨⟨k + 1, by omega, ?_, by go_num, B⟩, by simp [intOf]; omega⟩
      rw [show ((1 + 3 * (k + 1) : Nat) : Int) = X + 3 by omega]
    · have hklt : ¬ (k : Int) < (n : Int) := by omega
      obtain rfl : k = n := by omega
      go_wp2
      go_ret
      exact ⟨rfl, B⟩
end Go.Proofs.Ythfhpnfcodcjlaa
