/-
  Lists of bytes: taken over, compared, marked and held, walked.
-/
import Derived.Test.YthfhpnfcodcjlaaYc
import Derived.Test.YthfhpnfcodcjlaaVb
namespace Go.Proofs.Ythfhpnfcodcjlaa
open Go.RowKit

theorem ByA.open {w : World} {lo hi : Nat} {v : Value} {n : Nat} {F : Nat → Int} (h : ByA w lo hi v n F) : ∃ g c, v = .slice (some ⟨g, 0, none⟩) n c := by
  obtain ⟨g, c, cur, e, -⟩ := h
  exact ⟨g, c, e⟩
set_option maxRecDepth 100000 in
set_option maxHeartbeats 4000000 in
theorem eqByteS_true {w : World} {lo1 hi1 lo2 hi2 : Nat} {v1 v2 : Value} {n : Nat} {F : Nat → Int} (h1 : ByA w lo1 hi1 v1 n F) (h2 : ByA w lo2 hi2 v2 n F) (hn : n ≤ 1048576) :
    Calls Try.prog 30 #[v1, v2] w fun e w' => e = .returned (.bool true) ∧ Below w.heap.size w w' := by
  obtain ⟨g1, c1, rfl⟩ := h1.open
  obtain ⟨g2, c2, rfl⟩ := h2.open
  have hn' : (n : Int) ≤ 1048576 := by omega
  go_enter Try.func30, Try.ntmps30
  go_wp2
  go_loopw [5] (fun s wr => ∃ k : Nat, k ≤ n ∧ s = .int .i64 k ∧ Below w.heap.size w wr) (fun s _ => n - (intOf s).toNat)
  case atStart => exact ⟨0, Nat.zero_le _, rfl, Below.refl _ _⟩
  case round =>
    obtain ⟨k, hk, rfl, B⟩ := hrel
    by_cases hlt : k < n
    · have hlt' : (k : Int) < (n : Int) := by omega
      have hk0 : (0 : Int) ≤ (k : Int) := by omega
      have L1 := h1.below B
      have L2 := h2.below B
      obtain ⟨X, hX⟩ : ∃ X, F k = X := ⟨_, rfl⟩
      go_wp2_with fail
      obtain ⟨u0, hu0, bb⟩ : ∃ uu, wr.drew = uu ∧ Below wr.heap.size wr uu := ⟨_, rfl, (Below.refl _ _).drew⟩
      replace L1 := L1.below bb
      replace L2 := L2.below bb
      replace B := B.trans (bb.mono B.size)
      clear bb
      refine wp_region_held_drew (S := Kb u0) (by kernel_rfl) (by rw [hu0]; exact Below.refl _ _) (fun hHeld => ?_)
      rw [hu0] at hHeld ⊢
      clear hu0
      have bu : Kb u0 u0 := Below.refl _ _
      change wpAnyH _ _ _ _ _ 9 #[false, false, false, false, false, false, false, false, false] _ _
      refine wpAnyH_take (i := 0) (v := .slice ((some ⟨g1, 0, none⟩)) n c1) rfl (by kernel_rfl) (by kernel_rfl) (by kernel_rfl) (fun _ _ _ h => h) (Or.inl ⟨by kernel_rfl, ?_⟩) hHeld ?_
      · intro w' hSw; go_simp
      try simp only [Act.put, List.setIfInBounds_toArray, List.set_cons_zero, List.set_cons_succ, List.getElem_toArray, List.getElem_cons_zero]
      refine wpAnyH_take (i := 1) (v := .int .i64 ((k : Int))) rfl (by kernel_rfl) (by kernel_rfl) (by kernel_rfl) (fun _ _ _ h => h) (Or.inl ⟨by kernel_rfl, ?_⟩) hHeld ?_
      · intro w' hSw; go_simp
      try simp only [Act.put, List.setIfInBounds_toArray, List.set_cons_zero, List.set_cons_succ, List.getElem_toArray, List.getElem_cons_succ, List.getElem_cons_zero]
      refine wpAnyH_take (i := 2) (v := .pointer (some ⟨g1, k, none⟩)) rfl (by kernel_rfl) (by kernel_rfl) (by kernel_rfl) (fun _ _ _ h => h) (Or.inl ⟨by kernel_rfl, ?_⟩) hHeld ?_
      · intro w' hSw; go_simp
      try simp only [Act.put, List.setIfInBounds_toArray, List.set_cons_zero, List.set_cons_succ, List.getElem_toArray, List.getElem_cons_succ, List.getElem_cons_zero]
      refine wpAnyH_take (i := 3) (v := .int .u8 X) rfl (by kernel_rfl) (by kernel_rfl) (by kernel_rfl) (fun _ _ _ h => h) (Or.inl ⟨by kernel_rfl, ?_⟩) hHeld ?_
      · intro w' hSw; have z0 := (L1.below hSw).cell hlt; rw [hX] at z0; go_simp
      try simp only [Act.put, List.setIfInBounds_toArray, List.set_cons_zero, List.set_cons_succ, List.getElem_toArray, List.getElem_cons_succ, List.getElem_cons_zero]
      refine wpAnyH_take (i := 4) (v := .slice ((some ⟨g2, 0, none⟩)) n c2) rfl (by kernel_rfl) (by kernel_rfl) (by kernel_rfl) (fun _ _ _ h => h) (Or.inl ⟨by kernel_rfl, ?_⟩) hHeld ?_
      · intro w' hSw; go_simp
      try simp only [Act.put, List.setIfInBounds_toArray, List.set_cons_zero, List.set_cons_succ, List.getElem_toArray, List.getElem_cons_succ, List.getElem_cons_zero]
      refine wpAnyH_take (i := 5) (v := .int .i64 ((k : Int))) rfl (by kernel_rfl) (by kernel_rfl) (by kernel_rfl) (fun _ _ _ h => h) (Or.inl ⟨by kernel_rfl, ?_⟩) hHeld ?_
      · intro w' hSw; go_simp
      try simp only [Act.put, List.setIfInBounds_toArray, List.set_cons_zero, List.set_cons_succ, List.getElem_toArray, List.getElem_cons_succ, List.getElem_cons_zero]
      refine wpAnyH_take (i := 6) (v := .pointer (some ⟨g2, k, none⟩)) rfl (by kernel_rfl) (by kernel_rfl) (by kernel_rfl) (fun _ _ _ h => h) (Or.inl ⟨by kernel_rfl, ?_⟩) hHeld ?_
      · intro w' hSw; go_simp
      try simp only [Act.put, List.setIfInBounds_toArray, List.set_cons_zero, List.set_cons_succ, List.getElem_toArray, List.getElem_cons_succ, List.getElem_cons_zero]
      refine wpAnyH_take (i := 7) (v := .int .u8 X) rfl (by kernel_rfl) (by kernel_rfl) (by kernel_rfl) (fun _ _ _ h => h) (Or.inl ⟨by kernel_rfl, ?_⟩) hHeld ?_
      · intro w' hSw; have z0 := (L2.below hSw).cell hlt; rw [hX] at z0; go_simp
      try simp only [Act.put, List.setIfInBounds_toArray, List.set_cons_zero, List.set_cons_succ, List.getElem_toArray, List.getElem_cons_succ, List.getElem_cons_zero]
      refine wpAnyH_take (i := 8) (v := .bool false) rfl (by kernel_rfl) (by kernel_rfl) (by kernel_rfl) (fun _ _ _ h => h) (Or.inl ⟨by kernel_rfl, ?_⟩) hHeld ?_
      · intro w' hSw; go_simp
      try simp only [Act.put, List.setIfInBounds_toArray, List.set_cons_zero, List.set_cons_succ, List.getElem_toArray, List.getElem_cons_succ, List.getElem_cons_zero]
      refine wpAnyH_done (by kernel_rfl) ?_ _
      clear hHeld
      go_wp2
      exact ⟨⟨k + 1, by omega, by go_num, B.trans (bu.mono B.size)⟩, by simp [intOf]; omega⟩
    · have hlt' : ¬ (k : Int) < (n : Int) := by omega
      go_wp2
      go_ret
      exact ⟨rfl, B⟩
/-- Marks of bytes. -/
def mB (i : Nat) : Int := ((1 + i) % 256 : Nat)
def MkB (w : World) (g z j : Nat) : Prop := ∃ cur : Array Value, At 5 w g cur ∧ z ≤ cur.size ∧ ∀ i, i < j → cur[i]? = some (.int .u8 (mB i))
theorem MkB.cell {w : World} {g z j i : Nat} (h : MkB w g z j) (hi : i < z) : w.cell? ⟨g, i, none⟩ = some (cv w g i) ∧ w.frozen? ⟨g, i, none⟩ = false := by
  obtain ⟨cur, h1, h2, -⟩ := h
  have e := h1.cell i (v := cur[i]) (Array.getElem?_eq_getElem (by omega))
  exact ⟨by rw [cv, e]; rfl, h1.frozen i⟩
theorem MkB.set {w : World} {g z j : Nat} (h : MkB w g z j) (hj : j < z) : MkB (w.setCell ⟨g, j, none⟩ (.int .u8 (mB j))) g z (j + 1) := by
  obtain ⟨cur, h1, h2, h3⟩ := h
  refine ⟨_, h1.set j _, by simpa using h2, fun i hi => ?_⟩
  by_cases e : i = j
  · subst e
    have l0 : i < cur.size := by omega
    simp [l0]
  · rw [Array.getElem?_setIfInBounds, if_neg (by omega)]
    exact h3 i (by omega)
set_option maxRecDepth 100000 in
set_option maxHeartbeats 4000000 in
theorem markByteS_any {w : World} {lo hi : Nat} {v : Value} {n : Nat} {F : Nat → Int} (h : ByA w lo hi v n F) (hn : n ≤ 1048576) :
    Calls Try.prog 31 #[v, .int .i64 1] w fun e w' => e = .returned (.int .i64 ((1 + n : Nat) : Int)) ∧ ByA w' lo hi v n mB ∧ Turn lo hi w w' := by
  obtain ⟨g, c, cur, rfl, h1, h2, h3, h4, h5, -⟩ := h
  have hn' : (n : Int) ≤ 1048576 := by omega
  have M0 : MkB w g n 0 := ⟨cur, h5, h4, fun i hi => by omega⟩
  clear h4 h5 cur
  go_enter Try.func31, Try.ntmps31
  go_wp2
  go_loopw [1, 5] (fun s t wr => ∃ k : Nat, k ≤ n ∧ s = .int .i64 ((1 + k : Nat) : Int) ∧ t = .int .i64 (k : Int) ∧ MkB wr g n k ∧ Kept g w wr) (fun _ t _ => n - (intOf t).toNat)
  case atStart => exact ⟨0, Nat.zero_le _, rfl, rfl, M0, Kept.refl _ _⟩
  case round =>
    clear M0
    obtain ⟨k, hk', rfl, rfl, h, hK⟩ := hrel
    by_cases hk : k < n
    · have hklt : (k : Int) < (n : Int) := by omega
      obtain ⟨X, hX⟩ : ∃ X : Int, ((1 + k : Nat) : Int) = X := ⟨_, rfl⟩
      have hX1 : 0 ≤ X ∧ X ≤ 20000000 := by omega
      obtain ⟨c0, f0⟩ := h.cell hk
      have hset := h.set hk
      have e0 : mB k = X % 256 := by unfold mB; omega
      rw [e0] at hset
      have HS : Hid (MkB (wr.setCell ⟨g, k, none⟩ (.int .u8 (X % 256))) g n (k + 1)) := hset
      clear hset h
      have w1 : IntKind.i64.wrap (X + 1) = X + 1 := by rw [IntKind.wrap_i64]; omega
      rw [hX]
      clear e0
      go_wp2
      refine ⟨⟨k + 1, by omega, ?_, by go_num, HS.out, hK.set _⟩, by simp [intOf]; omega⟩
      rw [show ((1 + (k + 1) : Nat) : Int) = X + 1 by omega]
    · have hklt : ¬ (k : Int) < (n : Int) := by omega
      obtain rfl : k = n := by omega
      go_wp2
      go_ret
      obtain ⟨cur, m1, m2, m3⟩ := h
      exact ⟨rfl, ⟨g, c, cur, rfl, h1, h2, h3, m2, m1, m3⟩, ⟨hK.os, hK.tape, hK.output, hK.size, fun x hx hd => hK.block x hx (by omega)⟩⟩
set_option maxRecDepth 100000 in
set_option maxHeartbeats 4000000 in
theorem heldByteS_any {w : World} {lo hi : Nat} {v : Value} {n : Nat} (h : ByA w lo hi v n mB) (hn : n ≤ 1048576) :
    Calls Try.prog 32 #[v, .int .i64 1] w fun e w' => e = .returned (.int .i64 ((1 + n : Nat) : Int)) ∧ Below w.heap.size w w' := by
  obtain ⟨g, c, rfl⟩ := h.open
  have hn' : (n : Int) ≤ 1048576 := by omega
  go_enter Try.func32, Try.ntmps32
  go_wp2
  go_loopw [1, 5] (fun s t wr => ∃ k : Nat, k ≤ n ∧ s = .int .i64 ((1 + k : Nat) : Int) ∧ t = .int .i64 (k : Int) ∧ Below w.heap.size w wr) (fun _ t _ => n - (intOf t).toNat)
  case atStart => exact ⟨0, Nat.zero_le _, rfl, rfl, Below.refl _ _⟩
  case round =>
    obtain ⟨k, hk', rfl, rfl, B⟩ := hrel
    by_cases hk : k < n
    · have hklt : (k : Int) < (n : Int) := by omega
      obtain ⟨X, hX⟩ : ∃ X : Int, ((1 + k : Nat) : Int) = X := ⟨_, rfl⟩
      have hX1 : 0 ≤ X ∧ X ≤ 20000000 := by omega
      have c0 := (h.below B).cell hk
      rw [show mB k = X % 256 by unfold mB; omega] at c0
      have w1 : IntKind.i64.wrap (X + 1) = X + 1 := by rw [IntKind.wrap_i64]; omega
      rw [hX]
      go_wp2
      refine ⟨⟨k + 1, by omega, ?_, by go_num, B⟩, by simp [intOf]; omega⟩
      rw [show ((1 + (k + 1) : Nat) : Int) = X + 1 by omega]
    · have hklt : ¬ (k : Int) < (n : Int) := by omega
      obtain rfl : k = n := by omega
      go_wp2
      go_ret
      exact ⟨rfl, B⟩
end Go.Proofs.Ythfhpnfcodcjlaa
