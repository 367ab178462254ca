/-
  The law on Votes, walked.
-/
import Derived.Test.YtjlmiadmobbibaaBq
namespace Go.Proofs.Ytjlmiadmobbibaa
open Go.RowKit

theorem eqVote_any (a b c : Int) (w : World) : Calls Try.prog 47 #[fV a b c, fV a b c] w fun e w' => e = .returned (.bool true) ∧ Below w.heap.size w w' := by
  obtain ⟨W, hW, b0, b1, bW, -⟩ := boxed2 w 36 36 #[.int .i64 a, .int .i64 b, .int .i64 c] #[.int .i64 a, .int .i64 b, .int .i64 c]
  obtain ⟨c0, c1, c2, -⟩ := b0.open3
  obtain ⟨d0, d1, d2, -⟩ := b1.open3
  go_enter Try.func47, Try.ntmps47
  go_wp2
  go_ret
  exact ⟨rfl, bW⟩
/-- The cells of the votes k of two lists. -/
def TwoV (g1 g2 k : Nat) (f : Nat → Int) (w : World) : Prop :=
  (w.cell? ⟨g1, k * 3, none⟩ = some (.int .i64 (f (k * 3))) ∧ w.cell? ⟨g1, k * 3 + 1, none⟩ = some (.int .i64 (f (k * 3 + 1))) ∧ w.cell? ⟨g1, k * 3 + 2, none⟩ = some (.int .i64 (f (k * 3 + 2)))) ∧
  (w.cell? ⟨g2, k * 3, none⟩ = some (.int .i64 (f (k * 3))) ∧ w.cell? ⟨g2, k * 3 + 1, none⟩ = some (.int .i64 (f (k * 3 + 1))) ∧ w.cell? ⟨g2, k * 3 + 2, none⟩ = some (.int .i64 (f (k * 3 + 2))))
theorem two_ofV {w : World} {g1 g2 n k : Nat} {f : Nat → Int} (h1 : Trips w g1 n f) (h2 : Trips w g2 n f) (hk : k < n) : TwoV g1 g2 k f w := ⟨h1.open k hk, h2.open k hk⟩
set_option maxRecDepth 100000 in
set_option maxHeartbeats 800000 in
theorem eqVoteS_true {w : World} {g1 g2 n c1 c2 : Nat} {f : Nat → Int} (h1 : Trips w g1 n f) (h2 : Trips w g2 n f) (hn : n ≤ 1048576) :
    Calls Try.prog 20 #[.slice (some ⟨g1, 0, none⟩) n c1, .slice (some ⟨g2, 0, none⟩) n c2] w fun e w' => e = .returned (.bool true) ∧ Below w.heap.size w w' := by
  have hn' : (n : Int) ≤ 1048576 := by omega
  go_enter Try.func20, Try.ntmps20
  go_wp2
  go_loopw [5] (fun s wr => ∃ k : Nat, k ≤ n ∧ s = .int .i64 k ∧ Below w.heap.size w wr) (fun s _ => n - (intOf s).toNat)
  case atStart => exact ⟨0, Nat.zero_le _, rfl, Below.refl _ _⟩
  case round =>
    obtain ⟨k, hk, rfl, B⟩ := hrel
    by_cases hlt : k < n
    · have hlt' : (k : Int) < (n : Int) := by omega
      have L1 := h1.below B
      have L2 := h2.below B
      go_wp2_with fail
      obtain ⟨u0, hu0, bb⟩ : ∃ u0, wr.drew = u0 ∧ Below wr.heap.size wr u0 := ⟨_, rfl, (Below.refl _ _).drew⟩
      replace L1 := L1.below bb
      replace L2 := L2.below bb
      replace B := B.trans (bb.mono B.size)
      clear bb
      refine wp_region_held_drew (S := TwoV g1 g2 k f) (by kernel_rfl) (by rw [hu0]; exact two_ofV L1 L2 hlt) (fun hHeld => ?_)
      rw [hu0] at hHeld ⊢
      clear hu0
      change wpAnyH _ _ _ _ _ 10 #[false, false, false, false, false, false, false, false, false, false] _ _
      refine wpAnyH_take (i := 0) (v := .slice (some ⟨g1, 0, none⟩) n c1) rfl (by kernel_rfl) (by kernel_rfl) (by kernel_rfl) (fun _ _ _ h => h) (Or.inl ⟨by kernel_rfl, ?_⟩) hHeld ?_
      · intro w' hSw; go_simp
      try simp only [Act.put, List.setIfInBounds_toArray, List.set_cons_zero]
      refine wpAnyH_take (i := 1) (v := .int .i64 (k : Int)) rfl (by kernel_rfl) (by kernel_rfl) (by kernel_rfl) (fun _ _ _ h => h) (Or.inl ⟨by kernel_rfl, ?_⟩) hHeld ?_
      · intro w' hSw; go_simp
      try simp only [Act.put, List.setIfInBounds_toArray, List.set_cons_zero, List.set_cons_succ]
      refine wpAnyH_take (i := 2) (v := .pointer (some ⟨g1, k * 3, none⟩)) rfl (by kernel_rfl) (by kernel_rfl) (by kernel_rfl) (fun _ _ _ h => h) (Or.inl ⟨by kernel_rfl, ?_⟩) hHeld ?_
      · intro w' hSw; go_simp
      try simp only [Act.put, List.setIfInBounds_toArray, List.set_cons_zero, List.set_cons_succ]
      refine wpAnyH_take (i := 3) (v := fV (f (k * 3)) (f (k * 3 + 1)) (f (k * 3 + 2))) rfl (by kernel_rfl) (by kernel_rfl) (by kernel_rfl) (fun _ _ _ h => h) (Or.inl ⟨by kernel_rfl, ?_⟩) hHeld ?_
      · intro w' hSw; obtain ⟨⟨z0, z1, z2⟩, -⟩ := hSw; go_simp
      try simp only [Act.put, List.setIfInBounds_toArray, List.set_cons_zero, List.set_cons_succ]
      refine wpAnyH_take (i := 4) (v := .slice (some ⟨g2, 0, none⟩) n c2) rfl (by kernel_rfl) (by kernel_rfl) (by kernel_rfl) (fun _ _ _ h => h) (Or.inl ⟨by kernel_rfl, ?_⟩) hHeld ?_
      · intro w' hSw; go_simp
      try simp only [Act.put, List.setIfInBounds_toArray, List.set_cons_zero, List.set_cons_succ]
      refine wpAnyH_take (i := 5) (v := .int .i64 (k : Int)) rfl (by kernel_rfl) (by kernel_rfl) (by kernel_rfl) (fun _ _ _ h => h) (Or.inl ⟨by kernel_rfl, ?_⟩) hHeld ?_
      · intro w' hSw; go_simp
      try simp only [Act.put, List.setIfInBounds_toArray, List.set_cons_zero, List.set_cons_succ]
      refine wpAnyH_take (i := 6) (v := .pointer (some ⟨g2, k * 3, none⟩)) rfl (by kernel_rfl) (by kernel_rfl) (by kernel_rfl) (fun _ _ _ h => h) (Or.inl ⟨by kernel_rfl, ?_⟩) hHeld ?_
      · intro w' hSw; go_simp
      try simp only [Act.put, List.setIfInBounds_toArray, List.set_cons_zero, List.set_cons_succ]
      refine wpAnyH_take (i := 7) (v := fV (f (k * 3)) (f (k * 3 + 1)) (f (k * 3 + 2))) rfl (by kernel_rfl) (by kernel_rfl) (by kernel_rfl) (fun _ _ _ h => h) (Or.inl ⟨by kernel_rfl, ?_⟩) hHeld ?_
      · intro w' hSw; obtain ⟨-, z0, z1, z2⟩ := hSw; go_simp
      try simp only [Act.put, List.setIfInBounds_toArray, List.set_cons_zero, List.set_cons_succ]
      refine wpAnyH_ready (rs := [8]) (by kernel_rfl) (by simp) ?_
      refine AllReadyH.cons rfl (fun KK hK' => ?_) AllReadyH.nil
      go_simp
      refine (eqVote_any _ _ _ _).mono ?_
      rintro e u1 ⟨rfl, bb⟩
      replace L1 := L1.below bb
      replace L2 := L2.below bb
      replace B := B.trans (bb.mono B.size)
      clear bb
      try go_wp2_with fail
      clear hHeld
      refine hK'.out _ _ (two_ofV L1 L2 hlt) (fun hHeld => ?_)
      clear hK' KK
      try simp only [List.setIfInBounds_toArray, List.set_cons_zero, List.set_cons_succ]
      refine wpAnyH_ready (rs := [9]) (by kernel_rfl) (by simp) ?_
      refine AllReadyH.cons rfl (fun KK hK' => ?_) AllReadyH.nil
      go_simp
      clear hHeld
      refine hK'.out _ _ (two_ofV L1 L2 hlt) (fun hHeld => ?_)
      clear hK' KK
      try simp only [List.setIfInBounds_toArray, List.set_cons_zero, List.set_cons_succ]
      clear hHeld L1 L2
      refine wpAnyH_done (by kernel_rfl) ?_ _
      go_wp2
      exact ⟨⟨k + 1, by omega, by go_num, B⟩, by simp [intOf]; omega⟩
    · have hlt' : ¬ (k : Int) < (n : Int) := by omega
      go_wp2
      go_ret
      exact ⟨rfl, B⟩
/-- Room for n spots. -/
def F3 (w : World) (g n : Nat) : Prop := ∃ cur : Array Value, At 32 w g cur ∧ cur.size = n * 3
theorem F3.cell {w : World} {g n : Nat} (h : F3 w g n) {i : Nat} (hi : i < n * 3) : w.cell? ⟨g, i, none⟩ = some (cv w g i) ∧ w.frozen? ⟨g, i, none⟩ = false := by
  obtain ⟨cur, h1, h2⟩ := h
  have e := h1.cell i (v := cur[i]) (Array.getElem?_eq_getElem (by omega))
  exact ⟨by rw [cv, e]; rfl, h1.frozen i⟩
theorem F3.set {w : World} {g n : Nat} (h : F3 w g n) (i : Nat) (v : Value) : F3 (w.setCell ⟨g, i, none⟩ v) g n := by
  obtain ⟨cur, h1, h2⟩ := h
  exact ⟨_, h1.set i v, by simpa using h2⟩
set_option maxRecDepth 100000 in
set_option maxHeartbeats 1600000 in
theorem markF_any {w : World} {g n : Nat} (h : F3 w g n) (hn : n ≤ 1048576) :
    Calls Try.prog 21 #[.slice (some ⟨g, 0, none⟩) n n, .int .i64 1] w fun e w' => e = .returned (.int .i64 ((1 + 3 * n : Nat) : Int)) ∧ Kept g w w' := by
  have hn' : (n : Int) ≤ 1048576 := by omega
  go_enter Try.func21, Try.ntmps21
  go_wp2
  go_loopw [1, 5] (fun s t wr => ∃ k : Nat, k ≤ n ∧ s = .int .i64 ((1 + 3 * k : Nat) : Int) ∧ t = .int .i64 (k : Int) ∧ F3 wr g n ∧ Kept g w wr) (fun _ t _ => n - (intOf t).toNat)
  case atStart => exact ⟨0, Nat.zero_le _, rfl, rfl, h, Kept.refl _ _⟩
  case round =>
    clear h
    obtain ⟨k, hk', rfl, rfl, h, hK⟩ := hrel
    by_cases hk : k < n
    · have hklt : (k : Int) < (n : Int) := by omega
      obtain ⟨X, hX⟩ : ∃ X : Int, ((1 + 3 * k : Nat) : Int) = X := ⟨_, rfl⟩
      have hX1 : 0 ≤ X ∧ X ≤ 20000000 := by omega
      obtain ⟨c0, f0⟩ := h.cell (i := k * 3) (by omega)
      obtain ⟨V1, hV1⟩ : ∃ V, wr.setCell ⟨g, k * 3, none⟩ (.int .i64 X) = V := ⟨_, rfl⟩
      have h1 : F3 V1 g n := by rw [← hV1]; exact h.set _ _
      have K1 : Kept g w V1 := by rw [← hV1]; exact hK.set _
      obtain ⟨c1, f1⟩ := h1.cell (i := k * 3 + 1) (by omega)
      obtain ⟨V2, hV2⟩ : ∃ V, V1.setCell ⟨g, k * 3 + 1, none⟩ (.int .i64 (X + 1)) = V := ⟨_, rfl⟩
      have h2 : F3 V2 g n := by rw [← hV2]; exact h1.set _ _
      have K2 : Kept g w V2 := by rw [← hV2]; exact K1.set _
      obtain ⟨c2, f2⟩ := h2.cell (i := k * 3 + 2) (by omega)
      have w1 : IntKind.i64.wrap (X + 1) = X + 1 := by rw [IntKind.wrap_i64]; omega
      have w2 : IntKind.i64.wrap (X + 1 + 1) = X + 2 := by rw [IntKind.wrap_i64]; omega
      have w3 : IntKind.i64.wrap (X + 2 + 1) = X + 3 := by rw [IntKind.wrap_i64]; omega
      rw [hX]
      go_wp2
      refine ⟨⟨k + 1, by omega, ?_, by go_num, h2.set _ _, K2.set _⟩, by simp [intOf]; omega⟩
      rw [show ((1 + 3 * (k + 1) : Nat) : Int) = X + 3 by omega]
    · have hklt : ¬ (k : Int) < (n : Int) := by omega
      obtain rfl : k = n := by omega
      go_wp2
      go_ret
      exact ⟨rfl, hK⟩
/-- Votes' room, of which k bear their marks. -/
def M3 (w : World) (g c k : Nat) : Prop := ∃ cur : Array Value, At 36 w g cur ∧ cur.size = c * 3 ∧ ∀ i, i < k * 3 → cur[i]? = some (.int .i64 ((1 + i : Nat) : Int))
theorem M3.cell {w : World} {g c k : Nat} (h : M3 w g c k) {i : Nat} (hi : i < c * 3) : w.cell? ⟨g, i, none⟩ = some (cv w g i) ∧ w.frozen? ⟨g, i, none⟩ = false := by
  obtain ⟨cur, h1, h2, -⟩ := h
  have e := h1.cell i (v := cur[i]) (Array.getElem?_eq_getElem (by omega))
  exact ⟨by rw [cv, e]; rfl, h1.frozen i⟩
theorem M3.put {w : World} {g c k : Nat} {X : Int} (h : M3 w g c k) (hk : k < c) (hX : ((1 + 3 * k : Nat) : Int) = X) : M3 (((w.setCell ⟨g, k * 3, none⟩ (.int .i64 X)).setCell ⟨g, k * 3 + 1, none⟩ (.int .i64 (X + 1))).setCell ⟨g, k * 3 + 2, none⟩ (.int .i64 (X + 2))) g c (k + 1) := by
  obtain ⟨cur, h1, h2, h3⟩ := h
  refine ⟨_, ((h1.set (k * 3) _).set (k * 3 + 1) _).set (k * 3 + 2) _, by simpa using h2, fun i hi => ?_⟩
  by_cases e2 : i = k * 3 + 2
  · subst e2
    rw [Array.getElem?_setIfInBounds, if_pos rfl, if_pos (by simp; omega)]
    congr 2; omega
  · rw [Array.getElem?_setIfInBounds, if_neg (by omega)]
    by_cases e1 : i = k * 3 + 1
    · subst e1
      rw [Array.getElem?_setIfInBounds, if_pos rfl, if_pos (by simp; omega)]
      congr 2; omega
    · rw [Array.getElem?_setIfInBounds, if_neg (by omega)]
      by_cases e0 : i = k * 3
      · subst e0
        rw [Array.getElem?_setIfInBounds, if_pos rfl, if_pos (by omega)]
        congr 2; omega
      · rw [Array.getElem?_setIfInBounds, if_neg (by omega)]
        exact h3 i (by omega)
set_option maxRecDepth 100000 in
set_option maxHeartbeats 1600000 in
theorem markV_any {w : World} {g n c : Nat} (h : M3 w g c 0) (hc : n ≤ c) (hn : n ≤ 1048576) :
    Calls Try.prog 22 #[.slice (some ⟨g, 0, none⟩) n c, .int .i64 1] w fun e w' => e = .returned (.int .i64 ((1 + 3 * n : Nat) : Int)) ∧ Trips w' g n (fun i => ((1 + i : Nat) : Int)) ∧ Kept g w w' := by
  have hn' : (n : Int) ≤ 1048576 := by omega
  go_enter Try.func22, Try.ntmps22
  go_wp2
  go_loopw [1, 5] (fun s t wr => ∃ k : Nat, k ≤ n ∧ s = .int .i64 ((1 + 3 * k : Nat) : Int) ∧ t = .int .i64 (k : Int) ∧ M3 wr g c k ∧ Kept g w wr) (fun _ t _ => n - (intOf t).toNat)
  case atStart => exact ⟨0, Nat.zero_le _, rfl, rfl, h, Kept.refl _ _⟩
  case round =>
    clear h
    obtain ⟨k, hk', rfl, rfl, h, hK⟩ := hrel
    by_cases hk : k < n
    · have hklt : (k : Int) < (n : Int) := by omega
      obtain ⟨X, hX⟩ : ∃ X : Int, ((1 + 3 * k : Nat) : Int) = X := ⟨_, rfl⟩
      have hX1 : 0 ≤ X ∧ X ≤ 20000000 := by omega
      have hp := h.put (show k < c by omega) hX
      obtain ⟨c0, f0⟩ := h.cell (i := k * 3) (by omega)
      obtain ⟨c1, f1⟩ := h.cell (i := k * 3 + 1) (by omega)
      obtain ⟨c2, f2⟩ := h.cell (i := k * 3 + 2) (by omega)
      have HP : Hid (M3 (((wr.setCell ⟨g, k * 3, none⟩ (.int .i64 X)).setCell ⟨g, k * 3 + 1, none⟩ (.int .i64 (X + 1))).setCell ⟨g, k * 3 + 2, none⟩ (.int .i64 (X + 2))) g c (k + 1)) := hp
      have w1 : IntKind.i64.wrap (X + 1) = X + 1 := by rw [IntKind.wrap_i64]; omega
      have w2 : IntKind.i64.wrap (X + 1 + 1) = X + 2 := by rw [IntKind.wrap_i64]; omega
      have w3 : IntKind.i64.wrap (X + 2 + 1) = X + 3 := by rw [IntKind.wrap_i64]; omega
      rw [hX]
      have HX : Hid (((1 + 3 * k : Nat) : Int) = X) := hX
      clear hp h hX
      go_wp2
      refine ⟨⟨k + 1, by omega, ?_, by go_num, HP.out, ((hK.set _).set _).set _⟩, by simp [intOf]; omega⟩
      rw [show ((1 + 3 * (k + 1) : Nat) : Int) = X + 3 by have := HX.out; omega]
    · have hklt : ¬ (k : Int) < (n : Int) := by omega
      obtain rfl : k = n := by omega
      have HT : Hid (Trips wr g k (fun i => ((1 + i : Nat) : Int))) := by
        obtain ⟨cur, h1, h2, h3⟩ := h
        exact ⟨h1.lt, fun i hi => h1.cell i (h3 i hi)⟩
      clear h
      go_wp2
      go_ret
      exact ⟨rfl, HT.out, hK⟩
set_option maxRecDepth 100000 in
set_option maxHeartbeats 1600000 in
theorem heldV_any {w : World} {g n c : Nat} (h : Trips w g n (fun i => ((1 + i : Nat) : Int))) (hn : n ≤ 1048576) :
    Calls Try.prog 23 #[.slice (some ⟨g, 0, none⟩) n c, .int .i64 1] w fun e w' => e = .returned (.int .i64 ((1 + 3 * n : Nat) : Int)) ∧ Below w.heap.size w w' := by
  have hn' : (n : Int) ≤ 1048576 := by omega
  go_enter Try.func23, Try.ntmps23
  go_wp2
  go_loopw [1, 5] (fun s t wr => ∃ k : Nat, k ≤ n ∧ s = .int .i64 ((1 + 3 * k : Nat) : Int) ∧ t = .int .i64 (k : Int) ∧ Below w.heap.size w wr) (fun _ t _ => n - (intOf t).toNat)
  case atStart => exact ⟨0, Nat.zero_le _, rfl, rfl, Below.refl _ _⟩
  case round =>
    obtain ⟨k, hk', rfl, rfl, bW⟩ := hrel
    by_cases hk : k < n
    · have hklt : (k : Int) < (n : Int) := by omega
      obtain ⟨X, hX⟩ : ∃ X : Int, ((1 + 3 * k : Nat) : Int) = X := ⟨_, rfl⟩
      have hX1 : 0 ≤ X ∧ X ≤ 20000000 := by omega
      obtain ⟨c0, c1, c2⟩ := (h.below bW).open k hk
      rw [show ((1 + k * 3 : Nat) : Int) = X by omega] at c0
      rw [show ((1 + (k * 3 + 1) : Nat) : Int) = X + 1 by omega] at c1
      rw [show ((1 + (k * 3 + 2) : Nat) : Int) = X + 2 by omega] at c2
      have w1 : IntKind.i64.wrap (X + 1) = X + 1 := by rw [IntKind.wrap_i64]; omega
      have w2 : IntKind.i64.wrap (X + 1 + 1) = X + 2 := by rw [IntKind.wrap_i64]; omega
      have w3 : IntKind.i64.wrap (X + 2 + 1) = X + 3 := by rw [IntKind.wrap_i64]; omega
      rw [hX]
      have HX : Hid (((1 + 3 * k : Nat) : Int) = X) := hX
      clear hX
      go_wp2
      refine ⟨⟨k + 1, by omega, ?_, by go_num, bW⟩, by simp [intOf]; omega⟩
      rw [show ((1 + 3 * (k + 1) : Nat) : Int) = X + 3 by have := HX.out; omega]
    · have hklt : ¬ (k : Int) < (n : Int) := by omega
      obtain rfl : k = n := by omega
      go_wp2
      go_ret
      exact ⟨rfl, bW⟩
/-- The numbers of votes. -/
def vf (F : Nat → Vt) (i : Nat) : Int := if i % 3 = 0 then (F (i / 3)).x else if i % 3 = 1 then (F (i / 3)).y else (F (i / 3)).c
theorem own_trips {w : World} {B g n c : Nat} {F : Nat → Vt} (h : w.ownsRow B 36 3 (.slice (some ⟨g, 0, none⟩) n c) n (hC vE F n)) : Trips w g n (vf F) := by
  refine ⟨(own_lt h).2.1, fun i hi => ?_⟩
  obtain ⟨z0, z1, z2, -⟩ := own_readV h (i := i / 3) (by omega)
  rcases (by omega : i % 3 = 0 ∨ i % 3 = 1 ∨ i % 3 = 2) with e | e | e
  · rw [show i / 3 * 3 = i by omega] at z0
    rw [z0, vf, if_pos e]
  · rw [show i / 3 * 3 + 1 = i by omega] at z1
    rw [z1, vf, if_neg (by omega), if_pos e]
  · rw [show i / 3 * 3 + 2 = i by omega] at z2
    rw [z2, vf, if_neg (by omega), if_neg (by omega)]
theorem Trips.congr {w : World} {g n : Nat} {f f' : Nat → Int} (h : Trips w g n f) (e : ∀ i, i < n * 3 → f i = f' i) : Trips w g n f' := ⟨h.1, fun i hi => by rw [← e i hi]; exact h.2 i hi⟩
theorem Trips.kept {w w' : World} {g q n : Nat} {f : Nat → Int} (h : Trips w g n f) (hk : Kept q w w') (hg : g ≠ q) : Trips w' g n f := ⟨Nat.lt_of_lt_of_le h.1 hk.size, fun i hi => (hk.cell hg h.1).trans (h.2 i hi)⟩
theorem vf_congr {F F' : Nat → Vt} {n : Nat} (h : ∀ i, i < n → F i = F' i) : ∀ i, i < n * 3 → vf F i = vf F' i := fun i hi => by unfold vf; rw [h (i / 3) (by omega)]
theorem own_m3 {w : World} {B g n c : Nat} {F : Nat → Vt} (h : w.ownsRow B 36 3 (.slice (some ⟨g, 0, none⟩) n c) n (hC vE F n)) : M3 w g c 0 := by
  rcases h.2 with ⟨h1, _⟩ | ⟨g', c', cur, h1, hb, hh, hc1, hc2, hsz, ht⟩
  · cases h1
  · simp only [Value.slice.injEq, Option.some.injEq, Addr.mk.injEq] at h1
    obtain ⟨⟨rfl, -, -⟩, -, rfl⟩ := h1
    exact ⟨cur, hh, hsz, fun i hi => by omega⟩
/-- What Votes tells, opened: so many votes, and their numbers. -/
def VoQ (w : World) (m : Nat) (F : Nat → Vt) (e : Ending) (w' : World) : Prop :=
  ∃ g c G, e = .returned (.slice (some ⟨g, 0, none⟩) m c) ∧ w'.ownsRow w.heap.size 36 3 (.slice (some ⟨g, 0, none⟩) m c) m (hC vE G m) ∧ Trips w' g m (vf F) ∧ Below w.heap.size w w'
theorem VoP.next {w0 w1 : World} {n : Nat} {f : Nat → Int} {e0 : Ending} (h0 : VoP w0 n f e0 w1) : ∃ m F, m ≤ 1000 ∧ ∀ e w2 w2', VoP w2 n f e w2' → VoQ w2 m F e w2' := by
  obtain ⟨v0, m, F, -, -, -, hc0, hm, -⟩ := h0
  refine ⟨m, F, hm, fun e w2 w2' h => ?_⟩
  obtain ⟨v, m', F', rfl, hO, hnn, hc, -, b⟩ := h
  obtain ⟨rfl, hF⟩ : m = m' ∧ ∀ i, i < m → F i = F' i := by
    rcases hc0 with ⟨h1, h2⟩ | ⟨h1, h2⟩
    · rcases hc with ⟨h3, h4⟩ | ⟨h3, h4⟩
      · exact h2.same h4
      · exact absurd h1 h3
    · rcases hc with ⟨h3, h4⟩ | ⟨h3, h4⟩
      · exact absurd h3 h1
      · exact ⟨by omega, fun i hi => by omega⟩
  obtain ⟨g, c, rfl⟩ : ∃ g c, v = .slice (some ⟨g, 0, none⟩) m c := by
    rcases hO.2 with ⟨e1, -⟩ | ⟨g, c, cur, e1, -⟩
    · exact absurd e1 hnn
    · exact ⟨g, c, e1⟩
  exact ⟨g, c, F', rfl, hO, (own_trips hO).congr (fun i hi => (vf_congr hF i hi).symm), b⟩
set_option maxRecDepth 100000 in
set_option maxHeartbeats 4000000 in
theorem exactVotes_walk {w : World} {a : Option Addr} {n cap : Nat} {f : Nat → Int} (hS : Src w a (n * 3) f) (hn : n ≤ maxLen) :
    Calls Try.prog 6 #[.slice a n cap] w fun e w' => e = .returned (.bool true) ∧ Below w.heap.size w w' := by
  go_enter Try.func6, Try.ntmps6
  go_wp2_with fail
  refine (sz_any _ hn).mono ?_
  rintro e w1 ⟨⟨r, rfl, hr⟩, rfl⟩
  rcases hr with rfl | ⟨h0, hsh⟩
  · go_wp2
    go_ret
    exact ⟨rfl, Below.refl _ _⟩
  have h1 : ¬ r < 0 := by omega
  go_wp2_with fail
  refine (toSpotS_any hS hsh).mono ?_
  rintro e w2 ⟨g2, rfl, -, L2, bW⟩
  go_wp2_with fail
  refine (specVotes_any L2.trips hsh).mono ?_
  intro e w3 hP
  obtain ⟨m, F, hm, NX⟩ := hP.next
  obtain ⟨gw, cw, Gw, rfl, Ow, Tw, bb⟩ := NX _ _ _ hP
  replace bW := bW.trans (bb.mono bW.size)
  have hgw := Tw.1
  have z3 := bb.size
  have zw3 := bW.size
  clear bb hP L2 Ow
  have hmm : m ≤ 1048576 := by omega
  have IP := fun (w : World) (g : Nat) (h : Trips w g n f) => (implVotes_any (cp := n) h hsh).mono (fun e w' hh => NX e w w' hh)
  clear NX
  go_wp2_with fail
  refine (toSpotS_any (hS.below bW) hsh).mono ?_
  rintro e w4 ⟨g4, rfl, hg4, L4, bb⟩
  replace bW := bW.trans (bb.mono bW.size)
  replace Tw := Tw.below bb
  have z4 := bb.size
  have l4 : g4 < w4.heap.size := L4.trips.1
  clear bb
  go_wp2_with fail
  refine (IP _ _ L4.trips).mono ?_
  rintro e w5 ⟨gg, cg, Gg, rfl, Og, Tg, bb⟩
  replace bW := bW.trans (bb.mono bW.size)
  replace Tw := Tw.below bb
  replace L4 := L4.below bb
  have hgg := own_lt Og
  have z5 := bb.size
  clear bb
  go_wp2_with fail
  refine (eqVoteS_true Tg Tw hmm).mono ?_
  rintro e w6 ⟨rfl, bb⟩
  replace bW := bW.trans (bb.mono bW.size)
  replace Tw := Tw.below bb
  replace Tg := Tg.below bb
  replace Og := own_bel Og bb
  replace L4 := L4.below bb
  clear bb
  go_wp2_with fail
  refine (toSpotS_any (hS.below bW) hsh).mono ?_
  rintro e w7 ⟨g7, rfl, -, L7, bb⟩
  replace bW := bW.trans (bb.mono bW.size)
  replace Tw := Tw.below bb
  replace Tg := Tg.below bb
  replace Og := own_bel Og bb
  replace L4 := L4.below bb
  clear bb
  go_wp2_with fail
  refine (eqSpotS_true L4.trips L7.trips hsh).mono ?_
  rintro e w8 ⟨rfl, bb⟩
  replace bW := bW.trans (bb.mono bW.size)
  replace Tw := Tw.below bb
  replace Tg := Tg.below bb
  replace Og := own_bel Og bb
  replace L4 := L4.below bb
  clear bb L7
  have F8 : F3 w8 g4 n := by
    obtain ⟨cur, q1, q2, -⟩ := L4
    exact ⟨cur, q1, q2⟩
  clear L4
  go_wp2_with fail
  refine (markF_any F8 hsh).mono ?_
  rintro e w9 ⟨rfl, K9⟩
  replace Tw := Tw.kept K9 (by omega)
  replace Tg := Tg.kept K9 (by omega)
  replace Og := own_keep Og (w' := w9) (fun j hj => by cases hj; exact K9.block gg (own_lt Og).2.1 (by omega))
  replace bW : Below w.heap.size w w9 := bW.trans (K9.below (by have := bW.size; omega) bW.size)
  clear K9 F8
  have kn : ¬ ((1 + 3 * n : Nat) : Int) < 0 := by omega
  go_wp2_with fail
  refine (eqVoteS_true Tg Tw hmm).mono ?_
  rintro e w10 ⟨rfl, bb⟩
  replace bW := bW.trans (bb.mono bW.size)
  replace Tw := Tw.below bb
  replace Og := own_bel Og bb
  clear bb kn Tg
  go_wp2_with fail
  refine (markV_any (own_m3 Og) (own_lt Og).2.2.1 hmm).mono ?_
  rintro e w11 ⟨rfl, Tm, K11⟩
  replace Tw := Tw.kept K11 (by omega)
  replace bW : Below w.heap.size w w11 := bW.trans (K11.below (by have := bW.size; omega) bW.size)
  clear K11 Og
  go_wp2_with fail
  refine (heldV_any Tm hmm).mono ?_
  rintro e w12 ⟨rfl, bb⟩
  replace bW := bW.trans (bb.mono bW.size)
  replace Tw := Tw.below bb
  replace Tm := Tm.below bb
  clear bb
  have kn : ¬ ((1 + 3 * m : Nat) : Int) < 0 := by omega
  have e1 : (((1 + 3 * m : Nat) : Int) != ((1 + 3 * m : Nat) : Int)) = false := bne_self_eq_false _
  go_wp2_with fail
  refine (toSpotS_any (hS.below bW) hsh).mono ?_
  rintro e w13 ⟨g13, rfl, -, L13, bb⟩
  replace bW := bW.trans (bb.mono bW.size)
  replace Tw := Tw.below bb
  replace Tm := Tm.below bb
  clear bb
  go_wp2_with fail
  refine (IP _ _ L13.trips).mono ?_
  rintro e w14 ⟨gh, ch, Gh, rfl, -, Th, bb⟩
  replace bW := bW.trans (bb.mono bW.size)
  replace Tw := Tw.below bb
  replace Tm := Tm.below bb
  clear bb L13
  go_wp2_with fail
  refine (eqVoteS_true Th Tw hmm).mono ?_
  rintro e w15 ⟨rfl, bb⟩
  replace bW := bW.trans (bb.mono bW.size)
  replace Tm := Tm.below bb
  clear bb Th Tw
  go_wp2_with fail
  refine (heldV_any Tm hmm).mono ?_
  rintro e w16 ⟨rfl, bb⟩
  replace bW := bW.trans (bb.mono bW.size)
  clear bb
  go_wp2
  go_ret
  exact ⟨rfl, bW⟩
end Go.Proofs.Ytjlmiadmobbibaa
