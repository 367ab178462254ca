/-
  Lists of cores: compared, marked and held, walked.
-/
import Derived.Test.YthpmfjhhaolklaaLa
namespace Go.Proofs.Ythpmfjhhaolklaa
open Go.RowKit

abbrev kV (x y b : Int) : Value := .agg #[.int .i64 x, .int .i64 y, .int .i64 b]
theorem eqCore_any (a b c : Int) (w : World) : Calls Try.prog 48 #[kV a b c, kV a b c] w fun e w' => e = .returned (.bool true) ∧ Below w.heap.size w w' := by
  go_enter Try.func48, Try.ntmps48
  go_wp2
  go_ret
  exact ⟨rfl, (below_alloc _ _).trans ((below_alloc _ _).mono (by simp))⟩
/-- A list of cores of its own: n of them, room for c, its cells told by f. -/
def Tri (w : World) (g c n : Nat) (f : Nat → Int) : Prop :=
  ∃ cur : Array Value, At 60 w g cur ∧ cur.size = c * 3 ∧ ∀ i, i < n * 3 → cur[i]? = some (.int .i64 (f i))
theorem Tri.lt {w : World} {g c n : Nat} {f : Nat → Int} (h : Tri w g c n f) : g < w.heap.size := by
  obtain ⟨cur, h1, -⟩ := h
  exact h1.lt
theorem Tri.below {w w' : World} {g c n : Nat} {f : Nat → Int} (h : Tri w g c n f) (hb : Below w.heap.size w w') : Tri w' g c n f := by
  obtain ⟨cur, h1, h2⟩ := h
  exact ⟨cur, h1.below hb, h2⟩
theorem Tri.turn {w w' : World} {lo hi g c n : Nat} {f : Nat → Int} (h : Tri w g c n f) (ht : Turn lo hi w w') (hd : g < lo ∨ hi ≤ g) : Tri w' g c n f := by
  obtain ⟨cur, h1, h2⟩ := h
  exact ⟨cur, h1.turn ht hd, h2⟩
theorem Tri.get {w : World} {g c n : Nat} {f : Nat → Int} (h : Tri w g c n f) {j : Nat} (hj : j < n * 3) : w.cell? ⟨g, j, none⟩ = some (.int .i64 (f j)) := by
  obtain ⟨cur, h1, h2, h3⟩ := h
  exact h1.cell j (h3 j hj)
theorem Tri.free {w : World} {g c n : Nat} {f : Nat → Int} (h : Tri w g c n f) (j : Nat) : w.frozen? ⟨g, j, none⟩ = false := by
  obtain ⟨cur, h1, -⟩ := h
  exact h1.frozen j
theorem Tri.upd {w : World} {g c n : Nat} {f : Nat → Int} (h : Tri w g c n f) (hn : n ≤ c) {j : Nat} (hj : j < n * 3) (x : Int) : Tri (w.setCell ⟨g, j, none⟩ (.int .i64 x)) g c n (fun i => if i = j then x else f i) := by
  obtain ⟨cur, h1, h2, h3⟩ := h
  refine ⟨_, h1.set j _, by simpa using h2, fun i hi => ?_⟩
  by_cases e : i = j
  · subst e
    have l0 : i < cur.size := by omega
    simp [l0]
  · have := h3 i hi
    rw [Array.getElem?_setIfInBounds, if_neg (by omega), this]
    simp [e]
theorem Tri.cong {w : World} {g c n : Nat} {f h : Nat → Int} (m : Tri w g c n f) (e : ∀ i, i < n * 3 → f i = h i) : Tri w g c n h := by
  obtain ⟨cur, h1, h2, h3⟩ := m
  exact ⟨cur, h1, h2, fun i hi => by rw [h3 i hi, e i hi]⟩
/-- What a round reads of two such lists. -/
def TriTwo (g1 g2 k : Nat) (x y b : Int) (w : World) : Prop := (w.cell? ⟨g1, k * 3, none⟩ = some (.int .i64 x) ∧ w.cell? ⟨g1, k * 3 + 1, none⟩ = some (.int .i64 y) ∧ w.cell? ⟨g1, k * 3 + 2, none⟩ = some (.int .i64 b)) ∧ w.cell? ⟨g2, k * 3, none⟩ = some (.int .i64 x) ∧ w.cell? ⟨g2, k * 3 + 1, none⟩ = some (.int .i64 y) ∧ w.cell? ⟨g2, k * 3 + 2, none⟩ = some (.int .i64 b)
theorem triTwo_of {w : World} {g1 g2 c1 c2 n k : Nat} {f : Nat → Int} (h1 : Tri w g1 c1 n f) (h2 : Tri w g2 c2 n f) (hk : k < n) : TriTwo g1 g2 k (f (k * 3)) (f (k * 3 + 1)) (f (k * 3 + 2)) w :=
  ⟨⟨h1.get (by omega), h1.get (by omega), h1.get (by omega)⟩, h2.get (by omega), h2.get (by omega), h2.get (by omega)⟩
theorem triTwo_mk {g1 g2 k : Nat} {x y b x' y' b' : Int} {w : World} (h : TriTwo g1 g2 k x y b w) (e1 : x = x') (e2 : y = y') (e3 : b = b') : TriTwo g1 g2 k x' y' b' w := by subst e1 e2 e3; exact h
set_option maxRecDepth 100000 in
set_option maxHeartbeats 1600000 in
theorem eqCoreS_true {w : World} {g1 g2 n c1 c2 : Nat} {f : Nat → Int} (h1 : Tri w g1 c1 n f) (h2 : Tri w g2 c2 n f) (hn : n ≤ 1048576) :
    Calls Try.prog 29 #[.slice (some ⟨g1, 0, none⟩) n c1, .slice (some ⟨g2, 0, none⟩) n c2] w fun e w' => e = .returned (.bool true) ∧ Below w.heap.size w w' := by
  go_enter Try.func29, Try.ntmps29
  go_wp2
  go_loopw [5] (fun s wr => ∃ k : Nat, k ≤ n ∧ s = .int .i64 k ∧ Below w.heap.size w wr) (fun s _ => n - (intOf s).toNat)
  case atStart => exact ⟨0, Nat.zero_le _, rfl, Below.refl _ _⟩
  case round =>
    obtain ⟨k, hk, rfl, hbel⟩ := hrel
    by_cases hlt : k < n
    · have hlt' : (k : Int) < (n : Int) := by omega
      have hk0 : (0 : Int) ≤ (k : Int) := by omega
      obtain ⟨x, ex⟩ : ∃ x, f (k * 3) = x := ⟨_, rfl⟩
      obtain ⟨y, ey⟩ : ∃ x, f (k * 3 + 1) = x := ⟨_, rfl⟩
      obtain ⟨b, eb⟩ : ∃ x, f (k * 3 + 2) = x := ⟨_, rfl⟩
      go_wp2_with fail
      obtain ⟨u0, hu0, bb⟩ : ∃ u0, wr.drew = u0 ∧ Below wr.heap.size wr u0 := ⟨_, rfl, (Below.refl _ _).drew⟩
      replace hbel := hbel.trans (bb.mono hbel.size)
      clear bb
      refine wp_region_held_drew (S := TriTwo g1 g2 k x y b) (by kernel_rfl) (by rw [hu0]; exact triTwo_mk (triTwo_of (h1.below hbel) (h2.below hbel) hlt) ex ey eb) (fun hHeld => ?_)
      rw [hu0] at hHeld ⊢
      clear hu0
      change wpAnyH _ _ _ _ _ 10 #[false, false, false, false, false, false, false, false, false, false] _ _
      refine wpAnyH_take (i := 0) (v := .slice (some ⟨g1, 0, none⟩) n c1) rfl (by kernel_rfl) (by kernel_rfl) (by kernel_rfl) (fun _ _ _ h => h) (Or.inl ⟨by kernel_rfl, ?_⟩) hHeld ?_
      · intro w' hSw; go_simp
      try simp only [Act.put, List.setIfInBounds_toArray, List.set_cons_zero, List.set_cons_succ, List.getElem_toArray, List.getElem_cons_zero]
      refine wpAnyH_take (i := 1) (v := .int .i64 (k : Int)) rfl (by kernel_rfl) (by kernel_rfl) (by kernel_rfl) (fun _ _ _ h => h) (Or.inl ⟨by kernel_rfl, ?_⟩) hHeld ?_
      · intro w' hSw; go_simp
      try simp only [Act.put, List.setIfInBounds_toArray, List.set_cons_zero, List.set_cons_succ, List.getElem_toArray, List.getElem_cons_succ, List.getElem_cons_zero]
      refine wpAnyH_take (i := 2) (v := .pointer (some ⟨g1, k * 3, none⟩)) rfl (by kernel_rfl) (by kernel_rfl) (by kernel_rfl) (fun _ _ _ h => h) (Or.inl ⟨by kernel_rfl, ?_⟩) hHeld ?_
      · intro w' hSw; go_simp
      try simp only [Act.put, List.setIfInBounds_toArray, List.set_cons_zero, List.set_cons_succ, List.getElem_toArray, List.getElem_cons_succ, List.getElem_cons_zero]
      refine wpAnyH_take (i := 3) (v := kV x y b) rfl (by kernel_rfl) (by kernel_rfl) (by kernel_rfl) (fun _ _ _ h => h) (Or.inl ⟨by kernel_rfl, ?_⟩) hHeld ?_
      · intro w' hSw; obtain ⟨⟨z0, z1, z2⟩, z3, z4, z5⟩ := hSw; go_simp
      try simp only [Act.put, List.setIfInBounds_toArray, List.set_cons_zero, List.set_cons_succ, List.getElem_toArray, List.getElem_cons_succ, List.getElem_cons_zero]
      refine wpAnyH_take (i := 4) (v := .slice (some ⟨g2, 0, none⟩) n c2) rfl (by kernel_rfl) (by kernel_rfl) (by kernel_rfl) (fun _ _ _ h => h) (Or.inl ⟨by kernel_rfl, ?_⟩) hHeld ?_
      · intro w' hSw; go_simp
      try simp only [Act.put, List.setIfInBounds_toArray, List.set_cons_zero, List.set_cons_succ, List.getElem_toArray, List.getElem_cons_succ, List.getElem_cons_zero]
      refine wpAnyH_take (i := 5) (v := .int .i64 (k : Int)) rfl (by kernel_rfl) (by kernel_rfl) (by kernel_rfl) (fun _ _ _ h => h) (Or.inl ⟨by kernel_rfl, ?_⟩) hHeld ?_
      · intro w' hSw; go_simp
      try simp only [Act.put, List.setIfInBounds_toArray, List.set_cons_zero, List.set_cons_succ, List.getElem_toArray, List.getElem_cons_succ, List.getElem_cons_zero]
      refine wpAnyH_take (i := 6) (v := .pointer (some ⟨g2, k * 3, none⟩)) rfl (by kernel_rfl) (by kernel_rfl) (by kernel_rfl) (fun _ _ _ h => h) (Or.inl ⟨by kernel_rfl, ?_⟩) hHeld ?_
      · intro w' hSw; go_simp
      try simp only [Act.put, List.setIfInBounds_toArray, List.set_cons_zero, List.set_cons_succ, List.getElem_toArray, List.getElem_cons_succ, List.getElem_cons_zero]
      refine wpAnyH_take (i := 7) (v := kV x y b) rfl (by kernel_rfl) (by kernel_rfl) (by kernel_rfl) (fun _ _ _ h => h) (Or.inl ⟨by kernel_rfl, ?_⟩) hHeld ?_
      · intro w' hSw; obtain ⟨⟨z0, z1, z2⟩, z3, z4, z5⟩ := hSw; go_simp
      try simp only [Act.put, List.setIfInBounds_toArray, List.set_cons_zero, List.set_cons_succ, List.getElem_toArray, List.getElem_cons_succ, List.getElem_cons_zero]
      refine wpAnyH_ready (rs := [8]) (by kernel_rfl) (by simp) ?_
      refine AllReadyH.cons rfl (fun KK hK' => ?_) AllReadyH.nil
      go_simp
      refine (eqCore_any x y b _).mono ?_
      rintro e u1 ⟨rfl, bb⟩
      replace hbel := hbel.trans (bb.mono hbel.size)
      clear bb
      try go_wp2_with fail
      clear hHeld
      refine hK'.out _ _ (triTwo_mk (triTwo_of (h1.below hbel) (h2.below hbel) hlt) ex ey eb) (fun hHeld => ?_)
      clear hK' KK
      try simp only [List.setIfInBounds_toArray, List.set_cons_zero, List.set_cons_succ]
      refine wpAnyH_take (i := 9) (v := .bool false) rfl (by kernel_rfl) (by kernel_rfl) (by kernel_rfl) (fun _ _ _ h => h) (Or.inl ⟨by kernel_rfl, ?_⟩) hHeld ?_
      · intro w' hSw; go_simp
      try simp only [Act.put, List.setIfInBounds_toArray, List.set_cons_zero, List.set_cons_succ, List.getElem_toArray, List.getElem_cons_succ, List.getElem_cons_zero]
      refine wpAnyH_done (by kernel_rfl) ?_ _
      clear hHeld
      go_wp2
      refine ⟨⟨k + 1, by omega, by go_num, hbel⟩, by simp [intOf]; omega⟩
    · have hlt' : ¬ (k : Int) < (n : Int) := by omega
      go_wp2
      go_ret
      exact ⟨rfl, hbel⟩
set_option maxRecDepth 100000 in
set_option maxHeartbeats 1600000 in
theorem markCoreS_any {w : World} {g n c : Nat} {f : Nat → Int} (h : Tri w g c n f) (hc : n ≤ c) (hn : n ≤ 1048576) :
    Calls Try.prog 30 #[.slice (some ⟨g, 0, none⟩) n c, .int .i64 1] w fun e w' => e = .returned (.int .i64 ((1 + n * 3 : Nat) : Int)) ∧ Tri w' g c n (fun i => (1 + i : Nat)) ∧ Kept g w w' := by
  go_enter Try.func30, Try.ntmps30
  go_wp2
  go_loopw [1, 5] (fun s t wr => ∃ k : Nat, k ≤ n ∧ s = .int .i64 ((1 + k * 3 : Nat) : Int) ∧ t = .int .i64 k ∧ Tri wr g c n (fun i => if i < k * 3 then ((1 + i : Nat) : Int) else f i) ∧ Kept g w wr) (fun _ t _ => n - (intOf t).toNat)
  case atStart => exact ⟨0, Nat.zero_le _, rfl, rfl, h.cong (fun i _ => by simp), Kept.refl _ _⟩
  case round =>
    clear h
    obtain ⟨k, hk, rfl, rfl, hm, hK⟩ := hrel
    by_cases hlt : k < n
    · have hlt' : (k : Int) < (n : Int) := by omega
      have hn' : (n : Int) ≤ 1048576 := by omega
      have z0 := hm.get (j := k * 3) (by omega)
      have z1 := hm.get (j := k * 3 + 1) (by omega)
      have z2 := hm.get (j := k * 3 + 2) (by omega)
      have y0 := hm.free (k * 3)
      have y1 := hm.free (k * 3 + 1)
      have y2 := hm.free (k * 3 + 2)
      have HM : Hid (Tri wr g c n (fun i => if i < k * 3 then ((1 + i : Nat) : Int) else f i)) := hm
      clear hm
      obtain ⟨X, hX⟩ : ∃ X : Int, ((1 + k * 3 : Nat) : Int) = X := ⟨_, rfl⟩
      have hX1 : 0 ≤ X ∧ X ≤ 20000000 := by omega
      rw [hX]
      go_wp2
      refine ⟨⟨k + 1, by omega, ?_, by go_num, ?_, ((hK.set _).set _).set _⟩, by simp [intOf]; omega⟩
      · rw [show ((1 + (k + 1) * 3 : Nat) : Int) = X + 1 + 1 + 1 by omega]
      · have q := ((HM.out.upd hc (j := k * 3) (by omega) X).upd hc (j := k * 3 + 1) (by omega) (X + 1)).upd hc (j := k * 3 + 2) (by omega) (X + 1 + 1)
        refine q.cong (fun i hi => ?_)
        show ite _ _ (ite _ _ (ite _ _ (ite _ _ _))) = ite _ _ _
        split
        · rw [if_pos (by omega)]; omega
        · split
          · rw [if_pos (by omega)]; omega
          · split
            · rw [if_pos (by omega)]; omega
            · split
              · rw [if_pos (by omega)]
              · rw [if_neg (by omega)]
    · have hlt' : ¬ (k : Int) < (n : Int) := by omega
      obtain rfl : k = n := by omega
      go_wp2
      go_ret
      exact ⟨rfl, hm.cong (fun i hi => if_pos hi), hK⟩
theorem heldCoreS_any {w : World} {g n c : Nat} (h : Tri w g c n (fun i => (1 + i : Nat))) (hn : n ≤ 1048576) :
    Calls Try.prog 31 #[.slice (some ⟨g, 0, none⟩) n c, .int .i64 1] w fun e w' => e = .returned (.int .i64 ((1 + n * 3 : Nat) : Int)) ∧ w = w' := by
  go_enter Try.func31, Try.ntmps31
  go_wp2
  go_loopw [1, 5] (fun s t wr => ∃ k : Nat, k ≤ n ∧ s = .int .i64 ((1 + k * 3 : Nat) : Int) ∧ t = .int .i64 k ∧ w = wr) (fun _ t _ => n - (intOf t).toNat)
  case atStart => exact ⟨0, Nat.zero_le _, rfl, rfl, rfl⟩
  case round =>
    obtain ⟨k, hk, rfl, rfl, rfl⟩ := hrel
    by_cases hlt : k < n
    · have hlt' : (k : Int) < (n : Int) := by omega
      have hn' : (n : Int) ≤ 1048576 := by omega
      have z0 := h.get (j := k * 3) (by omega)
      have z1 := h.get (j := k * 3 + 1) (by omega)
      have z2 := h.get (j := k * 3 + 2) (by omega)
      obtain ⟨X, hX⟩ : ∃ X : Int, ((1 + k * 3 : Nat) : Int) = X := ⟨_, rfl⟩
      have hX1 : 0 ≤ X ∧ X ≤ 20000000 := by omega
      rw [show ((1 + (k * 3 + 1) : Nat) : Int) = X + 1 by omega] at z1
      rw [show ((1 + (k * 3 + 2) : Nat) : Int) = X + 1 + 1 by omega] at z2
      rw [hX] at z0 ⊢
      go_wp2
      refine ⟨⟨k + 1, by omega, ?_, by go_num, trivial⟩, by simp [intOf]; omega⟩
      rw [show ((1 + (k + 1) * 3 : Nat) : Int) = X + 1 + 1 + 1 by omega]
    · have hlt' : ¬ (k : Int) < (n : Int) := by omega
      obtain rfl : k = n := by omega
      go_wp2
      go_ret
      exact ⟨rfl, rfl⟩
end Go.Proofs.Ythpmfjhhaolklaa
