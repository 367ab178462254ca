/-
  Rows of rows of cyclotomic numbers: compared, marked, held. Walked.
-/
import Derived.Test.YthcanmnbaemdbaaDoorRf
namespace Go.Proofs.YthcanmnbaemdbaaDoor
open Go.RowKit

/-- n rows of n numbers, of their own memory from lo up to hi. -/
def Grid (w : World) (lo hi : Nat) (v : Value) (n : Nat) (F : Nat → Nat → Int) : Prop :=
  ∃ (go c : Nat) (G C : Nat → Nat) (cur : Array Value), v = .slice (some ⟨go, 0, none⟩) n c ∧ (lo ≤ go ∧ go < hi) ∧ At 68 w go cur ∧ (∀ k, k < n → cur[k]? = some (.slice (some ⟨G k, 0, none⟩) n (C k))) ∧
    (∀ k, k < n → lo ≤ G k ∧ G k < hi ∧ G k ≠ go ∧ n ≤ C k ∧ Laid4 w (G k) (C k) n (F k)) ∧ ∀ i k, i < n → k < n → i ≠ k → G i ≠ G k
theorem Grid.below {w w' : World} {lo hi : Nat} {v : Value} {n : Nat} {F : Nat → Nat → Int} (h : Grid w lo hi v n F) (hb : Below w.heap.size w w') : Grid w' lo hi v n F := by
  obtain ⟨go, c, G, C, cur, e, h1, h2, h3, h4, h5⟩ := h
  exact ⟨go, c, G, C, cur, e, h1, h2.below hb, h3, fun k hk => ⟨(h4 k hk).1, (h4 k hk).2.1, (h4 k hk).2.2.1, (h4 k hk).2.2.2.1, (h4 k hk).2.2.2.2.below hb⟩, h5⟩
theorem Grid.turn {w w' : World} {lo hi a b : Nat} {v : Value} {n : Nat} {F : Nat → Nat → Int} (h : Grid w a b v n F) (t : Turn lo hi w w') (hd : b ≤ lo ∨ hi ≤ a) : Grid w' a b v n F := by
  obtain ⟨go, c, G, C, cur, e, h1, h2, h3, h4, h5⟩ := h
  refine ⟨go, c, G, C, cur, e, h1, h2.turn t (by omega), h3, fun k hk => ?_, h5⟩
  obtain ⟨p1, p2, p3, p4, p5⟩ := h4 k hk
  exact ⟨p1, p2, p3, p4, p5.turn t (by omega)⟩
theorem Grid.shape {w : World} {lo hi : Nat} {v : Value} {n : Nat} {F : Nat → Nat → Int} (h : Grid w lo hi v n F) : ∃ a c, v = .slice a n c := by
  obtain ⟨go, c, G, C, cur, e, -⟩ := h
  exact ⟨_, c, e⟩
/-- The rows k of two such lists. -/
def Sc (o1 o2 k : Nat) (v1 v2 : Value) (w : World) : Prop := w.cell? ⟨o1, k, none⟩ = some v1 ∧ w.cell? ⟨o2, k, none⟩ = some v2
theorem sc_of {s t : TypeId} {w : World} {o1 o2 k : Nat} {v1 v2 : Value} {a1 a2 : Array Value} (h1 : At s w o1 a1) (h2 : At t w o2 a2) (e1 : a1[k]? = some v1) (e2 : a2[k]? = some v2) : Sc o1 o2 k v1 v2 w := ⟨h1.cell k e1, h2.cell k e2⟩
set_option maxRecDepth 100000 in
set_option maxHeartbeats 800000 in
theorem eqCycSS_true {w : World} {lo1 hi1 lo2 hi2 : Nat} {v1 v2 : Value} {n : Nat} {F : Nat → Nat → Int} (h1 : Grid w lo1 hi1 v1 n F) (h2 : Grid w lo2 hi2 v2 n F) (hn : n ≤ 12) :
    Calls Tryd.prog 17 #[v1, v2] w fun e w' => e = .returned (.bool true) ∧ Below w.heap.size w w' := by
  obtain ⟨o1, c1, G1, C1, cur1, rfl, -, A1, q1, p1, -⟩ := h1
  obtain ⟨o2, c2, G2, C2, cur2, rfl, -, A2, q2, p2, -⟩ := h2
  have hn' : (n : Int) ≤ 12 := by omega
  go_enter Tryd.func17, Tryd.ntmps17
  go_wp2
  go_loopw [5] (fun s wr => ∃ k : Nat, k ≤ n ∧ s = .int .i64 k ∧ Below w.heap.size w wr) (fun s _ => n - (intOf s).toNat)
  case atStart => exact ⟨0, Nat.zero_le _, rfl, Below.refl _ _⟩
  case round =>
    obtain ⟨k, hk, rfl, B⟩ := hrel
    by_cases hlt : k < n
    · have hlt' : (k : Int) < (n : Int) := by omega
      have H1 := A1.below B
      have H2 := A2.below B
      go_wp2_with fail
      obtain ⟨u0, hu0, bb⟩ : ∃ u0, wr.drew = u0 ∧ Below wr.heap.size wr u0 := ⟨_, rfl, (Below.refl _ _).drew⟩
      replace H1 := H1.below bb
      replace H2 := H2.below bb
      replace B := B.trans (bb.mono B.size)
      clear bb
      refine wp_region_held_drew (S := Sc o1 o2 k (.slice (some ⟨G1 k, 0, none⟩) n (C1 k)) (.slice (some ⟨G2 k, 0, none⟩) n (C2 k))) (by kernel_rfl) (by rw [hu0]; exact sc_of H1 H2 (q1 k hlt) (q2 k hlt)) (fun hHeld => ?_)
      rw [hu0] at hHeld ⊢
      clear hu0
      change wpAnyH _ _ _ _ _ 10 #[false, false, false, false, false, false, false, false, false, false] _ _
      refine wpAnyH_take (i := 0) (v := .slice (some ⟨o1, 0, none⟩) n c1) rfl (by kernel_rfl) (by kernel_rfl) (by kernel_rfl) (fun _ _ _ h => h) (Or.inl ⟨by kernel_rfl, ?_⟩) hHeld ?_
      · intro w' hSw; go_simp
      try simp only [Act.put, List.setIfInBounds_toArray, List.set_cons_zero, List.set_cons_succ, List.getElem_toArray, List.getElem_cons_zero]
      refine wpAnyH_take (i := 1) (v := .int .i64 (k : Int)) rfl (by kernel_rfl) (by kernel_rfl) (by kernel_rfl) (fun _ _ _ h => h) (Or.inl ⟨by kernel_rfl, ?_⟩) hHeld ?_
      · intro w' hSw; go_simp
      try simp only [Act.put, List.setIfInBounds_toArray, List.set_cons_zero, List.set_cons_succ, List.getElem_toArray, List.getElem_cons_succ, List.getElem_cons_zero]
      refine wpAnyH_take (i := 2) (v := .pointer (some ⟨o1, k, none⟩)) rfl (by kernel_rfl) (by kernel_rfl) (by kernel_rfl) (fun _ _ _ h => h) (Or.inl ⟨by kernel_rfl, ?_⟩) hHeld ?_
      · intro w' hSw; go_simp
      try simp only [Act.put, List.setIfInBounds_toArray, List.set_cons_zero, List.set_cons_succ, List.getElem_toArray, List.getElem_cons_succ, List.getElem_cons_zero]
      refine wpAnyH_take (i := 3) (v := .slice (some ⟨G1 k, 0, none⟩) n (C1 k)) rfl (by kernel_rfl) (by kernel_rfl) (by kernel_rfl) (fun _ _ _ h => h) (Or.inl ⟨by kernel_rfl, ?_⟩) hHeld ?_
      · intro w' hSw; obtain ⟨z0, z1⟩ := hSw; go_simp
      try simp only [Act.put, List.setIfInBounds_toArray, List.set_cons_zero, List.set_cons_succ, List.getElem_toArray, List.getElem_cons_succ, List.getElem_cons_zero]
      refine wpAnyH_take (i := 4) (v := .slice (some ⟨o2, 0, none⟩) n c2) rfl (by kernel_rfl) (by kernel_rfl) (by kernel_rfl) (fun _ _ _ h => h) (Or.inl ⟨by kernel_rfl, ?_⟩) hHeld ?_
      · intro w' hSw; go_simp
      try simp only [Act.put, List.setIfInBounds_toArray, List.set_cons_zero, List.set_cons_succ, List.getElem_toArray, List.getElem_cons_succ, List.getElem_cons_zero]
      refine wpAnyH_take (i := 5) (v := .int .i64 (k : Int)) rfl (by kernel_rfl) (by kernel_rfl) (by kernel_rfl) (fun _ _ _ h => h) (Or.inl ⟨by kernel_rfl, ?_⟩) hHeld ?_
      · intro w' hSw; go_simp
      try simp only [Act.put, List.setIfInBounds_toArray, List.set_cons_zero, List.set_cons_succ, List.getElem_toArray, List.getElem_cons_succ, List.getElem_cons_zero]
      refine wpAnyH_take (i := 6) (v := .pointer (some ⟨o2, k, none⟩)) rfl (by kernel_rfl) (by kernel_rfl) (by kernel_rfl) (fun _ _ _ h => h) (Or.inl ⟨by kernel_rfl, ?_⟩) hHeld ?_
      · intro w' hSw; go_simp
      try simp only [Act.put, List.setIfInBounds_toArray, List.set_cons_zero, List.set_cons_succ, List.getElem_toArray, List.getElem_cons_succ, List.getElem_cons_zero]
      refine wpAnyH_take (i := 7) (v := .slice (some ⟨G2 k, 0, none⟩) n (C2 k)) rfl (by kernel_rfl) (by kernel_rfl) (by kernel_rfl) (fun _ _ _ h => h) (Or.inl ⟨by kernel_rfl, ?_⟩) hHeld ?_
      · intro w' hSw; obtain ⟨z0, z1⟩ := hSw; go_simp
      try simp only [Act.put, List.setIfInBounds_toArray, List.set_cons_zero, List.set_cons_succ, List.getElem_toArray, List.getElem_cons_succ, List.getElem_cons_zero]
      refine wpAnyH_ready (rs := [8]) (by kernel_rfl) (by simp) ?_
      refine AllReadyH.cons rfl (fun KK hK' => ?_) AllReadyH.nil
      go_simp
      refine (eqCycS_true ((p1 k hlt).2.2.2.2.part.below B) ((p2 k hlt).2.2.2.2.part.below B) (by omega)).mono ?_
      rintro e u1 ⟨rfl, bb⟩
      replace H1 := H1.below bb
      replace H2 := H2.below bb
      replace B := B.trans (bb.mono B.size)
      clear bb
      try go_wp2_with fail
      clear hHeld
      refine hK'.out _ _ (sc_of H1 H2 (q1 k hlt) (q2 k hlt)) (fun hHeld => ?_)
      clear hK' KK
      try simp only [List.setIfInBounds_toArray, List.set_cons_zero, List.set_cons_succ]
      refine wpAnyH_take (i := 9) (v := .bool false) rfl (by kernel_rfl) (by kernel_rfl) (by kernel_rfl) (fun _ _ _ h => h) (Or.inl ⟨by kernel_rfl, ?_⟩) hHeld ?_
      · intro w' hSw; go_simp
      try simp only [Act.put, List.setIfInBounds_toArray, List.set_cons_zero, List.set_cons_succ, List.getElem_toArray, List.getElem_cons_succ, List.getElem_cons_zero]
      refine wpAnyH_done (by kernel_rfl) ?_ _
      clear hHeld
      go_wp2
      exact ⟨⟨k + 1, by omega, by go_num, B⟩, by simp [intOf]; omega⟩
    · have hlt' : ¬ (k : Int) < (n : Int) := by omega
      go_wp2
      go_ret
      exact ⟨rfl, B⟩
/-- The marks. -/
def mk4 (n k i : Nat) : Int := ((1 + 4 * n * k + i : Nat) : Int)
theorem markCycSS_any {w : World} {lo hi : Nat} {v : Value} {n : Nat} {F : Nat → Nat → Int} (h : Grid w lo hi v n F) (hn : n ≤ 12) :
    Calls Tryd.prog 18 #[v, .int .i64 1] w fun e w' => e = .returned (.int .i64 ((1 + 4 * n * n : Nat) : Int)) ∧ Grid w' lo hi v n (mk4 n) ∧ Turn lo hi w w' := by
  obtain ⟨go, c, G, C, cur, rfl, hgo, A, q, p, ne⟩ := h
  have hn' : (n : Int) ≤ 12 := by omega
  have hnn : ∀ r, r ≤ n → 4 * n * r ≤ 4 * 12 * 12 := fun r hr => Nat.mul_le_mul (Nat.mul_le_mul_left 4 hn) (by omega)
  go_enter Tryd.func18, Tryd.ntmps18
  go_wp2_with fail
  go_loopw [1, 5] (fun s t wr => ∃ r : Nat, r ≤ n ∧ s = .int .i64 ((1 + 4 * n * r : Nat) : Int) ∧ t = .int .i64 r ∧ At 68 wr go cur ∧ (∀ k, k < n → Laid4 wr (G k) (C k) n (if k < r then mk4 n k else F k)) ∧ Turn lo hi w wr) (fun _ t _ => n - (intOf t).toNat)
  case atStart => exact ⟨0, Nat.zero_le _, rfl, rfl, A, fun k hk => by rw [if_neg (by omega)]; exact (p k hk).2.2.2.2, .of_below (Below.refl _ _)⟩
  case round =>
    clear A
    obtain ⟨r, hr, rfl, rfl, A, R, K⟩ := hrel
    by_cases hlt : r < n
    · have hlt' : (r : Int) < (n : Int) := by omega
      have c0 := A.cell r (q r hlt)
      obtain ⟨X, hX⟩ : ∃ X : Nat, 1 + 4 * n * r = X := ⟨_, rfl⟩
      have hX1 : X ≤ 577 := by have := hnn r (by omega); omega
      rw [hX]
      obtain ⟨p1, p2, p3, p4, -⟩ := p r hlt
      have HR : Hid (∀ k, k < n → Laid4 wr (G k) (C k) n (if k < r then mk4 n k else F k)) := R
      clear R
      go_wp2_with fail
      refine (markCycS_any (HR.out r hlt) p4 hn X (by omega)).mono ?_
      rintro e w2 ⟨rfl, L2, t2⟩
      have A2 : At 68 w2 go cur := A.turn t2 (by omega)
      have K2 : Turn lo hi w w2 := K.trans ⟨t2.os, t2.tape, t2.output, t2.size, fun k hk hd => t2.block k hk (by omega)⟩
      have R2 : Hid (∀ k, k < n → Laid4 w2 (G k) (C k) n (if k < r + 1 then mk4 n k else F k)) := by
        intro k hk
        by_cases e : k = r
        · subst e
          rw [if_pos (by omega)]
          have e2 : (fun i => ((X + i : Nat) : Int)) = mk4 n k := by funext i; unfold mk4; rw [← hX]
          rw [← e2]
          exact L2
        · have := (HR.out k hk).turn t2 (by have := ne k r hk hlt e; omega)
          by_cases e2 : k < r
          · rw [if_pos e2] at this
            rw [if_pos (by omega)]
            exact this
          · rw [if_neg e2] at this
            rw [if_neg (by omega)]
            exact this
      clear HR A K t2 L2 c0
      go_wp2
      refine ⟨⟨r + 1, by omega, ?_, by go_num, A2, R2.out, K2⟩, by simp [intOf]; omega⟩
      rw [show 1 + 4 * n * (r + 1) = X + 4 * n by rw [Nat.mul_add]; omega]
      congr 1
    · have hlt' : ¬ (r : Int) < (n : Int) := by omega
      obtain rfl : r = n := by omega
      have HR : Hid (∀ k, k < r → Laid4 wr (G k) (C k) r (if k < r then mk4 r k else F k)) := R
      clear R
      go_wp2
      go_ret
      exact ⟨rfl, ⟨go, c, G, C, cur, rfl, hgo, A, q, fun k hk => ⟨(p k hk).1, (p k hk).2.1, (p k hk).2.2.1, (p k hk).2.2.2.1, by have := HR.out k hk; rw [if_pos hk] at this; exact this⟩, ne⟩, K⟩
theorem heldCycSS_any {w : World} {lo hi : Nat} {v : Value} {n : Nat} (h : Grid w lo hi v n (mk4 n)) (hn : n ≤ 12) :
    Calls Tryd.prog 19 #[v, .int .i64 1] w fun e w' => e = .returned (.int .i64 ((1 + 4 * n * n : Nat) : Int)) ∧ Below w.heap.size w w' := by
  obtain ⟨go, c, G, C, cur, rfl, hgo, A, q, p, ne⟩ := h
  have hn' : (n : Int) ≤ 12 := by omega
  have hnn : ∀ r, r ≤ n → 4 * n * r ≤ 4 * 12 * 12 := fun r hr => Nat.mul_le_mul (Nat.mul_le_mul_left 4 hn) (by omega)
  go_enter Tryd.func19, Tryd.ntmps19
  go_wp2_with fail
  go_loopw [1, 5] (fun s t wr => ∃ r : Nat, r ≤ n ∧ s = .int .i64 ((1 + 4 * n * r : Nat) : Int) ∧ t = .int .i64 r ∧ Below w.heap.size w wr) (fun _ t _ => n - (intOf t).toNat)
  case atStart => exact ⟨0, Nat.zero_le _, rfl, rfl, Below.refl _ _⟩
  case round =>
    obtain ⟨r, hr, rfl, rfl, B⟩ := hrel
    by_cases hlt : r < n
    · have hlt' : (r : Int) < (n : Int) := by omega
      have c0 := (A.below B).cell r (q r hlt)
      obtain ⟨X, hX⟩ : ∃ X : Nat, 1 + 4 * n * r = X := ⟨_, rfl⟩
      have hX1 : X ≤ 577 := by have := hnn r (by omega); omega
      rw [hX]
      have e2 : (fun i => ((X + i : Nat) : Int)) = mk4 n r := by funext i; unfold mk4; rw [← hX]
      have Q : Quads wr (G r) n (fun i => ((X + i : Nat) : Int)) := by rw [e2]; exact (p r hlt).2.2.2.2.part.below B
      have hnx : ¬ ((X + 4 * n : Nat) : Int) < 0 := by omega
      go_wp2_with fail
      refine (heldCycS_any X Q hn (by omega)).mono ?_
      rintro e w2 ⟨rfl, b2⟩
      obtain ⟨Y, hY⟩ : ∃ Y : Int, ((X + 4 * n : Nat) : Int) = Y := ⟨_, rfl⟩
      rw [hY] at hnx ⊢
      clear Q c0
      go_wp2
      refine ⟨⟨r + 1, by omega, ?_, by go_num, B.trans (b2.mono B.size)⟩, by simp [intOf]; omega⟩
      rw [show 1 + 4 * n * (r + 1) = X + 4 * n by rw [Nat.mul_add]; omega, hY]
    · have hlt' : ¬ (r : Int) < (n : Int) := by omega
      obtain rfl : r = n := by omega
      go_wp2
      go_ret
      exact ⟨rfl, B⟩
end Go.Proofs.YthcanmnbaemdbaaDoor
