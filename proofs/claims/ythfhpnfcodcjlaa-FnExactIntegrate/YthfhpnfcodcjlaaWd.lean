/-
  Integrate, by the specification, walked.
-/
import Derived.Test.YthfhpnfcodcjlaaWc
namespace Go.Proofs.Ythfhpnfcodcjlaa
open Go.RowKit

theorem abs_any (z : Int) (w : World) (h : -1000000 ≤ z ∧ z ≤ 1000000) : Calls Try.prog 63 #[.int .i64 z] w fun e w' => e = .returned (.int .i64 (z.natAbs : Int)) ∧ w = w' := by
  by_cases hz : z < 0
  · have e1 : (z.natAbs : Int) = -z := by omega
    rw [e1]
    go_enter Try.func63, Try.ntmps63
    go_wp2
    go_ret
    exact ⟨rfl, rfl⟩
  · have e1 : (z.natAbs : Int) = z := by omega
    rw [e1]
    go_enter Try.func63, Try.ntmps63
    go_wp2
    go_ret
    exact ⟨rfl, rfl⟩
theorem max_any (a b : Int) (w : World) : Calls Try.prog 62 #[.int .i64 a, .int .i64 b] w fun e w' => e = .returned (.int .i64 (if b < a then a else b)) ∧ w = w' := by
  by_cases hz : b < a
  · rw [if_pos hz]
    go_enter Try.func62, Try.ntmps62
    go_wp2
    all_goals
      first
      | (exfalso; omega)
      | (go_ret
         exact ⟨rfl, rfl⟩)
  · rw [if_neg hz]
    go_enter Try.func62, Try.ntmps62
    go_wp2
    all_goals
      first
      | (exfalso; omega)
      | (go_ret
         exact ⟨rfl, rfl⟩)
theorem dist_pr {N k : Nat} {x y r D : Int} (hD : (if (((((k / N : Nat) : Int) - y).natAbs : Nat) : Int) < (((((k % N : Nat) : Int) - x).natAbs : Nat) : Int) then (((((k % N : Nat) : Int) - x).natAbs : Nat) : Int) else (((((k / N : Nat) : Int) - y).natAbs : Nat) : Int)) = D) : D ≤ r ↔ pr N x y r k = true := by
  rw [pr_iff]
  generalize k % N = X at hD
  generalize k / N = Y at hD
  split at hD <;> omega
set_option maxRecDepth 100000 in
set_option maxHeartbeats 8000000 in
theorem specInt_any {w : World} {a : Option Addr} {len c : Nat} {f : Nat → Int} (W H x y r : Int) (hs : Src w a len f) (hlen : len ≤ 1048576) :
    Calls Try.prog 28 #[fV W H (.slice a len c), .int .i64 x, .int .i64 y, .int .i64 r] w (IntP W H len f x y r w) := by
  obtain ⟨V, hV, b0, bW, -⟩ := boxed w 26 #[.int .i64 W, .int .i64 H, .slice a len c]
  replace hs := hs.below bW
  go_enter Try.func28, Try.ntmps28
  obtain ⟨oc00, oc01, oc02, -⟩ := b0.open3
  go_wp2_with fail
  refine (specFrameOk_any W H hs hlen).mono ?_
  rintro e w3 ⟨rfl, bb⟩
  clear oc00 oc01 oc02
  replace b0 := b0.below bb
  replace hs := hs.below bb
  replace bW := bW.trans (bb.mono bW.size)
  have z_w3 := bb.size
  clear bb
  clear hV
  rcases hfr : frB W H len f with _ | _
  · have hno : ¬ iOk W H len f x y r := fun h => frB_not hfr h.1
    clear hfr
    go_wp2
    go_ret3
    exact ⟨_, _, _, rfl, .inr ⟨hno, rfl, rfl, rfl⟩, bW⟩
  · have hok := frB_of hfr
    obtain ⟨hW, hH, hl, hf⟩ := id hok
    obtain ⟨oc00, oc01, oc02, -⟩ := b0.open3
    go_wp2_with fail
    refine (in_any _ _ _ _).mono ?_
    rintro e w4 ⟨rfl, rfl⟩
    clear oc00 oc01 oc02
    by_cases hx : 0 ≤ x ∧ x ≤ W - 1
    · rw [decide_eq_true hx]
      obtain ⟨oc00, oc01, oc02, -⟩ := b0.open3
      go_wp2_with fail
      refine (in_any _ _ _ _).mono ?_
      rintro e w4 ⟨rfl, rfl⟩
      clear oc00 oc01 oc02
      by_cases hy : 0 ≤ y ∧ y ≤ H - 1
      · rw [decide_eq_true hy]
        go_wp2_with fail
        refine (in_any _ _ _ _).mono ?_
        rintro e w4 ⟨rfl, rfl⟩
        by_cases hr : 0 ≤ r ∧ r ≤ 5
        · rw [decide_eq_true hr]
          have hyes : iOk W H len f x y r := ⟨hok, ⟨⟨by omega, by omega⟩, by omega, by omega⟩, hr⟩
          obtain ⟨N, rfl⟩ : ∃ N : Nat, W = (N : Int) := ⟨W.toNat, by omega⟩
          obtain ⟨M, rfl⟩ : ∃ M : Nat, H = (M : Int) := ⟨H.toNat, by omega⟩
          have hN : 1 ≤ N ∧ N ≤ 64 := by omega
          have hM : 1 ≤ M ∧ M ≤ 64 := by omega
          have hMN : len = M * N := by
            have : ((M * N : Nat) : Int) = (len : Int) := by rw [hl, Int.natCast_mul, Int.mul_comm]
            omega
          have hl4 : len ≤ 4096 := by
            have := Nat.mul_le_mul hM.2 hN.2
            omega
          have HMN : Hid (len = M * N) := hMN
          clear hMN
          have R1 : IntR N M len f x y r (fs f (fil (pr N x y r) len)) ((fil (pr N x y r) len).length : Int) (fs f (fil (pr N x y (r + 1)) len) - fs f (fil (pr N x y r) len)) := .inl ⟨hyes, rfl, rfl, rfl⟩
          clear hyes hl hfr hok
          go_wp2_with fail
          have r0 : Below w.heap.size w w3 ∧ At 26 w3 w.heap.size #[.int .i64 N, .int .i64 M, .slice a len c] ∧ Src w3 a len f := ⟨bW, b0, hs⟩
          clear bW b0 hs
          go_loopw [11, 12, 13, 14] (fun s11 s12 s13 s14 wr => ∃ k : Nat, k ≤ len ∧ s14 = .int .i64 k ∧ s11 = .int .i64 (fs f (fil (pr N x y r) k)) ∧ s12 = .int .i64 ((fil (pr N x y r) k).length : Int) ∧ s13 = .int .i64 (fs f (fil (pr N x y (r + 1)) k) - fs f (fil (pr N x y r) k)) ∧ Below w.heap.size w wr ∧ At 26 wr w.heap.size #[.int .i64 N, .int .i64 M, .slice a len c] ∧ Src wr a len f) (fun _ _ _ s14 _ => len - (intOf s14).toNat)
          case atStart => exact ⟨0, Nat.zero_le _, rfl, rfl, rfl, rfl, r0⟩
          case round =>
            clear r0
            obtain ⟨k, hk, rfl, rfl, rfl, rfl, bW, b0, hs⟩ := hrel
            obtain ⟨c0, c1, c2, -⟩ := b0.open3
            have i1 := fs_in hf (fil (pr N x y r) k) (fun j hj => by have := (fil_mem.1 hj).1; omega)
            have i2 := fs_in hf (fil (pr N x y (r + 1)) k) (fun j hj => by have := (fil_mem.1 hj).1; omega)
            have j1 := fil_len (pr N x y r) k
            have j2 := fil_len (pr N x y (r + 1)) k
            by_cases hlt : k < len
            · have hlt' : (k : Int) < (len : Int) := by omega
              have hX1 : k % N < N := Nat.mod_lt _ (by omega)
              have hY1 : k / N < M := (Nat.div_lt_iff_lt_mul (by omega)).2 (by have := HMN.out; omega)
              have hXt : (k : Int).tmod (N : Int) = ((k % N : Nat) : Int) := by simp [Int.tmod_eq_emod_of_nonneg]
              have hYt : (k : Int).tdiv (N : Int) = ((k / N : Nat) : Int) := by simp [Int.tdiv_eq_ediv_of_nonneg]
              obtain ⟨D, hD⟩ : ∃ D : Int, (if (((((k / N : Nat) : Int) - y).natAbs : Nat) : Int) < (((((k % N : Nat) : Int) - x).natAbs : Nat) : Int) then (((((k % N : Nat) : Int) - x).natAbs : Nat) : Int) else (((((k / N : Nat) : Int) - y).natAbs : Nat) : Int)) = D := ⟨_, rfl⟩
              have d1 := dist_pr (r := r) hD
              have d2 := dist_pr (r := r + 1) hD
              have hf0 := hf k hlt
              generalize k % N = X at hX1 hXt hD
              generalize k / N = Y at hY1 hYt hD
              have hN0 : ¬ N = 0 := by omega
              have wr1 : IntKind.i64.wrap ((X : Int) - x) = (X : Int) - x := IntWalk.i64_in _ (by omega)
              have wr2 : IntKind.i64.wrap ((Y : Int) - y) = (Y : Int) - y := IntWalk.i64_in _ (by omega)
              have wr3 : IntKind.i64.wrap (X : Int) = (X : Int) := IntWalk.i64_in _ (by omega)
              have wr4 : IntKind.i64.wrap (Y : Int) = (Y : Int) := IntWalk.i64_in _ (by omega)
              go_wp2_with fail
              obtain ⟨u0, hu0, bb⟩ : ∃ uu, wr.drew = uu ∧ Below wr.heap.size wr uu := ⟨_, rfl, (Below.refl _ _).drew⟩
              replace b0 := b0.below bb
              replace hs := hs.below bb
              replace bW := bW.trans (bb.mono bW.size)
              clear bb
              refine wp_region_held_drew (S := Kb u0) (by kernel_rfl) (by rw [hu0]; exact Below.refl _ _) (fun hHeld => ?_)
              rw [hu0] at hHeld ⊢
              clear hu0
              have bu : Kb u0 u0 := Below.refl _ _
              change wpAnyH _ _ _ _ _ 16 #[false, false, false, false, false, false, false, false, false, false, false, false, false, false, false, false] _ _
              refine wpAnyH_take (i := 0) (v := .int .i64 ((k : Int))) rfl (by kernel_rfl) (by kernel_rfl) (by kernel_rfl) (fun _ _ _ h => h) (Or.inl ⟨by kernel_rfl, ?_⟩) hHeld ?_
              · intro w' hSw; go_simp
              try simp only [Act.put, List.setIfInBounds_toArray, List.set_cons_zero, List.set_cons_succ, List.getElem_toArray, List.getElem_cons_zero]
              refine wpAnyH_take (i := 1) (v := .pointer (some ⟨w.heap.size, 0, none⟩)) rfl (by kernel_rfl) (by kernel_rfl) (by kernel_rfl) (fun _ _ _ h => h) (Or.inl ⟨by kernel_rfl, ?_⟩) hHeld ?_
              · intro w' hSw; go_simp
              try simp only [Act.put, List.setIfInBounds_toArray, List.set_cons_zero, List.set_cons_succ, List.getElem_toArray, List.getElem_cons_succ, List.getElem_cons_zero]
              refine wpAnyH_take (i := 2) (v := .int .i64 (N)) rfl (by kernel_rfl) (by kernel_rfl) (by kernel_rfl) (fun _ _ _ h => h) (Or.inl ⟨by kernel_rfl, ?_⟩) hHeld ?_
              · intro w' hSw; obtain ⟨z0, z1, z2, -⟩ := (b0.below hSw).open3; go_simp
              try simp only [Act.put, List.setIfInBounds_toArray, List.set_cons_zero, List.set_cons_succ, List.getElem_toArray, List.getElem_cons_succ, List.getElem_cons_zero]
              refine wpAnyH_take (i := 3) (v := .int .i64 ((X : Int))) rfl (by kernel_rfl) (by kernel_rfl) (by kernel_rfl) (fun _ _ _ h => h) (Or.inl ⟨by kernel_rfl, ?_⟩) hHeld ?_
              · intro w' hSw; go_simp
              try simp only [Act.put, List.setIfInBounds_toArray, List.set_cons_zero, List.set_cons_succ, List.getElem_toArray, List.getElem_cons_succ, List.getElem_cons_zero]
              refine wpAnyH_take (i := 4) (v := .int .i64 (x)) rfl (by kernel_rfl) (by kernel_rfl) (by kernel_rfl) (fun _ _ _ h => h) (Or.inl ⟨by kernel_rfl, ?_⟩) hHeld ?_
              · intro w' hSw; go_simp
              try simp only [Act.put, List.setIfInBounds_toArray, List.set_cons_zero, List.set_cons_succ, List.getElem_toArray, List.getElem_cons_succ, List.getElem_cons_zero]
              refine wpAnyH_take (i := 5) (v := .int .i64 ((X : Int) - x)) rfl (by kernel_rfl) (by kernel_rfl) (by kernel_rfl) (fun _ _ _ h => h) (Or.inl ⟨by kernel_rfl, ?_⟩) hHeld ?_
              · intro w' hSw; go_simp
              try simp only [Act.put, List.setIfInBounds_toArray, List.set_cons_zero, List.set_cons_succ, List.getElem_toArray, List.getElem_cons_succ, List.getElem_cons_zero]
              refine wpAnyH_take (i := 7) (v := .int .i64 ((k : Int))) rfl (by kernel_rfl) (by kernel_rfl) (by kernel_rfl) (fun _ _ _ h => h) (Or.inl ⟨by kernel_rfl, ?_⟩) hHeld ?_
              · intro w' hSw; go_simp
              try simp only [Act.put, List.setIfInBounds_toArray, List.set_cons_zero, List.set_cons_succ, List.getElem_toArray, List.getElem_cons_succ, List.getElem_cons_zero]
              refine wpAnyH_take (i := 8) (v := .pointer (some ⟨w.heap.size, 0, none⟩)) rfl (by kernel_rfl) (by kernel_rfl) (by kernel_rfl) (fun _ _ _ h => h) (Or.inl ⟨by kernel_rfl, ?_⟩) hHeld ?_
              · intro w' hSw; go_simp
              try simp only [Act.put, List.setIfInBounds_toArray, List.set_cons_zero, List.set_cons_succ, List.getElem_toArray, List.getElem_cons_succ, List.getElem_cons_zero]
              refine wpAnyH_take (i := 9) (v := .int .i64 (N)) rfl (by kernel_rfl) (by kernel_rfl) (by kernel_rfl) (fun _ _ _ h => h) (Or.inl ⟨by kernel_rfl, ?_⟩) hHeld ?_
              · intro w' hSw; obtain ⟨z0, z1, z2, -⟩ := (b0.below hSw).open3; go_simp
              try simp only [Act.put, List.setIfInBounds_toArray, List.set_cons_zero, List.set_cons_succ, List.getElem_toArray, List.getElem_cons_succ, List.getElem_cons_zero]
              refine wpAnyH_take (i := 10) (v := .int .i64 ((Y : Int))) rfl (by kernel_rfl) (by kernel_rfl) (by kernel_rfl) (fun _ _ _ h => h) (Or.inl ⟨by kernel_rfl, ?_⟩) hHeld ?_
              · intro w' hSw; go_simp
              try simp only [Act.put, List.setIfInBounds_toArray, List.set_cons_zero, List.set_cons_succ, List.getElem_toArray, List.getElem_cons_succ, List.getElem_cons_zero]
              refine wpAnyH_take (i := 11) (v := .int .i64 (y)) rfl (by kernel_rfl) (by kernel_rfl) (by kernel_rfl) (fun _ _ _ h => h) (Or.inl ⟨by kernel_rfl, ?_⟩) hHeld ?_
              · intro w' hSw; go_simp
              try simp only [Act.put, List.setIfInBounds_toArray, List.set_cons_zero, List.set_cons_succ, List.getElem_toArray, List.getElem_cons_succ, List.getElem_cons_zero]
              refine wpAnyH_take (i := 12) (v := .int .i64 ((Y : Int) - y)) rfl (by kernel_rfl) (by kernel_rfl) (by kernel_rfl) (fun _ _ _ h => h) (Or.inl ⟨by kernel_rfl, ?_⟩) hHeld ?_
              · intro w' hSw; go_simp
              try simp only [Act.put, List.setIfInBounds_toArray, List.set_cons_zero, List.set_cons_succ, List.getElem_toArray, List.getElem_cons_succ, List.getElem_cons_zero]
              refine wpAnyH_ready (rs := [6]) (by kernel_rfl) (by simp) ?_
              refine AllReadyH.cons rfl (fun KK hK' => ?_) AllReadyH.nil
              go_simp
              refine (abs_any ((X : Int) - x) _ (by omega)).mono ?_
              rintro e u1 ⟨rfl, rfl⟩
              try go_wp2_with fail
              clear hHeld
              refine hK'.out _ _ (bu) (fun hHeld => ?_)
              clear hK' KK
              try simp only [List.setIfInBounds_toArray, List.set_cons_zero, List.set_cons_succ]
              refine wpAnyH_ready (rs := [13]) (by kernel_rfl) (by simp) ?_
              refine AllReadyH.cons rfl (fun KK hK' => ?_) AllReadyH.nil
              go_simp
              refine (abs_any ((Y : Int) - y) _ (by omega)).mono ?_
              rintro e u2 ⟨rfl, rfl⟩
              try go_wp2_with fail
              clear hHeld
              refine hK'.out _ _ (bu) (fun hHeld => ?_)
              clear hK' KK
              try simp only [List.setIfInBounds_toArray, List.set_cons_zero, List.set_cons_succ]
              refine wpAnyH_ready (rs := [14]) (by kernel_rfl) (by simp) ?_
              refine AllReadyH.cons rfl (fun KK hK' => ?_) AllReadyH.nil
              go_simp
              refine (max_any _ _ _).mono ?_
              rintro e u3 ⟨rfl, rfl⟩
              rw [hD]
              try go_wp2_with fail
              clear hHeld
              refine hK'.out _ _ (bu) (fun hHeld => ?_)
              clear hK' KK
              try simp only [List.setIfInBounds_toArray, List.set_cons_zero, List.set_cons_succ]
              refine wpAnyH_take (i := 15) (v := .int .i64 (D)) rfl (by kernel_rfl) (by kernel_rfl) (by kernel_rfl) (fun _ _ _ h => h) (Or.inl ⟨by kernel_rfl, ?_⟩) hHeld ?_
              · intro w' hSw; go_simp
              try simp only [Act.put, List.setIfInBounds_toArray, List.set_cons_zero, List.set_cons_succ, List.getElem_toArray, List.getElem_cons_succ, List.getElem_cons_zero]
              refine wpAnyH_done (by kernel_rfl) ?_ _
              clear hHeld
              clear hXt hYt hN0 wr1 wr2 wr3 wr4 hD hX1 hY1
              clear bu c0 c1 c2
              obtain ⟨c0, c1, c2, -⟩ := b0.open3
              have hk4 : (k : Int) ≤ 4096 := by omega
              rcases id hs with h0 | ⟨b, off, rfl, hb, hrr⟩
              · omega
              have g0 := hrr k hlt
              obtain ⟨F, hF⟩ : ∃ F, f k = F := ⟨_, rfl⟩
              rw [hF] at g0 hf0
              by_cases p1 : pr N x y r k = true
              · have hDr : D ≤ r := d1.2 p1
                have p2 : pr N x y (r + 1) k = true := d2.1 (by omega)
                have e1 := fil_yes p1
                have e2 := fil_yes p2
                have t1 : fs f (fil (pr N x y r) (k + 1)) = fs f (fil (pr N x y r) k) + F := by rw [e1, fs_snoc, hF]
                have t2 : fs f (fil (pr N x y (r + 1)) (k + 1)) = fs f (fil (pr N x y (r + 1)) k) + F := by rw [e2, fs_snoc, hF]
                have t3 : (fil (pr N x y r) (k + 1)).length = (fil (pr N x y r) k).length + 1 := by rw [e1]; simp
                generalize fs f (fil (pr N x y r) k) = S1 at i1 t1 ⊢
                generalize fs f (fil (pr N x y (r + 1)) k) = S2 at i2 t2 ⊢
                generalize (fil (pr N x y r) k).length = n1 at i1 j1 t3 ⊢
                clear e1 e2 p1 p2 d1 d2
                go_wp2
                refine ⟨⟨k + 1, by omega, by go_num, by rw [t1], by rw [t3]; rfl, ?_, bW, b0, hs⟩, by simp [intOf]; omega⟩
                rw [t1, t2]
                congr 1
                omega
              · have hDr : ¬ D ≤ r := fun h => p1 (d1.1 h)
                have p1' : pr N x y r k = false := by simpa using p1
                have e1 := fil_no p1'
                by_cases p2 : pr N x y (r + 1) k = true
                · have hDe : D = r + 1 := by have := d2.2 p2; omega
                  have e2 := fil_yes p2
                  have t2 : fs f (fil (pr N x y (r + 1)) (k + 1)) = fs f (fil (pr N x y (r + 1)) k) + F := by rw [e2, fs_snoc, hF]
                  rw [← e1] at i1 j1 ⊢
                  generalize hS1 : fs f (fil (pr N x y r) (k + 1)) = S1 at i1 ⊢
                  generalize fs f (fil (pr N x y (r + 1)) k) = S2 at i2 t2 ⊢
                  generalize hn1 : (fil (pr N x y r) (k + 1)).length = n1 at i1 j1 ⊢
                  clear e1 e2 p1 p2 d1 d2 p1'
                  subst hDe
                  go_wp2
                  refine ⟨⟨k + 1, by omega, by go_num, by rw [hS1], by rw [hn1], ?_, bW, b0, hs⟩, by simp [intOf]; omega⟩
                  rw [hS1, t2]
                  congr 1
                  omega
                · have hDe : ¬ D = r + 1 := fun h => p2 (d2.1 (by omega))
                  have hDb : (D == r + 1) = false := by simpa using hDe
                  have p2' : pr N x y (r + 1) k = false := by simpa using p2
                  have e2 := fil_no p2'
                  rw [← e1] at i1 j1 ⊢
                  rw [← e2] at i2 j2 ⊢
                  generalize hS1 : fs f (fil (pr N x y r) (k + 1)) = S1 at i1 ⊢
                  generalize hS2 : fs f (fil (pr N x y (r + 1)) (k + 1)) = S2 at i2 ⊢
                  generalize hn1 : (fil (pr N x y r) (k + 1)).length = n1 at i1 j1 ⊢
                  clear e1 e2 p1 p2 d1 d2 p1' p2' hDe
                  go_wp2
                  refine ⟨⟨k + 1, by omega, by go_num, by rw [hS1], by rw [hn1], by rw [hS1, hS2], bW, b0, hs⟩, by simp [intOf]; omega⟩
            · have hlt' : ¬ (k : Int) < (len : Int) := by omega
              obtain rfl : k = len := by omega
              go_wp2
              go_ret3
              exact ⟨_, _, _, rfl, R1, bW⟩
        · rw [decide_eq_false hr]
          have hno : ¬ iOk W H len f x y r := fun h => hr h.2.2
          go_wp2
          go_ret3
          exact ⟨_, _, _, rfl, .inr ⟨hno, rfl, rfl, rfl⟩, bW⟩
      · rw [decide_eq_false hy]
        have hno : ¬ iOk W H len f x y r := fun h => hy (by have := h.2.1; omega)
        go_wp2
        go_ret3
        exact ⟨_, _, _, rfl, .inr ⟨hno, rfl, rfl, rfl⟩, bW⟩
    · rw [decide_eq_false hx]
      have hno : ¬ iOk W H len f x y r := fun h => hx (by have := h.2.1; omega)
      go_wp2
      go_ret3
      exact ⟨_, _, _, rfl, .inr ⟨hno, rfl, rfl, rfl⟩, bW⟩
end Go.Proofs.Ythfhpnfcodcjlaa
