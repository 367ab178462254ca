/-
  Integrate, by the program, walked.
-/
import Derived.Test.YtfgehmcloeebkaaWb
namespace Go.Proofs.Ytfgehmcloeebkaa
open Go.RowKit

def iOk (W H : Int) (len : Nat) (f : Nat → Int) (x y r : Int) : Prop := frOk W H len f ∧ ((0 ≤ x ∧ x < W) ∧ 0 ≤ y ∧ y < H) ∧ 0 ≤ r ∧ r ≤ 5
/-- What Integrate tells. -/
def IntR (W H : Int) (len : Nat) (f : Nat → Int) (x y r s n g : Int) : Prop :=
  (iOk W H len f x y r ∧ s = fs f (fil (pr W.toNat x y r) len) ∧ n = ((fil (pr W.toNat x y r) len).length : Int) ∧ g = fs f (fil (pr W.toNat x y (r + 1)) len) - fs f (fil (pr W.toNat x y r) len)) ∨ (¬ iOk W H len f x y r ∧ s = 0 ∧ n = 0 ∧ g = 0)
theorem IntR.same {W H : Int} {len : Nat} {f : Nat → Int} {x y r s n g s' n' g' : Int} (h : IntR W H len f x y r s n g) (k : IntR W H len f x y r s' n' g') : s' = s ∧ n' = n ∧ g' = g := by
  rcases h with ⟨h0, rfl, rfl, rfl⟩ | ⟨h0, rfl, rfl, rfl⟩ <;> rcases k with ⟨k0, rfl, rfl, rfl⟩ | ⟨k0, rfl, rfl, rfl⟩
  · exact ⟨rfl, rfl, rfl⟩
  · exact absurd h0 k0
  · exact absurd k0 h0
  · exact ⟨rfl, rfl, rfl⟩
def IntP (W H : Int) (len : Nat) (f : Nat → Int) (x y r : Int) (w : World) (e : Ending) (w' : World) : Prop := ∃ s n g, e = .returned (.tuple #[.int .i64 s, .int .i64 n, .int .i64 g]) ∧ IntR W H len f x y r s n g ∧ Below w.heap.size w w'
set_option maxRecDepth 100000 in
set_option maxHeartbeats 8000000 in
theorem implInt_any {w : World} {a : Option Addr} {len c : Nat} {f : Nat → Int} (W H x y r : Int) (hs : Src w a len f) (hlen : len ≤ 1048576) :
    Calls Try.prog 19 #[fV W H (.slice a len c), .int .i64 x, .int .i64 y, .int .i64 r] w (IntP W H len f x y r w) := by
  obtain ⟨V, hV, b0, bW, -⟩ := boxed w 26 #[.int .i64 W, .int .i64 H, .slice a len c]
  replace hs := hs.below bW
  go_enter Try.func19, Try.ntmps19
  obtain ⟨oc00, oc01, oc02, -⟩ := b0.open3
  go_wp2_with fail
  refine (detectorOf_any W H a len c V).mono ?_
  rintro e w1 ⟨rfl, bb⟩
  clear oc00 oc01 oc02
  replace b0 := b0.below bb
  replace hs := hs.below bb
  replace bW := bW.trans (bb.mono bW.size)
  have z_w1 := bb.size
  clear bb
  clear hV
  obtain ⟨V2, hV2, d0, bb, -⟩ := boxed w1 58 #[.int .i64 W, .int .i64 H, .slice a len c]
  replace b0 := b0.below bb
  replace hs := hs.below bb
  replace bW := bW.trans (bb.mono bW.size)
  have z_V2 := d0.lt
  clear bb
  obtain ⟨oc00, oc01, oc02, -⟩ := b0.open3
  go_wp2_with fail
  refine (implFrameOk_any W H hs hlen).mono ?_
  rintro e w3 ⟨rfl, bb⟩
  clear oc00 oc01 oc02
  replace b0 := b0.below bb
  replace hs := hs.below bb
  replace d0 := d0.below bb
  replace bW := bW.trans (bb.mono bW.size)
  have z_w3 := bb.size
  clear bb
  clear hV2
  rcases hfr : frB W H len f with _ | _
  · have hno : ¬ iOk W H len f x y r := fun h => frB_not hfr h.1
    clear hfr
    go_wp2
    go_ret3
    exact ⟨_, _, _, rfl, .inr ⟨hno, rfl, rfl, rfl⟩, bW⟩
  · have hok := frB_of hfr
    obtain ⟨oc00, oc01, oc02, -⟩ := d0.open3
    go_wp2_with fail
    refine (has_any W H x y _).mono ?_
    rintro e w4 ⟨rfl, bb⟩
    clear oc00 oc01 oc02
    replace hs := hs.below bb
    replace d0 := d0.below bb
    replace bW := bW.trans (bb.mono bW.size)
    have z_w4 := bb.size
    clear bb
    by_cases hh : (0 ≤ x ∧ x < W) ∧ 0 ≤ y ∧ y < H
    · rw [decide_eq_true hh]
      by_cases hr0 : r < 0
      · have hno : ¬ iOk W H len f x y r := fun h => by have := h.2.2; omega
        go_wp2
        go_ret3
        exact ⟨_, _, _, rfl, .inr ⟨hno, rfl, rfl, rfl⟩, bW⟩
      by_cases hr5 : 5 < r
      · have hno : ¬ iOk W H len f x y r := fun h => by have := h.2.2; omega
        go_wp2
        go_ret3
        exact ⟨_, _, _, rfl, .inr ⟨hno, rfl, rfl, rfl⟩, bW⟩
      have hyes : iOk W H len f x y r := ⟨hok, hh, by omega, by omega⟩
      obtain ⟨hW, hH, hl, hf⟩ := hok
      obtain ⟨N, rfl⟩ : ∃ N : Nat, W = (N : Int) := ⟨W.toNat, by omega⟩
      obtain ⟨M, rfl⟩ : ∃ M : Nat, H = (M : Int) := ⟨H.toNat, by omega⟩
      have hN : 1 ≤ N ∧ N ≤ 64 := by omega
      have hM : 1 ≤ M ∧ M ≤ 64 := by omega
      have hMN : M * N = len := by
        have : ((M * N : Nat) : Int) = (len : Int) := by rw [hl, Int.natCast_mul, Int.mul_comm]
        omega
      have hl4 : len ≤ 4096 := by
        have := Nat.mul_le_mul hM.2 hN.2
        omega
      obtain ⟨hx, hy⟩ := hh
      have R1 : IntR N M len f x y r (fs f (fil (pr N x y r) len)) ((fil (pr N x y r) len).length : Int) (fs f (fil (pr N x y (r + 1)) len) - fs f (fil (pr N x y r) len)) := .inl ⟨hyes, rfl, rfl, rfl⟩
      clear hyes hl hfr
      obtain ⟨oc00, oc01, oc02, -⟩ := d0.open3
      go_wp2_with fail
      refine (near_any N M x y r _ hN hM hx hy (by omega)).mono ?_
      rintro e w5 ⟨v, rfl, nm, bb⟩
      clear oc00 oc01 oc02
      replace hs := hs.below bb
      replace d0 := d0.below bb
      replace bW := bW.trans (bb.mono bW.size)
      have z_w5 := bb.size
      clear bb
      rw [hMN] at nm
      have hL1 : ∀ j ∈ fil (pr N x y r) len, j < len := fun j hj => (fil_mem.1 hj).1
      have hLl1 : (fil (pr N x y r) len).length ≤ 4096 := Nat.le_trans (fil_len _ _) hl4
      have hL2 : ∀ j ∈ fil (pr N x y (r + 1)) len, j < len := fun j hj => (fil_mem.1 hj).1
      have hLl2 : (fil (pr N x y (r + 1)) len).length ≤ 4096 := Nat.le_trans (fil_len _ _) hl4
      obtain ⟨g, cc, rfl, -, -, -⟩ := nm.open
      obtain ⟨oc00, oc01, oc02, -⟩ := d0.open3
      go_wp2_with fail
      refine (sumAt_any N M hs hf nm hL1 hLl1).mono ?_
      rintro e w6 ⟨rfl, bb⟩
      clear oc00 oc01 oc02
      replace hs := hs.below bb
      replace d0 := d0.below bb
      replace bW := bW.trans (bb.mono bW.size)
      have z_w6 := bb.size
      clear bb
      have i1 := fs_in hf _ hL1
      have i2 := fs_in hf _ hL2
      clear nm
      have wr1 : IntKind.i64.wrap (r + 1) = r + 1 := IntWalk.i64_in _ (by omega)
      have wr2 : IntKind.i64.wrap (fs f (fil (pr N x y (r + 1)) len) - fs f (fil (pr N x y r) len)) = fs f (fil (pr N x y (r + 1)) len) - fs f (fil (pr N x y r) len) := IntWalk.i64_in _ (by omega)
      go_wp2_with fail
      obtain ⟨u0, hu0, bb⟩ : ∃ uu, w6.drew = uu ∧ Below w6.heap.size w6 uu := ⟨_, rfl, (Below.refl _ _).drew⟩
      replace d0 := d0.below bb
      replace hs := hs.below bb
      replace bW := bW.trans (bb.mono bW.size)
      clear bb
      refine wp_region_held_drew (S := Kb u0) (by kernel_rfl) (by rw [hu0]; exact Below.refl _ _) (fun hHeld => ?_)
      rw [hu0] at hHeld ⊢
      clear hu0
      have bu : Kb u0 u0 := Below.refl _ _
      change wpAnyH _ _ _ _ _ 17 #[false, false, false, false, false, false, false, false, false, false, false, false, false, false, false, false, false] _ _
      refine wpAnyH_take (i := 0) (v := .int .i64 (fs f (fil (pr N x y r) len))) rfl (by kernel_rfl) (by kernel_rfl) (by kernel_rfl) (fun _ _ _ h => h) (Or.inl ⟨by kernel_rfl, ?_⟩) hHeld ?_
      · intro w' hSw; go_simp
      try simp only [Act.put, List.setIfInBounds_toArray, List.set_cons_zero, List.set_cons_succ, List.getElem_toArray, List.getElem_cons_zero]
      refine wpAnyH_take (i := 1) (v := .slice ((some ⟨g, 0, none⟩)) ((fil (pr N x y r) len).length) cc) rfl (by kernel_rfl) (by kernel_rfl) (by kernel_rfl) (fun _ _ _ h => h) (Or.inl ⟨by kernel_rfl, ?_⟩) hHeld ?_
      · intro w' hSw; go_simp
      try simp only [Act.put, List.setIfInBounds_toArray, List.set_cons_zero, List.set_cons_succ, List.getElem_toArray, List.getElem_cons_succ, List.getElem_cons_zero]
      refine wpAnyH_take (i := 2) (v := .int .i64 ((fil (pr N x y r) len).length)) rfl (by kernel_rfl) (by kernel_rfl) (by kernel_rfl) (fun _ _ _ h => h) (Or.inl ⟨by kernel_rfl, ?_⟩) hHeld ?_
      · intro w' hSw; go_simp
      try simp only [Act.put, List.setIfInBounds_toArray, List.set_cons_zero, List.set_cons_succ, List.getElem_toArray, List.getElem_cons_succ, List.getElem_cons_zero]
      refine wpAnyH_take (i := 3) (v := .agg #[.int .i64 (N), .int .i64 (M), .slice a len c]) rfl (by kernel_rfl) (by kernel_rfl) (by kernel_rfl) (fun _ _ _ h => h) (Or.inl ⟨by kernel_rfl, ?_⟩) hHeld ?_
      · intro w' hSw; obtain ⟨z0, z1, z2, -⟩ := (d0.below hSw).open3; go_simp
      try simp only [Act.put, List.setIfInBounds_toArray, List.set_cons_zero, List.set_cons_succ, List.getElem_toArray, List.getElem_cons_succ, List.getElem_cons_zero]
      refine wpAnyH_take (i := 4) (v := .pointer (some ⟨w1.heap.size, 0, none⟩)) rfl (by kernel_rfl) (by kernel_rfl) (by kernel_rfl) (fun _ _ _ h => h) (Or.inl ⟨by kernel_rfl, ?_⟩) hHeld ?_
      · intro w' hSw; go_simp
      try simp only [Act.put, List.setIfInBounds_toArray, List.set_cons_zero, List.set_cons_succ, List.getElem_toArray, List.getElem_cons_succ, List.getElem_cons_zero]
      refine wpAnyH_take (i := 5) (v := .agg #[.int .i64 (N), .int .i64 (M)]) rfl (by kernel_rfl) (by kernel_rfl) (by kernel_rfl) (fun _ _ _ h => h) (Or.inl ⟨by kernel_rfl, ?_⟩) hHeld ?_
      · intro w' hSw; obtain ⟨z0, z1, z2, -⟩ := (d0.below hSw).open3; go_simp
      try simp only [Act.put, List.setIfInBounds_toArray, List.set_cons_zero, List.set_cons_succ, List.getElem_toArray, List.getElem_cons_succ, List.getElem_cons_zero]
      refine wpAnyH_take (i := 6) (v := .int .i64 (x)) rfl (by kernel_rfl) (by kernel_rfl) (by kernel_rfl) (fun _ _ _ h => h) (Or.inl ⟨by kernel_rfl, ?_⟩) hHeld ?_
      · intro w' hSw; go_simp
      try simp only [Act.put, List.setIfInBounds_toArray, List.set_cons_zero, List.set_cons_succ, List.getElem_toArray, List.getElem_cons_succ, List.getElem_cons_zero]
      refine wpAnyH_take (i := 7) (v := .int .i64 (y)) rfl (by kernel_rfl) (by kernel_rfl) (by kernel_rfl) (fun _ _ _ h => h) (Or.inl ⟨by kernel_rfl, ?_⟩) hHeld ?_
      · intro w' hSw; go_simp
      try simp only [Act.put, List.setIfInBounds_toArray, List.set_cons_zero, List.set_cons_succ, List.getElem_toArray, List.getElem_cons_succ, List.getElem_cons_zero]
      refine wpAnyH_take (i := 8) (v := .int .i64 (r)) rfl (by kernel_rfl) (by kernel_rfl) (by kernel_rfl) (fun _ _ _ h => h) (Or.inl ⟨by kernel_rfl, ?_⟩) hHeld ?_
      · intro w' hSw; go_simp
      try simp only [Act.put, List.setIfInBounds_toArray, List.set_cons_zero, List.set_cons_succ, List.getElem_toArray, List.getElem_cons_succ, List.getElem_cons_zero]
      refine wpAnyH_take (i := 9) (v := .int .i64 (r + 1)) rfl (by kernel_rfl) (by kernel_rfl) (by kernel_rfl) (fun _ _ _ h => h) (Or.inl ⟨by kernel_rfl, ?_⟩) hHeld ?_
      · intro w' hSw; go_simp
      try simp only [Act.put, List.setIfInBounds_toArray, List.set_cons_zero, List.set_cons_succ, List.getElem_toArray, List.getElem_cons_succ, List.getElem_cons_zero]
      refine wpAnyH_take (i := 12) (v := .int .i64 (fs f (fil (pr N x y r) len))) rfl (by kernel_rfl) (by kernel_rfl) (by kernel_rfl) (fun _ _ _ h => h) (Or.inl ⟨by kernel_rfl, ?_⟩) hHeld ?_
      · intro w' hSw; go_simp
      try simp only [Act.put, List.setIfInBounds_toArray, List.set_cons_zero, List.set_cons_succ, List.getElem_toArray, List.getElem_cons_succ, List.getElem_cons_zero]
      refine wpAnyH_ready (rs := [10]) (by kernel_rfl) (by simp) ?_
      refine AllReadyH.cons rfl (fun KK hK' => ?_) AllReadyH.nil
      go_simp
      refine (near_any N M x y (r + 1) _ hN hM hx hy (by omega)).mono ?_
      rintro e u1 ⟨v2, rfl, nm2, bb⟩
      rw [hMN] at nm2
      replace bu : Kb u0 u1 := bu.trans (bb.mono bu.size)
      clear bb
      try go_wp2_with fail
      clear hHeld
      refine hK'.out _ _ (bu) (fun hHeld => ?_)
      clear hK' KK
      try simp only [List.setIfInBounds_toArray, List.set_cons_zero, List.set_cons_succ]
      refine wpAnyH_ready (rs := [11]) (by kernel_rfl) (by simp) ?_
      refine AllReadyH.cons rfl (fun KK hK' => ?_) AllReadyH.nil
      go_simp
      refine (sumAt_any N M (hs.below bu) hf nm2 hL2 hLl2).mono ?_
      rintro e u2 ⟨rfl, bb⟩
      replace bu : Kb u0 u2 := bu.trans (bb.mono bu.size)
      clear bb
      try go_wp2_with fail
      clear hHeld
      refine hK'.out _ _ (bu) (fun hHeld => ?_)
      clear hK' KK
      try simp only [List.setIfInBounds_toArray, List.set_cons_zero, List.set_cons_succ]
      refine wpAnyH_take (i := 13) (v := .int .i64 (fs f (fil (pr N x y (r + 1)) len) - fs f (fil (pr N x y r) len))) rfl (by kernel_rfl) (by kernel_rfl) (by kernel_rfl) (fun _ _ _ h => h) (Or.inl ⟨by kernel_rfl, ?_⟩) hHeld ?_
      · intro w' hSw; go_simp
      try simp only [Act.put, List.setIfInBounds_toArray, List.set_cons_zero, List.set_cons_succ, List.getElem_toArray, List.getElem_cons_succ, List.getElem_cons_zero]
      refine wpAnyH_take (i := 14) (v := .int .i64 (fs f (fil (pr N x y r) len))) rfl (by kernel_rfl) (by kernel_rfl) (by kernel_rfl) (fun _ _ _ h => h) (Or.inl ⟨by kernel_rfl, ?_⟩) hHeld ?_
      · intro w' hSw; go_simp
      try simp only [Act.put, List.setIfInBounds_toArray, List.set_cons_zero, List.set_cons_succ, List.getElem_toArray, List.getElem_cons_succ, List.getElem_cons_zero]
      refine wpAnyH_take (i := 15) (v := .int .i64 ((fil (pr N x y r) len).length)) rfl (by kernel_rfl) (by kernel_rfl) (by kernel_rfl) (fun _ _ _ h => h) (Or.inl ⟨by kernel_rfl, ?_⟩) hHeld ?_
      · intro w' hSw; go_simp
      try simp only [Act.put, List.setIfInBounds_toArray, List.set_cons_zero, List.set_cons_succ, List.getElem_toArray, List.getElem_cons_succ, List.getElem_cons_zero]
      refine wpAnyH_take (i := 16) (v := .int .i64 (fs f (fil (pr N x y (r + 1)) len) - fs f (fil (pr N x y r) len))) rfl (by kernel_rfl) (by kernel_rfl) (by kernel_rfl) (fun _ _ _ h => h) (Or.inl ⟨by kernel_rfl, ?_⟩) hHeld ?_
      · intro w' hSw; go_simp
      try simp only [Act.put, List.setIfInBounds_toArray, List.set_cons_zero, List.set_cons_succ, List.getElem_toArray, List.getElem_cons_succ, List.getElem_cons_zero]
      refine wpAnyH_done (by kernel_rfl) ?_ _
      clear hHeld
      go_wp2
      go_ret3
      exact ⟨_, _, _, rfl, R1, bW.trans (bu.mono bW.size)⟩
    · rw [decide_eq_false hh]
      have hno : ¬ iOk W H len f x y r := fun h => hh h.2.1
      go_wp2
      go_ret3
      exact ⟨_, _, _, rfl, .inr ⟨hno, rfl, rfl, rfl⟩, bW⟩
end Go.Proofs.Ytfgehmcloeebkaa
