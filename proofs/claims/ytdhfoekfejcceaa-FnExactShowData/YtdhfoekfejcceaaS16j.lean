/-
  A data's text by the specification: walked.
-/
import Derived.Test.YtdhfoekfejcceaaS16i
import Derived.Lib.SlBytesConst
namespace Go.Proofs.Ytdhfoekfejcceaa
open Go.RowKit

theorem fl_tx (x : ByteArray) : (x ++ { data := #[10] }).data.toList = fl [x] := by
  rw [fl_one]
  simp
theorem shL_one (s : ByteArray) (nm : Nat → ByteArray) (f : Nat → Nat → ByteArray) (rw : Nat → Int) (F : Nat) (lp : Nat → Int) (k : Nat) : shL s nm f rw F lp (k + 1) 0 = shL s nm f rw F lp k 0 ++ [sgT nm f k] := by simp [shL, sgL_add, lsL]
theorem Bt.from {w0 W : World} {s : ByteArray} {cap g : Nat} (h1 : w0.heap.size ≤ g) (h2 : g < W.heap.size) (h3 : s.size ≤ cap) (h4 : cap ≤ maxLen) (h5 : ∀ j u, (bCells s.data.toList)[j]? = some u → W.cell? ⟨g, j, none⟩ = some u) (h6 : ∀ j, s.size ≤ j → j < cap → (W.cell? ⟨g, j, none⟩).isSome = true ∧ W.frozen? ⟨g, j, none⟩ = false) (hb : Below w0.heap.size w0 W) : Bt w0 W (.slice (some ⟨g, 0, none⟩) s.size cap) s.data.toList := by
  have hl : s.data.toList.length = s.size := Array.length_toList
  exact ⟨⟨g, cap, by rw [hl], h1, h2, by rw [hl]; exact h3, h4, h5, by rw [hl]; exact h6⟩, hb⟩
theorem newsB {W : World} {g : Nat} {L : List UInt8} (h5 : ∀ j u, (bCells L)[j]? = some u → W.cell? ⟨g, j, none⟩ = some u) : ∀ j u, (bCells L)[j]? = some u → W.cell? ((⟨g, 0, none⟩ : Addr).add j) = some u := fun j u hu => by rw [Addr.add_lit, Nat.zero_add]; exact h5 j u hu
theorem atL_low (F : Nat) (lp : Nat → Int) : ∀ j, F ≤ atL F lp j
  | 0 => Nat.le_refl _
  | j + 1 => Nat.le_trans (atL_low F lp j) (Nat.le_add_right _ _)
theorem news1 {W : World} {g : Nat} {c : UInt8} (h : At 5 W g #[.int .u8 c.toNat]) : ∀ j u, (bCells [c])[j]? = some u → W.cell? ((⟨g, 0, none⟩ : Addr).add j) = some u := fun j u hu => by
  rw [Addr.add_lit, Nat.zero_add]
  match j, hu with
  | 0, hu => cases hu; exact h.cell 0 rfl
  | j + 1, hu => cases hu
set_option maxRecDepth 100000 in
set_option maxHeartbeats 12800000 in
theorem specShow_any {w : World} {g N h M F : Nat} {s : ByteArray} {vb : Nat → Nat} {nm : Nat → ByteArray} {n : Nat → Nat} {rw : Nat → Int} {f : Nat → Nat → ByteArray} {lp : Nat → Int} (D : DaO w g N h M vb nm n rw f lp) (hN : N ≤ 1048576) (hn : ∀ i, i < N → n i ≤ 1048576) (hM : M ≤ 1048576) (hl64 : ∀ j, j < M → -9223372036854775808 ≤ lp j ∧ lp j ≤ 9223372036854775807) (b : Bool) (hb : Hid (b = true ↔ DOk s N M nm n rw f lp)) (hF : Fst F N rw) (T : ByteArray) (hT0 : Hid (b = false → T = ⟨#[]⟩)) (hT1 : Hid (b = true → T = shw s nm f rw F lp M)) :
    Calls Try.prog 11 #[dV s g N h M] w fun e w' => e = .returned (.string T) ∧ Below w.heap.size w w' := by
  have HB : Hid (b = true ↔ DOk s N M nm n rw f lp) := hb
  clear hb
  have HE : dV s g N h M = .agg #[.string s, .slice (some ⟨g, 0, none⟩) N N, .slice (some ⟨h, 0, none⟩) M M] := rfl
  obtain ⟨W1, hW1, a1, b1, -⟩ := boxed w 30 #[.string s, .slice (some ⟨g, 0, none⟩) N N, .slice (some ⟨h, 0, none⟩) M M]
  obtain ⟨q1, hq1⟩ : ∃ q, w.heap.size = q := ⟨_, rfl⟩
  rw [hq1] at a1
  have D1 := D.below b1
  clear D
  obtain ⟨c0, c1, c2, -⟩ := a1.open3
  rw [HE]
  go_enter Try.func11, Try.ntmps11
  go_wp2_with fail
  rw [← HE]
  refine (specOk_any D1 hN hn hM hl64 b HB).mono ?_
  rintro e w2 ⟨rfl, b2⟩
  rw [HE]
  replace a1 := a1.below b2
  have HD : Hid (DaO w2 g N h M vb nm n rw f lp) := D1.below b2
  have B := b1.trans (b2.mono b1.size)
  clear c0 c1 c2 hW1 hq1 b1 b2 D1
  obtain ⟨c0, c1, c2, -⟩ := a1.open3
  cases b
  · obtain rfl := hT0.out rfl
    clear HB hT0 hT1
    go_wp2
    go_ret
    exact ⟨rfl, B⟩
  obtain rfl := hT1.out rfl
  have OK : Hid (DOk s N M nm n rw f lp) := HB.out.1 rfl
  clear HB hT0 hT1
  have hs40 : s.size ≤ 40 := OK.out.1.1.2
  have ho1 : ¬ 9223372036854775807 < 5 + s.size := by omega
  have ho2 : ¬ 9223372036854775807 < 5 + s.size + 1 := by omega
  have HF : Hid (Fst F N rw) := hF
  have hFN : F ≤ N := hF.1
  have hN2 : N ≤ 200 := OK.out.2.1
  have hM2 : M ≤ 200 := OK.out.m
  have hN' : (N : Int) ≤ 200 := by omega
  have hM' : (M : Int) ≤ 200 := by omega
  clear hF hN hn hM
  have HA : Hid (At 30 w2 q1 #[.string s, .slice (some ⟨g, 0, none⟩) N N, .slice (some ⟨h, 0, none⟩) M M]) := a1
  have hsz : ({ data := #[100, 97, 116, 97, 95] } ++ s ++ { data := #[10] } : ByteArray).size ≤ 1000 := by
    simp only [ByteArray.size_append]
    have h1 : ({ data := #[100, 97, 116, 97, 95] } : ByteArray).size = 5 := rfl
    have h2 : ({ data := #[10] } : ByteArray).size = 1 := rfl
    omega
  obtain ⟨W, cap, cv, bW, y1, y2, y3, y4, y5⟩ := conv_any w2 ({ data := #[100, 97, 116, 97, 95] } ++ s ++ { data := #[10] }) (by omega)
  have G : Bt w2 W (.slice (some ⟨w2.heap.size, 0, none⟩) ({ data := #[100, 97, 116, 97, 95] } ++ s ++ { data := #[10] } : ByteArray).size cap) (fl (shL s nm f rw F lp 0 0)) := by
    have := Bt.from (Nat.le_refl _) y1 y2 y3 y4 y5 bW
    rw [fl_tx] at this
    rw [show shL s nm f rw F lp 0 0 = [DATA ++ s] by simp [shL, sgL, lsL]]
    exact this
  have hG : (fl (shL s nm f rw F lp 0 0)).length ≤ 1000 := by
    rw [show shL s nm f rw F lp 0 0 = [DATA ++ s] by simp [shL, sgL, lsL], ← fl_tx]
    exact hsz
  clear y1 y2 y3 y4 y5 bW a1
  obtain ⟨Z0, hZ0⟩ : ∃ Z, ({ data := #[100, 97, 116, 97, 95] } ++ s ++ { data := #[10] } : ByteArray).size = Z := ⟨_, rfl⟩
  rw [hZ0] at cv G
  clear hsz hZ0
  go_wp2
  clear cv c0 c1 c2 ho1 ho2
  go_loopw [3, 4] (fun t u wr => ∃ k : Nat, k ≤ F ∧ u = .int .i64 (k : Int) ∧ Bt w2 wr t (fl (shL s nm f rw F lp k 0)) ∧ (fl (shL s nm f rw F lp k 0)).length ≤ 1000 + k * 1000) (fun _ u _ => F - (intOf u).toNat)
  case atStart => exact ⟨0, Nat.zero_le _, rfl, G, by omega⟩
  case round =>
    clear G hG
    obtain ⟨k, hk, rfl, G, hG⟩ := hrel
    obtain ⟨gs, cs, rfl, gsB, gsl, -⟩ := G.own
    obtain ⟨c0, c1, c2, -⟩ := (HA.out.below G.b).open3
    have D := HD.out.below G.b
    by_cases hlt : k < F
    · have hlt' : (k : Int) < (N : Int) := by omega
      obtain ⟨d0, d1, d2⟩ := D.it.at (show k < N by omega)
      have hn1 : n k = 1 := (OK.out.fst HF.out).1 k hlt
      rw [hn1] at d1
      rw [HF.out.2.1 k hlt] at d2
      have hvl := (OK.out.2.2.1 k (by omega)).2.2.2 0 (by omega)
      have hnk : (nm k).size ≤ 40 := (OK.out.2.2.1 k (by omega)).1.1.2
      have Y0 : ∀ w', Kb w2 w' → w'.cell? ⟨g, k * 3, none⟩ = some (.string (nm k)) := fun w' hh => ((HD.out.below hh).it.at (show k < N by omega)).1
      have Y1 : ∀ w', Kb w2 w' → w'.cell? ⟨g, k * 3 + 1, none⟩ = some (.slice (some ⟨vb k, 0, none⟩) 1 1) := fun w' hh => by have z := ((HD.out.below hh).it.at (show k < N by omega)).2.1; rw [hn1] at z; exact z
      have Y2 : ∀ w', Kb w2 w' → w'.cell? ⟨vb k, 0, none⟩ = some (.string (f k 0)) := fun w' hh => by have z := ((HD.out.below hh).it.own k (by omega)).2.strs 0 (by omega); rw [Nat.zero_add] at z; exact z
      have WR := fun w => sWord_any (f k 0) w hvl.1
      have hwd := wd_size (f k 0)
      have hv200 := hvl.1
      have HX : Hid (fl (shL s nm f rw F lp k 0) ++ fl [sgT nm f k] = fl (shL s nm f rw F lp (k + 1) 0)) := show _ = _ by rw [shL_one, fl_add]
      obtain ⟨X, hX⟩ : ∃ X, nm k = X := ⟨_, rfl⟩
      obtain ⟨Z, hZ⟩ : ∃ Z, f k 0 = Z := ⟨_, rfl⟩
      obtain ⟨Y, hY⟩ : ∃ Y, wd Z = Y := ⟨_, rfl⟩
      obtain ⟨Q, hQ⟩ : ∃ Q, vb k = Q := ⟨_, rfl⟩
      have HTx : Hid (fl [sgT nm f k] = ({ data := #[95] } ++ X ++ { data := #[32] } ++ Y ++ { data := #[10] } : ByteArray).data.toList) := show _ = _ by rw [fl_tx, ← hX, ← hY, ← hZ]; rfl
      rw [hZ, hY] at WR hwd
      rw [hZ] at hv200 Y2
      rw [hX] at d0 hnk Y0
      rw [hQ] at d1 Y1 Y2
      have hsz : ({ data := #[95] } ++ X ++ { data := #[32] } ++ Y ++ { data := #[10] } : ByteArray).size ≤ 300 := by
        simp only [ByteArray.size_append]
        have h1 : ({ data := #[95] } : ByteArray).size = 1 := rfl
        have h2 : ({ data := #[10] } : ByteArray).size = 1 := rfl
        have h3 : ({ data := #[32] } : ByteArray).size = 1 := rfl
        omega
      have ho1 : ¬ 9223372036854775807 < 1 + X.size := by omega
      have ho2 : ¬ 9223372036854775807 < 1 + X.size + 1 := by omega
      have ho3 : ¬ 9223372036854775807 < 1 + X.size + 1 + Y.size := by omega
      have ho4 : ¬ 9223372036854775807 < 1 + X.size + 1 + Y.size + 1 := by omega
      obtain ⟨L, hL⟩ : ∃ L, fl (shL s nm f rw F lp k 0) = L := ⟨_, rfl⟩
      rw [hL] at G hG HX ⊢
      have hmv : ((-1 : Int) == -1) = true := rfl
      clear hX hZ hY hQ hL hvl D hn1
      go_wp2_with fail
      clear c0 c1 c2 d0 d1 d2
      as_aux_lemma =>
        obtain ⟨u0, hu0, bb⟩ : ∃ uu, wr.drew = uu ∧ Below wr.heap.size wr uu := ⟨_, rfl, (Below.refl _ _).drew⟩
        replace G := G.below bb
        clear bb
        refine wp_region_held_drew (S := Kb w2) (by kernel_rfl) (by rw [hu0]; exact G.b) (fun hHeld => ?_)
        rw [hu0] at hHeld ⊢
        clear hu0
        change wpAnyH _ _ _ _ _ 23 #[false, false, false, false, false, false, false, false, false, false, false, false, false, false, false, false, false, false, false, false, false, false, false] _ _
        refine wpAnyH_take (i := 0) (v := .slice ((some ⟨gs, 0, none⟩)) L.length cs) rfl (by kernel_rfl) (by kernel_rfl) (by kernel_rfl) (fun _ _ _ h => h) (Or.inl ⟨by kernel_rfl, ?_⟩) hHeld ?_
        · intro w' hSw; go_simp
        try simp only [Act.put, List.setIfInBounds_toArray, List.set_cons_zero, List.set_cons_succ, List.getElem_toArray, List.getElem_cons_zero]
        refine wpAnyH_take (i := 1) (v := .pointer (some ⟨q1, 1, none⟩)) rfl (by kernel_rfl) (by kernel_rfl) (by kernel_rfl) (fun _ _ _ h => h) (Or.inl ⟨by kernel_rfl, ?_⟩) hHeld ?_
        · intro w' hSw; go_simp
        try simp only [Act.put, List.setIfInBounds_toArray, List.set_cons_zero, List.set_cons_succ, List.getElem_toArray, List.getElem_cons_succ, List.getElem_cons_zero]
        refine wpAnyH_take (i := 2) (v := .slice ((some ⟨g, 0, none⟩)) N N) rfl (by kernel_rfl) (by kernel_rfl) (by kernel_rfl) (fun _ _ _ h => h) (Or.inl ⟨by kernel_rfl, ?_⟩) hHeld ?_
        · intro w' hSw; obtain ⟨z0, z1, z2, -⟩ := (HA.out.below hSw).open3; go_simp
        try simp only [Act.put, List.setIfInBounds_toArray, List.set_cons_zero, List.set_cons_succ, List.getElem_toArray, List.getElem_cons_succ, List.getElem_cons_zero]
        refine wpAnyH_take (i := 3) (v := .int .i64 ((k : Int))) rfl (by kernel_rfl) (by kernel_rfl) (by kernel_rfl) (fun _ _ _ h => h) (Or.inl ⟨by kernel_rfl, ?_⟩) hHeld ?_
        · intro w' hSw; go_simp
        try simp only [Act.put, List.setIfInBounds_toArray, List.set_cons_zero, List.set_cons_succ, List.getElem_toArray, List.getElem_cons_succ, List.getElem_cons_zero]
        refine wpAnyH_take (i := 4) (v := .pointer (some ⟨g, k * 3, none⟩)) rfl (by kernel_rfl) (by kernel_rfl) (by kernel_rfl) (fun _ _ _ h => h) (Or.inl ⟨by kernel_rfl, ?_⟩) hHeld ?_
        · intro w' hSw; go_simp
        try simp only [Act.put, List.setIfInBounds_toArray, List.set_cons_zero, List.set_cons_succ, List.getElem_toArray, List.getElem_cons_succ, List.getElem_cons_zero]
        refine wpAnyH_take (i := 5) (v := .pointer (some ⟨g, k * 3, none⟩)) rfl (by kernel_rfl) (by kernel_rfl) (by kernel_rfl) (fun _ _ _ h => h) (Or.inl ⟨by kernel_rfl, ?_⟩) hHeld ?_
        · intro w' hSw; go_simp
        try simp only [Act.put, List.setIfInBounds_toArray, List.set_cons_zero, List.set_cons_succ, List.getElem_toArray, List.getElem_cons_succ, List.getElem_cons_zero]
        refine wpAnyH_take (i := 6) (v := .string X) rfl (by kernel_rfl) (by kernel_rfl) (by kernel_rfl) (fun _ _ _ h => h) (Or.inl ⟨by kernel_rfl, ?_⟩) hHeld ?_
        · intro w' hSw; have z0 := Y0 _ hSw; go_simp
        try simp only [Act.put, List.setIfInBounds_toArray, List.set_cons_zero, List.set_cons_succ, List.getElem_toArray, List.getElem_cons_succ, List.getElem_cons_zero]
        refine wpAnyH_take (i := 7) (v := .string ({ data := #[95] } ++ X)) rfl (by kernel_rfl) (by kernel_rfl) (by kernel_rfl) (fun _ _ _ h => h) (Or.inl ⟨by kernel_rfl, ?_⟩) hHeld ?_
        · intro w' hSw; go_simp
        try simp only [Act.put, List.setIfInBounds_toArray, List.set_cons_zero, List.set_cons_succ, List.getElem_toArray, List.getElem_cons_succ, List.getElem_cons_zero]
        refine wpAnyH_take (i := 8) (v := .string ({ data := #[95] } ++ X ++ { data := #[32] })) rfl (by kernel_rfl) (by kernel_rfl) (by kernel_rfl) (fun _ _ _ h => h) (Or.inl ⟨by kernel_rfl, ?_⟩) hHeld ?_
        · intro w' hSw; go_simp
        try simp only [Act.put, List.setIfInBounds_toArray, List.set_cons_zero, List.set_cons_succ, List.getElem_toArray, List.getElem_cons_succ, List.getElem_cons_zero]
        refine wpAnyH_take (i := 9) (v := .pointer (some ⟨q1, 1, none⟩)) rfl (by kernel_rfl) (by kernel_rfl) (by kernel_rfl) (fun _ _ _ h => h) (Or.inl ⟨by kernel_rfl, ?_⟩) hHeld ?_
        · intro w' hSw; go_simp
        try simp only [Act.put, List.setIfInBounds_toArray, List.set_cons_zero, List.set_cons_succ, List.getElem_toArray, List.getElem_cons_succ, List.getElem_cons_zero]
        refine wpAnyH_take (i := 10) (v := .slice ((some ⟨g, 0, none⟩)) N N) rfl (by kernel_rfl) (by kernel_rfl) (by kernel_rfl) (fun _ _ _ h => h) (Or.inl ⟨by kernel_rfl, ?_⟩) hHeld ?_
        · intro w' hSw; obtain ⟨z0, z1, z2, -⟩ := (HA.out.below hSw).open3; go_simp
        try simp only [Act.put, List.setIfInBounds_toArray, List.set_cons_zero, List.set_cons_succ, List.getElem_toArray, List.getElem_cons_succ, List.getElem_cons_zero]
        refine wpAnyH_take (i := 11) (v := .int .i64 ((k : Int))) rfl (by kernel_rfl) (by kernel_rfl) (by kernel_rfl) (fun _ _ _ h => h) (Or.inl ⟨by kernel_rfl, ?_⟩) hHeld ?_
        · intro w' hSw; go_simp
        try simp only [Act.put, List.setIfInBounds_toArray, List.set_cons_zero, List.set_cons_succ, List.getElem_toArray, List.getElem_cons_succ, List.getElem_cons_zero]
        refine wpAnyH_take (i := 12) (v := .pointer (some ⟨g, k * 3, none⟩)) rfl (by kernel_rfl) (by kernel_rfl) (by kernel_rfl) (fun _ _ _ h => h) (Or.inl ⟨by kernel_rfl, ?_⟩) hHeld ?_
        · intro w' hSw; go_simp
        try simp only [Act.put, List.setIfInBounds_toArray, List.set_cons_zero, List.set_cons_succ, List.getElem_toArray, List.getElem_cons_succ, List.getElem_cons_zero]
        refine wpAnyH_take (i := 13) (v := .pointer (some ⟨g, k * 3 + 1, none⟩)) rfl (by kernel_rfl) (by kernel_rfl) (by kernel_rfl) (fun _ _ _ h => h) (Or.inl ⟨by kernel_rfl, ?_⟩) hHeld ?_
        · intro w' hSw; go_simp
        try simp only [Act.put, List.setIfInBounds_toArray, List.set_cons_zero, List.set_cons_succ, List.getElem_toArray, List.getElem_cons_succ, List.getElem_cons_zero]
        refine wpAnyH_take (i := 14) (v := .slice ((some ⟨Q, 0, none⟩)) 1 1) rfl (by kernel_rfl) (by kernel_rfl) (by kernel_rfl) (fun _ _ _ h => h) (Or.inl ⟨by kernel_rfl, ?_⟩) hHeld ?_
        · intro w' hSw; have z0 := Y1 _ hSw; go_simp
        try simp only [Act.put, List.setIfInBounds_toArray, List.set_cons_zero, List.set_cons_succ, List.getElem_toArray, List.getElem_cons_succ, List.getElem_cons_zero]
        refine wpAnyH_take (i := 15) (v := .pointer (some ⟨Q, 0, none⟩)) rfl (by kernel_rfl) (by kernel_rfl) (by kernel_rfl) (fun _ _ _ h => h) (Or.inl ⟨by kernel_rfl, ?_⟩) hHeld ?_
        · intro w' hSw; go_simp
        try simp only [Act.put, List.setIfInBounds_toArray, List.set_cons_zero, List.set_cons_succ, List.getElem_toArray, List.getElem_cons_succ, List.getElem_cons_zero]
        refine wpAnyH_take (i := 16) (v := .string Z) rfl (by kernel_rfl) (by kernel_rfl) (by kernel_rfl) (fun _ _ _ h => h) (Or.inl ⟨by kernel_rfl, ?_⟩) hHeld ?_
        · intro w' hSw; have z0 := Y2 _ hSw; go_simp
        try simp only [Act.put, List.setIfInBounds_toArray, List.set_cons_zero, List.set_cons_succ, List.getElem_toArray, List.getElem_cons_succ, List.getElem_cons_zero]
        refine wpAnyH_ready (rs := [17]) (by kernel_rfl) (by simp) ?_
        refine AllReadyH.cons rfl (fun KK hK' => ?_) AllReadyH.nil
        go_simp
        refine (WR _).mono ?_
        rintro e u1 ⟨rfl, rfl⟩
        clear WR
        try go_wp2_with fail
        clear hHeld
        refine hK'.out _ _ (G.b) (fun hHeld => ?_)
        clear hK' KK
        try simp only [List.setIfInBounds_toArray, List.set_cons_zero, List.set_cons_succ]
        refine wpAnyH_take (i := 18) (v := .string ({ data := #[95] } ++ X ++ { data := #[32] } ++ Y)) rfl (by kernel_rfl) (by kernel_rfl) (by kernel_rfl) (fun _ _ _ h => h) (Or.inl ⟨by kernel_rfl, ?_⟩) hHeld ?_
        · intro w' hSw; go_simp
        try simp only [Act.put, List.setIfInBounds_toArray, List.set_cons_zero, List.set_cons_succ, List.getElem_toArray, List.getElem_cons_succ, List.getElem_cons_zero]
        refine wpAnyH_take (i := 19) (v := .string ({ data := #[95] } ++ X ++ { data := #[32] } ++ Y ++ { data := #[10] })) rfl (by kernel_rfl) (by kernel_rfl) (by kernel_rfl) (fun _ _ _ h => h) (Or.inl ⟨by kernel_rfl, ?_⟩) hHeld ?_
        · intro w' hSw; go_simp
        try simp only [Act.put, List.setIfInBounds_toArray, List.set_cons_zero, List.set_cons_succ, List.getElem_toArray, List.getElem_cons_succ, List.getElem_cons_zero]
        refine wpAnyH_ready (rs := [20]) (by kernel_rfl) (by simp) ?_
        refine AllReadyH.cons rfl (fun KK hK' => ?_) AllReadyH.nil
        go_simp
        obtain ⟨u2, cp, cv, bb, y1, y2, y3, y4, y5⟩ := conv_any u0 ({ data := #[95] } ++ X ++ { data := #[32] } ++ Y ++ { data := #[10] }) (by omega)
        obtain ⟨Z1, hZ1⟩ : ∃ Z, (({ data := #[95] } ++ X ++ { data := #[32] } ++ Y ++ { data := #[10] }) : ByteArray).size = Z := ⟨_, rfl⟩
        obtain ⟨g9, hg9⟩ : ∃ g, u0.heap.size = g := ⟨_, rfl⟩
        rw [hZ1, hg9] at cv
        rw [hg9] at y4
        try simp only [cv]
        try go_simp
        replace G := G.below bb
        have HZ1 : Hid ((({ data := #[95] } ++ X ++ { data := #[32] } ++ Y ++ { data := #[10] }) : ByteArray).data.toList.length = Z1) := show _ = _ from Array.length_toList.trans hZ1
        rw [hZ1] at hsz
        clear bb y1 y2 y3 y5 hZ1 cv hg9
        clear hHeld
        refine hK'.out _ _ (G.b) (fun hHeld => ?_)
        clear hK' KK
        try simp only [List.setIfInBounds_toArray, List.set_cons_zero, List.set_cons_succ]
        refine wpAnyH_ready (rs := [21]) (by kernel_rfl) (by simp) ?_
        refine AllReadyH.cons rfl (fun KK hK' => ?_) AllReadyH.nil
        refine step_bt (by rfl) _ _ (by rfl) (.slice (some ⟨gs, 0, none⟩) L.length cs) (by rfl) G ⟨g9, 0, none⟩ Z1 cp ({ data := #[95] } ++ X ++ { data := #[32] } ++ Y ++ { data := #[10] }).data.toList HZ1.out (by rfl) (newsB y4) (by rw [show (({ data := #[95] } ++ X ++ { data := #[32] } ++ Y ++ { data := #[10] }) : ByteArray).data.toList.length = Z1 from HZ1.out]; omega) ?_
        intro v2 u3 G3 hgrow
        have G4 := G3
        rw [← HTx.out, HX.out] at G4
        obtain ⟨gn, cn, rfl, -⟩ := G3.own
        replace G := G3
        clear G3 hgrow y4
        clear hHeld
        refine hK'.out _ _ (G.b) (fun hHeld => ?_)
        clear hK' KK
        try simp only [List.setIfInBounds_toArray, List.set_cons_zero, List.set_cons_succ]
        refine wpAnyH_take (i := 22) (v := .slice ((some ⟨gn, 0, none⟩)) ((L ++ ({ data := #[95] } ++ X ++ { data := #[32] } ++ Y ++ { data := #[10] }).data.toList).length) cn) rfl (by kernel_rfl) (by kernel_rfl) (by kernel_rfl) (fun _ _ _ h => h) (Or.inl ⟨by kernel_rfl, ?_⟩) hHeld ?_
        · intro w' hSw; go_simp
        try simp only [Act.put, List.setIfInBounds_toArray, List.set_cons_zero, List.set_cons_succ, List.getElem_toArray, List.getElem_cons_succ, List.getElem_cons_zero]
        refine wpAnyH_done (by kernel_rfl) ?_ _
        clear hHeld
        have hlen : (fl (shL s nm f rw F lp (k + 1) 0)).length ≤ 1000 + (k + 1) * 1000 := by
          rw [← HX.out, HTx.out, List.length_append, HZ1.out]
          omega
        obtain ⟨Ln, hLn⟩ : ∃ n, (L ++ ({ data := #[95] } ++ X ++ { data := #[32] } ++ Y ++ { data := #[10] }).data.toList).length = n := ⟨_, rfl⟩
        rw [hLn] at G4 ⊢
        clear G hLn
        go_wp2
        exact ⟨⟨k + 1, by omega, by go_num, G4, hlen⟩, by simp [intOf]; omega⟩
    · obtain rfl : k = F := by omega
      have HG : Hid (Bt w2 wr (.slice (some ⟨gs, 0, none⟩) (fl (shL s nm f rw k lp k 0)).length cs) (fl (shL s nm f rw k lp k 0))) := G
      have HX : Hid (k < N → (rw k == -1) = false) := show k < N → _ from fun h => by simpa using HF.out.2.2 h
      have hB : Hid ((fl (shL s nm f rw k lp k 0)).length ≤ 1000000) := show _ ≤ _ by omega
      obtain ⟨L, hL⟩ : ∃ L, fl (shL s nm f rw k lp k 0) = L := ⟨_, rfl⟩
      have HL : Hid (fl (shL s nm f rw k lp k 0) = L) := hL
      rw [hL] at HG hB ⊢
      clear hL G hG gsB gsl
      have key : ∀ a : Act, True := fun _ => trivial
      by_cases hkN : k < N
      · have hkN' : (k : Int) < (N : Int) := by omega
        obtain ⟨d0, d1, d2⟩ := D.it.at hkN
        obtain ⟨R0, hR0⟩ : ∃ R, rw k = R := ⟨_, rfl⟩
        have hne := HX.out hkN
        rw [hR0] at d2 hne
        clear D hR0 key
        go_wp2
        clear c0 c1 c2 d0 d1 d2 hne
        go_loopw [3, 4, 5] (fun t u4 u5 wr => ∃ j : Nat, j ≤ M ∧ u5 = .int .i64 (j : Int) ∧ u4 = .int .i64 ((atL k lp j : Nat) : Int) ∧ Bt w2 wr t (fl (shL s nm f rw k lp k j)) ∧ (fl (shL s nm f rw k lp k j)).length ≤ 1000000 + j * 1000000000) (fun _ _ u5 _ => M - (intOf u5).toNat)
        case atStart => exact ⟨0, Nat.zero_le _, rfl, rfl, by rw [HL.out]; exact HG.out, by rw [HL.out, Nat.zero_mul, Nat.add_zero]; exact hB.out⟩
        case round =>
          clear HG hB HL
          obtain ⟨j, hj, rfl, rfl, G, hG⟩ := hrel
          obtain ⟨gs, cs, rfl, gsB, gsl, -⟩ := G.own
          obtain ⟨c0, c1, c2, -⟩ := (HA.out.below G.b).open3
          by_cases hjM : j < M
          · have hjM' : (j : Int) < (M : Int) := by omega
            obtain ⟨y1, y2, y3, y4, y5, y6⟩ := OK.out.rows HF.out hjM
            have e0 := Made.row (HD.out.below G.b).lo j hjM
            rw [Nat.zero_add] at e0
            have hlj : lp j = ((lp j).toNat : Int) := by omega
            obtain ⟨x, hx⟩ : ∃ x, atL k lp j = x := ⟨_, rfl⟩
            obtain ⟨Lj, hLj⟩ : ∃ x, (lp j).toNat = x := ⟨_, rfl⟩
            obtain ⟨R, hR⟩ : ∃ x, (rw (atL k lp j)).toNat = x := ⟨_, rfl⟩
            have HXS : Hid (shL s nm f rw k lp k j ++ lpL nm f x Lj R = shL s nm f rw k lp k (j + 1)) := show _ = _ by rw [← hx, ← hLj, ← hR]; simp only [shL, lsL, List.append_assoc]
            have HAT : Hid (atL k lp (j + 1) = x + Lj) := show atL k lp j + (lp j).toNat = _ by rw [hx, hLj]
            rw [hR] at y4 y5 y6
            rw [hLj] at hlj y1 y2 y3 y6
            rw [hx] at y1 y5 y6 ⊢
            have HY6 : Hid (∀ i, i < Lj → n (x + i) = R) := fun i hi => (y6 i hi).1
            have HRW : Hid (rw x = (R : Int)) := y5
            have HLJ : Hid (lp j = (Lj : Int)) := hlj
            have hLj' : (Lj : Int) ≤ 200 := by omega
            have hx' : (x : Int) ≤ 200 := by omega
            have hR' : (R : Int) ≤ 4000 := by omega
            rw [hlj] at e0
            obtain ⟨S0, hS0⟩ : ∃ S, shL s nm f rw k lp k j = S := ⟨_, rfl⟩
            rw [hS0] at HXS G hG ⊢
            clear hx hLj hR hS0 y5 y6 hlj
            have HE0 : ∀ wq, Kb w2 wq → wq.cell? ⟨h, j, none⟩ = some (.int .i64 (Lj : Int)) := fun wq hh => by have z := Made.row (HD.out.below hh).lo j hjM; rw [Nat.zero_add, HLJ.out] at z; exact z
            have HQ0 : Hid (∀ wq, Kb w2 wq → wq.cell? ⟨h, j, none⟩ = some (.int .i64 (Lj : Int))) := HE0
            clear HE0
            have cv0 := Go.Lib.run_convert_bytes_const (P := Try.prog) wr 55 5 #[.int .u8 108, .int .u8 111, .int .u8 111, .int .u8 112, .int .u8 95, .int .u8 10] 6 6 Try.underlying55 Try.underlying5
            obtain ⟨V2, hV2, bb1, N2⟩ : ∃ V, wr.alloc (.cells #[.int .u8 108, .int .u8 111, .int .u8 111, .int .u8 112, .int .u8 95, .int .u8 10] 5 (6, 7)) = V ∧ Below wr.heap.size wr V ∧ ∀ i u, (bCells [108, 111, 111, 112, 95, 10])[i]? = some u → V.cell? ⟨wr.heap.size, i, none⟩ = some u := ⟨_, rfl, (Below.refl _ wr).alloc (Nat.le_refl _) _, fun i u hu => by
              have h := World.cell?_alloc_mark wr #[.int .u8 108, .int .u8 111, .int .u8 111, .int .u8 112, .int .u8 95, .int .u8 10] 5 (6, 7) i
              rw [h]
              match i, hu with
              | 0, hu => exact hu
              | 1, hu => exact hu
              | 2, hu => exact hu
              | 3, hu => exact hu
              | 4, hu => exact hu
              | 5, hu => exact hu
              | i + 6, hu => cases hu⟩
            replace cv0 := cv0.trans (congrArg _ hV2)
            obtain ⟨V1, hV1⟩ : ∃ V, wr.alloc (.cells #[.int .u8 108, .int .u8 111, .int .u8 111, .int .u8 112, .int .u8 95, .int .u8 10] 5) = V := ⟨_, rfl⟩
            rw [hV1] at cv0
            obtain ⟨g9, hg9⟩ : ∃ g, wr.heap.size = g := ⟨_, rfl⟩
            have G1 := G.below bb1
            rw [hg9] at cv0 N2
            have N1 := newsB N2
            clear N2
            obtain ⟨L, hL⟩ : ∃ L, fl S0 = L := ⟨_, rfl⟩
            have HL : Hid (fl S0 = L) := hL
            rw [hL] at G1 hG ⊢
            clear hL G bb1 hV2
            go_wp2_with (at_builtin; refine wpList_bt rfl _ _ rfl (.slice (some ⟨gs, 0, none⟩) L.length cs) rfl G1 ⟨g9, 0, none⟩ 6 6 [108, 111, 111, 112, 95, 10] rfl rfl N1 (by simp only [List.length_cons, List.length_nil]; omega) ?_; intro v2 w9 G2 hgr)
            clear cv0 hV1 hg9 N1 G1 hgr c0 c1 c2
            have HS1 : Hid (L ++ [108, 111, 111, 112, 95, 10] = fl (S0 ++ LOOP :: nmL nm x 0)) := show _ = _ by rw [← HL.out, fl_add]; congr 1
            rw [HS1.out] at G2
            have hG2 : (fl (S0 ++ LOOP :: nmL nm x 0)).length ≤ 1000000 + j * 1000000000 + 6 := by rw [← HS1.out]; simp only [List.length_append, List.length_cons, List.length_nil]; omega
            clear HS1 HL hG e0
            go_loopw [3, 6] (fun t u6 wr => ∃ i : Nat, i ≤ Lj ∧ u6 = .int .i64 (i : Int) ∧ Bt w2 wr t (fl (S0 ++ LOOP :: nmL nm x i)) ∧ (fl (S0 ++ LOOP :: nmL nm x i)).length ≤ 1000000 + j * 1000000000 + 6 + i * 100) (fun _ u6 _ => Lj - (intOf u6).toNat)
            case atStart => exact ⟨0, Nat.zero_le _, rfl, G2, by omega⟩
            case round =>
              clear G2 hG2
              obtain ⟨i, hi, rfl, G, hG⟩ := hrel
              obtain ⟨gs, cs, rfl, gsB, gsl, -⟩ := G.own
              obtain ⟨c0, c1, c2, -⟩ := (HA.out.below G.b).open3
              have e0 := HQ0.out _ G.b
              by_cases hil : i < Lj
              · have hil' : (i : Int) < (Lj : Int) := by omega
                as_aux_lemma =>
                  have hxi : (x : Int) + (i : Int) = ((x + i : Nat) : Int) := by omega
                  have hxN : ((x + i : Nat) : Int) < (N : Int) := by omega
                  obtain ⟨d0, -, -⟩ := (HD.out.below G.b).it.at (show x + i < N by omega)
                  have hnk : (nm (x + i)).size ≤ 40 := (OK.out.2.2.1 (x + i) (by omega)).1.1.2
                  have HS : Hid (fl (S0 ++ LOOP :: nmL nm x i) ++ ({ data := #[95] } ++ nm (x + i) ++ { data := #[10] } : ByteArray).data.toList = fl (S0 ++ LOOP :: nmL nm x (i + 1))) := show _ = _ by rw [fl_tx, ← fl_add, nmL_add]; simp [UND]
                  obtain ⟨X, hX⟩ : ∃ X, nm (x + i) = X := ⟨_, rfl⟩
                  rw [hX] at d0 hnk HS
                  have ho1 : ¬ 9223372036854775807 < 1 + X.size := by omega
                  have ho2 : ¬ 9223372036854775807 < 1 + X.size + 1 := by omega
                  have hsz : ({ data := #[95] } ++ X ++ { data := #[10] } : ByteArray).size ≤ 60 := by
                    simp only [ByteArray.size_append]
                    have h1 : ({ data := #[95] } : ByteArray).size = 1 := rfl
                    have h2 : ({ data := #[10] } : ByteArray).size = 1 := rfl
                    omega
                  obtain ⟨V1, cp, cv, bb, -, -, -, z4, -⟩ := conv_any wr ({ data := #[95] } ++ X ++ { data := #[10] }) (by omega)
                  obtain ⟨Z1, hZ1⟩ : ∃ Z, ({ data := #[95] } ++ X ++ { data := #[10] } : ByteArray).size = Z := ⟨_, rfl⟩
                  have HZ1 : Hid (({ data := #[95] } ++ X ++ { data := #[10] } : ByteArray).data.toList.length = Z1) := show _ = _ from Array.length_toList.trans hZ1
                  obtain ⟨g9, hg9⟩ : ∃ g, wr.heap.size = g := ⟨_, rfl⟩
                  rw [hZ1, hg9] at cv
                  rw [hg9] at z4
                  rw [hZ1] at hsz
                  have G1 := G.below bb
                  obtain ⟨L, hL⟩ : ∃ L, fl (S0 ++ LOOP :: nmL nm x i) = L := ⟨_, rfl⟩
                  rw [hL] at G1 hG HS ⊢
                  clear hL G bb hX hZ1 hg9
                  obtain ⟨p3, hp3⟩ : ∃ p, x + i = p := ⟨_, rfl⟩
                  rw [hp3] at hxi hxN d0
                  clear hp3
                  go_wp2_with (at_builtin; refine wpList_bt rfl _ _ rfl (.slice (some ⟨gs, 0, none⟩) L.length cs) rfl G1 ⟨g9, 0, none⟩ Z1 cp ({ data := #[95] } ++ X ++ { data := #[10] } : ByteArray).data.toList HZ1.out rfl (newsB z4) (by rw [HZ1.out]; omega) ?_; intro v2 w9 G2 hgr)
                  have hlen : (fl (S0 ++ LOOP :: nmL nm x (i + 1))).length ≤ 1000000 + j * 1000000000 + 6 + (i + 1) * 100 := by
                    rw [← HS.out, List.length_append, HZ1.out]
                    omega
                  rw [HS.out] at G2
                  exact ⟨⟨i + 1, by omega, by go_num, G2, hlen⟩, by simp [intOf]; omega⟩
              · have hil' : ¬ (i : Int) < (Lj : Int) := by omega
                obtain rfl : i = Lj := by omega
                obtain ⟨S1, hS1⟩ : ∃ S, S0 ++ LOOP :: nmL nm x i = S := ⟨_, rfl⟩
                have HS1 : Hid (S0 ++ LOOP :: nmL nm x i = S1) := hS1
                rw [hS1] at G hG ⊢
                clear hS1
                have HVL : Hid (∀ k r, k < i → r < R → vlOk (f (x + k) r)) := fun k r h1 h2 => (OK.out.2.2.1 (x + k) (by omega)).2.2.2 r (by rw [HY6.out k h1]; exact h2)
                have G0 : Bt w2 wr (.slice (some ⟨gs, 0, none⟩) (fl S1).length cs) (fl (S1 ++ rwL f x i 0)) := by
                  rw [show S1 ++ rwL f x i 0 = S1 by simp [rwL]]
                  exact G
                have hG0 : (fl (S1 ++ rwL f x i 0)).length ≤ 2000000 + j * 1000000000 := by
                  rw [show S1 ++ rwL f x i 0 = S1 by simp [rwL]]
                  omega
                obtain ⟨d0, d1, d2⟩ := (HD.out.below G.b).it.at (show x < N by omega)
                clear d0 d1 G hG d2
                have HG0 : Hid (Bt w2 wr (.slice (some ⟨gs, 0, none⟩) (fl S1).length cs) (fl (S1 ++ rwL f x i 0))) := G0
                obtain ⟨Z9, hZ9⟩ : ∃ Z, (fl S1).length = Z := ⟨_, rfl⟩
                rw [hZ9] at HG0 ⊢
                clear G0 hZ9
                go_wp2_with fail
                clear c0 c1 c2 e0
                go_loopw [3, 7] (fun t u7 wr => ∃ r : Nat, r ≤ R ∧ u7 = .int .i64 (r : Int) ∧ Bt w2 wr t (fl (S1 ++ rwL f x i r)) ∧ (fl (S1 ++ rwL f x i r)).length ≤ 2000000 + j * 1000000000 + r * 100000) (fun _ u7 _ => R - (intOf u7).toNat)
                case atStart => exact ⟨0, Nat.zero_le _, rfl, HG0.out, by rw [Nat.zero_mul, Nat.add_zero]; exact hG0⟩
                case round =>
                  clear HG0 hG0
                  obtain ⟨r, hr, rfl, G, hG⟩ := hrel
                  obtain ⟨gs, cs, rfl, gsB, gsl, -⟩ := G.own
                  obtain ⟨c0, c1, c2, -⟩ := (HA.out.below G.b).open3
                  obtain ⟨d0, d1, d2⟩ := (HD.out.below G.b).it.at (show x < N by omega)
                  rw [HRW.out] at d2
                  have hxN : (x : Int) < (N : Int) := by omega
                  clear d0 d1
                  by_cases hrR : r < R
                  · have hrR' : (r : Int) < (R : Int) := by omega
                    as_aux_lemma =>
                      obtain ⟨L0, hL0⟩ : ∃ L, fl (S1 ++ rwL f x i r) = L := ⟨_, rfl⟩
                      have HL0 : Hid (fl (S1 ++ rwL f x i r) = L0) := hL0
                      have HG0 : Hid (Bt w2 wr (.slice (some ⟨gs, 0, none⟩) L0.length cs) (L0 ++ Lib.join ((wdL f x r 0).map (·.data.toList)) [32])) := show Bt _ _ _ _ by
                        rw [show L0 ++ Lib.join ((wdL f x r 0).map (·.data.toList)) [32] = L0 by simp [wdL, Lib.join_nil], ← hL0]
                        exact G
                      have hG0 : Hid ((L0 ++ Lib.join ((wdL f x r 0).map (·.data.toList)) [32]).length ≤ 2000000 + j * 1000000000 + r * 100000) := show _ ≤ _ by
                        rw [show L0 ++ Lib.join ((wdL f x r 0).map (·.data.toList)) [32] = L0 by simp [wdL, Lib.join_nil], ← hL0]
                        exact hG
                      rw [hL0]
                      clear hL0 G hG
                      obtain ⟨Z9, hZ9⟩ : ∃ Z, L0.length = Z := ⟨_, rfl⟩
                      rw [hZ9] at HG0 ⊢
                      clear hZ9
                      go_wp2_with fail
                      clear c0 c1 c2 d2
                      go_loopw [3, 8] (fun t u8 wr => ∃ c : Nat, c ≤ i ∧ u8 = .int .i64 (c : Int) ∧ Bt w2 wr t (L0 ++ Lib.join ((wdL f x r c).map (·.data.toList)) [32]) ∧ (L0 ++ Lib.join ((wdL f x r c).map (·.data.toList)) [32]).length ≤ 2000000 + j * 1000000000 + r * 100000 + c * 400) (fun _ u8 _ => i - (intOf u8).toNat)
                      case atStart => exact ⟨0, Nat.zero_le _, rfl, HG0.out, by rw [Nat.zero_mul, Nat.add_zero]; exact hG0.out⟩
                      case round =>
                        clear HG0 hG0
                        obtain ⟨c, hc, rfl, G, hG⟩ := hrel
                        obtain ⟨gs, cs, rfl, gsB, gsl, -⟩ := G.own
                        obtain ⟨c0, c1, c2, -⟩ := (HA.out.below G.b).open3
                        have e0 := HQ0.out _ G.b
                        by_cases hci : c < i
                        · have hci' : (c : Int) < (i : Int) := by omega
                          have hxc : (x : Int) + (c : Int) = ((x + c : Nat) : Int) := by omega
                          have hxcN : ((x + c : Nat) : Int) < (N : Int) := by omega
                          have hvl := (HVL.out c r hci hrR).1
                          have hnR := HY6.out c hci
                          have hwd := wd_size (f (x + c) r)
                          have YY : Hid (∀ wq, Kb w2 wq → wq.cell? ⟨g, (x + c) * 3 + 1, none⟩ = some (.slice (some ⟨vb (x + c), 0, none⟩) R R) ∧ wq.cell? ⟨vb (x + c), r, none⟩ = some (.string (f (x + c) r))) := show ∀ wq, _ from fun wq hh => by
                            have z := ((HD.out.below hh).it.at (show x + c < N by omega)).2.1
                            have z2 := ((HD.out.below hh).it.own (x + c) (by omega)).2.strs r (by omega)
                            rw [Nat.zero_add] at z2
                            rw [hnR] at z
                            exact ⟨z, z2⟩
                          have HWD : Hid (Lib.join ((wdL f x r (c + 1)).map (·.data.toList)) [32] = (if c = 0 then [] else Lib.join ((wdL f x r c).map (·.data.toList)) [32] ++ [32]) ++ (wd (f (x + c) r)).data.toList) := show _ = _ by
                            rw [wdL_add, List.map_append, List.map_cons, List.map_nil]
                            by_cases h0 : c = 0
                            · subst h0; simp [wdL, Lib.join_cons, Lib.joinTail]
                            · rw [if_neg h0, join_add]
                              intro hh
                              have := congrArg List.length hh
                              rw [List.length_map, wdL_len] at this
                              exact h0 (by simpa using this)
                          have WR := fun w => sWord_any (f (x + c) r) w hvl
                          obtain ⟨X, hX⟩ : ∃ X, f (x + c) r = X := ⟨_, rfl⟩
                          obtain ⟨Y, hY⟩ : ∃ Y, wd X = Y := ⟨_, rfl⟩
                          obtain ⟨Q, hQ⟩ : ∃ Q, vb (x + c) = Q := ⟨_, rfl⟩
                          rw [hX] at hvl
                          rw [hX, hY] at WR hwd HWD
                          rw [hX, hQ] at YY
                          obtain ⟨p3, hp3⟩ : ∃ p, x + c = p := ⟨_, rfl⟩
                          rw [hp3] at hxc hxcN YY
                          clear hX hY hQ hp3 hnR
                          have hYs : Y.size ≤ 300 := by omega
                          by_cases hc0 : c = 0
                          · rw [if_pos hc0] at HWD
                            have hjz : Hid (Lib.join ((wdL f x r c).map (·.data.toList)) [32] = []) := show _ = _ by subst hc0; simp [wdL, Lib.join_nil]
                            rw [hjz.out, List.append_nil] at G hG
                            rw [hjz.out, List.append_nil]
                            have hc0' : ¬ (0 : Int) < (c : Int) := by omega
                            clear hjz hc0
                            obtain ⟨y0, y1⟩ := YY.out _ G.b
                            go_wp2_with fail
                            refine (WR _).mono ?_
                            rintro e w9 ⟨rfl, rfl⟩
                            obtain ⟨V1, cp, cv, bb, -, -, -, z4, -⟩ := conv_any wr Y (by omega)
                            obtain ⟨Z1, hZ1⟩ : ∃ Z, Y.size = Z := ⟨_, rfl⟩
                            have HZ1 : Hid (Y.data.toList.length = Z1) := show _ = _ from Array.length_toList.trans hZ1
                            obtain ⟨g9, hg9⟩ : ∃ g, wr.heap.size = g := ⟨_, rfl⟩
                            rw [hZ1, hg9] at cv
                            rw [hg9] at z4
                            rw [hZ1] at hYs
                            have G1 := G.below bb
                            clear G bb hZ1 hg9
                            go_wp2_with (at_builtin; refine wpList_bt rfl _ _ rfl (.slice (some ⟨gs, 0, none⟩) L0.length cs) rfl G1 ⟨g9, 0, none⟩ Z1 cp Y.data.toList HZ1.out rfl (newsB z4) (by rw [HZ1.out]; omega) ?_; intro v2 w8 G2 hgr)
                            have HS : Hid (L0 ++ Y.data.toList = L0 ++ Lib.join ((wdL f x r (c + 1)).map (·.data.toList)) [32]) := show _ = _ by rw [HWD.out]; simp
                            have hlen : (L0 ++ Lib.join ((wdL f x r (c + 1)).map (·.data.toList)) [32]).length ≤ 2000000 + j * 1000000000 + r * 100000 + (c + 1) * 400 := by
                              rw [← HS.out, List.length_append, HZ1.out]
                              omega
                            rw [HS.out] at G2
                            exact ⟨⟨c + 1, by omega, by go_num, G2, hlen⟩, by simp [intOf]; omega⟩
                          · rw [if_neg hc0] at HWD
                            have hc0' : (0 : Int) < (c : Int) := by omega
                            obtain ⟨Lc, hLc⟩ : ∃ L, L0 ++ Lib.join ((wdL f x r c).map (·.data.toList)) [32] = L := ⟨_, rfl⟩
                            have HLc : Hid (L0 ++ Lib.join ((wdL f x r c).map (·.data.toList)) [32] = Lc) := hLc
                            rw [hLc] at G hG ⊢
                            clear hLc
                            obtain ⟨V1, hV1, A1, bb, -⟩ := boxed wr 5 #[.int .u8 32]
                            have hbS : ∀ w, (Instr.buildSlice 55 1 #[(0, .int .u8 32)]).run Try.prog w = .ok (.slice (some ⟨w.heap.size, 0, none⟩) 1 1) (w.alloc (.cells #[.int .u8 32] 5)) := fun _ => by kernel_rfl
                            obtain ⟨g9, hg9⟩ : ∃ g, wr.heap.size = g := ⟨_, rfl⟩
                            have N1 := news1 (c := 32) A1
                            rw [hg9] at N1
                            have G1 := G.below bb
                            clear G bb A1
                            go_wp2_with (at_builtin; refine Hid.out (?_ : Hid _))
                            refine (?_ : wpList _ _ _ _ _ _)
                            refine wpList_bt rfl _ _ rfl (.slice (some ⟨gs, 0, none⟩) Lc.length cs) rfl G1 ⟨g9, 0, none⟩ 1 1 [32] rfl rfl N1 (by simp only [List.length_cons, List.length_nil]; omega) ?_
                            intro v2 w9 G2 hgr
                            clear c0 c1 c2 e0 hV1 hbS hg9 N1 G1 hgr
                            obtain ⟨L2, hL2⟩ : ∃ L, Lc ++ [32] = L := ⟨_, rfl⟩
                            have HL2 : Hid (Lc ++ [32] = L2) := hL2
                            have hG2 : L2.length ≤ 2000000 + j * 1000000000 + r * 100000 + c * 400 + 1 := by rw [← hL2, List.length_append]; simp only [List.length_cons, List.length_nil]; omega
                            rw [hL2] at G2
                            clear hL2 hG gsB gsl
                            obtain ⟨gs, cs, rfl, gsB, gsl, -⟩ := G2.own
                            obtain ⟨y0, y1⟩ := YY.out _ G2.b
                            obtain ⟨c0, c1, c2, -⟩ := (HA.out.below G2.b).open3
                            have G := G2
                            have hG := hG2
                            clear G2 hG2
                            go_wp2_with fail
                            refine (WR _).mono ?_
                            rintro e w7 ⟨rfl, rfl⟩
                            obtain ⟨V1, cp, cv, bb, -, -, -, z4, -⟩ := conv_any w9 Y (by omega)
                            obtain ⟨Z1, hZ1⟩ : ∃ Z, Y.size = Z := ⟨_, rfl⟩
                            have HZ1 : Hid (Y.data.toList.length = Z1) := show _ = _ from Array.length_toList.trans hZ1
                            obtain ⟨g9, hg9⟩ : ∃ g, w9.heap.size = g := ⟨_, rfl⟩
                            rw [hZ1, hg9] at cv
                            rw [hg9] at z4
                            rw [hZ1] at hYs
                            have G1 := G.below bb
                            clear G bb hZ1 hg9
                            go_wp2_with (at_builtin; refine wpList_bt rfl _ _ rfl (.slice (some ⟨gs, 0, none⟩) L2.length cs) rfl G1 ⟨g9, 0, none⟩ Z1 cp Y.data.toList HZ1.out rfl (newsB z4) (by rw [HZ1.out]; omega) ?_; intro v2 w8 G2 hgr)
                            have HS : Hid (L2 ++ Y.data.toList = L0 ++ Lib.join ((wdL f x r (c + 1)).map (·.data.toList)) [32]) := show _ = _ by rw [← HL2.out, ← HLc.out, HWD.out]; simp
                            have hlen : (L0 ++ Lib.join ((wdL f x r (c + 1)).map (·.data.toList)) [32]).length ≤ 2000000 + j * 1000000000 + r * 100000 + (c + 1) * 400 := by
                              rw [← HS.out, List.length_append, HZ1.out]
                              omega
                            rw [HS.out] at G2
                            exact ⟨⟨c + 1, by omega, by go_num, G2, hlen⟩, by simp [intOf]; omega⟩
                        · have hci' : ¬ (c : Int) < (i : Int) := by omega
                          obtain rfl : c = i := by omega
                          obtain ⟨Lc, hLc⟩ : ∃ L, L0 ++ Lib.join ((wdL f x r c).map (·.data.toList)) [32] = L := ⟨_, rfl⟩
                          have HLc : Hid (Lc ++ [10] = fl (S1 ++ rwL f x c (r + 1))) := show _ = _ by
                            rw [← hLc, rwL_add, ← List.append_assoc, fl_add, HL0.out, fl_one, jn]
                            simp
                          rw [hLc] at G hG ⊢
                          clear hLc
                          obtain ⟨V1, hV1, A1, bb, -⟩ := boxed wr 5 #[.int .u8 10]
                          have hbS : ∀ w, (Instr.buildSlice 55 1 #[(0, .int .u8 10)]).run Try.prog w = .ok (.slice (some ⟨w.heap.size, 0, none⟩) 1 1) (w.alloc (.cells #[.int .u8 10] 5)) := fun _ => by kernel_rfl
                          obtain ⟨g9, hg9⟩ : ∃ g, wr.heap.size = g := ⟨_, rfl⟩
                          have N1 := news1 (c := 10) A1
                          rw [hg9] at N1
                          have G1 := G.below bb
                          clear G bb A1
                          go_wp2_with (at_builtin; refine wpList_bt rfl _ _ rfl (.slice (some ⟨gs, 0, none⟩) Lc.length cs) rfl G1 ⟨g9, 0, none⟩ 1 1 [10] rfl rfl N1 (by simp only [List.length_cons, List.length_nil]; omega) ?_; intro v2 w9 G2 hgr)
                          have hlen : (fl (S1 ++ rwL f x c (r + 1))).length ≤ 2000000 + j * 1000000000 + (r + 1) * 100000 := by
                            rw [← HLc.out, List.length_append]
                            simp only [List.length_cons, List.length_nil]
                            omega
                          rw [HLc.out] at G2
                          exact ⟨⟨r + 1, by omega, by go_num, G2, hlen⟩, by simp [intOf]; omega⟩
                  · have hrR' : ¬ (r : Int) < (R : Int) := by omega
                    as_aux_lemma =>
                      obtain rfl : r = R := by omega
                      have e0 := HQ0.out _ G.b
                      have HE : Hid (fl (S1 ++ rwL f x i r) = fl (shL s nm f rw k lp k (j + 1))) := show _ = _ by rw [← HXS.out, ← HS1.out, lpL]; simp
                      have hlen : (fl (shL s nm f rw k lp k (j + 1))).length ≤ 1000000 + (j + 1) * 1000000000 := by rw [← HE.out]; omega
                      obtain ⟨p3, hp3⟩ : ∃ p, x + i = p := ⟨_, rfl⟩
                      have hxi : (x : Int) + (i : Int) = (p3 : Int) := by omega
                      rw [hp3] at HAT
                      have hp3' : (p3 : Int) ≤ 400 := by omega
                      clear hp3
                      rw [HE.out] at G ⊢
                      have HG : Hid (Bt w2 wr (.slice (some ⟨gs, 0, none⟩) (fl (shL s nm f rw k lp k (j + 1))).length cs) (fl (shL s nm f rw k lp k (j + 1)))) := G
                      obtain ⟨Z9, hZ9⟩ : ∃ Z, (fl (shL s nm f rw k lp k (j + 1))).length = Z := ⟨_, rfl⟩
                      rw [hZ9] at HG ⊢
                      clear G hG gsl
                      go_wp2
                      exact ⟨⟨j + 1, by omega, by go_num, by rw [HAT.out], HG.out, hlen⟩, by simp [intOf]; omega⟩
          · have hjM' : ¬ (j : Int) < (M : Int) := by omega
            obtain rfl : j = M := by omega
            have TX := G.text
            have HW : Hid (shw s nm f rw k lp j = ⟨(fl (shL s nm f rw k lp k j)).toArray⟩) := shw_fl ..
            have BB := B.trans (G.b.mono B.size)
            obtain ⟨L2, hL2⟩ : ∃ L, fl (shL s nm f rw k lp k j) = L := ⟨_, rfl⟩
            rw [hL2] at TX HW ⊢
            clear G hL2 hG
            go_wp2
            go_ret
            exact ⟨by rw [HW.out]; rfl, BB⟩
      · have hkN' : ¬ (k : Int) < (N : Int) := by omega
        clear D key
        go_wp2
        clear c0 c1 c2
        go_loopw [3, 4, 5] (fun t u4 u5 wr => ∃ j : Nat, j ≤ M ∧ u5 = .int .i64 (j : Int) ∧ u4 = .int .i64 ((atL k lp j : Nat) : Int) ∧ Bt w2 wr t (fl (shL s nm f rw k lp k j)) ∧ (fl (shL s nm f rw k lp k j)).length ≤ 1000000 + j * 1000000000) (fun _ _ u5 _ => M - (intOf u5).toNat)
        case atStart => exact ⟨0, Nat.zero_le _, rfl, rfl, by rw [HL.out]; exact HG.out, by rw [HL.out, Nat.zero_mul, Nat.add_zero]; exact hB.out⟩
        case round =>
          clear HG hB HL
          obtain ⟨j, hj, rfl, rfl, G, hG⟩ := hrel
          obtain ⟨gs, cs, rfl, gsB, gsl, -⟩ := G.own
          obtain ⟨c0, c1, c2, -⟩ := (HA.out.below G.b).open3
          by_cases hjM : j < M
          · have hjM' : (j : Int) < (M : Int) := by omega
            obtain ⟨y1, y2, -⟩ := OK.out.rows HF.out hjM
            have := atL_low k lp j
            omega
          · have hjM' : ¬ (j : Int) < (M : Int) := by omega
            obtain rfl : j = M := by omega
            have TX := G.text
            have HW : Hid (shw s nm f rw k lp j = ⟨(fl (shL s nm f rw k lp k j)).toArray⟩) := shw_fl ..
            have BB := B.trans (G.b.mono B.size)
            obtain ⟨L2, hL2⟩ : ∃ L, fl (shL s nm f rw k lp k j) = L := ⟨_, rfl⟩
            rw [hL2] at TX HW ⊢
            clear G hL2 hG
            go_wp2
            go_ret
            exact ⟨by rw [HW.out]; rfl, BB⟩
end Go.Proofs.Ytdhfoekfejcceaa
