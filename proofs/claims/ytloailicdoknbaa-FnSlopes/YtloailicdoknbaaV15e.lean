/-
  The values of a tape's nodes by the specification: walked.
-/
import Derived.Test.YtloailicdoknbaaV15d
import Derived.Test.YtloailicdoknbaaP15c
namespace Go.Proofs.Ytloailicdoknbaa
open Go.RowKit

theorem belowInts {w w' : World} {b o n N : Nat} {x : Nat → Int} (h : Ints w b o n x) (hb : Below N w w') (hN : b < N) : Ints w' b o n x := fun i hi => (hb.cell (p := ⟨b, o + i, none⟩) hN).trans (h i hi)
theorem belowRecs {w w' : World} {g n K N : Nat} {f : Nat → Int} (h : Recs K w g n f) (hb : Below N w w') (hN : g < N) : Recs K w' g n f := ⟨Nat.lt_of_lt_of_le h.1 hb.size, fun i hi => (hb.cell (p := ⟨g, i, none⟩) hN).trans (h.2 i hi)⟩
set_option maxRecDepth 100000 in
set_option maxHeartbeats 6400000 in
theorem specValues_any {w : World} {g n cap b o c inp : Nat} {f x : Nat → Int} (h : Recs 3 w g n f) (hx : Ints w b o inp x) (hb : b < w.heap.size) (ok : TpOk n (inp : Int) f) (hx64 : ∀ i, i < inp → is64 (x i)) (hf64 : ∀ i, i < n * 3 → is64 (f i)) :
    Calls Try.prog 33 #[.slice (some ⟨g, 0, none⟩) n cap, .slice (some ⟨b, o, none⟩) inp c] w fun e w' => ∃ v, e = .returned v ∧ Gv w w' w.heap.size 2 v n (iCells (tv mp f x) n) := by
  have hn200 := ok.1
  have hi20 := ok.2.1.2
  have hn' : (n : Int) ≤ 200 := by omega
  have hi' : (inp : Int) ≤ 20 := by omega
  obtain ⟨i0, hi0, hz0, hz1, hz2⟩ := info_parts infoI
  have hbs : ∀ w, (Instr.buildSlice 23 0 #[]).run Try.prog w = .ok (.slice (some ⟨w.heap.size, 0, none⟩) 0 0) (w.alloc (.cells #[] 2)) := fun _ => by kernel_rfl
  have hgw : g < w.heap.size := h.1
  obtain ⟨W1, hW1, a1, bb1, -⟩ := boxed w 2 #[]
  have G1 : Gv w W1 w.heap.size 2 (.slice (some ⟨w.heap.size, 0, none⟩) 0 0) 0 (iCells (tv mp f x) 0) := ⟨⟨rfl, .inr ⟨_, 0, #[], rfl, Nat.le_refl _, a1, Nat.le_refl _, Nat.zero_le _, rfl, rfl⟩⟩, by simp, bb1, Nat.le_refl _, bb1.size⟩
  go_enter Try.func33, Try.ntmps33
  go_wp2
  clear hW1 a1 bb1
  go_loopw [5, 6] (fun s u wr => ∃ k : Nat, k ≤ n ∧ u = .int .i64 (k : Int) ∧ Gv w wr w.heap.size 2 s k (iCells (tv mp f x) k)) (fun _ u _ => n - (intOf u).toNat)
  case atStart => exact ⟨0, Nat.zero_le _, rfl, G1⟩
  case round =>
    clear G1
    obtain ⟨k, hk, rfl, G1⟩ := hrel
    obtain ⟨gg, cc, rfl, o1, o2, o3, I1⟩ := G1.ints
    by_cases hkn : k < n
    · have hkn' : (k : Int) < (n : Int) := by omega
      have TV := tv_eq mp x ok hkn
      obtain ⟨d0, d1, d2⟩ := Step.open (belowRecs h G1.b hgw) k hkn
      rcases (ok.2.2 k hkn).ways with ⟨e1, e2, A, e3, hA⟩ | ⟨e1, A, B, e2, e3, hA, hB⟩ | ⟨e1, A, B, e2, e3, hA, hB⟩ | ⟨e1, e2, A, e3, hA⟩ | ⟨e1, e2⟩
      · rw [e1] at TV d0
        rw [e2] at TV d2
        rw [e3] at TV d1
        clear e1 e2 e3
        obtain ⟨b0, hb0⟩ : ∃ b : Int, b = 0 := ⟨_, rfl⟩
        rw [← hb0] at d2
        clear hb0
        obtain ⟨V1, hV1, m1, bb1, -⟩ := boxed wr 46 #[.int .i64 1, .int .i64 (A : Int), .int .i64 b0]
        obtain ⟨r1, hr1⟩ : ∃ r, wr.heap.size = r := ⟨_, rfl⟩
        have o3' := o3
        rw [hr1] at m1
        have G2 := G1.below bb1
        have hgr : gg < r1 := by omega
        obtain ⟨c0, c1, c2, -⟩ := m1.open3
        have cx := belowInts hx G2.b hb A (by omega)
        have hA' : (A : Int) < (inp : Int) := hA
        have RZ : is64 (x A) := hx64 A (by omega)
        have TZ : tv mp f x k = x A % 12289 := by rw [TV]; rfl
        obtain ⟨Z, hZ⟩ : ∃ Z, x A = Z := ⟨_, rfl⟩
        rw [hZ] at RZ TZ cx
        clear hZ TV
        go_wp2_with fail
        refine (smod_any Z 12289 _ RZ (by omega)).mono ?_
        rintro e w2 ⟨rfl, rfl⟩
        obtain ⟨R, hR⟩ : ∃ R, Z % 12289 = R := ⟨_, rfl⟩
        have HZ : Hid (tv mp f x k = R) := TZ.trans hR
        rw [hR]
        clear hR RZ TZ
        have hb2 : ∀ w, (Instr.buildSlice 23 1 #[(0, .int .i64 R)]).run Try.prog w = .ok (.slice (some ⟨w.heap.size, 0, none⟩) 1 1) (w.alloc (.cells #[.int .i64 R] 2)) := fun _ => by kernel_rfl
        obtain ⟨V9, hV9, A9, b10, -⟩ := boxed V1 2 #[.int .i64 R]
        obtain ⟨g9, hg9⟩ : ∃ g, V1.heap.size = g := ⟨_, rfl⟩
        rw [hg9] at A9
        have G4 := G2.below b10
        have hkk := G4.o3
        clear b10 G2
        go_wp2_with (at_builtin; refine wpList_append_own _ rfl _ _ _ rfl w.heap.size 2 i0 _ 1 8 Try.underlying23 hi0 hz0 hz1 hz2 rfl (by omega) (.slice (some ⟨gg, 0, none⟩) k cc) k (iCells (tv mp f x) k) rfl G4.own ⟨g9, 0, none⟩ 1 1 [.int .i64 R] rfl rfl (news1 A9) (by simp [Value.oneCell']) (by unfold maxLen; omega) (by omega) hkk ?_; intro v2 w16 hown2 hgrow2 hne2)
        have G5 := G4.grow hown2 hgrow2 (fun h => by have := hne2.1 h; simp at this)
        refine ⟨⟨k + 1, by omega, by go_num, ?_⟩, by simp [intOf]; omega⟩
        rw [← HZ.out, iCells_more] at G5
        exact G5
      · rw [e1] at TV d0
        rw [e2] at TV d1
        rw [e3] at TV d2
        clear e1 e2 e3
        obtain ⟨V1, hV1, m1, bb1, -⟩ := boxed wr 46 #[.int .i64 2, .int .i64 (A : Int), .int .i64 (B : Int)]
        obtain ⟨r1, hr1⟩ : ∃ r, wr.heap.size = r := ⟨_, rfl⟩
        have o3' := o3
        rw [hr1] at m1
        have G2 := G1.below bb1
        have hgr : gg < r1 := by omega
        obtain ⟨c0, c1, c2, -⟩ := m1.open3
        have I2 := (I1.below o3 bb1)
        have cx := cellAt I2 (a := A) (by omega)
        have cy := cellAt I2 (a := B) (by omega)
        have t1 := tv_in f x A
        have t2 := tv_in f x B
        have hw : IntKind.i64.wrap (tv mp f x A + tv mp f x B) = tv mp f x A + tv mp f x B := by rw [IntKind.wrap_i64]; omega
        have RZ : is64 (tv mp f x A + tv mp f x B) := ⟨by omega, by omega⟩
        have TZ : tv mp f x k = (tv mp f x A + tv mp f x B) % 12289 := by rw [TV]; rfl
        clear I2 t1 t2
        obtain ⟨z, hz⟩ : ∃ z, tv mp f x A = z := ⟨_, rfl⟩
        obtain ⟨y, hy⟩ : ∃ y, tv mp f x B = y := ⟨_, rfl⟩
        rw [hz, hy] at RZ TZ hw
        rw [hz] at cx
        rw [hy] at cy
        clear hz hy TV
        obtain ⟨Z, hZ⟩ : ∃ Z, z + y = Z := ⟨_, rfl⟩
        rw [hZ] at RZ TZ hw
        go_wp2_with fail
        go_region
        obtain ⟨V2, hV2, bd⟩ : ∃ u, V1.drew = u ∧ Below V1.heap.size V1 u := ⟨_, rfl, (Below.refl _ _).drew⟩
        rw [hV2]
        replace G2 := G2.below bd
        clear hV2 bd
        go_wp2_with fail
        refine (smod_any Z 12289 _ RZ (by omega)).mono ?_
        rintro e w2 ⟨rfl, rfl⟩
        obtain ⟨R, hR⟩ : ∃ R, Z % 12289 = R := ⟨_, rfl⟩
        have HZ : Hid (tv mp f x k = R) := TZ.trans hR
        rw [hR]
        clear hR RZ TZ
        have hb2 : ∀ w, (Instr.buildSlice 23 1 #[(0, .int .i64 R)]).run Try.prog w = .ok (.slice (some ⟨w.heap.size, 0, none⟩) 1 1) (w.alloc (.cells #[.int .i64 R] 2)) := fun _ => by kernel_rfl
        obtain ⟨V9, hV9, A9, b10, -⟩ := boxed V2 2 #[.int .i64 R]
        obtain ⟨g9, hg9⟩ : ∃ g, V2.heap.size = g := ⟨_, rfl⟩
        rw [hg9] at A9
        have G4 := G2.below b10
        have hkk := G4.o3
        clear b10 G2
        go_wp2_with (at_builtin; refine wpList_append_own _ rfl _ _ _ rfl w.heap.size 2 i0 _ 1 8 Try.underlying23 hi0 hz0 hz1 hz2 rfl (by omega) (.slice (some ⟨gg, 0, none⟩) k cc) k (iCells (tv mp f x) k) rfl G4.own ⟨g9, 0, none⟩ 1 1 [.int .i64 R] rfl rfl (news1 A9) (by simp [Value.oneCell']) (by unfold maxLen; omega) (by omega) hkk ?_; intro v2 w16 hown2 hgrow2 hne2)
        have G5 := G4.grow hown2 hgrow2 (fun h => by have := hne2.1 h; simp at this)
        refine ⟨⟨k + 1, by omega, by go_num, ?_⟩, by simp [intOf]; omega⟩
        rw [← HZ.out, iCells_more] at G5
        exact G5
      · rw [e1] at TV d0
        rw [e2] at TV d1
        rw [e3] at TV d2
        clear e1 e2 e3
        obtain ⟨V1, hV1, m1, bb1, -⟩ := boxed wr 46 #[.int .i64 3, .int .i64 (A : Int), .int .i64 (B : Int)]
        obtain ⟨r1, hr1⟩ : ∃ r, wr.heap.size = r := ⟨_, rfl⟩
        have o3' := o3
        rw [hr1] at m1
        have G2 := G1.below bb1
        have hgr : gg < r1 := by omega
        obtain ⟨c0, c1, c2, -⟩ := m1.open3
        have I2 := (I1.below o3 bb1)
        have cx := cellAt I2 (a := A) (by omega)
        have cy := cellAt I2 (a := B) (by omega)
        have t1 := tv_in f x A
        have t2 := tv_in f x B
        have q1 := Int.mul_nonneg t1.1 t2.1
        have q2 := Int.mul_le_mul (show tv mp f x A ≤ 12289 by omega) (show tv mp f x B ≤ 12289 by omega) t2.1 (by omega)
        have hw : IntKind.i64.wrap (tv mp f x A * tv mp f x B) = tv mp f x A * tv mp f x B := by rw [IntKind.wrap_i64]; omega
        have RZ : is64 (tv mp f x A * tv mp f x B) := ⟨by omega, by omega⟩
        have TZ : tv mp f x k = (tv mp f x A * tv mp f x B) % 12289 := by rw [TV]; rfl
        clear I2 t1 t2 q1 q2
        obtain ⟨z, hz⟩ : ∃ z, tv mp f x A = z := ⟨_, rfl⟩
        obtain ⟨y, hy⟩ : ∃ y, tv mp f x B = y := ⟨_, rfl⟩
        rw [hz, hy] at RZ TZ hw
        rw [hz] at cx
        rw [hy] at cy
        clear hz hy TV
        obtain ⟨Z, hZ⟩ : ∃ Z, z * y = Z := ⟨_, rfl⟩
        rw [hZ] at RZ TZ hw
        go_wp2_with fail
        go_region
        obtain ⟨V2, hV2, bd⟩ : ∃ u, V1.drew = u ∧ Below V1.heap.size V1 u := ⟨_, rfl, (Below.refl _ _).drew⟩
        rw [hV2]
        replace G2 := G2.below bd
        clear hV2 bd
        go_wp2_with fail
        refine (smod_any Z 12289 _ RZ (by omega)).mono ?_
        rintro e w2 ⟨rfl, rfl⟩
        obtain ⟨R, hR⟩ : ∃ R, Z % 12289 = R := ⟨_, rfl⟩
        have HZ : Hid (tv mp f x k = R) := TZ.trans hR
        rw [hR]
        clear hR RZ TZ
        have hb2 : ∀ w, (Instr.buildSlice 23 1 #[(0, .int .i64 R)]).run Try.prog w = .ok (.slice (some ⟨w.heap.size, 0, none⟩) 1 1) (w.alloc (.cells #[.int .i64 R] 2)) := fun _ => by kernel_rfl
        obtain ⟨V9, hV9, A9, b10, -⟩ := boxed V2 2 #[.int .i64 R]
        obtain ⟨g9, hg9⟩ : ∃ g, V2.heap.size = g := ⟨_, rfl⟩
        rw [hg9] at A9
        have G4 := G2.below b10
        have hkk := G4.o3
        clear b10 G2
        go_wp2_with (at_builtin; refine wpList_append_own _ rfl _ _ _ rfl w.heap.size 2 i0 _ 1 8 Try.underlying23 hi0 hz0 hz1 hz2 rfl (by omega) (.slice (some ⟨gg, 0, none⟩) k cc) k (iCells (tv mp f x) k) rfl G4.own ⟨g9, 0, none⟩ 1 1 [.int .i64 R] rfl rfl (news1 A9) (by simp [Value.oneCell']) (by unfold maxLen; omega) (by omega) hkk ?_; intro v2 w16 hown2 hgrow2 hne2)
        have G5 := G4.grow hown2 hgrow2 (fun h => by have := hne2.1 h; simp at this)
        refine ⟨⟨k + 1, by omega, by go_num, ?_⟩, by simp [intOf]; omega⟩
        rw [← HZ.out, iCells_more] at G5
        exact G5
      · rw [e1] at TV d0
        rw [e2] at TV d2
        rw [e3] at TV d1
        clear e1 e2 e3
        obtain ⟨b0, hb0⟩ : ∃ b : Int, b = 0 := ⟨_, rfl⟩
        rw [← hb0] at d2
        clear hb0
        obtain ⟨V1, hV1, m1, bb1, -⟩ := boxed wr 46 #[.int .i64 4, .int .i64 (A : Int), .int .i64 b0]
        obtain ⟨r1, hr1⟩ : ∃ r, wr.heap.size = r := ⟨_, rfl⟩
        have o3' := o3
        rw [hr1] at m1
        have G2 := G1.below bb1
        have hgr : gg < r1 := by omega
        obtain ⟨c0, c1, c2, -⟩ := m1.open3
        have I2 := (I1.below o3 bb1)
        have cx := cellAt I2 (a := A) (by omega)
        obtain ⟨t1, t2⟩ := tv_in f x A
        have RZ : is64 (- tv mp f x A) := ⟨by omega, by omega⟩
        have TZ : tv mp f x k = (- tv mp f x A) % 12289 := by rw [TV]; rfl
        clear I2
        obtain ⟨z, hz⟩ : ∃ z, tv mp f x A = z := ⟨_, rfl⟩
        rw [hz] at RZ TZ cx t1 t2
        clear hz TV
        obtain ⟨Z, hZ⟩ : ∃ Z, -z = Z := ⟨_, rfl⟩
        rw [hZ] at RZ TZ
        go_wp2_with fail
        refine (smod_any Z 12289 _ RZ (by omega)).mono ?_
        rintro e w2 ⟨rfl, rfl⟩
        obtain ⟨R, hR⟩ : ∃ R, Z % 12289 = R := ⟨_, rfl⟩
        have HZ : Hid (tv mp f x k = R) := TZ.trans hR
        rw [hR]
        clear hR RZ TZ
        have hb2 : ∀ w, (Instr.buildSlice 23 1 #[(0, .int .i64 R)]).run Try.prog w = .ok (.slice (some ⟨w.heap.size, 0, none⟩) 1 1) (w.alloc (.cells #[.int .i64 R] 2)) := fun _ => by kernel_rfl
        obtain ⟨V9, hV9, A9, b10, -⟩ := boxed V1 2 #[.int .i64 R]
        obtain ⟨g9, hg9⟩ : ∃ g, V1.heap.size = g := ⟨_, rfl⟩
        rw [hg9] at A9
        have G4 := G2.below b10
        have hkk := G4.o3
        clear b10 G2
        go_wp2_with (at_builtin; refine wpList_append_own _ rfl _ _ _ rfl w.heap.size 2 i0 _ 1 8 Try.underlying23 hi0 hz0 hz1 hz2 rfl (by omega) (.slice (some ⟨gg, 0, none⟩) k cc) k (iCells (tv mp f x) k) rfl G4.own ⟨g9, 0, none⟩ 1 1 [.int .i64 R] rfl rfl (news1 A9) (by simp [Value.oneCell']) (by unfold maxLen; omega) (by omega) hkk ?_; intro v2 w16 hown2 hgrow2 hne2)
        have G5 := G4.grow hown2 hgrow2 (fun h => by have := hne2.1 h; simp at this)
        refine ⟨⟨k + 1, by omega, by go_num, ?_⟩, by simp [intOf]; omega⟩
        rw [← HZ.out, iCells_more] at G5
        exact G5
      · rw [e1] at TV d0
        rw [e2] at TV d2
        obtain ⟨b0, hb0⟩ : ∃ b : Int, b = 0 := ⟨_, rfl⟩
        rw [← hb0] at d2
        have RZ : is64 (f (k * 3 + 1)) := hf64 (k * 3 + 1) (by omega)
        have TZ : tv mp f x k = (f (k * 3 + 1)) % 12289 := by rw [TV]; rfl
        clear hb0 e1 e2
        obtain ⟨Z, hZ⟩ : ∃ Z, f (k * 3 + 1) = Z := ⟨_, rfl⟩
        rw [hZ] at d1 RZ TZ
        clear hZ
        obtain ⟨V1, hV1, m1, bb1, -⟩ := boxed wr 46 #[.int .i64 5, .int .i64 Z, .int .i64 b0]
        obtain ⟨r1, hr1⟩ : ∃ r, wr.heap.size = r := ⟨_, rfl⟩
        have o3' := o3
        rw [hr1] at m1
        have G2 := G1.below bb1
        have hgr : gg < r1 := by omega
        obtain ⟨c0, c1, c2, -⟩ := m1.open3
        go_wp2_with fail
        refine (smod_any Z 12289 _ RZ (by omega)).mono ?_
        rintro e w2 ⟨rfl, rfl⟩
        obtain ⟨R, hR⟩ : ∃ R, Z % 12289 = R := ⟨_, rfl⟩
        have HZ : Hid (tv mp f x k = R) := TZ.trans hR
        rw [hR]
        clear hR RZ TZ
        have hb2 : ∀ w, (Instr.buildSlice 23 1 #[(0, .int .i64 R)]).run Try.prog w = .ok (.slice (some ⟨w.heap.size, 0, none⟩) 1 1) (w.alloc (.cells #[.int .i64 R] 2)) := fun _ => by kernel_rfl
        obtain ⟨V9, hV9, A9, b10, -⟩ := boxed V1 2 #[.int .i64 R]
        obtain ⟨g9, hg9⟩ : ∃ g, V1.heap.size = g := ⟨_, rfl⟩
        rw [hg9] at A9
        have G4 := G2.below b10
        have hkk := G4.o3
        clear b10 G2
        go_wp2_with (at_builtin; refine wpList_append_own _ rfl _ _ _ rfl w.heap.size 2 i0 _ 1 8 Try.underlying23 hi0 hz0 hz1 hz2 rfl (by omega) (.slice (some ⟨gg, 0, none⟩) k cc) k (iCells (tv mp f x) k) rfl G4.own ⟨g9, 0, none⟩ 1 1 [.int .i64 R] rfl rfl (news1 A9) (by simp [Value.oneCell']) (by unfold maxLen; omega) (by omega) hkk ?_; intro v2 w16 hown2 hgrow2 hne2)
        have G5 := G4.grow hown2 hgrow2 (fun h => by have := hne2.1 h; simp at this)
        refine ⟨⟨k + 1, by omega, by go_num, ?_⟩, by simp [intOf]; omega⟩
        rw [← HZ.out, iCells_more] at G5
        exact G5
    · have hkn' : ¬ (k : Int) < (n : Int) := by omega
      obtain rfl : k = n := by omega
      clear I1
      go_wp2
      go_ret
      exact ⟨_, rfl, G1⟩
theorem specValue_any {w : World} {g n cap b o c inp : Nat} {f x : Nat → Int} (h : Recs 3 w g n f) (hx : Ints w b o inp x) (hb : b < w.heap.size) (hn : n ≤ 1048576) (hi : inp ≤ 1048576) (hx64 : ∀ i, i < inp → is64 (x i)) (hf64 : ∀ i, i < n * 3 → is64 (f i)) (R : Bool) (hR : Hid (R = true ↔ TpN n inp f)) :
    Calls Try.prog 10 #[.slice (some ⟨g, 0, none⟩) n cap, .slice (some ⟨b, o, none⟩) inp c] w fun e w' => e = .returned (.tuple #[.int .i64 (if R then lastV n f x else 0), .bool R]) ∧ Below w.heap.size w w' := by
  have hi' : (inp : Int) ≤ 1048576 := by omega
  have hn' : (n : Int) ≤ 1048576 := by omega
  by_cases ok : TpOk n (inp : Int) f
  case neg =>
    obtain rfl : R = false := by cases R; rfl; exact absurd (hR.out.1 rfl).1 ok
    have T := fun w (h : Recs 3 w g n f) => specTapeOk_any (cap := cap) (inp : Int) h hn false (show (false = true ↔ _) from ⟨fun h => by simp at h, fun h => absurd h ok⟩)
    clear ok
    go_enter Try.func10, Try.ntmps10
    go_wp2_with (go_at_call 29; refine (T _ h).mono ?_; rintro e w2 ⟨rfl, bb⟩)
    exact bodyPost_ret (v := .tuple #[.int .i64 0, .bool false]) (by simp [results, Try.results10, go_sem]) rfl ⟨rfl, bb⟩
  have T := fun w (h : Recs 3 w g n f) => specTapeOk_any (cap := cap) (inp : Int) h hn true (show (true = true ↔ _) from ⟨fun _ => ok, fun _ => rfl⟩)
  have hn200 := ok.1
  have HO : Hid (TpOk n (inp : Int) f) := ok
  by_cases h0 : n = 0
  · obtain rfl : R = false := by cases R; rfl; exact absurd (hR.out.1 rfl).2 (by omega)
    subst h0
    clear ok
    go_enter Try.func10, Try.ntmps10
    go_wp2_with (go_at_call 29; refine (T _ h).mono ?_; rintro e w2 ⟨rfl, bb⟩)
    exact bodyPost_ret (v := .tuple #[.int .i64 0, .bool false]) (by simp [results, Try.results10, go_sem]) rfl ⟨rfl, bb⟩
  obtain rfl : R = true := hR.out.2 ⟨ok, by omega⟩
  have h0' : ((n : Int) == 0) = false := by simpa using h0
  have h9 : (n : Int) ≠ 0 := by omega
  clear ok h0
  go_enter Try.func10, Try.ntmps10
  go_wp2_with fail
  refine (T _ h).mono ?_
  rintro e w2 ⟨rfl, bb⟩
  go_wp2_with fail
  refine (specValues_any (h.below bb) (hx.below hb bb) (Nat.lt_of_lt_of_le hb bb.size) HO.out hx64 hf64).mono ?_
  rintro e w3 ⟨v, rfl, G⟩
  obtain ⟨gg, cc, rfl, p1, p2, p3, I1⟩ := G.ints
  have c0 := cellAt I1 (a := n - 1) (by omega)
  obtain ⟨N, hN⟩ : ∃ N, n - 1 = N := ⟨_, rfl⟩
  rw [hN] at c0
  have hN' : (n : Int) - 1 = (N : Int) := by omega
  have hN2 : (N : Int) < (n : Int) := by omega
  have B3 := bb.trans (G.b.mono bb.size)
  have HN : Hid (n - 1 = N) := hN
  clear I1 G hN
  go_wp2
  exact bodyPost_ret (v := .tuple #[.int .i64 (tv mp f x N), .bool true]) (by simp [results, Try.results10, go_sem]) rfl ⟨by simp only [lastV, HN.out]; try rfl, B3⟩
end Go.Proofs.Ytloailicdoknbaa
