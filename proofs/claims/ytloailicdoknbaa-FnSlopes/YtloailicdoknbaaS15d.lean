/-
  Slopes of a tape, forward, by the specification: walked, and the law over both.
-/
import Derived.Test.YtloailicdoknbaaS15c
namespace Go.Proofs.Ytloailicdoknbaa
open Go.RowKit

set_option maxRecDepth 100000 in
set_option maxHeartbeats 12800000 in
theorem specSlope_yes {w : World} {g n cap b o c inp : Nat} {f x : Nat → Int} {al : Int} (h : Recs 3 w g n f) (hx : Ints w b o inp x) (hb : b < w.heap.size) (hx64 : ∀ i, i < inp → is64 (x i)) (hf64 : ∀ i, i < n * 3 → is64 (f i)) (ok : TpN n inp f) (hal : 0 ≤ al ∧ al < (inp : Int)) :
    Calls Try.prog 16 #[.slice (some ⟨g, 0, none⟩) n cap, .slice (some ⟨b, o, none⟩) inp c, .int .i64 al] w fun e w' => e = .returned (.tuple #[.int .i64 (dv al (tv mp f x) f (n - 1)), .bool true]) ∧ Below w.heap.size w w' := by
  have hn0 := ok.2
  have hn200 := ok.1.1
  have hi20 := ok.1.2.1.2
  have hn' : (n : Int) ≤ 200 := by omega
  have hi' : (inp : Int) ≤ 20 := by omega
  have hn9 : (n : Int) ≠ 0 := by omega
  have h0' : ((n : Int) == 0) = false := by simpa using hn9
  have q1 : ¬ al < 0 := by omega
  have q2 : ¬ (inp : Int) ≤ al := by omega
  have T := fun w (h : Recs 3 w g n f) => specTapeOk_any (cap := cap) (inp : Int) h (by omega) true (show (true = true ↔ _) from ⟨fun _ => ok.1, fun _ => rfl⟩)
  have HO : Hid (TpN n inp f) := ok
  clear ok
  obtain ⟨i0, hi0, hz0, hz1, hz2⟩ := info_parts infoI
  have hbs : ∀ w, (Instr.buildSlice 23 0 #[]).run Try.prog w = .ok (.slice (some ⟨w.heap.size, 0, none⟩) 0 0) (w.alloc (.cells #[] 2)) := fun _ => by kernel_rfl
  go_enter Try.func16, Try.ntmps16
  go_wp2_with fail
  refine (T _ h).mono ?_
  rintro e w2 ⟨rfl, bb⟩
  have h2 := h.below bb
  clear T
  go_wp2_with fail
  refine (specValues_any h2 (hx.below hb bb) (Nat.lt_of_lt_of_le hb bb.size) HO.out.1 hx64 hf64).mono ?_
  rintro e w3 ⟨v, rfl, G⟩
  obtain ⟨gv, cv, rfl, p1, p2, p5, I3⟩ := G.ints
  have h3 := h2.below (G.b.mono (Nat.le_refl _))
  have hg3 : g < w3.heap.size := h3.1
  have B3 := bb.trans (G.b.mono bb.size)
  clear h2 bb G p1
  obtain ⟨W1, hW1, a1, bb1, -⟩ := boxed w3 2 #[]
  have G1 : Gv w3 W1 w3.heap.size 2 (.slice (some ⟨w3.heap.size, 0, none⟩) 0 0) 0 (iCells (dv al (tv mp f x) f) 0) := ⟨⟨rfl, .inr ⟨_, 0, #[], rfl, Nat.le_refl _, a1, Nat.le_refl _, Nat.zero_le _, rfl, rfl⟩⟩, by simp, bb1, Nat.le_refl _, bb1.size⟩
  go_wp2
  clear hW1 a1 bb1
  go_loopw [9, 10] (fun s u wr => ∃ k : Nat, k ≤ n ∧ u = .int .i64 (k : Int) ∧ Gv w3 wr w3.heap.size 2 s k (iCells (dv al (tv mp f x) f) k)) (fun _ u _ => n - (intOf u).toNat)
  case atStart => exact ⟨0, Nat.zero_le _, rfl, G1⟩
  case round =>
    clear G1
    obtain ⟨k, hk, rfl, G1⟩ := hrel
    obtain ⟨gg, cc, rfl, o1, o2, o3, I1⟩ := G1.ints
    by_cases hkn : k < n
    · have hkn' : (k : Int) < (n : Int) := by omega
      have TV := dv_eq al (tv mp f x) HO.out.1 hkn
      have hgw : gv < wr.heap.size := Nat.lt_of_lt_of_le p5 G1.b.size
      obtain ⟨d0, d1, d2⟩ := Step.open (belowRecs h3 G1.b hg3) k hkn
      rcases (HO.out.1.2.2 k hkn).ways with ⟨e1, e2, A, e3, hA⟩ | ⟨e1, A, B, e2, e3, hA, hB⟩ | ⟨e1, A, B, e2, e3, hA, hB⟩ | ⟨e1, e2, A, e3, hA⟩ | ⟨e1, e2⟩
      · rw [e1] at TV d0
        rw [e2] at TV d2
        rw [e3] at TV d1
        clear e1 e2 e3
        obtain ⟨b0, hb0⟩ : ∃ b : Int, b = 0 := ⟨_, rfl⟩
        rw [← hb0] at d2
        clear hb0
        obtain ⟨V1, hV1, m1, bb1, -⟩ := boxed wr 46 #[.int .i64 1, .int .i64 (A : Int), .int .i64 b0]
        obtain ⟨r1, hr1⟩ : ∃ r, wr.heap.size = r := ⟨_, rfl⟩
        rw [hr1] at m1
        have G2 := G1.below bb1
        have hgr : gg < r1 := by omega
        have hvr : gv < r1 := by omega
        have J1 := (I3.below p5 G2.b)
        obtain ⟨c0, c1, c2, -⟩ := m1.open3
        have I2 := (I1.below o3 bb1)
        by_cases eA : (A : Int) = al
        · have eA' : ((A : Int) == al) = true := by simpa using eA
          have TZ : dv al (tv mp f x) f k = 1 % 12289 := by
            rw [TV]
            show mp (if (A : Int) = al then 1 else 0) = _
            rw [if_pos eA]
            rfl
          clear TV eA I2 J1
          go_wp2_with fail
          refine (smod_any 1 12289 _ ⟨by omega, by omega⟩ (by omega)).mono ?_
          rintro e w9 ⟨rfl, rfl⟩
          obtain ⟨R, hR⟩ : ∃ R, (1 : Int) % 12289 = R := ⟨_, rfl⟩
          have HZ : Hid (dv al (tv mp f x) f k = R) := TZ.trans hR
          rw [hR]
          clear hR TZ
          have hb2 : ∀ w, (Instr.buildSlice 23 1 #[(0, .int .i64 R)]).run Try.prog w = .ok (.slice (some ⟨w.heap.size, 0, none⟩) 1 1) (w.alloc (.cells #[.int .i64 R] 2)) := fun _ => by kernel_rfl
          obtain ⟨V9, hV9, A9, b10, -⟩ := boxed V1 2 #[.int .i64 R]
          obtain ⟨g9, hg9⟩ : ∃ g, V1.heap.size = g := ⟨_, rfl⟩
          rw [hg9] at A9
          have G4 := G2.below b10
          have hkk := G4.o3
          clear b10 G2
          go_wp2_with (at_builtin; refine wpList_append_own _ rfl _ _ _ rfl w3.heap.size 2 i0 _ 1 8 Try.underlying23 hi0 hz0 hz1 hz2 rfl (by omega) (.slice (some ⟨gg, 0, none⟩) k cc) k (iCells (dv al (tv mp f x) f) k) rfl G4.own ⟨g9, 0, none⟩ 1 1 [.int .i64 R] rfl rfl (news1 A9) (by simp [Value.oneCell']) (by unfold maxLen; omega) (by omega) hkk ?_; intro v2 w16 hown2 hgrow2 hne2)
          have G5 := G4.grow hown2 hgrow2 (fun h => by have := hne2.1 h; simp at this)
          refine ⟨⟨k + 1, by omega, by go_num, ?_⟩, by simp [intOf]; omega⟩
          rw [← HZ.out, iCells_more] at G5
          exact G5
        · have eA' : ((A : Int) == al) = false := by simpa using eA
          have TZ : dv al (tv mp f x) f k = 0 % 12289 := by
            rw [TV]
            show mp (if (A : Int) = al then 1 else 0) = _
            rw [if_neg eA]
            rfl
          clear TV eA I2 J1
          go_wp2_with fail
          refine (smod_any 0 12289 _ ⟨by omega, by omega⟩ (by omega)).mono ?_
          rintro e w9 ⟨rfl, rfl⟩
          obtain ⟨R, hR⟩ : ∃ R, (0 : Int) % 12289 = R := ⟨_, rfl⟩
          have HZ : Hid (dv al (tv mp f x) f k = R) := TZ.trans hR
          rw [hR]
          clear hR TZ
          have hb2 : ∀ w, (Instr.buildSlice 23 1 #[(0, .int .i64 R)]).run Try.prog w = .ok (.slice (some ⟨w.heap.size, 0, none⟩) 1 1) (w.alloc (.cells #[.int .i64 R] 2)) := fun _ => by kernel_rfl
          obtain ⟨V9, hV9, A9, b10, -⟩ := boxed V1 2 #[.int .i64 R]
          obtain ⟨g9, hg9⟩ : ∃ g, V1.heap.size = g := ⟨_, rfl⟩
          rw [hg9] at A9
          have G4 := G2.below b10
          have hkk := G4.o3
          clear b10 G2
          go_wp2_with (at_builtin; refine wpList_append_own _ rfl _ _ _ rfl w3.heap.size 2 i0 _ 1 8 Try.underlying23 hi0 hz0 hz1 hz2 rfl (by omega) (.slice (some ⟨gg, 0, none⟩) k cc) k (iCells (dv al (tv mp f x) f) k) rfl G4.own ⟨g9, 0, none⟩ 1 1 [.int .i64 R] rfl rfl (news1 A9) (by simp [Value.oneCell']) (by unfold maxLen; omega) (by omega) hkk ?_; intro v2 w16 hown2 hgrow2 hne2)
          have G5 := G4.grow hown2 hgrow2 (fun h => by have := hne2.1 h; simp at this)
          refine ⟨⟨k + 1, by omega, by go_num, ?_⟩, by simp [intOf]; omega⟩
          rw [← HZ.out, iCells_more] at G5
          exact G5
      · rw [e1] at TV d0
        rw [e2] at TV d1
        rw [e3] at TV d2
        clear e1 e2 e3
        obtain ⟨V1, hV1, m1, bb1, -⟩ := boxed wr 46 #[.int .i64 2, .int .i64 (A : Int), .int .i64 (B : Int)]
        obtain ⟨r1, hr1⟩ : ∃ r, wr.heap.size = r := ⟨_, rfl⟩
        rw [hr1] at m1
        have G2 := G1.below bb1
        have hgr : gg < r1 := by omega
        have hvr : gv < r1 := by omega
        have J1 := (I3.below p5 G2.b)
        obtain ⟨c0, c1, c2, -⟩ := m1.open3
        have I2 := (I1.below o3 bb1)
        have cx := cellAt I2 (a := A) (by omega)
        have cy := cellAt I2 (a := B) (by omega)
        have t1 := dv_in al (tv mp f x) f A
        have t2 := dv_in al (tv mp f x) f B
        have hw : IntKind.i64.wrap (dv al (tv mp f x) f A + dv al (tv mp f x) f B) = dv al (tv mp f x) f A + dv al (tv mp f x) f B := by rw [IntKind.wrap_i64]; omega
        have RZ : is64 (dv al (tv mp f x) f A + dv al (tv mp f x) f B) := ⟨by omega, by omega⟩
        have TZ : dv al (tv mp f x) f k = (dv al (tv mp f x) f A + dv al (tv mp f x) f B) % 12289 := by rw [TV]; rfl
        clear I2 J1 t1 t2
        obtain ⟨z, hz⟩ : ∃ z, dv al (tv mp f x) f A = z := ⟨_, rfl⟩
        obtain ⟨y, hy⟩ : ∃ z, dv al (tv mp f x) f B = z := ⟨_, rfl⟩
        rw [hz] at RZ TZ hw cx
        rw [hy] at RZ TZ hw cy
        clear hz hy TV
        obtain ⟨Z, hZ⟩ : ∃ Z, z + y = Z := ⟨_, rfl⟩
        rw [hZ] at RZ TZ hw
        go_wp2_with fail
        go_region
        obtain ⟨V2, hV2, bd⟩ : ∃ u, V1.drew = u ∧ Below V1.heap.size V1 u := ⟨_, rfl, (Below.refl _ _).drew⟩
        rw [hV2]
        replace G2 := G2.below bd
        clear hV2 bd
        go_wp2_with fail
        refine (smod_any Z 12289 _ RZ (by omega)).mono ?_
        rintro e w9 ⟨rfl, rfl⟩
        obtain ⟨R, hR⟩ : ∃ R, Z % 12289 = R := ⟨_, rfl⟩
        have HZ : Hid (dv al (tv mp f x) f k = R) := TZ.trans hR
        rw [hR]
        clear hR RZ TZ
        have hb2 : ∀ w, (Instr.buildSlice 23 1 #[(0, .int .i64 R)]).run Try.prog w = .ok (.slice (some ⟨w.heap.size, 0, none⟩) 1 1) (w.alloc (.cells #[.int .i64 R] 2)) := fun _ => by kernel_rfl
        obtain ⟨V9, hV9, A9, b10, -⟩ := boxed V2 2 #[.int .i64 R]
        obtain ⟨g9, hg9⟩ : ∃ g, V2.heap.size = g := ⟨_, rfl⟩
        rw [hg9] at A9
        have G4 := G2.below b10
        have hkk := G4.o3
        clear b10 G2
        go_wp2_with (at_builtin; refine wpList_append_own _ rfl _ _ _ rfl w3.heap.size 2 i0 _ 1 8 Try.underlying23 hi0 hz0 hz1 hz2 rfl (by omega) (.slice (some ⟨gg, 0, none⟩) k cc) k (iCells (dv al (tv mp f x) f) k) rfl G4.own ⟨g9, 0, none⟩ 1 1 [.int .i64 R] rfl rfl (news1 A9) (by simp [Value.oneCell']) (by unfold maxLen; omega) (by omega) hkk ?_; intro v2 w16 hown2 hgrow2 hne2)
        have G5 := G4.grow hown2 hgrow2 (fun h => by have := hne2.1 h; simp at this)
        refine ⟨⟨k + 1, by omega, by go_num, ?_⟩, by simp [intOf]; omega⟩
        rw [← HZ.out, iCells_more] at G5
        exact G5
      · rw [e1] at TV d0
        rw [e2] at TV d1
        rw [e3] at TV d2
        clear e1 e2 e3
        obtain ⟨V1, hV1, m1, bb1, -⟩ := boxed wr 46 #[.int .i64 3, .int .i64 (A : Int), .int .i64 (B : Int)]
        obtain ⟨r1, hr1⟩ : ∃ r, wr.heap.size = r := ⟨_, rfl⟩
        rw [hr1] at m1
        have G2 := G1.below bb1
        have hgr : gg < r1 := by omega
        have hvr : gv < r1 := by omega
        have J1 := (I3.below p5 G2.b)
        obtain ⟨c0, c1, c2, -⟩ := m1.open3
        have I2 := (I1.below o3 bb1)
        have hAk : A < k := by omega
        have hBk : B < k := by omega
        have hAn : A < n := by omega
        have hBn : B < n := by omega
        have t1 := dv_in al (tv mp f x) f A
        have t2 := dv_in al (tv mp f x) f B
        have t3 := tv_in f x A
        have t4 := tv_in f x B
        have m1' := mulB (x := dv al (tv mp f x) f A) (y := tv mp f x B) (by omega) (by omega)
        have m2' := mulB (x := tv mp f x A) (y := dv al (tv mp f x) f B) (by omega) (by omega)
        have ha : IntKind.i64.wrap (dv al (tv mp f x) f A * tv mp f x B) = dv al (tv mp f x) f A * tv mp f x B := by rw [IntKind.wrap_i64]; omega
        have hc : IntKind.i64.wrap (tv mp f x A * dv al (tv mp f x) f B) = tv mp f x A * dv al (tv mp f x) f B := by rw [IntKind.wrap_i64]; omega
        have RZ : is64 (dv al (tv mp f x) f A * tv mp f x B + tv mp f x A * dv al (tv mp f x) f B) := ⟨by omega, by omega⟩
        have TZ : dv al (tv mp f x) f k = (dv al (tv mp f x) f A * tv mp f x B + tv mp f x A * dv al (tv mp f x) f B) % 12289 := by rw [TV]; rfl
        have hw : IntKind.i64.wrap (dv al (tv mp f x) f A * tv mp f x B + tv mp f x A * dv al (tv mp f x) f B) = dv al (tv mp f x) f A * tv mp f x B + tv mp f x A * dv al (tv mp f x) f B := by rw [IntKind.wrap_i64]; omega
        obtain ⟨Z, hZ⟩ : ∃ Z, dv al (tv mp f x) f A * tv mp f x B + tv mp f x A * dv al (tv mp f x) f B = Z := ⟨_, rfl⟩
        rw [hZ] at RZ TZ
        have hgV : gg < V1.heap.size := Nat.lt_of_lt_of_le o3 bb1.size
        have hvV : gv < V1.heap.size := Nat.lt_of_lt_of_le hgw bb1.size
        clear t1 t2 t3 t4 m1' m2' TV
        go_wp2_with fail
        obtain ⟨u0, hu0, bb⟩ : ∃ uu, V1.drew = uu ∧ Below V1.heap.size V1 uu := ⟨_, rfl, (Below.refl _ _).drew⟩
        replace m1 := m1.below bb
        replace G2 := G2.below bb
        replace I2 := I2.below hgV bb
        replace J1 := J1.below hvV bb
        have hgu : gg < u0.heap.size := Nat.lt_of_lt_of_le hgV bb.size
        have hvu : gv < u0.heap.size := Nat.lt_of_lt_of_le hvV bb.size
        clear bb
        refine wp_region_held_drew (S := KbP u0) (by kernel_rfl) (by rw [hu0]; exact Below.refl _ _) (fun hHeld => ?_)
        rw [hu0] at hHeld ⊢
        clear hu0
        have bu : KbP u0 u0 := Below.refl _ _
        change wpAnyH _ _ _ _ _ 24 #[false, false, false, false, false, false, false, false, false, false, false, false, false, false, false, false, false, false, false, false, false, false, false, false] _ _
        refine wpAnyH_take (i := 0) (v := .slice ((some ⟨gg, 0, none⟩)) k cc) rfl (by kernel_rfl) (by kernel_rfl) (by kernel_rfl) (fun _ _ _ h => h) (Or.inl ⟨by kernel_rfl, ?_⟩) hHeld ?_
        · intro w' hSw; go_simp
        try simp only [Act.put, List.setIfInBounds_toArray, List.set_cons_zero, List.set_cons_succ, List.getElem_toArray, List.getElem_cons_zero]
        refine wpAnyH_take (i := 1) (v := .pointer (some ⟨r1, 1, none⟩)) rfl (by kernel_rfl) (by kernel_rfl) (by kernel_rfl) (fun _ _ _ h => h) (Or.inl ⟨by kernel_rfl, ?_⟩) hHeld ?_
        · intro w' hSw; go_simp
        try simp only [Act.put, List.setIfInBounds_toArray, List.set_cons_zero, List.set_cons_succ, List.getElem_toArray, List.getElem_cons_succ, List.getElem_cons_zero]
        refine wpAnyH_take (i := 2) (v := .int .i64 ((A : Int))) rfl (by kernel_rfl) (by kernel_rfl) (by kernel_rfl) (fun _ _ _ h => h) (Or.inl ⟨by kernel_rfl, ?_⟩) hHeld ?_
        · intro w' hSw; obtain ⟨z0, z1, z2, -⟩ := (m1.below hSw).open3; go_simp
        try simp only [Act.put, List.setIfInBounds_toArray, List.set_cons_zero, List.set_cons_succ, List.getElem_toArray, List.getElem_cons_succ, List.getElem_cons_zero]
        refine wpAnyH_take (i := 3) (v := .pointer (some ⟨gg, A, none⟩)) rfl (by kernel_rfl) (by kernel_rfl) (by kernel_rfl) (fun _ _ _ h => h) (Or.inl ⟨by kernel_rfl, ?_⟩) hHeld ?_
        · intro w' hSw; go_simp
        try simp only [Act.put, List.setIfInBounds_toArray, List.set_cons_zero, List.set_cons_succ, List.getElem_toArray, List.getElem_cons_succ, List.getElem_cons_zero]
        refine wpAnyH_take (i := 4) (v := .int .i64 (dv al (tv mp f x) f A)) rfl (by kernel_rfl) (by kernel_rfl) (by kernel_rfl) (fun _ _ _ h => h) (Or.inl ⟨by kernel_rfl, ?_⟩) hHeld ?_
        · intro w' hSw; have z0 := cellAt (I2.below hgu hSw) (a := A) hAk; go_simp
        try simp only [Act.put, List.setIfInBounds_toArray, List.set_cons_zero, List.set_cons_succ, List.getElem_toArray, List.getElem_cons_succ, List.getElem_cons_zero]
        refine wpAnyH_take (i := 5) (v := .slice ((some ⟨gv, 0, none⟩)) n cv) rfl (by kernel_rfl) (by kernel_rfl) (by kernel_rfl) (fun _ _ _ h => h) (Or.inl ⟨by kernel_rfl, ?_⟩) hHeld ?_
        · intro w' hSw; go_simp
        try simp only [Act.put, List.setIfInBounds_toArray, List.set_cons_zero, List.set_cons_succ, List.getElem_toArray, List.getElem_cons_succ, List.getElem_cons_zero]
        refine wpAnyH_take (i := 6) (v := .pointer (some ⟨r1, 2, none⟩)) rfl (by kernel_rfl) (by kernel_rfl) (by kernel_rfl) (fun _ _ _ h => h) (Or.inl ⟨by kernel_rfl, ?_⟩) hHeld ?_
        · intro w' hSw; go_simp
        try simp only [Act.put, List.setIfInBounds_toArray, List.set_cons_zero, List.set_cons_succ, List.getElem_toArray, List.getElem_cons_succ, List.getElem_cons_zero]
        refine wpAnyH_take (i := 7) (v := .int .i64 ((B : Int))) rfl (by kernel_rfl) (by kernel_rfl) (by kernel_rfl) (fun _ _ _ h => h) (Or.inl ⟨by kernel_rfl, ?_⟩) hHeld ?_
        · intro w' hSw; obtain ⟨z0, z1, z2, -⟩ := (m1.below hSw).open3; go_simp
        try simp only [Act.put, List.setIfInBounds_toArray, List.set_cons_zero, List.set_cons_succ, List.getElem_toArray, List.getElem_cons_succ, List.getElem_cons_zero]
        refine wpAnyH_take (i := 8) (v := .pointer (some ⟨gv, B, none⟩)) rfl (by kernel_rfl) (by kernel_rfl) (by kernel_rfl) (fun _ _ _ h => h) (Or.inl ⟨by kernel_rfl, ?_⟩) hHeld ?_
        · intro w' hSw; go_simp
        try simp only [Act.put, List.setIfInBounds_toArray, List.set_cons_zero, List.set_cons_succ, List.getElem_toArray, List.getElem_cons_succ, List.getElem_cons_zero]
        refine wpAnyH_take (i := 9) (v := .int .i64 (tv mp f x B)) rfl (by kernel_rfl) (by kernel_rfl) (by kernel_rfl) (fun _ _ _ h => h) (Or.inl ⟨by kernel_rfl, ?_⟩) hHeld ?_
        · intro w' hSw; have z0 := cellAt (J1.below hvu hSw) (a := B) hBn; go_simp
        try simp only [Act.put, List.setIfInBounds_toArray, List.set_cons_zero, List.set_cons_succ, List.getElem_toArray, List.getElem_cons_succ, List.getElem_cons_zero]
        refine wpAnyH_take (i := 10) (v := .int .i64 (dv al (tv mp f x) f A * tv mp f x B)) rfl (by kernel_rfl) (by kernel_rfl) (by kernel_rfl) (fun _ _ _ h => h) (Or.inl ⟨by kernel_rfl, ?_⟩) hHeld ?_
        · intro w' hSw; go_simp <;> simp [ha]
        try simp only [Act.put, List.setIfInBounds_toArray, List.set_cons_zero, List.set_cons_succ, List.getElem_toArray, List.getElem_cons_succ, List.getElem_cons_zero]
        refine wpAnyH_take (i := 11) (v := .slice ((some ⟨gv, 0, none⟩)) n cv) rfl (by kernel_rfl) (by kernel_rfl) (by kernel_rfl) (fun _ _ _ h => h) (Or.inl ⟨by kernel_rfl, ?_⟩) hHeld ?_
        · intro w' hSw; go_simp
        try simp only [Act.put, List.setIfInBounds_toArray, List.set_cons_zero, List.set_cons_succ, List.getElem_toArray, List.getElem_cons_succ, List.getElem_cons_zero]
        refine wpAnyH_take (i := 12) (v := .pointer (some ⟨r1, 1, none⟩)) rfl (by kernel_rfl) (by kernel_rfl) (by kernel_rfl) (fun _ _ _ h => h) (Or.inl ⟨by kernel_rfl, ?_⟩) hHeld ?_
        · intro w' hSw; go_simp
        try simp only [Act.put, List.setIfInBounds_toArray, List.set_cons_zero, List.set_cons_succ, List.getElem_toArray, List.getElem_cons_succ, List.getElem_cons_zero]
        refine wpAnyH_take (i := 13) (v := .int .i64 ((A : Int))) rfl (by kernel_rfl) (by kernel_rfl) (by kernel_rfl) (fun _ _ _ h => h) (Or.inl ⟨by kernel_rfl, ?_⟩) hHeld ?_
        · intro w' hSw; obtain ⟨z0, z1, z2, -⟩ := (m1.below hSw).open3; go_simp
        try simp only [Act.put, List.setIfInBounds_toArray, List.set_cons_zero, List.set_cons_succ, List.getElem_toArray, List.getElem_cons_succ, List.getElem_cons_zero]
        refine wpAnyH_take (i := 14) (v := .pointer (some ⟨gv, A, none⟩)) rfl (by kernel_rfl) (by kernel_rfl) (by kernel_rfl) (fun _ _ _ h => h) (Or.inl ⟨by kernel_rfl, ?_⟩) hHeld ?_
        · intro w' hSw; go_simp
        try simp only [Act.put, List.setIfInBounds_toArray, List.set_cons_zero, List.set_cons_succ, List.getElem_toArray, List.getElem_cons_succ, List.getElem_cons_zero]
        refine wpAnyH_take (i := 15) (v := .int .i64 (tv mp f x A)) rfl (by kernel_rfl) (by kernel_rfl) (by kernel_rfl) (fun _ _ _ h => h) (Or.inl ⟨by kernel_rfl, ?_⟩) hHeld ?_
        · intro w' hSw; have z0 := cellAt (J1.below hvu hSw) (a := A) hAn; go_simp
        try simp only [Act.put, List.setIfInBounds_toArray, List.set_cons_zero, List.set_cons_succ, List.getElem_toArray, List.getElem_cons_succ, List.getElem_cons_zero]
        refine wpAnyH_take (i := 16) (v := .slice ((some ⟨gg, 0, none⟩)) k cc) rfl (by kernel_rfl) (by kernel_rfl) (by kernel_rfl) (fun _ _ _ h => h) (Or.inl ⟨by kernel_rfl, ?_⟩) hHeld ?_
        · intro w' hSw; go_simp
        try simp only [Act.put, List.setIfInBounds_toArray, List.set_cons_zero, List.set_cons_succ, List.getElem_toArray, List.getElem_cons_succ, List.getElem_cons_zero]
        refine wpAnyH_take (i := 17) (v := .pointer (some ⟨r1, 2, none⟩)) rfl (by kernel_rfl) (by kernel_rfl) (by kernel_rfl) (fun _ _ _ h => h) (Or.inl ⟨by kernel_rfl, ?_⟩) hHeld ?_
        · intro w' hSw; go_simp
        try simp only [Act.put, List.setIfInBounds_toArray, List.set_cons_zero, List.set_cons_succ, List.getElem_toArray, List.getElem_cons_succ, List.getElem_cons_zero]
        refine wpAnyH_take (i := 18) (v := .int .i64 ((B : Int))) rfl (by kernel_rfl) (by kernel_rfl) (by kernel_rfl) (fun _ _ _ h => h) (Or.inl ⟨by kernel_rfl, ?_⟩) hHeld ?_
        · intro w' hSw; obtain ⟨z0, z1, z2, -⟩ := (m1.below hSw).open3; go_simp
        try simp only [Act.put, List.setIfInBounds_toArray, List.set_cons_zero, List.set_cons_succ, List.getElem_toArray, List.getElem_cons_succ, List.getElem_cons_zero]
        refine wpAnyH_take (i := 19) (v := .pointer (some ⟨gg, B, none⟩)) rfl (by kernel_rfl) (by kernel_rfl) (by kernel_rfl) (fun _ _ _ h => h) (Or.inl ⟨by kernel_rfl, ?_⟩) hHeld ?_
        · intro w' hSw; go_simp
        try simp only [Act.put, List.setIfInBounds_toArray, List.set_cons_zero, List.set_cons_succ, List.getElem_toArray, List.getElem_cons_succ, List.getElem_cons_zero]
        refine wpAnyH_take (i := 20) (v := .int .i64 (dv al (tv mp f x) f B)) rfl (by kernel_rfl) (by kernel_rfl) (by kernel_rfl) (fun _ _ _ h => h) (Or.inl ⟨by kernel_rfl, ?_⟩) hHeld ?_
        · intro w' hSw; have z0 := cellAt (I2.below hgu hSw) (a := B) hBk; go_simp
        try simp only [Act.put, List.setIfInBounds_toArray, List.set_cons_zero, List.set_cons_succ, List.getElem_toArray, List.getElem_cons_succ, List.getElem_cons_zero]
        refine wpAnyH_take (i := 21) (v := .int .i64 (tv mp f x A * dv al (tv mp f x) f B)) rfl (by kernel_rfl) (by kernel_rfl) (by kernel_rfl) (fun _ _ _ h => h) (Or.inl ⟨by kernel_rfl, ?_⟩) hHeld ?_
        · intro w' hSw; go_simp <;> simp [hc]
        try simp only [Act.put, List.setIfInBounds_toArray, List.set_cons_zero, List.set_cons_succ, List.getElem_toArray, List.getElem_cons_succ, List.getElem_cons_zero]
        refine wpAnyH_take (i := 22) (v := .int .i64 (Z)) rfl (by kernel_rfl) (by kernel_rfl) (by kernel_rfl) (fun _ _ _ h => h) (Or.inl ⟨by kernel_rfl, ?_⟩) hHeld ?_
        · intro w' hSw; go_simp; rw [← hZ]; exact hw
        try simp only [Act.put, List.setIfInBounds_toArray, List.set_cons_zero, List.set_cons_succ, List.getElem_toArray, List.getElem_cons_succ, List.getElem_cons_zero]
        refine wpAnyH_take (i := 23) (v := .int .i64 (Z)) rfl (by kernel_rfl) (by kernel_rfl) (by kernel_rfl) (fun _ _ _ h => h) (Or.inl ⟨by kernel_rfl, ?_⟩) hHeld ?_
        · intro w' hSw; go_simp
        try simp only [Act.put, List.setIfInBounds_toArray, List.set_cons_zero, List.set_cons_succ, List.getElem_toArray, List.getElem_cons_succ, List.getElem_cons_zero]
        refine wpAnyH_done (by kernel_rfl) ?_ _
        clear hHeld
        clear hw hZ ha hc I2 J1 m1 c0 c1 c2
        go_wp2_with fail
        refine (smod_any Z 12289 _ RZ (by omega)).mono ?_
        rintro e w9 ⟨rfl, rfl⟩
        obtain ⟨R, hR⟩ : ∃ R, Z % 12289 = R := ⟨_, rfl⟩
        have HZ : Hid (dv al (tv mp f x) f k = R) := TZ.trans hR
        rw [hR]
        clear hR RZ TZ
        have hb2 : ∀ w, (Instr.buildSlice 23 1 #[(0, .int .i64 R)]).run Try.prog w = .ok (.slice (some ⟨w.heap.size, 0, none⟩) 1 1) (w.alloc (.cells #[.int .i64 R] 2)) := fun _ => by kernel_rfl
        obtain ⟨V9, hV9, A9, b10, -⟩ := boxed u0 2 #[.int .i64 R]
        obtain ⟨g9, hg9⟩ : ∃ g, u0.heap.size = g := ⟨_, rfl⟩
        rw [hg9] at A9
        have G4 := G2.below b10
        have hkk := G4.o3
        clear b10 G2
        go_wp2_with (at_builtin; refine wpList_append_own _ rfl _ _ _ rfl w3.heap.size 2 i0 _ 1 8 Try.underlying23 hi0 hz0 hz1 hz2 rfl (by omega) (.slice (some ⟨gg, 0, none⟩) k cc) k (iCells (dv al (tv mp f x) f) k) rfl G4.own ⟨g9, 0, none⟩ 1 1 [.int .i64 R] rfl rfl (news1 A9) (by simp [Value.oneCell']) (by unfold maxLen; omega) (by omega) hkk ?_; intro v2 w16 hown2 hgrow2 hne2)
        have G5 := G4.grow hown2 hgrow2 (fun h => by have := hne2.1 h; simp at this)
        refine ⟨⟨k + 1, by omega, by go_num, ?_⟩, by simp [intOf]; omega⟩
        rw [← HZ.out, iCells_more] at G5
        exact G5
      · rw [e1] at TV d0
        rw [e2] at TV d2
        rw [e3] at TV d1
        clear e1 e2 e3
        obtain ⟨b0, hb0⟩ : ∃ b : Int, b = 0 := ⟨_, rfl⟩
        rw [← hb0] at d2
        clear hb0
        obtain ⟨V1, hV1, m1, bb1, -⟩ := boxed wr 46 #[.int .i64 4, .int .i64 (A : Int), .int .i64 b0]
        obtain ⟨r1, hr1⟩ : ∃ r, wr.heap.size = r := ⟨_, rfl⟩
        rw [hr1] at m1
        have G2 := G1.below bb1
        have hgr : gg < r1 := by omega
        have hvr : gv < r1 := by omega
        have J1 := (I3.below p5 G2.b)
        obtain ⟨c0, c1, c2, -⟩ := m1.open3
        have I2 := (I1.below o3 bb1)
        have cx := cellAt I2 (a := A) (by omega)
        obtain ⟨t1, t2⟩ := dv_in al (tv mp f x) f A
        have RZ : is64 (- dv al (tv mp f x) f A) := ⟨by omega, by omega⟩
        have TZ : dv al (tv mp f x) f k = (- dv al (tv mp f x) f A) % 12289 := by rw [TV]; rfl
        clear I2 J1
        obtain ⟨z, hz⟩ : ∃ z, dv al (tv mp f x) f A = z := ⟨_, rfl⟩
        rw [hz] at RZ TZ cx t1 t2
        clear hz TV
        obtain ⟨Z, hZ⟩ : ∃ Z, -z = Z := ⟨_, rfl⟩
        rw [hZ] at RZ TZ
        go_wp2_with fail
        refine (smod_any Z 12289 _ RZ (by omega)).mono ?_
        rintro e w9 ⟨rfl, rfl⟩
        obtain ⟨R, hR⟩ : ∃ R, Z % 12289 = R := ⟨_, rfl⟩
        have HZ : Hid (dv al (tv mp f x) f k = R) := TZ.trans hR
        rw [hR]
        clear hR RZ TZ
        have hb2 : ∀ w, (Instr.buildSlice 23 1 #[(0, .int .i64 R)]).run Try.prog w = .ok (.slice (some ⟨w.heap.size, 0, none⟩) 1 1) (w.alloc (.cells #[.int .i64 R] 2)) := fun _ => by kernel_rfl
        obtain ⟨V9, hV9, A9, b10, -⟩ := boxed V1 2 #[.int .i64 R]
        obtain ⟨g9, hg9⟩ : ∃ g, V1.heap.size = g := ⟨_, rfl⟩
        rw [hg9] at A9
        have G4 := G2.below b10
        have hkk := G4.o3
        clear b10 G2
        go_wp2_with (at_builtin; refine wpList_append_own _ rfl _ _ _ rfl w3.heap.size 2 i0 _ 1 8 Try.underlying23 hi0 hz0 hz1 hz2 rfl (by omega) (.slice (some ⟨gg, 0, none⟩) k cc) k (iCells (dv al (tv mp f x) f) k) rfl G4.own ⟨g9, 0, none⟩ 1 1 [.int .i64 R] rfl rfl (news1 A9) (by simp [Value.oneCell']) (by unfold maxLen; omega) (by omega) hkk ?_; intro v2 w16 hown2 hgrow2 hne2)
        have G5 := G4.grow hown2 hgrow2 (fun h => by have := hne2.1 h; simp at this)
        refine ⟨⟨k + 1, by omega, by go_num, ?_⟩, by simp [intOf]; omega⟩
        rw [← HZ.out, iCells_more] at G5
        exact G5
      · rw [e1] at TV d0
        rw [e2] at TV d2
        obtain ⟨b0, hb0⟩ : ∃ b : Int, b = 0 := ⟨_, rfl⟩
        rw [← hb0] at d2
        clear hb0
        have TZ : dv al (tv mp f x) f k = 0 % 12289 := by rw [TV]; rfl
        clear e1 e2 TV
        obtain ⟨y, hy⟩ : ∃ y, f (k * 3 + 1) = y := ⟨_, rfl⟩
        rw [hy] at d1
        clear hy
        obtain ⟨V1, hV1, m1, bb1, -⟩ := boxed wr 46 #[.int .i64 5, .int .i64 y, .int .i64 b0]
        obtain ⟨r1, hr1⟩ : ∃ r, wr.heap.size = r := ⟨_, rfl⟩
        rw [hr1] at m1
        have G2 := G1.below bb1
        have hgr : gg < r1 := by omega
        have hvr : gv < r1 := by omega
        have J1 := (I3.below p5 G2.b)
        obtain ⟨c0, c1, c2, -⟩ := m1.open3
        have I2 := (I1.below o3 bb1)
        clear I2 J1
        go_wp2_with fail
        refine (smod_any 0 12289 _ ⟨by omega, by omega⟩ (by omega)).mono ?_
        rintro e w9 ⟨rfl, rfl⟩
        obtain ⟨R, hR⟩ : ∃ R, (0 : Int) % 12289 = R := ⟨_, rfl⟩
        have HZ : Hid (dv al (tv mp f x) f k = R) := TZ.trans hR
        rw [hR]
        clear hR TZ
        have hb2 : ∀ w, (Instr.buildSlice 23 1 #[(0, .int .i64 R)]).run Try.prog w = .ok (.slice (some ⟨w.heap.size, 0, none⟩) 1 1) (w.alloc (.cells #[.int .i64 R] 2)) := fun _ => by kernel_rfl
        obtain ⟨V9, hV9, A9, b10, -⟩ := boxed V1 2 #[.int .i64 R]
        obtain ⟨g9, hg9⟩ : ∃ g, V1.heap.size = g := ⟨_, rfl⟩
        rw [hg9] at A9
        have G4 := G2.below b10
        have hkk := G4.o3
        clear b10 G2
        go_wp2_with (at_builtin; refine wpList_append_own _ rfl _ _ _ rfl w3.heap.size 2 i0 _ 1 8 Try.underlying23 hi0 hz0 hz1 hz2 rfl (by omega) (.slice (some ⟨gg, 0, none⟩) k cc) k (iCells (dv al (tv mp f x) f) k) rfl G4.own ⟨g9, 0, none⟩ 1 1 [.int .i64 R] rfl rfl (news1 A9) (by simp [Value.oneCell']) (by unfold maxLen; omega) (by omega) hkk ?_; intro v2 w16 hown2 hgrow2 hne2)
        have G5 := G4.grow hown2 hgrow2 (fun h => by have := hne2.1 h; simp at this)
        refine ⟨⟨k + 1, by omega, by go_num, ?_⟩, by simp [intOf]; omega⟩
        rw [← HZ.out, iCells_more] at G5
        exact G5
    · have hkn' : ¬ (k : Int) < (n : Int) := by omega
      obtain rfl : k = n := by omega
      have c0 := cellAt I1 (a := k - 1) (by omega)
      obtain ⟨N, hN⟩ : ∃ N, k - 1 = N := ⟨_, rfl⟩
      have HN : Hid (k - 1 = N) := hN
      rw [hN] at c0
      have hN' : (k : Int) - 1 = (N : Int) := by omega
      have hN2 : (N : Int) < (k : Int) := by omega
      have B4 := B3.trans (G1.b.mono B3.size)
      clear I1 G1 hN I3
      go_wp2
      exact bodyPost_ret (v := .tuple #[.int .i64 (dv al (tv mp f x) f N), .bool true]) (by simp [results, Try.results16, go_sem]) rfl ⟨by rw [HN.out], B4⟩
theorem specSlope_no {w : World} {g n cap inp c : Nat} {a : Option Addr} {f : Nat → Int} {al : Int} (h : Recs 3 w g n f) (hn : n ≤ 1048576) (hi : inp ≤ 1048576) (no : ¬ (TpN n inp f ∧ 0 ≤ al ∧ al < (inp : Int))) :
    Calls Try.prog 16 #[.slice (some ⟨g, 0, none⟩) n cap, .slice a inp c, .int .i64 al] w fun e w' => e = .returned (.tuple #[.int .i64 0, .bool false]) ∧ Below w.heap.size w w' := by
  have hi' : (inp : Int) ≤ 1048576 := by omega
  have hn' : (n : Int) ≤ 1048576 := by omega
  by_cases ok : TpOk n (inp : Int) f
  case neg =>
    have T := specTapeOk_any (cap := cap) (inp : Int) h hn false (show (false = true ↔ _) from ⟨fun h => by simp at h, fun h => absurd h ok⟩)
    clear no ok
    go_enter Try.func16, Try.ntmps16
    go_wp2_with (go_at_call 29; refine T.mono ?_; rintro e w2 ⟨rfl, bb⟩)
    exact bodyPost_ret (v := .tuple #[.int .i64 0, .bool false]) (by simp [results, Try.results16, go_sem]) rfl ⟨rfl, bb⟩
  have T := specTapeOk_any (cap := cap) (inp : Int) h hn true (show (true = true ↔ _) from ⟨fun _ => ok, fun _ => rfl⟩)
  by_cases h0 : n = 0
  · subst h0
    clear no ok
    go_enter Try.func16, Try.ntmps16
    go_wp2_with (go_at_call 29; refine T.mono ?_; rintro e w2 ⟨rfl, bb⟩)
    exact bodyPost_ret (v := .tuple #[.int .i64 0, .bool false]) (by simp [results, Try.results16, go_sem]) rfl ⟨rfl, bb⟩
  have hn9 : (n : Int) ≠ 0 := by omega
  have h0' : ((n : Int) == 0) = false := by simpa using hn9
  by_cases q1 : al < 0
  · clear no ok
    go_enter Try.func16, Try.ntmps16
    go_wp2_with (go_at_call 29; refine T.mono ?_; rintro e w2 ⟨rfl, bb⟩)
    exact bodyPost_ret (v := .tuple #[.int .i64 0, .bool false]) (by simp [results, Try.results16, go_sem]) rfl ⟨rfl, bb⟩
  · have q2 : (inp : Int) ≤ al := Int.not_lt.1 fun k => no ⟨⟨ok, by omega⟩, by omega, k⟩
    clear no ok
    go_enter Try.func16, Try.ntmps16
    go_wp2_with (go_at_call 29; refine T.mono ?_; rintro e w2 ⟨rfl, bb⟩)
    exact bodyPost_ret (v := .tuple #[.int .i64 0, .bool false]) (by simp [results, Try.results16, go_sem]) rfl ⟨rfl, bb⟩
end Go.Proofs.Ytloailicdoknbaa
