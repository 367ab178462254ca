/-
  Values of a tape over whole numbers, by the specification: walked.
-/
import Derived.Test.YtloailicdoknbaaD15a
import Derived.Test.YtloailicdoknbaaV15e
namespace Go.Proofs.Ytloailicdoknbaa
open Go.RowKit

theorem sabs_any (x : Int) (w : World) (hx : r12 x) : Calls Try.prog 56 #[.int .i64 x] w fun e w' => e = .returned (.int .i64 (mg x)) ∧ w = w' := by
  obtain ⟨h1, h2⟩ := hx
  by_cases h : x < 0
  · rw [show mg x = -x from if_pos (by omega)]
    go_enter Try.func56, Try.ntmps56
    go_wp2
    go_ret
    exact ⟨rfl, rfl⟩
  · rw [show mg x = x from if_neg (by omega)]
    go_enter Try.func56, Try.ntmps56
    go_wp2
    go_ret
    exact ⟨rfl, rfl⟩
set_option maxRecDepth 100000 in
set_option maxHeartbeats 12800000 in
theorem specWhole_any {w : World} {g n cap b c inp : Nat} {f x : Nat → Int} (h : Recs 3 w g n f) (hx : Ints w b 0 inp x) (hb : b < w.heap.size) (ok : TpN n inp f) (T : Bool) (hT : Hid (T = true ↔ wOk n f x)) :
    Calls Try.prog 45 #[.slice (some ⟨g, 0, none⟩) n cap, .slice (some ⟨b, 0, none⟩) inp c] w fun e w' => e = .returned (.tuple #[.int .i64 (if T then wv f x (n - 1) else 0), .bool T]) ∧ Below w.heap.size w w' := by
  have hn0 := ok.2
  have hn200 := ok.1.1
  have hi20 := ok.1.2.1.2
  have hn' : (n : Int) ≤ 200 := by omega
  have hi' : (inp : Int) ≤ 20 := by omega
  obtain ⟨i0, hi0, hz0, hz1, hz2⟩ := info_parts infoI
  have hbs : ∀ w, (Instr.buildSlice 23 0 #[]).run Try.prog w = .ok (.slice (some ⟨w.heap.size, 0, none⟩) 0 0) (w.alloc (.cells #[] 2)) := fun _ => by kernel_rfl
  have hgw : g < w.heap.size := h.1
  obtain ⟨W1, hW1, a1, bb1, -⟩ := boxed w 2 #[]
  have G1 : Gv w W1 w.heap.size 2 (.slice (some ⟨w.heap.size, 0, none⟩) 0 0) 0 (iCells (wv f x) 0) := ⟨⟨rfl, .inr ⟨_, 0, #[], rfl, Nat.le_refl _, a1, Nat.le_refl _, Nat.zero_le _, rfl, rfl⟩⟩, by simp, bb1, Nat.le_refl _, bb1.size⟩
  go_enter Try.func45, Try.ntmps45
  go_wp2
  clear hW1 a1 bb1
  go_loopw [6, 7] (fun s u wr => ∃ k : Nat, k ≤ n ∧ u = .int .i64 (k : Int) ∧ (∀ j, j < k → r12 (wv f x j)) ∧ Gv w wr w.heap.size 2 s k (iCells (wv f x) k)) (fun _ u _ => n - (intOf u).toNat)
  case atStart => exact ⟨0, Nat.zero_le _, rfl, fun j hj => by omega, G1⟩
  case round =>
    clear G1
    obtain ⟨k, hk, rfl, hall, G1⟩ := hrel
    have HA : Hid (∀ j, j < k → r12 (wv f x j)) := hall
    clear hall
    obtain ⟨gg, cc, rfl, o1, o2, o3, I1⟩ := G1.ints
    by_cases hkn : k < n
    · have hkn' : (k : Int) < (n : Int) := by omega
      have TV := wv_eq x ok.1 hkn
      obtain ⟨d0, d1, d2⟩ := Step.open (belowRecs h G1.b hgw) k hkn
      rcases (ok.1.2.2 k hkn).ways with ⟨e1, e2, A, e3, hA⟩ | ⟨e1, A, B, e2, e3, hA, hB⟩ | ⟨e1, A, B, e2, e3, hA, hB⟩ | ⟨e1, e2, A, e3, hA⟩ | ⟨e1, e2⟩
      · rw [e1] at TV d0
        rw [e2] at TV d2
        rw [e3] at TV d1
        clear e1 e2 e3
        obtain ⟨b0, hb0⟩ : ∃ b : Int, b = 0 := ⟨_, rfl⟩
        rw [← hb0] at d2
        clear hb0
        obtain ⟨V1, hV1, m1, bb1, -⟩ := boxed wr 46 #[.int .i64 1, .int .i64 (A : Int), .int .i64 b0]
        obtain ⟨r1, hr1⟩ : ∃ r, wr.heap.size = r := ⟨_, rfl⟩
        rw [hr1] at m1
        have G2 := G1.below bb1
        have hgr : gg < r1 := by omega
        obtain ⟨c0, c1, c2, -⟩ := m1.open3
        have I2 := (I1.below o3 bb1)
        have cx := cellAt (belowInts hx G2.b hb) (a := A) (by omega)
        have hA' : (A : Int) < (inp : Int) := hA
        have TZ : wv f x k = x A := TV
        obtain ⟨Z, hZ⟩ : ∃ Z, x A = Z := ⟨_, rfl⟩
        rw [hZ] at TZ cx
        clear hZ TV I2
        have IR := fun w => in_any Z (-1000000000000) 1000000000000 w
        by_cases hz : r12 Z
        case neg =>
          obtain rfl : T = false := by cases T; rfl; exact absurd (hT.out.1 rfl k hkn) (by rw [TZ]; exact hz)
          rw [show decide (-1000000000000 ≤ Z ∧ Z ≤ 1000000000000) = false from decide_eq_false hz] at IR
          have B2 := G2.b
          clear hz TZ G2
          go_wp2_with (go_at_call 44; refine (IR _).mono ?_; rintro e w9 ⟨rfl, rfl⟩)
          exact bodyPost_ret (v := .tuple #[.int .i64 0, .bool false]) (by simp [results, Try.results45, go_sem]) rfl ⟨rfl, B2⟩
        rw [show decide (-1000000000000 ≤ Z ∧ Z ≤ 1000000000000) = true from decide_eq_true hz] at IR
        have HK : Hid (r12 (wv f x k)) := by show r12 (wv f x k); rw [TZ]; exact hz
        have HZ : Hid (wv f x k = Z) := TZ
        clear TZ hz
        have hb2 : ∀ w, (Instr.buildSlice 23 1 #[(0, .int .i64 Z)]).run Try.prog w = .ok (.slice (some ⟨w.heap.size, 0, none⟩) 1 1) (w.alloc (.cells #[.int .i64 Z] 2)) := fun _ => by kernel_rfl
        obtain ⟨V9, hV9, A9, b10, -⟩ := boxed V1 2 #[.int .i64 Z]
        obtain ⟨g9, hg9⟩ : ∃ g, V1.heap.size = g := ⟨_, rfl⟩
        rw [hg9] at A9
        have G4 := G2.below b10
        have hkk := G4.o3
        clear b10 G2
        go_wp2_with (first | (go_at_call 44; refine (IR _).mono ?_; rintro e w9 ⟨rfl, rfl⟩) | (at_builtin; refine wpList_append_own _ rfl _ _ _ rfl w.heap.size 2 i0 _ 1 8 Try.underlying23 hi0 hz0 hz1 hz2 rfl (by omega) (.slice (some ⟨gg, 0, none⟩) k cc) k (iCells (wv f x) k) rfl G4.own ⟨g9, 0, none⟩ 1 1 [.int .i64 Z] rfl rfl (news1 A9) (by simp [Value.oneCell']) (by unfold maxLen; omega) (by omega) hkk ?_; intro v2 w16 hown2 hgrow2 hne2))
        have G5 := G4.grow hown2 hgrow2 (fun h => by have := hne2.1 h; simp at this)
        refine ⟨⟨k + 1, by omega, by go_num, fun j hj => ?_, ?_⟩, by simp [intOf]; omega⟩
        · by_cases e : j = k
          · subst e; exact HK.out
          · exact HA.out j (by omega)
        · rw [← HZ.out, iCells_more] at G5
          exact G5
      · rw [e1] at TV d0
        rw [e2] at TV d1
        rw [e3] at TV d2
        clear e1 e2 e3
        obtain ⟨V1, hV1, m1, bb1, -⟩ := boxed wr 46 #[.int .i64 2, .int .i64 (A : Int), .int .i64 (B : Int)]
        obtain ⟨r1, hr1⟩ : ∃ r, wr.heap.size = r := ⟨_, rfl⟩
        rw [hr1] at m1
        have G2 := G1.below bb1
        have hgr : gg < r1 := by omega
        obtain ⟨c0, c1, c2, -⟩ := m1.open3
        have I2 := (I1.below o3 bb1)
        have cx := cellAt I2 (a := A) (by omega)
        have cy := cellAt I2 (a := B) (by omega)
        obtain ⟨t1, t2⟩ := HA.out A (by omega)
        obtain ⟨t3, t4⟩ := HA.out B (by omega)
        have TZ : wv f x k = wv f x A + wv f x B := TV
        have hw : IntKind.i64.wrap (wv f x A + wv f x B) = wv f x A + wv f x B := by rw [IntKind.wrap_i64]; omega
        clear I2 t1 t2 t3 t4 TV
        obtain ⟨z, hz⟩ : ∃ z, wv f x A = z := ⟨_, rfl⟩
        obtain ⟨y, hy⟩ : ∃ z, wv f x B = z := ⟨_, rfl⟩
        rw [hz] at cx
        rw [hy] at cy
        rw [hz, hy] at TZ hw
        clear hz hy
        obtain ⟨Z, hZ⟩ : ∃ Z, z + y = Z := ⟨_, rfl⟩
        rw [hZ] at TZ hw
        go_wp2_with fail
        go_region
        clear hw hZ cx cy
        obtain ⟨V2, hV2, bd⟩ : ∃ u, V1.drew = u ∧ Below V1.heap.size V1 u := ⟨_, rfl, (Below.refl _ _).drew⟩
        rw [hV2]
        replace G2 := G2.below bd
        clear hV2 bd
        have IR := fun w => in_any Z (-1000000000000) 1000000000000 w
        by_cases hz : r12 Z
        case neg =>
          obtain rfl : T = false := by cases T; rfl; exact absurd (hT.out.1 rfl k hkn) (by rw [TZ]; exact hz)
          rw [show decide (-1000000000000 ≤ Z ∧ Z ≤ 1000000000000) = false from decide_eq_false hz] at IR
          have B2 := G2.b
          clear hz TZ G2
          go_wp2_with (go_at_call 44; refine (IR _).mono ?_; rintro e w9 ⟨rfl, rfl⟩)
          exact bodyPost_ret (v := .tuple #[.int .i64 0, .bool false]) (by simp [results, Try.results45, go_sem]) rfl ⟨rfl, B2⟩
        rw [show decide (-1000000000000 ≤ Z ∧ Z ≤ 1000000000000) = true from decide_eq_true hz] at IR
        have HK : Hid (r12 (wv f x k)) := by show r12 (wv f x k); rw [TZ]; exact hz
        have HZ : Hid (wv f x k = Z) := TZ
        clear TZ hz
        have hb2 : ∀ w, (Instr.buildSlice 23 1 #[(0, .int .i64 Z)]).run Try.prog w = .ok (.slice (some ⟨w.heap.size, 0, none⟩) 1 1) (w.alloc (.cells #[.int .i64 Z] 2)) := fun _ => by kernel_rfl
        obtain ⟨V9, hV9, A9, b10, -⟩ := boxed V2 2 #[.int .i64 Z]
        obtain ⟨g9, hg9⟩ : ∃ g, V2.heap.size = g := ⟨_, rfl⟩
        rw [hg9] at A9
        have G4 := G2.below b10
        have hkk := G4.o3
        clear b10 G2
        go_wp2_with (first | (go_at_call 44; refine (IR _).mono ?_; rintro e w9 ⟨rfl, rfl⟩) | (at_builtin; refine wpList_append_own _ rfl _ _ _ rfl w.heap.size 2 i0 _ 1 8 Try.underlying23 hi0 hz0 hz1 hz2 rfl (by omega) (.slice (some ⟨gg, 0, none⟩) k cc) k (iCells (wv f x) k) rfl G4.own ⟨g9, 0, none⟩ 1 1 [.int .i64 Z] rfl rfl (news1 A9) (by simp [Value.oneCell']) (by unfold maxLen; omega) (by omega) hkk ?_; intro v2 w16 hown2 hgrow2 hne2))
        have G5 := G4.grow hown2 hgrow2 (fun h => by have := hne2.1 h; simp at this)
        refine ⟨⟨k + 1, by omega, by go_num, fun j hj => ?_, ?_⟩, by simp [intOf]; omega⟩
        · by_cases e : j = k
          · subst e; exact HK.out
          · exact HA.out j (by omega)
        · rw [← HZ.out, iCells_more] at G5
          exact G5
      · rw [e1] at TV d0
        rw [e2] at TV d1
        rw [e3] at TV d2
        clear e1 e2 e3
        obtain ⟨V1, hV1, m1, bb1, -⟩ := boxed wr 46 #[.int .i64 3, .int .i64 (A : Int), .int .i64 (B : Int)]
        obtain ⟨r1, hr1⟩ : ∃ r, wr.heap.size = r := ⟨_, rfl⟩
        rw [hr1] at m1
        have G2 := G1.below bb1
        have hgr : gg < r1 := by omega
        obtain ⟨c0, c1, c2, -⟩ := m1.open3
        have I2 := (I1.below o3 bb1)
        have hAk : A < k := by omega
        have hBk : B < k := by omega
        have rA := HA.out A hAk
        have rB := HA.out B hBk
        have TZ : wv f x k = wv f x A * wv f x B := TV
        have hgV : gg < V1.heap.size := Nat.lt_of_lt_of_le o3 bb1.size
        clear TV
        obtain ⟨z, hzA⟩ : ∃ z, wv f x A = z := ⟨_, rfl⟩
        obtain ⟨y, hzB⟩ : ∃ z, wv f x B = z := ⟨_, rfl⟩
        rw [hzA] at rA
        rw [hzB] at rB
        rw [hzA, hzB] at TZ
        by_cases h0 : z = 0
        · have zb : -1000000000000 ≤ z * y ∧ z * y ≤ 1000000000000 := by rw [h0, Int.zero_mul]; omega
          go_wp2_with fail
          obtain ⟨u0, hu0, bb⟩ : ∃ uu, V1.drew = uu ∧ Below V1.heap.size V1 uu := ⟨_, rfl, (Below.refl _ _).drew⟩
          replace m1 := m1.below bb
          replace G2 := G2.below bb
          replace I2 := I2.below hgV bb
          have hgu : gg < u0.heap.size := Nat.lt_of_lt_of_le hgV bb.size
          clear bb
          refine wp_region_held_drew (S := KbP u0) (by kernel_rfl) (by rw [hu0]; exact Below.refl _ _) (fun hHeld => ?_)
          rw [hu0] at hHeld ⊢
          clear hu0
          have bu : KbP u0 u0 := Below.refl _ _
          change wpAnyH _ _ _ _ _ 22 #[false, false, false, false, false, false, false, false, false, false, false, false, false, false, false, false, false, false, false, false, false, false] _ _
          refine wpAnyH_take (i := 0) (v := .slice ((some ⟨gg, 0, none⟩)) k cc) rfl (by kernel_rfl) (by kernel_rfl) (by kernel_rfl) (fun _ _ _ h => h) (Or.inl ⟨by kernel_rfl, ?_⟩) hHeld ?_
          · intro w' hSw; go_simp
          try simp only [Act.put, List.setIfInBounds_toArray, List.set_cons_zero, List.set_cons_succ, List.getElem_toArray, List.getElem_cons_zero]
          refine wpAnyH_take (i := 1) (v := .pointer (some ⟨r1, 1, none⟩)) rfl (by kernel_rfl) (by kernel_rfl) (by kernel_rfl) (fun _ _ _ h => h) (Or.inl ⟨by kernel_rfl, ?_⟩) hHeld ?_
          · intro w' hSw; go_simp
          try simp only [Act.put, List.setIfInBounds_toArray, List.set_cons_zero, List.set_cons_succ, List.getElem_toArray, List.getElem_cons_succ, List.getElem_cons_zero]
          refine wpAnyH_take (i := 2) (v := .int .i64 ((A : Int))) rfl (by kernel_rfl) (by kernel_rfl) (by kernel_rfl) (fun _ _ _ h => h) (Or.inl ⟨by kernel_rfl, ?_⟩) hHeld ?_
          · intro w' hSw; obtain ⟨z0, z1, z2, -⟩ := (m1.below hSw).open3; go_simp
          try simp only [Act.put, List.setIfInBounds_toArray, List.set_cons_zero, List.set_cons_succ, List.getElem_toArray, List.getElem_cons_succ, List.getElem_cons_zero]
          refine wpAnyH_take (i := 3) (v := .pointer (some ⟨gg, A, none⟩)) rfl (by kernel_rfl) (by kernel_rfl) (by kernel_rfl) (fun _ _ _ h => h) (Or.inl ⟨by kernel_rfl, ?_⟩) hHeld ?_
          · intro w' hSw; go_simp
          try simp only [Act.put, List.setIfInBounds_toArray, List.set_cons_zero, List.set_cons_succ, List.getElem_toArray, List.getElem_cons_succ, List.getElem_cons_zero]
          refine wpAnyH_take (i := 4) (v := .int .i64 (z)) rfl (by kernel_rfl) (by kernel_rfl) (by kernel_rfl) (fun _ _ _ h => h) (Or.inl ⟨by kernel_rfl, ?_⟩) hHeld ?_
          · intro w' hSw; have z0 := cellAt (I2.below hgu hSw) (a := A) hAk; rw [hzA] at z0; go_simp
          try simp only [Act.put, List.setIfInBounds_toArray, List.set_cons_zero, List.set_cons_succ, List.getElem_toArray, List.getElem_cons_succ, List.getElem_cons_zero]
          refine wpAnyH_take (i := 5) (v := .bool false) rfl (by kernel_rfl) (by kernel_rfl) (by kernel_rfl) (fun _ _ _ h => h) (Or.inl ⟨by kernel_rfl, ?_⟩) hHeld ?_
          · intro w' hSw; go_simp <;> simp [h0]
          try simp only [Act.put, List.setIfInBounds_toArray, List.set_cons_zero, List.set_cons_succ, List.getElem_toArray, List.getElem_cons_succ, List.getElem_cons_zero]
          refine wpAnyH_take (i := 6) (v := .bool false) rfl (by kernel_rfl) (by kernel_rfl) (by kernel_rfl) (fun _ _ _ h => h) (Or.inl ⟨by kernel_rfl, ?_⟩) hHeld ?_
          · intro w' hSw; go_simp
          try simp only [Act.put, List.setIfInBounds_toArray, List.set_cons_zero, List.set_cons_succ, List.getElem_toArray, List.getElem_cons_succ, List.getElem_cons_zero]
          refine wpAnyH_take (i := 7) (v := undef) rfl (by kernel_rfl) (by kernel_rfl) (by kernel_rfl) (fun _ _ _ h => h) (Or.inr ⟨by kernel_rfl, rfl⟩) hHeld ?_
          try simp only [Act.put, List.setIfInBounds_toArray, List.set_cons_zero, List.set_cons_succ, List.getElem_toArray, List.getElem_cons_succ, List.getElem_cons_zero]
          refine wpAnyH_take (i := 8) (v := undef) rfl (by kernel_rfl) (by kernel_rfl) (by kernel_rfl) (fun _ _ _ h => h) (Or.inr ⟨by kernel_rfl, rfl⟩) hHeld ?_
          try simp only [Act.put, List.setIfInBounds_toArray, List.set_cons_zero, List.set_cons_succ, List.getElem_toArray, List.getElem_cons_succ, List.getElem_cons_zero]
          refine wpAnyH_take (i := 9) (v := undef) rfl (by kernel_rfl) (by kernel_rfl) (by kernel_rfl) (fun _ _ _ h => h) (Or.inr ⟨by kernel_rfl, rfl⟩) hHeld ?_
          try simp only [Act.put, List.setIfInBounds_toArray, List.set_cons_zero, List.set_cons_succ, List.getElem_toArray, List.getElem_cons_succ, List.getElem_cons_zero]
          refine wpAnyH_take (i := 10) (v := undef) rfl (by kernel_rfl) (by kernel_rfl) (by kernel_rfl) (fun _ _ _ h => h) (Or.inr ⟨by kernel_rfl, rfl⟩) hHeld ?_
          try simp only [Act.put, List.setIfInBounds_toArray, List.set_cons_zero, List.set_cons_succ, List.getElem_toArray, List.getElem_cons_succ, List.getElem_cons_zero]
          refine wpAnyH_take (i := 11) (v := undef) rfl (by kernel_rfl) (by kernel_rfl) (by kernel_rfl) (fun _ _ _ h => h) (Or.inr ⟨by kernel_rfl, rfl⟩) hHeld ?_
          try simp only [Act.put, List.setIfInBounds_toArray, List.set_cons_zero, List.set_cons_succ, List.getElem_toArray, List.getElem_cons_succ, List.getElem_cons_zero]
          refine wpAnyH_take (i := 12) (v := undef) rfl (by kernel_rfl) (by kernel_rfl) (by kernel_rfl) (fun _ _ _ h => h) (Or.inr ⟨by kernel_rfl, rfl⟩) hHeld ?_
          try simp only [Act.put, List.setIfInBounds_toArray, List.set_cons_zero, List.set_cons_succ, List.getElem_toArray, List.getElem_cons_succ, List.getElem_cons_zero]
          refine wpAnyH_take (i := 13) (v := undef) rfl (by kernel_rfl) (by kernel_rfl) (by kernel_rfl) (fun _ _ _ h => h) (Or.inr ⟨by kernel_rfl, rfl⟩) hHeld ?_
          try simp only [Act.put, List.setIfInBounds_toArray, List.set_cons_zero, List.set_cons_succ, List.getElem_toArray, List.getElem_cons_succ, List.getElem_cons_zero]
          refine wpAnyH_take (i := 14) (v := undef) rfl (by kernel_rfl) (by kernel_rfl) (by kernel_rfl) (fun _ _ _ h => h) (Or.inr ⟨by kernel_rfl, rfl⟩) hHeld ?_
          try simp only [Act.put, List.setIfInBounds_toArray, List.set_cons_zero, List.set_cons_succ, List.getElem_toArray, List.getElem_cons_succ, List.getElem_cons_zero]
          refine wpAnyH_take (i := 15) (v := undef) rfl (by kernel_rfl) (by kernel_rfl) (by kernel_rfl) (fun _ _ _ h => h) (Or.inr ⟨by kernel_rfl, rfl⟩) hHeld ?_
          try simp only [Act.put, List.setIfInBounds_toArray, List.set_cons_zero, List.set_cons_succ, List.getElem_toArray, List.getElem_cons_succ, List.getElem_cons_zero]
          refine wpAnyH_take (i := 16) (v := undef) rfl (by kernel_rfl) (by kernel_rfl) (by kernel_rfl) (fun _ _ _ h => h) (Or.inr ⟨by kernel_rfl, rfl⟩) hHeld ?_
          try simp only [Act.put, List.setIfInBounds_toArray, List.set_cons_zero, List.set_cons_succ, List.getElem_toArray, List.getElem_cons_succ, List.getElem_cons_zero]
          refine wpAnyH_take (i := 17) (v := undef) rfl (by kernel_rfl) (by kernel_rfl) (by kernel_rfl) (fun _ _ _ h => h) (Or.inr ⟨by kernel_rfl, rfl⟩) hHeld ?_
          try simp only [Act.put, List.setIfInBounds_toArray, List.set_cons_zero, List.set_cons_succ, List.getElem_toArray, List.getElem_cons_succ, List.getElem_cons_zero]
          refine wpAnyH_take (i := 18) (v := undef) rfl (by kernel_rfl) (by kernel_rfl) (by kernel_rfl) (fun _ _ _ h => h) (Or.inr ⟨by kernel_rfl, rfl⟩) hHeld ?_
          try simp only [Act.put, List.setIfInBounds_toArray, List.set_cons_zero, List.set_cons_succ, List.getElem_toArray, List.getElem_cons_succ, List.getElem_cons_zero]
          refine wpAnyH_take (i := 19) (v := undef) rfl (by kernel_rfl) (by kernel_rfl) (by kernel_rfl) (fun _ _ _ h => h) (Or.inr ⟨by kernel_rfl, rfl⟩) hHeld ?_
          try simp only [Act.put, List.setIfInBounds_toArray, List.set_cons_zero, List.set_cons_succ, List.getElem_toArray, List.getElem_cons_succ, List.getElem_cons_zero]
          refine wpAnyH_take (i := 20) (v := undef) rfl (by kernel_rfl) (by kernel_rfl) (by kernel_rfl) (fun _ _ _ h => h) (Or.inr ⟨by kernel_rfl, rfl⟩) hHeld ?_
          try simp only [Act.put, List.setIfInBounds_toArray, List.set_cons_zero, List.set_cons_succ, List.getElem_toArray, List.getElem_cons_succ, List.getElem_cons_zero]
          refine wpAnyH_take (i := 21) (v := .bool false) rfl (by kernel_rfl) (by kernel_rfl) (by kernel_rfl) (fun _ _ _ h => h) (Or.inl ⟨by kernel_rfl, ?_⟩) hHeld ?_
          · intro w' hSw; go_simp
          try simp only [Act.put, List.setIfInBounds_toArray, List.set_cons_zero, List.set_cons_succ, List.getElem_toArray, List.getElem_cons_succ, List.getElem_cons_zero]
          refine wpAnyH_done (by kernel_rfl) ?_ _
          clear hHeld
          clear h0
          obtain ⟨c0, c1, c2, -⟩ := m1.open3
          have cx := cellAt I2 (a := A) hAk
          have cy := cellAt I2 (a := B) hBk
          rw [hzA] at cx
          rw [hzB] at cy
          obtain ⟨Z, hZ⟩ : ∃ Z, z * y = Z := ⟨_, rfl⟩
          have hw : IntKind.i64.wrap (z * y) = z * y := by rw [IntKind.wrap_i64]; omega
          rw [hZ] at TZ hw
          clear hzA hzB I2 m1
          go_wp2_with fail
          go_region
          clear hw hZ cx cy
          obtain ⟨V2, hV2, bd⟩ : ∃ u, u0.drew = u ∧ Below u0.heap.size u0 u := ⟨_, rfl, (Below.refl _ _).drew⟩
          rw [hV2]
          replace G2 := G2.below bd
          clear hV2 bd
          have IR := fun w => in_any Z (-1000000000000) 1000000000000 w
          by_cases hz : r12 Z
          case neg =>
            obtain rfl : T = false := by cases T; rfl; exact absurd (hT.out.1 rfl k hkn) (by rw [TZ]; exact hz)
            rw [show decide (-1000000000000 ≤ Z ∧ Z ≤ 1000000000000) = false from decide_eq_false hz] at IR
            have B2 := G2.b
            clear hz TZ G2
            go_wp2_with (go_at_call 44; refine (IR _).mono ?_; rintro e w9 ⟨rfl, rfl⟩)
            exact bodyPost_ret (v := .tuple #[.int .i64 0, .bool false]) (by simp [results, Try.results45, go_sem]) rfl ⟨rfl, B2⟩
          rw [show decide (-1000000000000 ≤ Z ∧ Z ≤ 1000000000000) = true from decide_eq_true hz] at IR
          have HK : Hid (r12 (wv f x k)) := by show r12 (wv f x k); rw [TZ]; exact hz
          have HZ : Hid (wv f x k = Z) := TZ
          clear TZ hz
          have hb2 : ∀ w, (Instr.buildSlice 23 1 #[(0, .int .i64 Z)]).run Try.prog w = .ok (.slice (some ⟨w.heap.size, 0, none⟩) 1 1) (w.alloc (.cells #[.int .i64 Z] 2)) := fun _ => by kernel_rfl
          obtain ⟨V9, hV9, A9, b10, -⟩ := boxed V2 2 #[.int .i64 Z]
          obtain ⟨g9, hg9⟩ : ∃ g, V2.heap.size = g := ⟨_, rfl⟩
          rw [hg9] at A9
          have G4 := G2.below b10
          have hkk := G4.o3
          clear b10 G2
          go_wp2_with (first | (go_at_call 44; refine (IR _).mono ?_; rintro e w9 ⟨rfl, rfl⟩) | (at_builtin; refine wpList_append_own _ rfl _ _ _ rfl w.heap.size 2 i0 _ 1 8 Try.underlying23 hi0 hz0 hz1 hz2 rfl (by omega) (.slice (some ⟨gg, 0, none⟩) k cc) k (iCells (wv f x) k) rfl G4.own ⟨g9, 0, none⟩ 1 1 [.int .i64 Z] rfl rfl (news1 A9) (by simp [Value.oneCell']) (by unfold maxLen; omega) (by omega) hkk ?_; intro v2 w16 hown2 hgrow2 hne2))
          have G5 := G4.grow hown2 hgrow2 (fun h => by have := hne2.1 h; simp at this)
          refine ⟨⟨k + 1, by omega, by go_num, fun j hj => ?_, ?_⟩, by simp [intOf]; omega⟩
          · by_cases e : j = k
            · subst e; exact HK.out
            · exact HA.out j (by omega)
          · rw [← HZ.out, iCells_more] at G5
            exact G5
        have MA := fun w => sabs_any z w rA
        have MB := fun w => sabs_any y w rB
        have p0 : 0 < mg z := by rw [mg_nat]; omega
        have pz : mg z ≤ 1000000000000 := by rw [mg_nat]; unfold r12 at rA; omega
        have dv : 0 ≤ Int.tdiv 1000000000000 (mg z) ∧ Int.tdiv 1000000000000 (mg z) ≤ 1000000000000 := by
          have := tdiv_abs 1000000000000 (mg z)
          have p1 : 0 ≤ Int.tdiv 1000000000000 (mg z) := Int.tdiv_nonneg (by omega) (by omega)
          omega
        have PB : Int.tdiv 1000000000000 (mg z) < mg y → ¬ r12 (z * y) := fun h => prV_bad ⟨h0, h⟩
        have PI : ¬ Int.tdiv 1000000000000 (mg z) < mg y → r12 (z * y) := fun h => prod_in (fun k => h k.2)
        obtain ⟨X, hX⟩ : ∃ X, mg z = X := ⟨_, rfl⟩
        obtain ⟨Y, hY⟩ : ∃ Y, mg y = Y := ⟨_, rfl⟩
        rw [hX] at MA p0 dv PB PI pz
        rw [hY] at MB PB PI
        clear hX hY
        obtain ⟨Q, hQ⟩ : ∃ Q, Int.tdiv 1000000000000 X = Q := ⟨_, rfl⟩
        rw [hQ] at dv PB PI
        by_cases hc : Q < Y
        · obtain rfl : T = false := by cases T; rfl; exact absurd (hT.out.1 rfl k hkn) (by rw [TZ]; exact PB hc)
          have B2 := G2.b
          go_wp2_with fail
          obtain ⟨u0, hu0, bb⟩ : ∃ uu, V1.drew = uu ∧ Below V1.heap.size V1 uu := ⟨_, rfl, (Below.refl _ _).drew⟩
          replace m1 := m1.below bb
          replace G2 := G2.below bb
          replace I2 := I2.below hgV bb
          have hgu : gg < u0.heap.size := Nat.lt_of_lt_of_le hgV bb.size
          clear bb
          refine wp_region_held_drew (S := KbP u0) (by kernel_rfl) (by rw [hu0]; exact Below.refl _ _) (fun hHeld => ?_)
          rw [hu0] at hHeld ⊢
          clear hu0
          have bu : KbP u0 u0 := Below.refl _ _
          change wpAnyH _ _ _ _ _ 22 #[false, false, false, false, false, false, false, false, false, false, false, false, false, false, false, false, false, false, false, false, false, false] _ _
          refine wpAnyH_take (i := 0) (v := .slice ((some ⟨gg, 0, none⟩)) k cc) rfl (by kernel_rfl) (by kernel_rfl) (by kernel_rfl) (fun _ _ _ h => h) (Or.inl ⟨by kernel_rfl, ?_⟩) hHeld ?_
          · intro w' hSw; go_simp
          try simp only [Act.put, List.setIfInBounds_toArray, List.set_cons_zero, List.set_cons_succ, List.getElem_toArray, List.getElem_cons_zero]
          refine wpAnyH_take (i := 1) (v := .pointer (some ⟨r1, 1, none⟩)) rfl (by kernel_rfl) (by kernel_rfl) (by kernel_rfl) (fun _ _ _ h => h) (Or.inl ⟨by kernel_rfl, ?_⟩) hHeld ?_
          · intro w' hSw; go_simp
          try simp only [Act.put, List.setIfInBounds_toArray, List.set_cons_zero, List.set_cons_succ, List.getElem_toArray, List.getElem_cons_succ, List.getElem_cons_zero]
          refine wpAnyH_take (i := 2) (v := .int .i64 ((A : Int))) rfl (by kernel_rfl) (by kernel_rfl) (by kernel_rfl) (fun _ _ _ h => h) (Or.inl ⟨by kernel_rfl, ?_⟩) hHeld ?_
          · intro w' hSw; obtain ⟨z0, z1, z2, -⟩ := (m1.below hSw).open3; go_simp
          try simp only [Act.put, List.setIfInBounds_toArray, List.set_cons_zero, List.set_cons_succ, List.getElem_toArray, List.getElem_cons_succ, List.getElem_cons_zero]
          refine wpAnyH_take (i := 3) (v := .pointer (some ⟨gg, A, none⟩)) rfl (by kernel_rfl) (by kernel_rfl) (by kernel_rfl) (fun _ _ _ h => h) (Or.inl ⟨by kernel_rfl, ?_⟩) hHeld ?_
          · intro w' hSw; go_simp
          try simp only [Act.put, List.setIfInBounds_toArray, List.set_cons_zero, List.set_cons_succ, List.getElem_toArray, List.getElem_cons_succ, List.getElem_cons_zero]
          refine wpAnyH_take (i := 4) (v := .int .i64 (z)) rfl (by kernel_rfl) (by kernel_rfl) (by kernel_rfl) (fun _ _ _ h => h) (Or.inl ⟨by kernel_rfl, ?_⟩) hHeld ?_
          · intro w' hSw; have z0 := cellAt (I2.below hgu hSw) (a := A) hAk; rw [hzA] at z0; go_simp
          try simp only [Act.put, List.setIfInBounds_toArray, List.set_cons_zero, List.set_cons_succ, List.getElem_toArray, List.getElem_cons_succ, List.getElem_cons_zero]
          refine wpAnyH_take (i := 5) (v := .bool true) rfl (by kernel_rfl) (by kernel_rfl) (by kernel_rfl) (fun _ _ _ h => h) (Or.inl ⟨by kernel_rfl, ?_⟩) hHeld ?_
          · intro w' hSw; go_simp <;> simp [h0]
          try simp only [Act.put, List.setIfInBounds_toArray, List.set_cons_zero, List.set_cons_succ, List.getElem_toArray, List.getElem_cons_succ, List.getElem_cons_zero]
          refine wpAnyH_take (i := 6) (v := .bool true) rfl (by kernel_rfl) (by kernel_rfl) (by kernel_rfl) (fun _ _ _ h => h) (Or.inl ⟨by kernel_rfl, ?_⟩) hHeld ?_
          · intro w' hSw; go_simp
          try simp only [Act.put, List.setIfInBounds_toArray, List.set_cons_zero, List.set_cons_succ, List.getElem_toArray, List.getElem_cons_succ, List.getElem_cons_zero]
          refine wpAnyH_take (i := 7) (v := .slice ((some ⟨gg, 0, none⟩)) k cc) rfl (by kernel_rfl) (by kernel_rfl) (by kernel_rfl) (fun _ _ _ h => h) (Or.inl ⟨by kernel_rfl, ?_⟩) hHeld ?_
          · intro w' hSw; go_simp
          try simp only [Act.put, List.setIfInBounds_toArray, List.set_cons_zero, List.set_cons_succ, List.getElem_toArray, List.getElem_cons_succ, List.getElem_cons_zero]
          refine wpAnyH_take (i := 8) (v := .pointer (some ⟨r1, 2, none⟩)) rfl (by kernel_rfl) (by kernel_rfl) (by kernel_rfl) (fun _ _ _ h => h) (Or.inl ⟨by kernel_rfl, ?_⟩) hHeld ?_
          · intro w' hSw; go_simp
          try simp only [Act.put, List.setIfInBounds_toArray, List.set_cons_zero, List.set_cons_succ, List.getElem_toArray, List.getElem_cons_succ, List.getElem_cons_zero]
          refine wpAnyH_take (i := 9) (v := .int .i64 ((B : Int))) rfl (by kernel_rfl) (by kernel_rfl) (by kernel_rfl) (fun _ _ _ h => h) (Or.inl ⟨by kernel_rfl, ?_⟩) hHeld ?_
          · intro w' hSw; obtain ⟨z0, z1, z2, -⟩ := (m1.below hSw).open3; go_simp
          try simp only [Act.put, List.setIfInBounds_toArray, List.set_cons_zero, List.set_cons_succ, List.getElem_toArray, List.getElem_cons_succ, List.getElem_cons_zero]
          refine wpAnyH_take (i := 10) (v := .pointer (some ⟨gg, B, none⟩)) rfl (by kernel_rfl) (by kernel_rfl) (by kernel_rfl) (fun _ _ _ h => h) (Or.inl ⟨by kernel_rfl, ?_⟩) hHeld ?_
          · intro w' hSw; go_simp
          try simp only [Act.put, List.setIfInBounds_toArray, List.set_cons_zero, List.set_cons_succ, List.getElem_toArray, List.getElem_cons_succ, List.getElem_cons_zero]
          refine wpAnyH_take (i := 11) (v := .int .i64 (y)) rfl (by kernel_rfl) (by kernel_rfl) (by kernel_rfl) (fun _ _ _ h => h) (Or.inl ⟨by kernel_rfl, ?_⟩) hHeld ?_
          · intro w' hSw; have z0 := cellAt (I2.below hgu hSw) (a := B) hBk; rw [hzB] at z0; go_simp
          try simp only [Act.put, List.setIfInBounds_toArray, List.set_cons_zero, List.set_cons_succ, List.getElem_toArray, List.getElem_cons_succ, List.getElem_cons_zero]
          refine wpAnyH_take (i := 13) (v := .slice ((some ⟨gg, 0, none⟩)) k cc) rfl (by kernel_rfl) (by kernel_rfl) (by kernel_rfl) (fun _ _ _ h => h) (Or.inl ⟨by kernel_rfl, ?_⟩) hHeld ?_
          · intro w' hSw; go_simp
          try simp only [Act.put, List.setIfInBounds_toArray, List.set_cons_zero, List.set_cons_succ, List.getElem_toArray, List.getElem_cons_succ, List.getElem_cons_zero]
          refine wpAnyH_take (i := 14) (v := .pointer (some ⟨r1, 1, none⟩)) rfl (by kernel_rfl) (by kernel_rfl) (by kernel_rfl) (fun _ _ _ h => h) (Or.inl ⟨by kernel_rfl, ?_⟩) hHeld ?_
          · intro w' hSw; go_simp
          try simp only [Act.put, List.setIfInBounds_toArray, List.set_cons_zero, List.set_cons_succ, List.getElem_toArray, List.getElem_cons_succ, List.getElem_cons_zero]
          refine wpAnyH_take (i := 15) (v := .int .i64 ((A : Int))) rfl (by kernel_rfl) (by kernel_rfl) (by kernel_rfl) (fun _ _ _ h => h) (Or.inl ⟨by kernel_rfl, ?_⟩) hHeld ?_
          · intro w' hSw; obtain ⟨z0, z1, z2, -⟩ := (m1.below hSw).open3; go_simp
          try simp only [Act.put, List.setIfInBounds_toArray, List.set_cons_zero, List.set_cons_succ, List.getElem_toArray, List.getElem_cons_succ, List.getElem_cons_zero]
          refine wpAnyH_take (i := 16) (v := .pointer (some ⟨gg, A, none⟩)) rfl (by kernel_rfl) (by kernel_rfl) (by kernel_rfl) (fun _ _ _ h => h) (Or.inl ⟨by kernel_rfl, ?_⟩) hHeld ?_
          · intro w' hSw; go_simp
          try simp only [Act.put, List.setIfInBounds_toArray, List.set_cons_zero, List.set_cons_succ, List.getElem_toArray, List.getElem_cons_succ, List.getElem_cons_zero]
          refine wpAnyH_take (i := 17) (v := .int .i64 (z)) rfl (by kernel_rfl) (by kernel_rfl) (by kernel_rfl) (fun _ _ _ h => h) (Or.inl ⟨by kernel_rfl, ?_⟩) hHeld ?_
          · intro w' hSw; have z0 := cellAt (I2.below hgu hSw) (a := A) hAk; rw [hzA] at z0; go_simp
          try simp only [Act.put, List.setIfInBounds_toArray, List.set_cons_zero, List.set_cons_succ, List.getElem_toArray, List.getElem_cons_succ, List.getElem_cons_zero]
          refine wpAnyH_ready (rs := [12]) (by kernel_rfl) (by simp) ?_
          refine AllReadyH.cons rfl (fun KK hK' => ?_) AllReadyH.nil
          go_simp
          refine (MB _).mono ?_
          rintro e uu ⟨rfl, rfl⟩
          try go_wp2_with fail
          clear hHeld
          refine hK'.out _ _ (bu) (fun hHeld => ?_)
          clear hK' KK
          try simp only [List.setIfInBounds_toArray, List.set_cons_zero, List.set_cons_succ]
          refine wpAnyH_ready (rs := [18]) (by kernel_rfl) (by simp) ?_
          refine AllReadyH.cons rfl (fun KK hK' => ?_) AllReadyH.nil
          go_simp
          refine (MA _).mono ?_
          rintro e uu ⟨rfl, rfl⟩
          try go_wp2_with fail
          clear hHeld
          refine hK'.out _ _ (bu) (fun hHeld => ?_)
          clear hK' KK
          try simp only [List.setIfInBounds_toArray, List.set_cons_zero, List.set_cons_succ]
          refine wpAnyH_take (i := 19) (v := .int .i64 (Q)) rfl (by kernel_rfl) (by kernel_rfl) (by kernel_rfl) (fun _ _ _ h => h) (Or.inl ⟨by kernel_rfl, ?_⟩) hHeld ?_
          · intro w' hSw; go_simp; rw [if_neg (by omega), show IntKind.i64.wrap Q = Q by rw [IntKind.wrap_i64]; omega]
          try simp only [Act.put, List.setIfInBounds_toArray, List.set_cons_zero, List.set_cons_succ, List.getElem_toArray, List.getElem_cons_succ, List.getElem_cons_zero]
          refine wpAnyH_take (i := 20) (v := .bool true) rfl (by kernel_rfl) (by kernel_rfl) (by kernel_rfl) (fun _ _ _ h => h) (Or.inl ⟨by kernel_rfl, ?_⟩) hHeld ?_
          · intro w' hSw; go_simp <;> simp [hc]
          try simp only [Act.put, List.setIfInBounds_toArray, List.set_cons_zero, List.set_cons_succ, List.getElem_toArray, List.getElem_cons_succ, List.getElem_cons_zero]
          refine wpAnyH_take (i := 21) (v := .bool true) rfl (by kernel_rfl) (by kernel_rfl) (by kernel_rfl) (fun _ _ _ h => h) (Or.inl ⟨by kernel_rfl, ?_⟩) hHeld ?_
          · intro w' hSw; go_simp
          try simp only [Act.put, List.setIfInBounds_toArray, List.set_cons_zero, List.set_cons_succ, List.getElem_toArray, List.getElem_cons_succ, List.getElem_cons_zero]
          refine wpAnyH_done (by kernel_rfl) ?_ _
          clear hHeld
          have B3 := G2.b
          clear h0 hc hQ dv PB PI I2 m1 G2 B2
          go_wp2
          exact bodyPost_ret (v := .tuple #[.int .i64 0, .bool false]) (by simp [results, Try.results45, go_sem]) rfl ⟨rfl, B3⟩
        · obtain ⟨zb1, zb2⟩ := PI hc
          go_wp2_with fail
          obtain ⟨u0, hu0, bb⟩ : ∃ uu, V1.drew = uu ∧ Below V1.heap.size V1 uu := ⟨_, rfl, (Below.refl _ _).drew⟩
          replace m1 := m1.below bb
          replace G2 := G2.below bb
          replace I2 := I2.below hgV bb
          have hgu : gg < u0.heap.size := Nat.lt_of_lt_of_le hgV bb.size
          clear bb
          refine wp_region_held_drew (S := KbP u0) (by kernel_rfl) (by rw [hu0]; exact Below.refl _ _) (fun hHeld => ?_)
          rw [hu0] at hHeld ⊢
          clear hu0
          have bu : KbP u0 u0 := Below.refl _ _
          change wpAnyH _ _ _ _ _ 22 #[false, false, false, false, false, false, false, false, false, false, false, false, false, false, false, false, false, false, false, false, false, false] _ _
          refine wpAnyH_take (i := 0) (v := .slice ((some ⟨gg, 0, none⟩)) k cc) rfl (by kernel_rfl) (by kernel_rfl) (by kernel_rfl) (fun _ _ _ h => h) (Or.inl ⟨by kernel_rfl, ?_⟩) hHeld ?_
          · intro w' hSw; go_simp
          try simp only [Act.put, List.setIfInBounds_toArray, List.set_cons_zero, List.set_cons_succ, List.getElem_toArray, List.getElem_cons_zero]
          refine wpAnyH_take (i := 1) (v := .pointer (some ⟨r1, 1, none⟩)) rfl (by kernel_rfl) (by kernel_rfl) (by kernel_rfl) (fun _ _ _ h => h) (Or.inl ⟨by kernel_rfl, ?_⟩) hHeld ?_
          · intro w' hSw; go_simp
          try simp only [Act.put, List.setIfInBounds_toArray, List.set_cons_zero, List.set_cons_succ, List.getElem_toArray, List.getElem_cons_succ, List.getElem_cons_zero]
          refine wpAnyH_take (i := 2) (v := .int .i64 ((A : Int))) rfl (by kernel_rfl) (by kernel_rfl) (by kernel_rfl) (fun _ _ _ h => h) (Or.inl ⟨by kernel_rfl, ?_⟩) hHeld ?_
          · intro w' hSw; obtain ⟨z0, z1, z2, -⟩ := (m1.below hSw).open3; go_simp
          try simp only [Act.put, List.setIfInBounds_toArray, List.set_cons_zero, List.set_cons_succ, List.getElem_toArray, List.getElem_cons_succ, List.getElem_cons_zero]
          refine wpAnyH_take (i := 3) (v := .pointer (some ⟨gg, A, none⟩)) rfl (by kernel_rfl) (by kernel_rfl) (by kernel_rfl) (fun _ _ _ h => h) (Or.inl ⟨by kernel_rfl, ?_⟩) hHeld ?_
          · intro w' hSw; go_simp
          try simp only [Act.put, List.setIfInBounds_toArray, List.set_cons_zero, List.set_cons_succ, List.getElem_toArray, List.getElem_cons_succ, List.getElem_cons_zero]
          refine wpAnyH_take (i := 4) (v := .int .i64 (z)) rfl (by kernel_rfl) (by kernel_rfl) (by kernel_rfl) (fun _ _ _ h => h) (Or.inl ⟨by kernel_rfl, ?_⟩) hHeld ?_
          · intro w' hSw; have z0 := cellAt (I2.below hgu hSw) (a := A) hAk; rw [hzA] at z0; go_simp
          try simp only [Act.put, List.setIfInBounds_toArray, List.set_cons_zero, List.set_cons_succ, List.getElem_toArray, List.getElem_cons_succ, List.getElem_cons_zero]
          refine wpAnyH_take (i := 5) (v := .bool true) rfl (by kernel_rfl) (by kernel_rfl) (by kernel_rfl) (fun _ _ _ h => h) (Or.inl ⟨by kernel_rfl, ?_⟩) hHeld ?_
          · intro w' hSw; go_simp <;> simp [h0]
          try simp only [Act.put, List.setIfInBounds_toArray, List.set_cons_zero, List.set_cons_succ, List.getElem_toArray, List.getElem_cons_succ, List.getElem_cons_zero]
          refine wpAnyH_take (i := 6) (v := .bool true) rfl (by kernel_rfl) (by kernel_rfl) (by kernel_rfl) (fun _ _ _ h => h) (Or.inl ⟨by kernel_rfl, ?_⟩) hHeld ?_
          · intro w' hSw; go_simp
          try simp only [Act.put, List.setIfInBounds_toArray, List.set_cons_zero, List.set_cons_succ, List.getElem_toArray, List.getElem_cons_succ, List.getElem_cons_zero]
          refine wpAnyH_take (i := 7) (v := .slice ((some ⟨gg, 0, none⟩)) k cc) rfl (by kernel_rfl) (by kernel_rfl) (by kernel_rfl) (fun _ _ _ h => h) (Or.inl ⟨by kernel_rfl, ?_⟩) hHeld ?_
          · intro w' hSw; go_simp
          try simp only [Act.put, List.setIfInBounds_toArray, List.set_cons_zero, List.set_cons_succ, List.getElem_toArray, List.getElem_cons_succ, List.getElem_cons_zero]
          refine wpAnyH_take (i := 8) (v := .pointer (some ⟨r1, 2, none⟩)) rfl (by kernel_rfl) (by kernel_rfl) (by kernel_rfl) (fun _ _ _ h => h) (Or.inl ⟨by kernel_rfl, ?_⟩) hHeld ?_
          · intro w' hSw; go_simp
          try simp only [Act.put, List.setIfInBounds_toArray, List.set_cons_zero, List.set_cons_succ, List.getElem_toArray, List.getElem_cons_succ, List.getElem_cons_zero]
          refine wpAnyH_take (i := 9) (v := .int .i64 ((B : Int))) rfl (by kernel_rfl) (by kernel_rfl) (by kernel_rfl) (fun _ _ _ h => h) (Or.inl ⟨by kernel_rfl, ?_⟩) hHeld ?_
          · intro w' hSw; obtain ⟨z0, z1, z2, -⟩ := (m1.below hSw).open3; go_simp
          try simp only [Act.put, List.setIfInBounds_toArray, List.set_cons_zero, List.set_cons_succ, List.getElem_toArray, List.getElem_cons_succ, List.getElem_cons_zero]
          refine wpAnyH_take (i := 10) (v := .pointer (some ⟨gg, B, none⟩)) rfl (by kernel_rfl) (by kernel_rfl) (by kernel_rfl) (fun _ _ _ h => h) (Or.inl ⟨by kernel_rfl, ?_⟩) hHeld ?_
          · intro w' hSw; go_simp
          try simp only [Act.put, List.setIfInBounds_toArray, List.set_cons_zero, List.set_cons_succ, List.getElem_toArray, List.getElem_cons_succ, List.getElem_cons_zero]
          refine wpAnyH_take (i := 11) (v := .int .i64 (y)) rfl (by kernel_rfl) (by kernel_rfl) (by kernel_rfl) (fun _ _ _ h => h) (Or.inl ⟨by kernel_rfl, ?_⟩) hHeld ?_
          · intro w' hSw; have z0 := cellAt (I2.below hgu hSw) (a := B) hBk; rw [hzB] at z0; go_simp
          try simp only [Act.put, List.setIfInBounds_toArray, List.set_cons_zero, List.set_cons_succ, List.getElem_toArray, List.getElem_cons_succ, List.getElem_cons_zero]
          refine wpAnyH_take (i := 13) (v := .slice ((some ⟨gg, 0, none⟩)) k cc) rfl (by kernel_rfl) (by kernel_rfl) (by kernel_rfl) (fun _ _ _ h => h) (Or.inl ⟨by kernel_rfl, ?_⟩) hHeld ?_
          · intro w' hSw; go_simp
          try simp only [Act.put, List.setIfInBounds_toArray, List.set_cons_zero, List.set_cons_succ, List.getElem_toArray, List.getElem_cons_succ, List.getElem_cons_zero]
          refine wpAnyH_take (i := 14) (v := .pointer (some ⟨r1, 1, none⟩)) rfl (by kernel_rfl) (by kernel_rfl) (by kernel_rfl) (fun _ _ _ h => h) (Or.inl ⟨by kernel_rfl, ?_⟩) hHeld ?_
          · intro w' hSw; go_simp
          try simp only [Act.put, List.setIfInBounds_toArray, List.set_cons_zero, List.set_cons_succ, List.getElem_toArray, List.getElem_cons_succ, List.getElem_cons_zero]
          refine wpAnyH_take (i := 15) (v := .int .i64 ((A : Int))) rfl (by kernel_rfl) (by kernel_rfl) (by kernel_rfl) (fun _ _ _ h => h) (Or.inl ⟨by kernel_rfl, ?_⟩) hHeld ?_
          · intro w' hSw; obtain ⟨z0, z1, z2, -⟩ := (m1.below hSw).open3; go_simp
          try simp only [Act.put, List.setIfInBounds_toArray, List.set_cons_zero, List.set_cons_succ, List.getElem_toArray, List.getElem_cons_succ, List.getElem_cons_zero]
          refine wpAnyH_take (i := 16) (v := .pointer (some ⟨gg, A, none⟩)) rfl (by kernel_rfl) (by kernel_rfl) (by kernel_rfl) (fun _ _ _ h => h) (Or.inl ⟨by kernel_rfl, ?_⟩) hHeld ?_
          · intro w' hSw; go_simp
          try simp only [Act.put, List.setIfInBounds_toArray, List.set_cons_zero, List.set_cons_succ, List.getElem_toArray, List.getElem_cons_succ, List.getElem_cons_zero]
          refine wpAnyH_take (i := 17) (v := .int .i64 (z)) rfl (by kernel_rfl) (by kernel_rfl) (by kernel_rfl) (fun _ _ _ h => h) (Or.inl ⟨by kernel_rfl, ?_⟩) hHeld ?_
          · intro w' hSw; have z0 := cellAt (I2.below hgu hSw) (a := A) hAk; rw [hzA] at z0; go_simp
          try simp only [Act.put, List.setIfInBounds_toArray, List.set_cons_zero, List.set_cons_succ, List.getElem_toArray, List.getElem_cons_succ, List.getElem_cons_zero]
          refine wpAnyH_ready (rs := [12]) (by kernel_rfl) (by simp) ?_
          refine AllReadyH.cons rfl (fun KK hK' => ?_) AllReadyH.nil
          go_simp
          refine (MB _).mono ?_
          rintro e uu ⟨rfl, rfl⟩
          try go_wp2_with fail
          clear hHeld
          refine hK'.out _ _ (bu) (fun hHeld => ?_)
          clear hK' KK
          try simp only [List.setIfInBounds_toArray, List.set_cons_zero, List.set_cons_succ]
          refine wpAnyH_ready (rs := [18]) (by kernel_rfl) (by simp) ?_
          refine AllReadyH.cons rfl (fun KK hK' => ?_) AllReadyH.nil
          go_simp
          refine (MA _).mono ?_
          rintro e uu ⟨rfl, rfl⟩
          try go_wp2_with fail
          clear hHeld
          refine hK'.out _ _ (bu) (fun hHeld => ?_)
          clear hK' KK
          try simp only [List.setIfInBounds_toArray, List.set_cons_zero, List.set_cons_succ]
          refine wpAnyH_take (i := 19) (v := .int .i64 (Q)) rfl (by kernel_rfl) (by kernel_rfl) (by kernel_rfl) (fun _ _ _ h => h) (Or.inl ⟨by kernel_rfl, ?_⟩) hHeld ?_
          · intro w' hSw; go_simp; rw [if_neg (by omega), show IntKind.i64.wrap Q = Q by rw [IntKind.wrap_i64]; omega]
          try simp only [Act.put, List.setIfInBounds_toArray, List.set_cons_zero, List.set_cons_succ, List.getElem_toArray, List.getElem_cons_succ, List.getElem_cons_zero]
          refine wpAnyH_take (i := 20) (v := .bool false) rfl (by kernel_rfl) (by kernel_rfl) (by kernel_rfl) (fun _ _ _ h => h) (Or.inl ⟨by kernel_rfl, ?_⟩) hHeld ?_
          · intro w' hSw; go_simp <;> simp [hc]
          try simp only [Act.put, List.setIfInBounds_toArray, List.set_cons_zero, List.set_cons_succ, List.getElem_toArray, List.getElem_cons_succ, List.getElem_cons_zero]
          refine wpAnyH_take (i := 21) (v := .bool false) rfl (by kernel_rfl) (by kernel_rfl) (by kernel_rfl) (fun _ _ _ h => h) (Or.inl ⟨by kernel_rfl, ?_⟩) hHeld ?_
          · intro w' hSw; go_simp
          try simp only [Act.put, List.setIfInBounds_toArray, List.set_cons_zero, List.set_cons_succ, List.getElem_toArray, List.getElem_cons_succ, List.getElem_cons_zero]
          refine wpAnyH_done (by kernel_rfl) ?_ _
          clear hHeld
          clear h0 hc hQ dv PB PI
          obtain ⟨c0, c1, c2, -⟩ := m1.open3
          have cx := cellAt I2 (a := A) hAk
          have cy := cellAt I2 (a := B) hBk
          rw [hzA] at cx
          rw [hzB] at cy
          obtain ⟨Z, hZ⟩ : ∃ Z, z * y = Z := ⟨_, rfl⟩
          have hw : IntKind.i64.wrap (z * y) = z * y := by rw [IntKind.wrap_i64]; omega
          rw [hZ] at TZ hw
          clear hzA hzB I2 m1
          go_wp2_with fail
          go_region
          clear hw hZ cx cy
          obtain ⟨V2, hV2, bd⟩ : ∃ u, u0.drew = u ∧ Below u0.heap.size u0 u := ⟨_, rfl, (Below.refl _ _).drew⟩
          rw [hV2]
          replace G2 := G2.below bd
          clear hV2 bd
          have IR := fun w => in_any Z (-1000000000000) 1000000000000 w
          by_cases hz : r12 Z
          case neg =>
            obtain rfl : T = false := by cases T; rfl; exact absurd (hT.out.1 rfl k hkn) (by rw [TZ]; exact hz)
            rw [show decide (-1000000000000 ≤ Z ∧ Z ≤ 1000000000000) = false from decide_eq_false hz] at IR
            have B2 := G2.b
            clear hz TZ G2
            go_wp2_with (go_at_call 44; refine (IR _).mono ?_; rintro e w9 ⟨rfl, rfl⟩)
            exact bodyPost_ret (v := .tuple #[.int .i64 0, .bool false]) (by simp [results, Try.results45, go_sem]) rfl ⟨rfl, B2⟩
          rw [show decide (-1000000000000 ≤ Z ∧ Z ≤ 1000000000000) = true from decide_eq_true hz] at IR
          have HK : Hid (r12 (wv f x k)) := by show r12 (wv f x k); rw [TZ]; exact hz
          have HZ : Hid (wv f x k = Z) := TZ
          clear TZ hz
          have hb2 : ∀ w, (Instr.buildSlice 23 1 #[(0, .int .i64 Z)]).run Try.prog w = .ok (.slice (some ⟨w.heap.size, 0, none⟩) 1 1) (w.alloc (.cells #[.int .i64 Z] 2)) := fun _ => by kernel_rfl
          obtain ⟨V9, hV9, A9, b10, -⟩ := boxed V2 2 #[.int .i64 Z]
          obtain ⟨g9, hg9⟩ : ∃ g, V2.heap.size = g := ⟨_, rfl⟩
          rw [hg9] at A9
          have G4 := G2.below b10
          have hkk := G4.o3
          clear b10 G2
          go_wp2_with (first | (go_at_call 44; refine (IR _).mono ?_; rintro e w9 ⟨rfl, rfl⟩) | (at_builtin; refine wpList_append_own _ rfl _ _ _ rfl w.heap.size 2 i0 _ 1 8 Try.underlying23 hi0 hz0 hz1 hz2 rfl (by omega) (.slice (some ⟨gg, 0, none⟩) k cc) k (iCells (wv f x) k) rfl G4.own ⟨g9, 0, none⟩ 1 1 [.int .i64 Z] rfl rfl (news1 A9) (by simp [Value.oneCell']) (by unfold maxLen; omega) (by omega) hkk ?_; intro v2 w16 hown2 hgrow2 hne2))
          have G5 := G4.grow hown2 hgrow2 (fun h => by have := hne2.1 h; simp at this)
          refine ⟨⟨k + 1, by omega, by go_num, fun j hj => ?_, ?_⟩, by simp [intOf]; omega⟩
          · by_cases e : j = k
            · subst e; exact HK.out
            · exact HA.out j (by omega)
          · rw [← HZ.out, iCells_more] at G5
            exact G5
      · rw [e1] at TV d0
        rw [e2] at TV d2
        rw [e3] at TV d1
        clear e1 e2 e3
        obtain ⟨b0, hb0⟩ : ∃ b : Int, b = 0 := ⟨_, rfl⟩
        rw [← hb0] at d2
        clear hb0
        obtain ⟨V1, hV1, m1, bb1, -⟩ := boxed wr 46 #[.int .i64 4, .int .i64 (A : Int), .int .i64 b0]
        obtain ⟨r1, hr1⟩ : ∃ r, wr.heap.size = r := ⟨_, rfl⟩
        rw [hr1] at m1
        have G2 := G1.below bb1
        have hgr : gg < r1 := by omega
        obtain ⟨c0, c1, c2, -⟩ := m1.open3
        have I2 := (I1.below o3 bb1)
        have cx := cellAt I2 (a := A) (by omega)
        obtain ⟨t1, t2⟩ := HA.out A (by omega)
        have TZ : wv f x k = - wv f x A := TV
        clear I2 TV
        obtain ⟨z, hz⟩ : ∃ z, wv f x A = z := ⟨_, rfl⟩
        rw [hz] at TZ cx t1 t2
        clear hz
        obtain ⟨Z, hZ⟩ : ∃ Z, -z = Z := ⟨_, rfl⟩
        rw [hZ] at TZ
        have IR := fun w => in_any Z (-1000000000000) 1000000000000 w
        by_cases hz : r12 Z
        case neg =>
          obtain rfl : T = false := by cases T; rfl; exact absurd (hT.out.1 rfl k hkn) (by rw [TZ]; exact hz)
          rw [show decide (-1000000000000 ≤ Z ∧ Z ≤ 1000000000000) = false from decide_eq_false hz] at IR
          have B2 := G2.b
          clear hz TZ G2
          go_wp2_with (go_at_call 44; refine (IR _).mono ?_; rintro e w9 ⟨rfl, rfl⟩)
          exact bodyPost_ret (v := .tuple #[.int .i64 0, .bool false]) (by simp [results, Try.results45, go_sem]) rfl ⟨rfl, B2⟩
        rw [show decide (-1000000000000 ≤ Z ∧ Z ≤ 1000000000000) = true from decide_eq_true hz] at IR
        have HK : Hid (r12 (wv f x k)) := by show r12 (wv f x k); rw [TZ]; exact hz
        have HZ : Hid (wv f x k = Z) := TZ
        clear TZ hz
        have hb2 : ∀ w, (Instr.buildSlice 23 1 #[(0, .int .i64 Z)]).run Try.prog w = .ok (.slice (some ⟨w.heap.size, 0, none⟩) 1 1) (w.alloc (.cells #[.int .i64 Z] 2)) := fun _ => by kernel_rfl
        obtain ⟨V9, hV9, A9, b10, -⟩ := boxed V1 2 #[.int .i64 Z]
        obtain ⟨g9, hg9⟩ : ∃ g, V1.heap.size = g := ⟨_, rfl⟩
        rw [hg9] at A9
        have G4 := G2.below b10
        have hkk := G4.o3
        clear b10 G2
        go_wp2_with (first | (go_at_call 44; refine (IR _).mono ?_; rintro e w9 ⟨rfl, rfl⟩) | (at_builtin; refine wpList_append_own _ rfl _ _ _ rfl w.heap.size 2 i0 _ 1 8 Try.underlying23 hi0 hz0 hz1 hz2 rfl (by omega) (.slice (some ⟨gg, 0, none⟩) k cc) k (iCells (wv f x) k) rfl G4.own ⟨g9, 0, none⟩ 1 1 [.int .i64 Z] rfl rfl (news1 A9) (by simp [Value.oneCell']) (by unfold maxLen; omega) (by omega) hkk ?_; intro v2 w16 hown2 hgrow2 hne2))
        have G5 := G4.grow hown2 hgrow2 (fun h => by have := hne2.1 h; simp at this)
        refine ⟨⟨k + 1, by omega, by go_num, fun j hj => ?_, ?_⟩, by simp [intOf]; omega⟩
        · by_cases e : j = k
          · subst e; exact HK.out
          · exact HA.out j (by omega)
        · rw [← HZ.out, iCells_more] at G5
          exact G5
      · rw [e1] at TV d0
        rw [e2] at TV d2
        obtain ⟨b0, hb0⟩ : ∃ b : Int, b = 0 := ⟨_, rfl⟩
        rw [← hb0] at d2
        clear hb0
        have TZ : wv f x k = f (k * 3 + 1) := TV
        clear e1 e2 TV
        obtain ⟨Z, hZ⟩ : ∃ Z, f (k * 3 + 1) = Z := ⟨_, rfl⟩
        rw [hZ] at d1 TZ
        clear hZ
        obtain ⟨V1, hV1, m1, bb1, -⟩ := boxed wr 46 #[.int .i64 5, .int .i64 Z, .int .i64 b0]
        obtain ⟨r1, hr1⟩ : ∃ r, wr.heap.size = r := ⟨_, rfl⟩
        rw [hr1] at m1
        have G2 := G1.below bb1
        have hgr : gg < r1 := by omega
        obtain ⟨c0, c1, c2, -⟩ := m1.open3
        have I2 := (I1.below o3 bb1)
        clear I2
        have IR := fun w => in_any Z (-1000000000000) 1000000000000 w
        by_cases hz : r12 Z
        case neg =>
          obtain rfl : T = false := by cases T; rfl; exact absurd (hT.out.1 rfl k hkn) (by rw [TZ]; exact hz)
          rw [show decide (-1000000000000 ≤ Z ∧ Z ≤ 1000000000000) = false from decide_eq_false hz] at IR
          have B2 := G2.b
          clear hz TZ G2
          go_wp2_with (go_at_call 44; refine (IR _).mono ?_; rintro e w9 ⟨rfl, rfl⟩)
          exact bodyPost_ret (v := .tuple #[.int .i64 0, .bool false]) (by simp [results, Try.results45, go_sem]) rfl ⟨rfl, B2⟩
        rw [show decide (-1000000000000 ≤ Z ∧ Z ≤ 1000000000000) = true from decide_eq_true hz] at IR
        have HK : Hid (r12 (wv f x k)) := by show r12 (wv f x k); rw [TZ]; exact hz
        have HZ : Hid (wv f x k = Z) := TZ
        clear TZ hz
        have hb2 : ∀ w, (Instr.buildSlice 23 1 #[(0, .int .i64 Z)]).run Try.prog w = .ok (.slice (some ⟨w.heap.size, 0, none⟩) 1 1) (w.alloc (.cells #[.int .i64 Z] 2)) := fun _ => by kernel_rfl
        obtain ⟨V9, hV9, A9, b10, -⟩ := boxed V1 2 #[.int .i64 Z]
        obtain ⟨g9, hg9⟩ : ∃ g, V1.heap.size = g := ⟨_, rfl⟩
        rw [hg9] at A9
        have G4 := G2.below b10
        have hkk := G4.o3
        clear b10 G2
        go_wp2_with (first | (go_at_call 44; refine (IR _).mono ?_; rintro e w9 ⟨rfl, rfl⟩) | (at_builtin; refine wpList_append_own _ rfl _ _ _ rfl w.heap.size 2 i0 _ 1 8 Try.underlying23 hi0 hz0 hz1 hz2 rfl (by omega) (.slice (some ⟨gg, 0, none⟩) k cc) k (iCells (wv f x) k) rfl G4.own ⟨g9, 0, none⟩ 1 1 [.int .i64 Z] rfl rfl (news1 A9) (by simp [Value.oneCell']) (by unfold maxLen; omega) (by omega) hkk ?_; intro v2 w16 hown2 hgrow2 hne2))
        have G5 := G4.grow hown2 hgrow2 (fun h => by have := hne2.1 h; simp at this)
        refine ⟨⟨k + 1, by omega, by go_num, fun j hj => ?_, ?_⟩, by simp [intOf]; omega⟩
        · by_cases e : j = k
          · subst e; exact HK.out
          · exact HA.out j (by omega)
        · rw [← HZ.out, iCells_more] at G5
          exact G5
    · have hkn' : ¬ (k : Int) < (n : Int) := by omega
      obtain rfl : k = n := by omega
      obtain rfl : T = true := hT.out.2 HA.out
      have c0 := cellAt I1 (a := k - 1) (by omega)
      obtain ⟨N, hN⟩ : ∃ N, k - 1 = N := ⟨_, rfl⟩
      have HN : Hid (k - 1 = N) := hN
      rw [hN] at c0
      have hN' : (k : Int) - 1 = (N : Int) := by omega
      have hN2 : (N : Int) < (k : Int) := by omega
      have B4 := G1.b
      clear I1 G1 hN
      go_wp2
      exact bodyPost_ret (v := .tuple #[.int .i64 (wv f x N), .bool true]) (by simp [results, Try.results45, go_sem]) rfl ⟨by simp only [HN.out]; try rfl, B4⟩
end Go.Proofs.Ytloailicdoknbaa
