/-
  The values of a tape's nodes by the program: walked.
-/
import Derived.Test.YtloailicdoknbaaV15b
namespace Go.Proofs.Ytloailicdoknbaa
open Go.RowKit

theorem meth_in (a : Value) (w : World) : (method 220 97 (.agg #[a]) "loop.example/g00055/impl.value").run Try.prog w = .ok (81, .agg #[a]) w := by kernel_rfl
theorem meth_sum (a b : Value) (w : World) : (method 220 99 (.agg #[a, b]) "loop.example/g00055/impl.value").run Try.prog w = .ok (83, .agg #[a, b]) w := by kernel_rfl
theorem meth_prod (a b : Value) (w : World) : (method 220 100 (.agg #[a, b]) "loop.example/g00055/impl.value").run Try.prog w = .ok (85, .agg #[a, b]) w := by kernel_rfl
theorem meth_min (a : Value) (w : World) : (method 220 101 (.agg #[a]) "loop.example/g00055/impl.value").run Try.prog w = .ok (88, .agg #[a]) w := by kernel_rfl
theorem meth_con (a : Value) (w : World) : (method 220 102 a "loop.example/g00055/impl.value").run Try.prog w = .ok (89, a) w := by kernel_rfl
theorem Fx_r (inp : Nat) (f x : Nat → Int) (j : Nat) : r12 (Fx inp x (tv mp f x) (inp + j)) := by
  rw [Fx_at]
  have := tv_in f x j
  exact ⟨by omega, by omega⟩
theorem prV_small {x y : Int} (h1 : 0 ≤ x ∧ x < 12289) (h2 : 0 ≤ y ∧ y < 12289) : prV x y = x * y := by
  refine if_neg fun h => ?_
  obtain ⟨h0, h⟩ := h
  have e1 : mg x = x := by rw [mg_nat]; omega
  have e2 : mg y = y := by rw [mg_nat]; omega
  rw [e1, e2, Int.tdiv_eq_ediv_of_nonneg (by omega)] at h
  have h3 : y ≤ 1000000000000 / x := (Int.le_ediv_iff_mul_le (by omega)).2 (by
    have := Int.mul_le_mul (show y ≤ 12289 by omega) (show x ≤ 12289 by omega) h1.1 (by omega)
    omega)
  omega
set_option maxRecDepth 100000 in
set_option maxHeartbeats 3200000 in
theorem residues_any {w : World} {ge n ce b o c inp : Nat} {f x : Nat → Int} (hE : ElAt w ge n (els (inp : Int) f)) (hx : Ints w b o inp x) (hb : b < w.heap.size) (ok : TpOk n (inp : Int) f) (hx64 : ∀ i, i < inp → is64 (x i)) (hf64 : ∀ i, i < n * 3 → is64 (f i)) :
    Calls Try.prog 36 #[.slice (some ⟨ge, 0, none⟩) n ce, .slice (some ⟨b, o, none⟩) inp c] w fun e w' => ∃ v, e = .returned v ∧ Gv w w' w.heap.size 2 v (inp + n) (iCells (Fx inp x (tv mp f x)) (inp + n)) := by
  have hn200 := ok.1
  have hi20 := ok.2.1.2
  have hn' : (n : Int) ≤ 200 := by omega
  obtain ⟨i0, hi0, hz0, hz1, hz2⟩ := info_parts infoI
  go_enter Try.func36, Try.ntmps36
  go_wp2_with fail
  refine (copyG_any hx hb (by omega)).mono ?_
  rintro e w1 ⟨v, rfl, G1⟩
  have E1 := hE.below (G1.b.mono (Nat.le_refl _))
  obtain ⟨gg, cc, rfl, -⟩ := G1.open
  rw [← iCells_Fx0 inp x (tv mp f x)] at G1
  go_wp2
  go_loopw [5, 12] (fun s u wr => ∃ k : Nat, k ≤ n ∧ u = .int .i64 (k : Int) ∧ Gv w wr w.heap.size 2 s (inp + k) (iCells (Fx inp x (tv mp f x)) (inp + k)) ∧ ElAt wr ge n (els (inp : Int) f)) (fun _ u _ => n - (intOf u).toNat)
  case atStart => exact ⟨0, Nat.zero_le _, rfl, G1, E1⟩
  case round =>
    clear G1 E1
    obtain ⟨k, hk, rfl, G1, E1⟩ := hrel
    obtain ⟨gg, cc, rfl, o1, o2, o3, I1⟩ := G1.ints
    by_cases hkn : k < n
    · have hkn' : (k : Int) < (n : Int) := by omega
      have c0 := E1.2 k hkn
      have TV := tv_eq mp x ok hkn
      have HF := Fx_at inp x (tv mp f x) k
      have hge : ge < w.heap.size := hE.1
      rw [show els (inp : Int) f k = elV (inp : Int) (f (k * 3)) (f (k * 3 + 1)) (f (k * 3 + 2)) from rfl] at c0
      rcases (ok.2.2 k hkn).ways with ⟨e1, e2, A, e3, hA⟩ | ⟨e1, A, B, e2, e3, hA, hB⟩ | ⟨e1, A, B, e2, e3, hA, hB⟩ | ⟨e1, e2, A, e3, hA⟩ | ⟨e1, e2⟩
      · rw [e1, e2, e3] at TV c0
        rw [show elV (inp : Int) 1 (A : Int) 0 = .iface 97 (.agg #[.int .i64 (A : Int)]) from rfl] at c0
        have C := fun w (h : Ints w gg 0 (inp + k) (Fx inp x (tv mp f x))) (hg : gg < w.heap.size) => inV_any (c := cc) (a := A) h hg (by omega) (by omega)
        have hm := fun w => meth_in (.int .i64 (A : Int)) w
        rw [Fx_in x _ (by omega)] at C
        have RZ : is64 (x A) := hx64 A (by omega)
        have TZ : tv mp f x k = x A % 12289 := by rw [TV]; rfl
        obtain ⟨Z, hZ⟩ : ∃ Z, x A = Z := ⟨_, rfl⟩
        rw [hZ] at RZ TZ C
        try (rw [hZ] at c0; rw [hZ] at hm)
        have MZ := fun w => modulo_any Z 12289 w RZ (by omega)
        have HZ : Hid (Fx inp x (tv mp f x) (inp + k) = Z % 12289) := HF.trans TZ
        clear hZ TV HF TZ e1 RZ
        go_wp2_with fail
        refine (C _ I1 o3).mono ?_
        rintro e w2 ⟨rfl, bb⟩
        have G2 := G1.below bb
        have E2 := E1.below bb
        clear C hm c0 G1 E1 bb I1 o3
        go_wp2_with fail
        refine (MZ _).mono ?_
        rintro e w3 ⟨rfl, rfl⟩
        obtain ⟨R, hR⟩ : ∃ R, Z % 12289 = R := ⟨_, rfl⟩
        rw [hR] at HZ ⊢
        clear hR MZ
        have hb2 : ∀ w, (Instr.buildSlice 23 1 #[(0, .int .i64 R)]).run Try.prog w = .ok (.slice (some ⟨w.heap.size, 0, none⟩) 1 1) (w.alloc (.cells #[.int .i64 R] 2)) := fun _ => by kernel_rfl
        obtain ⟨V9, hV9, A9, b10, -⟩ := boxed w2 2 #[.int .i64 R]
        obtain ⟨g9, hg9⟩ : ∃ g, w2.heap.size = g := ⟨_, rfl⟩
        rw [hg9] at A9
        have G4 := G2.below b10
        have E4 := E2.below b10
        have hkk := G4.o3
        clear b10 G2 E2
        go_wp2_with (at_builtin; refine wpList_append_own _ rfl _ _ _ rfl w.heap.size 2 i0 _ 1 8 Try.underlying23 hi0 hz0 hz1 hz2 rfl (by omega) (.slice (some ⟨gg, 0, none⟩) (inp + k) cc) (inp + k) (iCells (Fx inp x (tv mp f x)) (inp + k)) rfl G4.own ⟨g9, 0, none⟩ 1 1 [.int .i64 R] rfl rfl (news1 A9) (by simp [Value.oneCell']) (by unfold maxLen; omega) (by omega) hkk ?_; intro v2 w16 hown2 hgrow2 hne2)
        have G5 := G4.grow hown2 hgrow2 (fun h => by have := hne2.1 h; simp at this)
        have B5 := G4.keep hgrow2
        have E5 : ElAt w16 ge n (els (inp : Int) f) := ⟨Nat.lt_of_lt_of_le E4.1 hgrow2.size, fun i hi => (B5.cell (p := ⟨ge, i, none⟩) hge).trans (E4.2 i hi)⟩
        refine ⟨⟨k + 1, by omega, by go_num, ?_, E5⟩, by simp [intOf]; omega⟩
        rw [← HZ.out, iCells_more] at G5
        exact G5
      · rw [e1, e2, e3] at TV c0
        rw [show elV (inp : Int) 2 (A : Int) (B : Int) = .iface 99 (.agg #[.int .i64 ((inp + A : Nat) : Int), .int .i64 ((inp + B : Nat) : Int)]) from rfl] at c0
        have C := fun w (h : Ints w gg 0 (inp + k) (Fx inp x (tv mp f x))) (hg : gg < w.heap.size) => sumV_any (c := cc) (a := inp + A) (b := inp + B) h hg (by omega) (by omega) (by omega) (Fx_r inp f x A) (Fx_r inp f x B)
        have hm := fun w => meth_sum (.int .i64 ((inp + A : Nat) : Int)) (.int .i64 ((inp + B : Nat) : Int)) w
        rw [Fx_at, Fx_at] at C
        have t1 := tv_in f x A
        have t2 := tv_in f x B
        have RZ : is64 (tv mp f x A + tv mp f x B) := ⟨by omega, by omega⟩
        have TZ : tv mp f x k = (tv mp f x A + tv mp f x B) % 12289 := by rw [TV]; rfl
        obtain ⟨Z, hZ⟩ : ∃ Z, tv mp f x A + tv mp f x B = Z := ⟨_, rfl⟩
        rw [hZ] at RZ TZ C
        try (rw [hZ] at c0; rw [hZ] at hm)
        have MZ := fun w => modulo_any Z 12289 w RZ (by omega)
        have HZ : Hid (Fx inp x (tv mp f x) (inp + k) = Z % 12289) := HF.trans TZ
        clear hZ TV HF TZ e1 RZ
        go_wp2_with fail
        refine (C _ I1 o3).mono ?_
        rintro e w2 ⟨rfl, bb⟩
        have G2 := G1.below bb
        have E2 := E1.below bb
        clear C hm c0 G1 E1 bb I1 o3
        go_wp2_with fail
        refine (MZ _).mono ?_
        rintro e w3 ⟨rfl, rfl⟩
        obtain ⟨R, hR⟩ : ∃ R, Z % 12289 = R := ⟨_, rfl⟩
        rw [hR] at HZ ⊢
        clear hR MZ
        have hb2 : ∀ w, (Instr.buildSlice 23 1 #[(0, .int .i64 R)]).run Try.prog w = .ok (.slice (some ⟨w.heap.size, 0, none⟩) 1 1) (w.alloc (.cells #[.int .i64 R] 2)) := fun _ => by kernel_rfl
        obtain ⟨V9, hV9, A9, b10, -⟩ := boxed w2 2 #[.int .i64 R]
        obtain ⟨g9, hg9⟩ : ∃ g, w2.heap.size = g := ⟨_, rfl⟩
        rw [hg9] at A9
        have G4 := G2.below b10
        have E4 := E2.below b10
        have hkk := G4.o3
        clear b10 G2 E2
        go_wp2_with (at_builtin; refine wpList_append_own _ rfl _ _ _ rfl w.heap.size 2 i0 _ 1 8 Try.underlying23 hi0 hz0 hz1 hz2 rfl (by omega) (.slice (some ⟨gg, 0, none⟩) (inp + k) cc) (inp + k) (iCells (Fx inp x (tv mp f x)) (inp + k)) rfl G4.own ⟨g9, 0, none⟩ 1 1 [.int .i64 R] rfl rfl (news1 A9) (by simp [Value.oneCell']) (by unfold maxLen; omega) (by omega) hkk ?_; intro v2 w16 hown2 hgrow2 hne2)
        have G5 := G4.grow hown2 hgrow2 (fun h => by have := hne2.1 h; simp at this)
        have B5 := G4.keep hgrow2
        have E5 : ElAt w16 ge n (els (inp : Int) f) := ⟨Nat.lt_of_lt_of_le E4.1 hgrow2.size, fun i hi => (B5.cell (p := ⟨ge, i, none⟩) hge).trans (E4.2 i hi)⟩
        refine ⟨⟨k + 1, by omega, by go_num, ?_, E5⟩, by simp [intOf]; omega⟩
        rw [← HZ.out, iCells_more] at G5
        exact G5
      · rw [e1, e2, e3] at TV c0
        rw [show elV (inp : Int) 3 (A : Int) (B : Int) = .iface 100 (.agg #[.int .i64 ((inp + A : Nat) : Int), .int .i64 ((inp + B : Nat) : Int)]) from rfl] at c0
        have C := fun w (h : Ints w gg 0 (inp + k) (Fx inp x (tv mp f x))) (hg : gg < w.heap.size) => prodV_any (c := cc) (a := inp + A) (b := inp + B) h hg (by omega) (by omega) (by omega) (Fx_r inp f x A) (Fx_r inp f x B)
        have hm := fun w => meth_prod (.int .i64 ((inp + A : Nat) : Int)) (.int .i64 ((inp + B : Nat) : Int)) w
        rw [Fx_at, Fx_at, prV_small (tv_in f x A) (tv_in f x B)] at C
        have t1 := tv_in f x A
        have t2 := tv_in f x B
        have RZ : is64 (tv mp f x A * tv mp f x B) := by
          have q1 := Int.mul_nonneg t1.1 t2.1
          have q2 := Int.mul_le_mul (show tv mp f x A ≤ 12289 by omega) (show tv mp f x B ≤ 12289 by omega) t2.1 (by omega)
          exact ⟨by omega, by omega⟩
        have TZ : tv mp f x k = (tv mp f x A * tv mp f x B) % 12289 := by rw [TV]; rfl
        obtain ⟨Z, hZ⟩ : ∃ Z, tv mp f x A * tv mp f x B = Z := ⟨_, rfl⟩
        rw [hZ] at RZ TZ C
        try (rw [hZ] at c0; rw [hZ] at hm)
        have MZ := fun w => modulo_any Z 12289 w RZ (by omega)
        have HZ : Hid (Fx inp x (tv mp f x) (inp + k) = Z % 12289) := HF.trans TZ
        clear hZ TV HF TZ e1 RZ
        go_wp2_with fail
        refine (C _ I1 o3).mono ?_
        rintro e w2 ⟨rfl, bb⟩
        have G2 := G1.below bb
        have E2 := E1.below bb
        clear C hm c0 G1 E1 bb I1 o3
        go_wp2_with fail
        refine (MZ _).mono ?_
        rintro e w3 ⟨rfl, rfl⟩
        obtain ⟨R, hR⟩ : ∃ R, Z % 12289 = R := ⟨_, rfl⟩
        rw [hR] at HZ ⊢
        clear hR MZ
        have hb2 : ∀ w, (Instr.buildSlice 23 1 #[(0, .int .i64 R)]).run Try.prog w = .ok (.slice (some ⟨w.heap.size, 0, none⟩) 1 1) (w.alloc (.cells #[.int .i64 R] 2)) := fun _ => by kernel_rfl
        obtain ⟨V9, hV9, A9, b10, -⟩ := boxed w2 2 #[.int .i64 R]
        obtain ⟨g9, hg9⟩ : ∃ g, w2.heap.size = g := ⟨_, rfl⟩
        rw [hg9] at A9
        have G4 := G2.below b10
        have E4 := E2.below b10
        have hkk := G4.o3
        clear b10 G2 E2
        go_wp2_with (at_builtin; refine wpList_append_own _ rfl _ _ _ rfl w.heap.size 2 i0 _ 1 8 Try.underlying23 hi0 hz0 hz1 hz2 rfl (by omega) (.slice (some ⟨gg, 0, none⟩) (inp + k) cc) (inp + k) (iCells (Fx inp x (tv mp f x)) (inp + k)) rfl G4.own ⟨g9, 0, none⟩ 1 1 [.int .i64 R] rfl rfl (news1 A9) (by simp [Value.oneCell']) (by unfold maxLen; omega) (by omega) hkk ?_; intro v2 w16 hown2 hgrow2 hne2)
        have G5 := G4.grow hown2 hgrow2 (fun h => by have := hne2.1 h; simp at this)
        have B5 := G4.keep hgrow2
        have E5 : ElAt w16 ge n (els (inp : Int) f) := ⟨Nat.lt_of_lt_of_le E4.1 hgrow2.size, fun i hi => (B5.cell (p := ⟨ge, i, none⟩) hge).trans (E4.2 i hi)⟩
        refine ⟨⟨k + 1, by omega, by go_num, ?_, E5⟩, by simp [intOf]; omega⟩
        rw [← HZ.out, iCells_more] at G5
        exact G5
      · rw [e1, e2, e3] at TV c0
        rw [show elV (inp : Int) 4 (A : Int) 0 = .iface 101 (.agg #[.int .i64 ((inp + A : Nat) : Int)]) from rfl] at c0
        have C := fun w (h : Ints w gg 0 (inp + k) (Fx inp x (tv mp f x))) (hg : gg < w.heap.size) => minV_any (c := cc) (a := inp + A) h hg (by omega) (by omega) (Fx_r inp f x A)
        have hm := fun w => meth_min (.int .i64 ((inp + A : Nat) : Int)) w
        rw [Fx_at] at C
        have t1 := tv_in f x A
        have RZ : is64 (- tv mp f x A) := ⟨by omega, by omega⟩
        have TZ : tv mp f x k = (- tv mp f x A) % 12289 := by rw [TV]; rfl
        obtain ⟨Z, hZ⟩ : ∃ Z, - tv mp f x A = Z := ⟨_, rfl⟩
        rw [hZ] at RZ TZ C
        try (rw [hZ] at c0; rw [hZ] at hm)
        have MZ := fun w => modulo_any Z 12289 w RZ (by omega)
        have HZ : Hid (Fx inp x (tv mp f x) (inp + k) = Z % 12289) := HF.trans TZ
        clear hZ TV HF TZ e1 RZ
        go_wp2_with fail
        refine (C _ I1 o3).mono ?_
        rintro e w2 ⟨rfl, bb⟩
        have G2 := G1.below bb
        have E2 := E1.below bb
        clear C hm c0 G1 E1 bb I1 o3
        go_wp2_with fail
        refine (MZ _).mono ?_
        rintro e w3 ⟨rfl, rfl⟩
        obtain ⟨R, hR⟩ : ∃ R, Z % 12289 = R := ⟨_, rfl⟩
        rw [hR] at HZ ⊢
        clear hR MZ
        have hb2 : ∀ w, (Instr.buildSlice 23 1 #[(0, .int .i64 R)]).run Try.prog w = .ok (.slice (some ⟨w.heap.size, 0, none⟩) 1 1) (w.alloc (.cells #[.int .i64 R] 2)) := fun _ => by kernel_rfl
        obtain ⟨V9, hV9, A9, b10, -⟩ := boxed w2 2 #[.int .i64 R]
        obtain ⟨g9, hg9⟩ : ∃ g, w2.heap.size = g := ⟨_, rfl⟩
        rw [hg9] at A9
        have G4 := G2.below b10
        have E4 := E2.below b10
        have hkk := G4.o3
        clear b10 G2 E2
        go_wp2_with (at_builtin; refine wpList_append_own _ rfl _ _ _ rfl w.heap.size 2 i0 _ 1 8 Try.underlying23 hi0 hz0 hz1 hz2 rfl (by omega) (.slice (some ⟨gg, 0, none⟩) (inp + k) cc) (inp + k) (iCells (Fx inp x (tv mp f x)) (inp + k)) rfl G4.own ⟨g9, 0, none⟩ 1 1 [.int .i64 R] rfl rfl (news1 A9) (by simp [Value.oneCell']) (by unfold maxLen; omega) (by omega) hkk ?_; intro v2 w16 hown2 hgrow2 hne2)
        have G5 := G4.grow hown2 hgrow2 (fun h => by have := hne2.1 h; simp at this)
        have B5 := G4.keep hgrow2
        have E5 : ElAt w16 ge n (els (inp : Int) f) := ⟨Nat.lt_of_lt_of_le E4.1 hgrow2.size, fun i hi => (B5.cell (p := ⟨ge, i, none⟩) hge).trans (E4.2 i hi)⟩
        refine ⟨⟨k + 1, by omega, by go_num, ?_, E5⟩, by simp [intOf]; omega⟩
        rw [← HZ.out, iCells_more] at G5
        exact G5
      · rw [e1, e2] at TV c0
        rw [show elV (inp : Int) 5 (f (k * 3 + 1)) 0 = .iface 102 (.int .i64 (f (k * 3 + 1))) from rfl] at c0
        have C := fun w (_ : Ints w gg 0 (inp + k) (Fx inp x (tv mp f x))) (_ : gg < w.heap.size) => (conV_any (f (k * 3 + 1)) (.slice (some ⟨gg, 0, none⟩) (inp + k) cc) w).mono (fun e w' (h : e = .returned (.int .i64 (f (k * 3 + 1))) ∧ w = w') => (⟨h.1, by rw [h.2]; exact Below.refl _ _⟩ : e = .returned (.int .i64 (f (k * 3 + 1))) ∧ Below w.heap.size w w'))
        have hm := fun w => meth_con (.int .i64 (f (k * 3 + 1))) w
        have RZ : is64 (f (k * 3 + 1)) := hf64 (k * 3 + 1) (by omega)
        have TZ : tv mp f x k = (f (k * 3 + 1)) % 12289 := by rw [TV]; rfl
        obtain ⟨Z, hZ⟩ : ∃ Z, f (k * 3 + 1) = Z := ⟨_, rfl⟩
        rw [hZ] at RZ TZ C
        try (rw [hZ] at c0; rw [hZ] at hm)
        have MZ := fun w => modulo_any Z 12289 w RZ (by omega)
        have HZ : Hid (Fx inp x (tv mp f x) (inp + k) = Z % 12289) := HF.trans TZ
        clear hZ TV HF TZ e1 RZ
        go_wp2_with fail
        refine (C _ I1 o3).mono ?_
        rintro e w2 ⟨rfl, bb⟩
        have G2 := G1.below bb
        have E2 := E1.below bb
        clear C hm c0 G1 E1 bb I1 o3
        go_wp2_with fail
        refine (MZ _).mono ?_
        rintro e w3 ⟨rfl, rfl⟩
        obtain ⟨R, hR⟩ : ∃ R, Z % 12289 = R := ⟨_, rfl⟩
        rw [hR] at HZ ⊢
        clear hR MZ
        have hb2 : ∀ w, (Instr.buildSlice 23 1 #[(0, .int .i64 R)]).run Try.prog w = .ok (.slice (some ⟨w.heap.size, 0, none⟩) 1 1) (w.alloc (.cells #[.int .i64 R] 2)) := fun _ => by kernel_rfl
        obtain ⟨V9, hV9, A9, b10, -⟩ := boxed w2 2 #[.int .i64 R]
        obtain ⟨g9, hg9⟩ : ∃ g, w2.heap.size = g := ⟨_, rfl⟩
        rw [hg9] at A9
        have G4 := G2.below b10
        have E4 := E2.below b10
        have hkk := G4.o3
        clear b10 G2 E2
        go_wp2_with (at_builtin; refine wpList_append_own _ rfl _ _ _ rfl w.heap.size 2 i0 _ 1 8 Try.underlying23 hi0 hz0 hz1 hz2 rfl (by omega) (.slice (some ⟨gg, 0, none⟩) (inp + k) cc) (inp + k) (iCells (Fx inp x (tv mp f x)) (inp + k)) rfl G4.own ⟨g9, 0, none⟩ 1 1 [.int .i64 R] rfl rfl (news1 A9) (by simp [Value.oneCell']) (by unfold maxLen; omega) (by omega) hkk ?_; intro v2 w16 hown2 hgrow2 hne2)
        have G5 := G4.grow hown2 hgrow2 (fun h => by have := hne2.1 h; simp at this)
        have B5 := G4.keep hgrow2
        have E5 : ElAt w16 ge n (els (inp : Int) f) := ⟨Nat.lt_of_lt_of_le E4.1 hgrow2.size, fun i hi => (B5.cell (p := ⟨ge, i, none⟩) hge).trans (E4.2 i hi)⟩
        refine ⟨⟨k + 1, by omega, by go_num, ?_, E5⟩, by simp [intOf]; omega⟩
        rw [← HZ.out, iCells_more] at G5
        exact G5
    · have hkn' : ¬ (k : Int) < (n : Int) := by omega
      obtain rfl : k = n := by omega
      clear I1
      go_wp2
      go_ret
      exact ⟨_, rfl, G1⟩
end Go.Proofs.Ytloailicdoknbaa
