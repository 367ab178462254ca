/-
  Values of a tape over whole numbers, by the program: walked.
-/
import Derived.Test.YtloailicdoknbaaS15c
namespace Go.Proofs.Ytloailicdoknbaa
open Go.RowKit

/-- Node k's value over whole numbers. -/
def wv (f x : Nat → Int) (k : Nat) : Int := tv (fun z => z) f x k
theorem wv_eq {n : Nat} {inp : Int} {f : Nat → Int} (x : Nat → Int) (ok : TpOk n inp f) {k : Nat} (hk : k < n) : wv f x k = nd x (wv f x) (f (k * 3)) (f (k * 3 + 1)) (f (k * 3 + 2)) := tv_eq (fun z => z) x ok hk
/-- No node leaves the range. -/
def wOk (n : Nat) (f x : Nat → Int) : Prop := ∀ k, k < n → r12 (wv f x k)
theorem prV_bad {x y : Int} (h : x ≠ 0 ∧ Int.tdiv 1000000000000 (mg x) < mg y) : ¬ r12 (x * y) := by
  obtain ⟨h0, h1⟩ := h
  have p0 : 0 < mg x := by rw [mg_nat]; omega
  have p1 : 0 ≤ mg y := by rw [mg_nat]; omega
  rw [Int.tdiv_eq_ediv_of_nonneg (by omega)] at h1
  have h2 : 1000000000000 < (1000000000000 / mg x + 1) * mg x := Int.lt_ediv_add_one_mul_self _ p0
  have h4 : (1000000000000 / mg x + 1) * mg x ≤ mg y * mg x := Int.mul_le_mul_of_nonneg_right (by omega) (Int.le_of_lt p0)
  have h3 : ((x * y).natAbs : Int) = mg y * mg x := by rw [Int.natAbs_mul, mg_nat, mg_nat, Int.natCast_mul, Int.mul_comm]
  unfold r12
  omega
theorem prV_in {x y : Int} (h : r12 (prV x y)) : prV x y = x * y := by
  unfold prV at h ⊢
  split
  · next k =>
    rw [if_pos k] at h
    exact absurd h (by unfold r12; omega)
  · rfl
theorem prV_out {x y : Int} (h : ¬ r12 (prV x y)) : ¬ r12 (x * y) := by
  by_cases k : x ≠ 0 ∧ Int.tdiv 1000000000000 (mg x) < mg y
  · exact prV_bad k
  · rw [prV, if_neg k] at h
    exact h
set_option maxRecDepth 100000 in
set_option maxHeartbeats 3200000 in
theorem depthAt_any {w : World} {ge n ce b c inp : Nat} {f x : Nat → Int} (hE : ElAt w ge n (els (inp : Int) f)) (hx : Ints w b 0 inp x) (hb : b < w.heap.size) (ok : TpN n inp f) (T : Bool) (hT : Hid (T = true ↔ wOk n f x)) :
    Calls Try.prog 47 #[.slice (some ⟨ge, 0, none⟩) n ce, .slice (some ⟨b, 0, none⟩) inp c] w fun e w' => e = .returned (.tuple #[.int .i64 (if T then wv f x (n - 1) else 0), .bool T]) ∧ Below w.heap.size w w' := by
  have hn0 := ok.2
  have hn200 := ok.1.1
  have hi20 := ok.1.2.1.2
  have hn' : (n : Int) ≤ 200 := by omega
  obtain ⟨i0, hi0, hz0, hz1, hz2⟩ := info_parts infoI
  go_enter Try.func47, Try.ntmps47
  go_wp2_with fail
  refine (copyG_any hx hb (by omega)).mono ?_
  rintro e w1 ⟨v, rfl, G1⟩
  have E1 := hE.below (G1.b.mono (Nat.le_refl _))
  obtain ⟨gg, cc, rfl, -⟩ := G1.open
  rw [← iCells_Fx0 inp x (wv f x)] at G1
  go_wp2
  go_loopw [6, 14] (fun s u wr => ∃ k : Nat, k ≤ n ∧ u = .int .i64 (k : Int) ∧ (∀ j, j < k → r12 (wv f x j)) ∧ Gv w wr w.heap.size 2 s (inp + k) (iCells (Fx inp x (wv f x)) (inp + k)) ∧ ElAt wr ge n (els (inp : Int) f)) (fun _ u _ => n - (intOf u).toNat)
  case atStart => exact ⟨0, Nat.zero_le _, rfl, fun j hj => by omega, G1, E1⟩
  case round =>
    clear G1 E1
    obtain ⟨k, hk, rfl, hall, G1, E1⟩ := hrel
    have HA : Hid (∀ j, j < k → r12 (wv f x j)) := hall
    clear hall
    obtain ⟨gg, cc, rfl, o1, o2, o3, I1⟩ := G1.ints
    by_cases hkn : k < n
    · have hkn' : (k : Int) < (n : Int) := by omega
      have c0 := E1.2 k hkn
      have TV := wv_eq x ok.1 hkn
      have HF := Fx_at inp x (wv f x) k
      have hge : ge < w.heap.size := hE.1
      have FR : ∀ A : Nat, A < k → r12 (Fx inp x (wv f x) (inp + A)) := fun A hA => by rw [Fx_at]; exact HA.out A hA
      rw [show els (inp : Int) f k = elV (inp : Int) (f (k * 3)) (f (k * 3 + 1)) (f (k * 3 + 2)) from rfl] at c0
      rcases (ok.1.2.2 k hkn).ways with ⟨e1, e2, A, e3, hA⟩ | ⟨e1, A, B, e2, e3, hA, hB⟩ | ⟨e1, A, B, e2, e3, hA, hB⟩ | ⟨e1, e2, A, e3, hA⟩ | ⟨e1, e2⟩
      · rw [e1, e2, e3] at TV c0
        rw [show elV (inp : Int) 1 (A : Int) 0 = .iface 97 (.agg #[.int .i64 (A : Int)]) from rfl] at c0
        have C := fun w (h : Ints w gg 0 (inp + k) (Fx inp x (wv f x))) (hg : gg < w.heap.size) => inV_any (c := cc) (a := A) h hg (by omega) (by omega)
        have hm := fun w => meth_in (.int .i64 (A : Int)) w
        rw [Fx_in x _ (by omega)] at C
        have T1 : r12 (x A) → wv f x k = x A := fun _ => TV
        have T2 : ¬ r12 (x A) → ¬ r12 (wv f x k) := fun h => by rw [TV]; exact h
        obtain ⟨Z, hZ⟩ : ∃ Z, x A = Z := ⟨_, rfl⟩
        rw [hZ] at T1 T2 C
        try (rw [hZ] at c0; rw [hZ] at hm)
        clear hZ TV e1
        go_wp2_with fail
        refine (C _ I1 o3).mono ?_
        rintro e w2 ⟨rfl, bb⟩
        have G2 := G1.below bb
        have E2 := E1.below bb
        clear C hm c0 G1 E1 bb I1 o3 FR
        have W := fun w => within_any Z 1000000000000 w (by omega) (by omega)
        by_cases hz : r12 Z
        case neg =>
          obtain rfl : T = false := by cases T; rfl; exact absurd (hT.out.1 rfl k hkn) (T2 hz)
          rw [show decide (-1000000000000 ≤ Z ∧ Z ≤ 1000000000000) = false from decide_eq_false hz] at W
          have B2 := G2.b
          clear hz T1 T2 G2 E2 HF
          go_wp2_with (go_at_call 57; refine (W _).mono ?_; rintro e w3 ⟨rfl, rfl⟩)
          exact bodyPost_ret (v := .tuple #[.int .i64 0, .bool false]) (by simp [results, Try.results47, go_sem]) rfl ⟨rfl, B2⟩
        rw [show decide (-1000000000000 ≤ Z ∧ Z ≤ 1000000000000) = true from decide_eq_true hz] at W
        have HZ : Hid (Fx inp x (wv f x) (inp + k) = Z) := HF.trans (T1 hz)
        have HK : Hid (r12 (wv f x k)) := by show r12 (wv f x k); rw [T1 hz]; exact hz
        clear T1 T2 HF hz
        have hb2 : ∀ w, (Instr.buildSlice 23 1 #[(0, .int .i64 Z)]).run Try.prog w = .ok (.slice (some ⟨w.heap.size, 0, none⟩) 1 1) (w.alloc (.cells #[.int .i64 Z] 2)) := fun _ => by kernel_rfl
        obtain ⟨V9, hV9, A9, b10, -⟩ := boxed w2 2 #[.int .i64 Z]
        obtain ⟨g9, hg9⟩ : ∃ g, w2.heap.size = g := ⟨_, rfl⟩
        rw [hg9] at A9
        have G4 := G2.below b10
        have E4 := E2.below b10
        have hkk := G4.o3
        clear b10 G2 E2
        go_wp2_with (first | (go_at_call 57; refine (W _).mono ?_; rintro e w3 ⟨rfl, rfl⟩) | (at_builtin; refine wpList_append_own _ rfl _ _ _ rfl w.heap.size 2 i0 _ 1 8 Try.underlying23 hi0 hz0 hz1 hz2 rfl (by omega) (.slice (some ⟨gg, 0, none⟩) (inp + k) cc) (inp + k) (iCells (Fx inp x (wv f x)) (inp + k)) rfl G4.own ⟨g9, 0, none⟩ 1 1 [.int .i64 Z] rfl rfl (news1 A9) (by simp [Value.oneCell']) (by unfold maxLen; omega) (by omega) hkk ?_; intro v2 w16 hown2 hgrow2 hne2))
        have G5 := G4.grow hown2 hgrow2 (fun h => by have := hne2.1 h; simp at this)
        have B5 := G4.keep hgrow2
        have E5 : ElAt w16 ge n (els (inp : Int) f) := ⟨Nat.lt_of_lt_of_le E4.1 hgrow2.size, fun i hi => (B5.cell (p := ⟨ge, i, none⟩) hge).trans (E4.2 i hi)⟩
        refine ⟨⟨k + 1, by omega, by go_num, fun j hj => ?_, ?_, E5⟩, by simp [intOf]; omega⟩
        · by_cases e : j = k
          · subst e; exact HK.out
          · exact HA.out j (by omega)
        · rw [← HZ.out, iCells_more] at G5
          exact G5
      · rw [e1, e2, e3] at TV c0
        rw [show elV (inp : Int) 2 (A : Int) (B : Int) = .iface 99 (.agg #[.int .i64 ((inp + A : Nat) : Int), .int .i64 ((inp + B : Nat) : Int)]) from rfl] at c0
        have C := fun w (h : Ints w gg 0 (inp + k) (Fx inp x (wv f x))) (hg : gg < w.heap.size) => sumV_any (c := cc) (a := inp + A) (b := inp + B) h hg (by omega) (by omega) (by omega) (FR A (by omega)) (FR B (by omega))
        have hm := fun w => meth_sum (.int .i64 ((inp + A : Nat) : Int)) (.int .i64 ((inp + B : Nat) : Int)) w
        rw [Fx_at, Fx_at] at C
        have T1 : r12 (wv f x A + wv f x B) → wv f x k = wv f x A + wv f x B := fun _ => TV
        have T2 : ¬ r12 (wv f x A + wv f x B) → ¬ r12 (wv f x k) := fun h => by rw [TV]; exact h
        obtain ⟨Z, hZ⟩ : ∃ Z, wv f x A + wv f x B = Z := ⟨_, rfl⟩
        rw [hZ] at T1 T2 C
        try (rw [hZ] at c0; rw [hZ] at hm)
        clear hZ TV e1
        go_wp2_with fail
        refine (C _ I1 o3).mono ?_
        rintro e w2 ⟨rfl, bb⟩
        have G2 := G1.below bb
        have E2 := E1.below bb
        clear C hm c0 G1 E1 bb I1 o3 FR
        have W := fun w => within_any Z 1000000000000 w (by omega) (by omega)
        by_cases hz : r12 Z
        case neg =>
          obtain rfl : T = false := by cases T; rfl; exact absurd (hT.out.1 rfl k hkn) (T2 hz)
          rw [show decide (-1000000000000 ≤ Z ∧ Z ≤ 1000000000000) = false from decide_eq_false hz] at W
          have B2 := G2.b
          clear hz T1 T2 G2 E2 HF
          go_wp2_with (go_at_call 57; refine (W _).mono ?_; rintro e w3 ⟨rfl, rfl⟩)
          exact bodyPost_ret (v := .tuple #[.int .i64 0, .bool false]) (by simp [results, Try.results47, go_sem]) rfl ⟨rfl, B2⟩
        rw [show decide (-1000000000000 ≤ Z ∧ Z ≤ 1000000000000) = true from decide_eq_true hz] at W
        have HZ : Hid (Fx inp x (wv f x) (inp + k) = Z) := HF.trans (T1 hz)
        have HK : Hid (r12 (wv f x k)) := by show r12 (wv f x k); rw [T1 hz]; exact hz
        clear T1 T2 HF hz
        have hb2 : ∀ w, (Instr.buildSlice 23 1 #[(0, .int .i64 Z)]).run Try.prog w = .ok (.slice (some ⟨w.heap.size, 0, none⟩) 1 1) (w.alloc (.cells #[.int .i64 Z] 2)) := fun _ => by kernel_rfl
        obtain ⟨V9, hV9, A9, b10, -⟩ := boxed w2 2 #[.int .i64 Z]
        obtain ⟨g9, hg9⟩ : ∃ g, w2.heap.size = g := ⟨_, rfl⟩
        rw [hg9] at A9
        have G4 := G2.below b10
        have E4 := E2.below b10
        have hkk := G4.o3
        clear b10 G2 E2
        go_wp2_with (first | (go_at_call 57; refine (W _).mono ?_; rintro e w3 ⟨rfl, rfl⟩) | (at_builtin; refine wpList_append_own _ rfl _ _ _ rfl w.heap.size 2 i0 _ 1 8 Try.underlying23 hi0 hz0 hz1 hz2 rfl (by omega) (.slice (some ⟨gg, 0, none⟩) (inp + k) cc) (inp + k) (iCells (Fx inp x (wv f x)) (inp + k)) rfl G4.own ⟨g9, 0, none⟩ 1 1 [.int .i64 Z] rfl rfl (news1 A9) (by simp [Value.oneCell']) (by unfold maxLen; omega) (by omega) hkk ?_; intro v2 w16 hown2 hgrow2 hne2))
        have G5 := G4.grow hown2 hgrow2 (fun h => by have := hne2.1 h; simp at this)
        have B5 := G4.keep hgrow2
        have E5 : ElAt w16 ge n (els (inp : Int) f) := ⟨Nat.lt_of_lt_of_le E4.1 hgrow2.size, fun i hi => (B5.cell (p := ⟨ge, i, none⟩) hge).trans (E4.2 i hi)⟩
        refine ⟨⟨k + 1, by omega, by go_num, fun j hj => ?_, ?_, E5⟩, by simp [intOf]; omega⟩
        · by_cases e : j = k
          · subst e; exact HK.out
          · exact HA.out j (by omega)
        · rw [← HZ.out, iCells_more] at G5
          exact G5
      · rw [e1, e2, e3] at TV c0
        rw [show elV (inp : Int) 3 (A : Int) (B : Int) = .iface 100 (.agg #[.int .i64 ((inp + A : Nat) : Int), .int .i64 ((inp + B : Nat) : Int)]) from rfl] at c0
        have C := fun w (h : Ints w gg 0 (inp + k) (Fx inp x (wv f x))) (hg : gg < w.heap.size) => prodV_any (c := cc) (a := inp + A) (b := inp + B) h hg (by omega) (by omega) (by omega) (FR A (by omega)) (FR B (by omega))
        have hm := fun w => meth_prod (.int .i64 ((inp + A : Nat) : Int)) (.int .i64 ((inp + B : Nat) : Int)) w
        rw [Fx_at, Fx_at] at C
        have T1 : r12 (prV (wv f x A) (wv f x B)) → wv f x k = prV (wv f x A) (wv f x B) := fun h => by rw [TV, prV_in h]; rfl
        have T2 : ¬ r12 (prV (wv f x A) (wv f x B)) → ¬ r12 (wv f x k) := fun h => by rw [TV]; exact prV_out h
        obtain ⟨Z, hZ⟩ : ∃ Z, prV (wv f x A) (wv f x B) = Z := ⟨_, rfl⟩
        rw [hZ] at T1 T2 C
        try (rw [hZ] at c0; rw [hZ] at hm)
        clear hZ TV e1
        go_wp2_with fail
        refine (C _ I1 o3).mono ?_
        rintro e w2 ⟨rfl, bb⟩
        have G2 := G1.below bb
        have E2 := E1.below bb
        clear C hm c0 G1 E1 bb I1 o3 FR
        have W := fun w => within_any Z 1000000000000 w (by omega) (by omega)
        by_cases hz : r12 Z
        case neg =>
          obtain rfl : T = false := by cases T; rfl; exact absurd (hT.out.1 rfl k hkn) (T2 hz)
          rw [show decide (-1000000000000 ≤ Z ∧ Z ≤ 1000000000000) = false from decide_eq_false hz] at W
          have B2 := G2.b
          clear hz T1 T2 G2 E2 HF
          go_wp2_with (go_at_call 57; refine (W _).mono ?_; rintro e w3 ⟨rfl, rfl⟩)
          exact bodyPost_ret (v := .tuple #[.int .i64 0, .bool false]) (by simp [results, Try.results47, go_sem]) rfl ⟨rfl, B2⟩
        rw [show decide (-1000000000000 ≤ Z ∧ Z ≤ 1000000000000) = true from decide_eq_true hz] at W
        have HZ : Hid (Fx inp x (wv f x) (inp + k) = Z) := HF.trans (T1 hz)
        have HK : Hid (r12 (wv f x k)) := by show r12 (wv f x k); rw [T1 hz]; exact hz
        clear T1 T2 HF hz
        have hb2 : ∀ w, (Instr.buildSlice 23 1 #[(0, .int .i64 Z)]).run Try.prog w = .ok (.slice (some ⟨w.heap.size, 0, none⟩) 1 1) (w.alloc (.cells #[.int .i64 Z] 2)) := fun _ => by kernel_rfl
        obtain ⟨V9, hV9, A9, b10, -⟩ := boxed w2 2 #[.int .i64 Z]
        obtain ⟨g9, hg9⟩ : ∃ g, w2.heap.size = g := ⟨_, rfl⟩
        rw [hg9] at A9
        have G4 := G2.below b10
        have E4 := E2.below b10
        have hkk := G4.o3
        clear b10 G2 E2
        go_wp2_with (first | (go_at_call 57; refine (W _).mono ?_; rintro e w3 ⟨rfl, rfl⟩) | (at_builtin; refine wpList_append_own _ rfl _ _ _ rfl w.heap.size 2 i0 _ 1 8 Try.underlying23 hi0 hz0 hz1 hz2 rfl (by omega) (.slice (some ⟨gg, 0, none⟩) (inp + k) cc) (inp + k) (iCells (Fx inp x (wv f x)) (inp + k)) rfl G4.own ⟨g9, 0, none⟩ 1 1 [.int .i64 Z] rfl rfl (news1 A9) (by simp [Value.oneCell']) (by unfold maxLen; omega) (by omega) hkk ?_; intro v2 w16 hown2 hgrow2 hne2))
        have G5 := G4.grow hown2 hgrow2 (fun h => by have := hne2.1 h; simp at this)
        have B5 := G4.keep hgrow2
        have E5 : ElAt w16 ge n (els (inp : Int) f) := ⟨Nat.lt_of_lt_of_le E4.1 hgrow2.size, fun i hi => (B5.cell (p := ⟨ge, i, none⟩) hge).trans (E4.2 i hi)⟩
        refine ⟨⟨k + 1, by omega, by go_num, fun j hj => ?_, ?_, E5⟩, by simp [intOf]; omega⟩
        · by_cases e : j = k
          · subst e; exact HK.out
          · exact HA.out j (by omega)
        · rw [← HZ.out, iCells_more] at G5
          exact G5
      · rw [e1, e2, e3] at TV c0
        rw [show elV (inp : Int) 4 (A : Int) 0 = .iface 101 (.agg #[.int .i64 ((inp + A : Nat) : Int)]) from rfl] at c0
        have C := fun w (h : Ints w gg 0 (inp + k) (Fx inp x (wv f x))) (hg : gg < w.heap.size) => minV_any (c := cc) (a := inp + A) h hg (by omega) (by omega) (FR A (by omega))
        have hm := fun w => meth_min (.int .i64 ((inp + A : Nat) : Int)) w
        rw [Fx_at] at C
        have T1 : r12 (- wv f x A) → wv f x k = - wv f x A := fun _ => TV
        have T2 : ¬ r12 (- wv f x A) → ¬ r12 (wv f x k) := fun h => by rw [TV]; exact h
        obtain ⟨Z, hZ⟩ : ∃ Z, - wv f x A = Z := ⟨_, rfl⟩
        rw [hZ] at T1 T2 C
        try (rw [hZ] at c0; rw [hZ] at hm)
        clear hZ TV e1
        go_wp2_with fail
        refine (C _ I1 o3).mono ?_
        rintro e w2 ⟨rfl, bb⟩
        have G2 := G1.below bb
        have E2 := E1.below bb
        clear C hm c0 G1 E1 bb I1 o3 FR
        have W := fun w => within_any Z 1000000000000 w (by omega) (by omega)
        by_cases hz : r12 Z
        case neg =>
          obtain rfl : T = false := by cases T; rfl; exact absurd (hT.out.1 rfl k hkn) (T2 hz)
          rw [show decide (-1000000000000 ≤ Z ∧ Z ≤ 1000000000000) = false from decide_eq_false hz] at W
          have B2 := G2.b
          clear hz T1 T2 G2 E2 HF
          go_wp2_with (go_at_call 57; refine (W _).mono ?_; rintro e w3 ⟨rfl, rfl⟩)
          exact bodyPost_ret (v := .tuple #[.int .i64 0, .bool false]) (by simp [results, Try.results47, go_sem]) rfl ⟨rfl, B2⟩
        rw [show decide (-1000000000000 ≤ Z ∧ Z ≤ 1000000000000) = true from decide_eq_true hz] at W
        have HZ : Hid (Fx inp x (wv f x) (inp + k) = Z) := HF.trans (T1 hz)
        have HK : Hid (r12 (wv f x k)) := by show r12 (wv f x k); rw [T1 hz]; exact hz
        clear T1 T2 HF hz
        have hb2 : ∀ w, (Instr.buildSlice 23 1 #[(0, .int .i64 Z)]).run Try.prog w = .ok (.slice (some ⟨w.heap.size, 0, none⟩) 1 1) (w.alloc (.cells #[.int .i64 Z] 2)) := fun _ => by kernel_rfl
        obtain ⟨V9, hV9, A9, b10, -⟩ := boxed w2 2 #[.int .i64 Z]
        obtain ⟨g9, hg9⟩ : ∃ g, w2.heap.size = g := ⟨_, rfl⟩
        rw [hg9] at A9
        have G4 := G2.below b10
        have E4 := E2.below b10
        have hkk := G4.o3
        clear b10 G2 E2
        go_wp2_with (first | (go_at_call 57; refine (W _).mono ?_; rintro e w3 ⟨rfl, rfl⟩) | (at_builtin; refine wpList_append_own _ rfl _ _ _ rfl w.heap.size 2 i0 _ 1 8 Try.underlying23 hi0 hz0 hz1 hz2 rfl (by omega) (.slice (some ⟨gg, 0, none⟩) (inp + k) cc) (inp + k) (iCells (Fx inp x (wv f x)) (inp + k)) rfl G4.own ⟨g9, 0, none⟩ 1 1 [.int .i64 Z] rfl rfl (news1 A9) (by simp [Value.oneCell']) (by unfold maxLen; omega) (by omega) hkk ?_; intro v2 w16 hown2 hgrow2 hne2))
        have G5 := G4.grow hown2 hgrow2 (fun h => by have := hne2.1 h; simp at this)
        have B5 := G4.keep hgrow2
        have E5 : ElAt w16 ge n (els (inp : Int) f) := ⟨Nat.lt_of_lt_of_le E4.1 hgrow2.size, fun i hi => (B5.cell (p := ⟨ge, i, none⟩) hge).trans (E4.2 i hi)⟩
        refine ⟨⟨k + 1, by omega, by go_num, fun j hj => ?_, ?_, E5⟩, by simp [intOf]; omega⟩
        · by_cases e : j = k
          · subst e; exact HK.out
          · exact HA.out j (by omega)
        · rw [← HZ.out, iCells_more] at G5
          exact G5
      · rw [e1, e2] at TV c0
        rw [show elV (inp : Int) 5 (f (k * 3 + 1)) 0 = .iface 102 (.int .i64 (f (k * 3 + 1))) from rfl] at c0
        have C := fun w (_ : Ints w gg 0 (inp + k) (Fx inp x (wv f x))) (_ : gg < w.heap.size) => (conV_any (f (k * 3 + 1)) (.slice (some ⟨gg, 0, none⟩) (inp + k) cc) w).mono (fun e w' (h : e = .returned (.int .i64 (f (k * 3 + 1))) ∧ w = w') => (⟨h.1, by rw [h.2]; exact Below.refl _ _⟩ : e = .returned (.int .i64 (f (k * 3 + 1))) ∧ Below w.heap.size w w'))
        have hm := fun w => meth_con (.int .i64 (f (k * 3 + 1))) w
        have T1 : r12 (f (k * 3 + 1)) → wv f x k = f (k * 3 + 1) := fun _ => TV
        have T2 : ¬ r12 (f (k * 3 + 1)) → ¬ r12 (wv f x k) := fun h => by rw [TV]; exact h
        obtain ⟨Z, hZ⟩ : ∃ Z, f (k * 3 + 1) = Z := ⟨_, rfl⟩
        rw [hZ] at T1 T2 C
        try (rw [hZ] at c0; rw [hZ] at hm)
        clear hZ TV e1
        go_wp2_with fail
        refine (C _ I1 o3).mono ?_
        rintro e w2 ⟨rfl, bb⟩
        have G2 := G1.below bb
        have E2 := E1.below bb
        clear C hm c0 G1 E1 bb I1 o3 FR
        have W := fun w => within_any Z 1000000000000 w (by omega) (by omega)
        by_cases hz : r12 Z
        case neg =>
          obtain rfl : T = false := by cases T; rfl; exact absurd (hT.out.1 rfl k hkn) (T2 hz)
          rw [show decide (-1000000000000 ≤ Z ∧ Z ≤ 1000000000000) = false from decide_eq_false hz] at W
          have B2 := G2.b
          clear hz T1 T2 G2 E2 HF
          go_wp2_with (go_at_call 57; refine (W _).mono ?_; rintro e w3 ⟨rfl, rfl⟩)
          exact bodyPost_ret (v := .tuple #[.int .i64 0, .bool false]) (by simp [results, Try.results47, go_sem]) rfl ⟨rfl, B2⟩
        rw [show decide (-1000000000000 ≤ Z ∧ Z ≤ 1000000000000) = true from decide_eq_true hz] at W
        have HZ : Hid (Fx inp x (wv f x) (inp + k) = Z) := HF.trans (T1 hz)
        have HK : Hid (r12 (wv f x k)) := by show r12 (wv f x k); rw [T1 hz]; exact hz
        clear T1 T2 HF hz
        have hb2 : ∀ w, (Instr.buildSlice 23 1 #[(0, .int .i64 Z)]).run Try.prog w = .ok (.slice (some ⟨w.heap.size, 0, none⟩) 1 1) (w.alloc (.cells #[.int .i64 Z] 2)) := fun _ => by kernel_rfl
        obtain ⟨V9, hV9, A9, b10, -⟩ := boxed w2 2 #[.int .i64 Z]
        obtain ⟨g9, hg9⟩ : ∃ g, w2.heap.size = g := ⟨_, rfl⟩
        rw [hg9] at A9
        have G4 := G2.below b10
        have E4 := E2.below b10
        have hkk := G4.o3
        clear b10 G2 E2
        go_wp2_with (first | (go_at_call 57; refine (W _).mono ?_; rintro e w3 ⟨rfl, rfl⟩) | (at_builtin; refine wpList_append_own _ rfl _ _ _ rfl w.heap.size 2 i0 _ 1 8 Try.underlying23 hi0 hz0 hz1 hz2 rfl (by omega) (.slice (some ⟨gg, 0, none⟩) (inp + k) cc) (inp + k) (iCells (Fx inp x (wv f x)) (inp + k)) rfl G4.own ⟨g9, 0, none⟩ 1 1 [.int .i64 Z] rfl rfl (news1 A9) (by simp [Value.oneCell']) (by unfold maxLen; omega) (by omega) hkk ?_; intro v2 w16 hown2 hgrow2 hne2))
        have G5 := G4.grow hown2 hgrow2 (fun h => by have := hne2.1 h; simp at this)
        have B5 := G4.keep hgrow2
        have E5 : ElAt w16 ge n (els (inp : Int) f) := ⟨Nat.lt_of_lt_of_le E4.1 hgrow2.size, fun i hi => (B5.cell (p := ⟨ge, i, none⟩) hge).trans (E4.2 i hi)⟩
        refine ⟨⟨k + 1, by omega, by go_num, fun j hj => ?_, ?_, E5⟩, by simp [intOf]; omega⟩
        · by_cases e : j = k
          · subst e; exact HK.out
          · exact HA.out j (by omega)
        · rw [← HZ.out, iCells_more] at G5
          exact G5
    · have hkn' : ¬ (k : Int) < (n : Int) := by omega
      obtain rfl : k = n := by omega
      obtain rfl : T = true := hT.out.2 HA.out
      have c0 := cellAt I1 (a := inp + (k - 1)) (by omega)
      rw [Fx_at] at c0
      obtain ⟨N, hN⟩ : ∃ N, inp + (k - 1) = N := ⟨_, rfl⟩
      rw [hN] at c0
      have hN' : ((inp + k : Nat) : Int) - 1 = (N : Int) := by omega
      have hN2 : (N : Int) < ((inp + k : Nat) : Int) := by omega
      have hN3 : ((inp + k : Nat) : Int) ≤ 1000 := by omega
      have B4 := G1.b
      obtain ⟨M, hM⟩ : ∃ M, inp + k = M := ⟨_, rfl⟩
      rw [hM] at hN' hN2 hN3 ⊢
      clear I1 G1 hN hM E1
      go_wp2
      exact bodyPost_ret (v := .tuple #[.int .i64 (wv f x (k - 1)), .bool true]) (by simp [results, Try.results47, go_sem]) rfl ⟨rfl, B4⟩
end Go.Proofs.Ytloailicdoknbaa
