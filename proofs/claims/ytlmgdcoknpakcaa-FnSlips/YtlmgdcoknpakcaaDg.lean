/-
  The law FnStokes: walked.
-/
import Derived.Test.YtlmgdcoknpakcaaDf
import Derived.Test.YtlmgdcoknpakcaaDa
import Derived.Test.YtlmgdcoknpakcaaSt
import Derived.Test.YtlmgdcoknpakcaaNf
import Derived.Test.YtlmgdcoknpakcaaCb3
namespace Go.Proofs.Ytlmgdcoknpakcaa
open Go.RowKit

/-- A net's box, and its lists, that are only read from now on. -/
structure Bx (q B : Nat) (W H : Int) (v1 v2 : Value) (n1 : Nat) (f1 : Nat → Int) (n2 : Nat) (f2 : Nat → Int) (w : World) : Prop where
  aq : At 32 w q #[.int .i64 W, .int .i64 H, v1, v2]
  o1 : Rw w B v1 n1 f1
  o2 : Rw w B v2 n2 f2
theorem Bx.below {w w' : World} {q B : Nat} {W H : Int} {v1 v2 : Value} {n1 n2 : Nat} {f1 f2 : Nat → Int} (h : Bx q B W H v1 v2 n1 f1 n2 f2 w) (hb : Below w.heap.size w w') : Bx q B W H v1 v2 n1 f1 n2 f2 w' := ⟨h.aq.below hb, h.o1.below hb, h.o2.below hb⟩
theorem Rw.src {w : World} {B : Nat} {a : Option Addr} {n c : Nat} {f : Nat → Int} (h : Rw w B (.slice a n c) n f) : Src w a n f := by
  rcases h with ⟨-, e⟩ | ⟨g, c', e, -, -, m⟩
  · exact .inl e
  · simp only [Value.slice.injEq] at e
    exact .inr ⟨g, 0, e.1, m.lt, m.ints⟩
theorem coR_pre (W : Int) (r u : Nat → Int) (y : Int) {k m : Nat} (h : k ≤ m) : coR W r u y k <+: coR W r u y m := by
  induction h with
  | refl => exact List.prefix_refl _
  | step _ ih => exact ih.trans (List.prefix_append _ _)
theorem coA_pre (W : Int) (r u : Nat → Int) {k m : Nat} (h : k ≤ m) : coA W r u k <+: coA W r u m := by
  induction h with
  | refl => exact List.prefix_refl _
  | step _ ih => exact ih.trans (List.prefix_append _ _)
theorem co_pre {W : Int} {r u : Nat → Int} {Y X h : Nat} (hX : X ≤ (W - 1).toNat) (hY : Y + 1 ≤ h) : coA W r u Y ++ coR W r u Y X <+: coA W r u h :=
  ((List.prefix_append_right_inj _).2 (coR_pre W r u Y hX)).trans (coA_pre W r u (k := Y + 1) hY)
theorem at_pre {P L : List Int} {x y b : Int} {k : Nat} (h : P ++ [x, y, b] <+: L) (hk : P.length = k * 3) : L.getD (k * 3) 0 = x ∧ L.getD (k * 3 + 1) 0 = y ∧ L.getD (k * 3 + 2) 0 = b ∧ k * 3 + 3 ≤ L.length := by
  obtain ⟨T, rfl⟩ := h
  refine ⟨?_, ?_, ?_, by simp; omega⟩
  · rw [List.append_assoc]; simp [List.getD, ← hk]
  · rw [List.append_assoc]; simp [List.getD, ← hk]
  · rw [List.append_assoc]; simp [List.getD, ← hk]
/-- A list of cores that is only read. -/
def TriC (w : World) (g n : Nat) (L : List Int) : Prop := g < w.heap.size ∧ ∀ i, i < n * 3 → w.cell? ⟨g, i, none⟩ = some (.int .i64 (L.getD i 0))
theorem TriC.below {w w' : World} {g n : Nat} {L : List Int} (h : TriC w g n L) (hb : Below w.heap.size w w') : TriC w' g n L := ⟨Nat.lt_of_lt_of_le h.1 hb.size, fun i hi => (hb.cell (p := ⟨g, i, none⟩) h.1).trans (h.2 i hi)⟩
theorem coreT_c {w : World} {lo : Nat} {v : Value} {l : List Int} (h : CoreT w lo v l) : ∃ g n c, v = .slice (some ⟨g, 0, none⟩) n c ∧ l.length = n * 3 ∧ TriC w g n l := by
  obtain ⟨n, hn, ho, hv⟩ := h
  rcases ho.2 with ⟨h1, _⟩ | ⟨g, c, cur, rfl, hb, hh, hc1, hc2, hsz, ht⟩
  · exact absurd h1 hv
  · refine ⟨g, n, c, rfl, hn, (Array.getElem?_eq_some_iff.1 hh).1, fun i hi => ?_⟩
    have a1 : (lCells l)[i]? = some (.int .i64 (l.getD i 0)) := by
      have hi' : i < l.length := by omega
      simp [lCells, hi']
    rw [← ht] at a1
    rw [List.getElem?_take_of_lt (by omega)] at a1
    exact At.cell (t := 43) hh i (by simpa using a1)
theorem Two.s1 {lo : Nat} {w : World} {g1 e1 n : Nat} {f : Nat → Int} {g2 e2 k : Nat} {h : Nat → Int} (t : Two lo w g1 e1 n f g2 e2 k h) : Src w (some ⟨g1, 0, none⟩) n f := .inr ⟨_, _, rfl, t.m1.lt, t.m1.ints⟩
theorem Two.s2 {lo : Nat} {w : World} {g1 e1 n : Nat} {f : Nat → Int} {g2 e2 k : Nat} {h : Nat → Int} (t : Two lo w g1 e1 n f g2 e2 k h) : Src w (some ⟨g2, 0, none⟩) k h := .inr ⟨_, _, rfl, t.m2.lt, t.m2.ints⟩
set_option maxRecDepth 100000 in
set_option maxHeartbeats 3200000 in
theorem stokes_walk {w : World} {a : Option Addr} {len cap : Nat} (hr : Row w w.heap.size a len) :
    Calls Try.prog 4 #[.slice a len cap] w fun e w' => e = .returned (.bool true) ∧ Below w.heap.size w w' := by
  have hm := hr.1
  by_cases hbig : 1048576 < len
  · have hd := decide_eq_true hbig
    go_enter Try.func4, Try.ntmps4
    go_wp2_with (go_at_call 8; refine (big_any _ _ _ _ hm).mono ?_; rintro e w1 ⟨rfl, rfl⟩)
    go_ret
    exact ⟨rfl, Below.refl _ _⟩
  · have hd := decide_eq_false hbig
    go_enter Try.func4, Try.ntmps4
    go_wp2_with (go_at_call 8; refine (big_any _ _ _ _ hm).mono ?_; rintro e w1 ⟨rfl, rfl⟩)
    refine (drawAround_any hr).mono ?_
    rintro e w1 ⟨v, x0, y0, x1, y1, rfl, ⟨W, H, n1, f1, n2, f2, N, hn1, hn2⟩, bW⟩
    obtain ⟨v1, v2, rfl, A1, A2, ap⟩ := N
    obtain ⟨za1, zc1, hz1⟩ := (Rw.of_arr A1 (Nat.le_refl _)).shape
    obtain ⟨za2, zc2, hz2⟩ := (Rw.of_arr A2 (Nat.le_refl _)).shape
    subst hz1 hz2
    go_wp2_with fail
    obtain ⟨V2, hV2, aq, b2, -⟩ := boxed w1 32 #[.int .i64 W, .int .i64 H, .slice za1 n1 zc1, .slice za2 n2 zc2]
    rw [hV2]
    have D : Bx w1.heap.size w.heap.size W H (.slice za1 n1 zc1) (.slice za2 n2 zc2) n1 f1 n2 f2 V2 := ⟨aq, (Rw.of_arr A1 (Nat.le_refl _)).below b2, (Rw.of_arr A2 (Nat.le_refl _)).below b2⟩
    obtain ⟨q, hq⟩ : ∃ q, w1.heap.size = q := ⟨_, rfl⟩
    replace bW := bW.trans (b2.mono bW.size)
    rw [hq] at D ⊢
    clear hV2 aq b2 A1 A2 ap hq
    have h1 : n1 ≤ 1048576 := by omega
    have h2 : n2 ≤ 1048576 := by omega
    refine (specNetOk_any W H D.o1.src D.o2.src h1 h2).mono ?_
    rintro e w2 ⟨rfl, b2⟩
    replace D := D.below b2
    replace bW := bW.trans (b2.mono bW.size)
    clear b2
    rcases hok : netOk W H n1 f1 n2 f2 with _ | _
    · go_wp2
      go_ret
      exact ⟨rfl, bW⟩
    · obtain ⟨hW, hH, -⟩ := netOk_of_true hok
      have lq := D.aq.lt
      obtain ⟨c0, c1, c2, c3, -⟩ := D.aq.open4
      go_wp2_with fail
      obtain ⟨aV, ab, hS⟩ : ∃ (aV : Int) (ab : Bool), ((ab = true ∧ ((0 ≤ x0 ∧ x0 < x1 ∧ x1 < W) ∧ 0 ≤ y0 ∧ y0 < y1 ∧ y1 < H)) ∨ ab = false) ∧ Calls Try.prog 15 #[nV W H (.slice za1 n1 zc1) (.slice za2 n2 zc2), .int .i64 x0, .int .i64 y0, .int .i64 x1, .int .i64 y1] w2 fun e w' => e = .returned (.tuple #[.int .i64 aV, .bool ab]) ∧ Below w2.heap.size w2 w' := by
        by_cases h : (0 ≤ x0 ∧ x0 < x1 ∧ x1 < W) ∧ 0 ≤ y0 ∧ y0 < y1 ∧ y1 < H
        · exact ⟨_, true, .inl ⟨rfl, h⟩, specAround_yes W H x0 y0 x1 y1 D.o1.src D.o2.src h1 h2 hok h.1 h.2⟩
        · exact ⟨0, false, .inr rfl, specAround_no W H x0 y0 x1 y1 D.o1.src D.o2.src h1 h2 (fun h' => h h'.2)⟩
      refine hS.2.mono ?_
      rintro e w3 ⟨rfl, b3⟩
      replace D := D.below b3
      replace bW := bW.trans (b3.mono bW.size)
      have hcase := hS.1
      clear hS b3 c0 c1 c2 c3 lq
      have lq := D.aq.lt
      obtain ⟨c0, c1, c2, c3, -⟩ := D.aq.open4
      rcases hcase with ⟨rfl, hx, hy⟩ | rfl
      · obtain ⟨hx0, hx01, hx1⟩ := hx
        obtain ⟨hy0, hy01, hy1⟩ := hy
        obtain ⟨nx, hnx⟩ : ∃ n : Nat, (x1 - x0).toNat = n := ⟨_, rfl⟩
        obtain ⟨ny, hny⟩ : ∃ n : Nat, (y1 - y0).toNat = n := ⟨_, rfl⟩
        have hst := stokes (W := W) (r := f1) (u := f2) (x0 := x0) (y0 := y0) (x1 := x1) (y1 := y1) (by omega) (by omega)
        rw [hnx, hny] at hst
        go_wp2_with fail
        clear c0 c1 c2 c3 lq
        go_loopw [10, 11] (fun s t wr => ∃ k : Nat, y0 + k ≤ y1 ∧ s = .int .i64 (totS W f1 f2 x0 y0 nx k) ∧ t = .int .i64 (y0 + k) ∧ Bx q w.heap.size W H (.slice za1 n1 zc1) (.slice za2 n2 zc2) n1 f1 n2 f2 wr ∧ Below w.heap.size w wr) (fun _ t _ => (y1 - intOf t).toNat)
        case atStart => exact ⟨0, by omega, rfl, by simp, D, bW⟩
        case round =>
          clear D bW
          obtain ⟨k, hk, rfl, rfl, D, bW⟩ := hrel
          obtain ⟨S, hS⟩ : ∃ S, totS W f1 f2 x0 y0 nx k = S := ⟨_, rfl⟩
          obtain ⟨Y, hY⟩ : ∃ Y, y0 + (k : Int) = Y := ⟨_, rfl⟩
          have hSb := totS_in (x0 := x0) (y0 := y0) (nx := nx) (k := k) hok hx0 hy0 (by omega) (by omega)
          have hnx2 : totS W f1 f2 x0 y0 nx (k + 1) = S + rowS W f1 f2 x0 Y nx := by rw [← hS, ← hY]; rfl
          rw [hS] at hSb ⊢
          rw [hY]
          by_cases hlt : Y < y1
          · go_wp2_with fail
            go_loopw [10, 12] (fun s t wr => ∃ j : Nat, x0 + j ≤ x1 ∧ s = .int .i64 (S + rowS W f1 f2 x0 Y j) ∧ t = .int .i64 (x0 + j) ∧ Bx q w.heap.size W H (.slice za1 n1 zc1) (.slice za2 n2 zc2) n1 f1 n2 f2 wr ∧ Below w.heap.size w wr) (fun _ t _ => (x1 - intOf t).toNat)
            case atStart => exact ⟨0, by omega, by simp [rowS, sm], by simp, D, bW⟩
            case round =>
              clear D bW
              obtain ⟨j, hj, rfl, rfl, D, bW⟩ := hrel
              obtain ⟨R, hR⟩ : ∃ R, rowS W f1 f2 x0 Y j = R := ⟨_, rfl⟩
              obtain ⟨X, hX⟩ : ∃ X, x0 + (j : Int) = X := ⟨_, rfl⟩
              have hRb := rowS_in (x0 := x0) (y := Y) (k := j) hok hx0 (by omega) (by omega)
              have hnr : rowS W f1 f2 x0 Y (j + 1) = R + buT W f1 f2 X Y := by rw [← hR, ← hX]; rfl
              rw [hR] at hRb ⊢
              rw [hX]
              by_cases hltX : X < x1
              · have lq := D.aq.lt
                obtain ⟨c0, c1, c2, c3, -⟩ := D.aq.open4
                have hsq : sq W H X Y = true := by simp only [sq, Bool.and_eq_true, decide_eq_true_eq]; omega
                have hbb := buT_in hok hsq
                go_wp2_with fail
                refine (copyNet_any W H D.o1 D.o2 h1 h2).mono ?_
                rintro e w6 ⟨k1, k2, k3, k4, rfl, T6, b9⟩
                replace D := D.below b9
                replace bW := bW.trans (b9.mono bW.size)
                clear b9 c0 c1 c2 c3 lq
                go_wp2_with fail
                refine (implBurgers_yes W H X Y T6.s1 T6.s2 h1 h2 hok hsq).mono ?_
                rintro e w7 ⟨rfl, b9⟩
                replace D := D.below b9
                replace bW := bW.trans (b9.mono bW.size)
                clear b9 T6
                obtain ⟨bb, hbe⟩ : ∃ b, buT W f1 f2 X Y = b := ⟨_, rfl⟩
                rw [hbe] at hnr hbb ⊢
                obtain ⟨S', hS'⟩ : ∃ S', S + R = S' := ⟨_, rfl⟩
                rw [hS']
                have hS9 : -4000000000 ≤ S' ∧ S' ≤ 4000000000 := by omega
                go_wp2
                refine ⟨⟨j + 1, by omega, by rw [hnr]; congr 1; omega, by go_num, D, bW⟩, by simp [intOf]; omega⟩
              · have hjn : j = nx := by omega
                go_wp2
                refine ⟨⟨k + 1, by omega, by rw [hnx2, ← hjn, hR], by go_num, D, bW⟩, by simp [intOf]; omega⟩
          · have hkn : k = ny := by omega
            have hSa : S = arT W f1 f2 x0 y0 x1 y1 := by rw [← hS, hkn]; exact hst
            have lq := D.aq.lt
            obtain ⟨c0, c1, c2, c3, -⟩ := D.aq.open4
            go_wp2_with fail
            refine (copyNet_any W H D.o1 D.o2 h1 h2).mono ?_
            rintro e w6 ⟨k1, k2, k3, k4, rfl, T6, b9⟩
            replace D := D.below b9
            replace bW := bW.trans (b9.mono bW.size)
            clear b9 c0 c1 c2 c3 lq
            go_wp2_with fail
            refine (implAround_yes W H x0 y0 x1 y1 T6.s1 T6.s2 h1 h2 hok ⟨hx0, hx01, hx1⟩ ⟨hy0, hy01, hy1⟩).mono ?_
            rintro e w7 ⟨rfl, b9⟩
            replace D := D.below b9
            replace bW := bW.trans (b9.mono bW.size)
            clear b9 T6
            rw [← hSa]
            have hSS : (S != S) = false := bne_self_eq_false S
            have lq := D.aq.lt
            obtain ⟨c0, c1, c2, c3, -⟩ := D.aq.open4
            clear hS hnx2 hst hSa hSb
            go_wp2_with fail
            refine (copyNet_any W H D.o1 D.o2 h1 h2).mono ?_
            rintro e w4 ⟨k1, k2, k3, k4, rfl, T4, b9⟩
            replace D := D.below b9
            replace bW := bW.trans (b9.mono bW.size)
            clear b9
            clear c0 c1 c2 c3 lq
            go_wp2_with fail
            refine (implCores_yes W H T4.s1 T4.s2 h1 h2 hok).mono ?_
            rintro e w5 ⟨v5, rfl, C5, b9⟩
            replace D := D.below b9
            replace bW := bW.trans (b9.mono bW.size)
            clear b9
            clear T4
            obtain ⟨gc, nc, cc, rfl, hL, TC⟩ := coreT_c C5
            clear C5
            obtain ⟨hc, hHc⟩ : ∃ h : Nat, (H - 1).toNat = h := ⟨_, rfl⟩
            rw [hHc] at hL TC
            obtain ⟨L, hLL⟩ : ∃ L, coA W f1 f2 hc = L := ⟨_, rfl⟩
            have hnc : nc ≤ 2000 := by
              obtain ⟨m, e1, e2⟩ := coA_len W hW.2 f1 f2 hc
              omega
            rw [hLL] at hL TC
            go_wp2_with fail
            go_loopw [18, 19] (fun s t wr => ∃ (Y kk : Nat), (Y : Int) ≤ H - 1 ∧ (coA W f1 f2 Y).length = kk * 3 ∧ kk ≤ 2000 ∧ s = .int .i64 (kk : Int) ∧ t = .int .i64 (Y : Int) ∧ Bx q w.heap.size W H (.slice za1 n1 zc1) (.slice za2 n2 zc2) n1 f1 n2 f2 wr ∧ TriC wr gc nc L ∧ Below w.heap.size w wr) (fun _ t _ => (H - intOf t).toNat)
            case atStart => exact ⟨0, 0, by omega, rfl, by omega, rfl, rfl, D, TC, bW⟩
            case round =>
              clear D TC bW
              obtain ⟨Y, kk, hY, hk, hk2, rfl, rfl, D, TC, bW⟩ := hrel
              have lq := D.aq.lt
              obtain ⟨c0, c1, c2, c3, -⟩ := D.aq.open4
              by_cases hltY : (Y : Int) < H - 1
              · go_wp2_with fail
                clear c0 c1 c2 c3 lq
                go_loopw [18, 20] (fun s t wr => ∃ (X kk : Nat), (X : Int) ≤ W - 1 ∧ (coA W f1 f2 Y ++ coR W f1 f2 Y X).length = kk * 3 ∧ kk ≤ 2000 ∧ s = .int .i64 (kk : Int) ∧ t = .int .i64 (X : Int) ∧ Bx q w.heap.size W H (.slice za1 n1 zc1) (.slice za2 n2 zc2) n1 f1 n2 f2 wr ∧ TriC wr gc nc L ∧ Below w.heap.size w wr) (fun _ t _ => (W - intOf t).toNat)
                case atStart => exact ⟨0, kk, by omega, by simpa [coR] using hk, hk2, rfl, rfl, D, TC, bW⟩
                case round =>
                  clear D TC bW hk hk2
                  obtain ⟨X, kk, hX, hk, hk2, rfl, rfl, D, TC, bW⟩ := hrel
                  have lq := D.aq.lt
                  obtain ⟨c0, c1, c2, c3, -⟩ := D.aq.open4
                  by_cases hltX : (X : Int) < W - 1
                  · have hnext : coR W f1 f2 Y (X + 1) = coR W f1 f2 Y X ++ (if buT W f1 f2 X Y = 0 then [] else [(X : Int), (Y : Int), buT W f1 f2 X Y]) := rfl
                    have hpre := co_pre (W := W) (r := f1) (u := f2) (Y := Y) (X := X + 1) (h := hc) (by omega) (by omega)
                    rw [hnext, hLL] at hpre
                    go_wp2_with fail
                    refine (specBurgers_yes W H X Y D.o1.src D.o2.src h1 h2 hok (by simp only [sq, Bool.and_eq_true, decide_eq_true_eq]; omega)).mono ?_
                    rintro e w9 ⟨rfl, b9⟩
                    obtain ⟨bb, hbb⟩ : ∃ b, buT W f1 f2 X Y = b := ⟨_, rfl⟩
                    rw [hbb] at hnext hpre ⊢
                    replace D := D.below b9
                    replace TC := TC.below b9
                    replace bW := bW.trans (b9.mono bW.size)
                    clear b9 c0 c1 c2 c3 lq
                    by_cases hb0 : bb = 0
                    · have hb0' : (bb == 0) = true := by simp [hb0]
                      go_wp2
                      refine ⟨⟨X + 1, kk, by omega, ?_, hk2, rfl, by go_num, D, TC, bW⟩, by simp [intOf]; omega⟩
                      rw [hnext, if_pos hb0]; simpa using hk
                    · have hb0' : (bb == 0) = false := by simp [hb0]
                      have hb1 := hb0
                      rw [if_neg hb0, ← List.append_assoc] at hpre
                      obtain ⟨t0, t1, t2, t3⟩ := at_pre hpre hk
                      have hlt : kk < nc := by omega
                      have hlt' : (kk : Int) < nc := by omega
                      have z0 := TC.2 (kk * 3) (by omega)
                      have z1 := TC.2 (kk * 3 + 1) (by omega)
                      have z2 := TC.2 (kk * 3 + 2) (by omega)
                      rw [t0] at z0
                      rw [t1] at z1
                      rw [t2] at z2
                      have lg := TC.1
                      clear t0 t1 t2 hb0
                      go_wp2_with fail
                      refine ⟨⟨X + 1, kk + 1, by omega, ?_, by omega, by go_num, by go_num, D, TC, bW⟩, by simp [intOf]; omega⟩
                      rw [hnext, if_neg hb1, ← List.append_assoc, List.length_append, hk]
                      simp
                      omega
                  · have hXW : X = (W - 1).toNat := by omega
                    go_wp2
                    refine ⟨⟨Y + 1, kk, by omega, ?_, hk2, rfl, by go_num, D, TC, bW⟩, by simp [intOf]; omega⟩
                    rw [show coA W f1 f2 (Y + 1) = coA W f1 f2 Y ++ coR W f1 f2 Y (W - 1).toNat from rfl, ← hXW]
                    exact hk
              · have hYH : Y = hc := by omega
                have hkn : kk = nc := by rw [hYH, hLL] at hk; omega
                subst hkn
                have hkk : ((kk : Int) == (kk : Int)) = true := by simp
                go_wp2
                go_ret
                exact ⟨rfl, bW⟩
      · go_wp2_with fail
        refine (copyNet_any W H D.o1 D.o2 h1 h2).mono ?_
        rintro e w4 ⟨k1, k2, k3, k4, rfl, T4, b9⟩
        replace D := D.below b9
        replace bW := bW.trans (b9.mono bW.size)
        clear b9
        clear c0 c1 c2 c3 lq
        go_wp2_with fail
        refine (implCores_yes W H T4.s1 T4.s2 h1 h2 hok).mono ?_
        rintro e w5 ⟨v5, rfl, C5, b9⟩
        replace D := D.below b9
        replace bW := bW.trans (b9.mono bW.size)
        clear b9
        clear T4
        obtain ⟨gc, nc, cc, rfl, hL, TC⟩ := coreT_c C5
        clear C5
        obtain ⟨hc, hHc⟩ : ∃ h : Nat, (H - 1).toNat = h := ⟨_, rfl⟩
        rw [hHc] at hL TC
        obtain ⟨L, hLL⟩ : ∃ L, coA W f1 f2 hc = L := ⟨_, rfl⟩
        have hnc : nc ≤ 2000 := by
          obtain ⟨m, e1, e2⟩ := coA_len W hW.2 f1 f2 hc
          omega
        rw [hLL] at hL TC
        go_wp2_with fail
        go_loopw [18, 19] (fun s t wr => ∃ (Y kk : Nat), (Y : Int) ≤ H - 1 ∧ (coA W f1 f2 Y).length = kk * 3 ∧ kk ≤ 2000 ∧ s = .int .i64 (kk : Int) ∧ t = .int .i64 (Y : Int) ∧ Bx q w.heap.size W H (.slice za1 n1 zc1) (.slice za2 n2 zc2) n1 f1 n2 f2 wr ∧ TriC wr gc nc L ∧ Below w.heap.size w wr) (fun _ t _ => (H - intOf t).toNat)
        case atStart => exact ⟨0, 0, by omega, rfl, by omega, rfl, rfl, D, TC, bW⟩
        case round =>
          clear D TC bW
          obtain ⟨Y, kk, hY, hk, hk2, rfl, rfl, D, TC, bW⟩ := hrel
          have lq := D.aq.lt
          obtain ⟨c0, c1, c2, c3, -⟩ := D.aq.open4
          by_cases hltY : (Y : Int) < H - 1
          · go_wp2_with fail
            clear c0 c1 c2 c3 lq
            go_loopw [18, 20] (fun s t wr => ∃ (X kk : Nat), (X : Int) ≤ W - 1 ∧ (coA W f1 f2 Y ++ coR W f1 f2 Y X).length = kk * 3 ∧ kk ≤ 2000 ∧ s = .int .i64 (kk : Int) ∧ t = .int .i64 (X : Int) ∧ Bx q w.heap.size W H (.slice za1 n1 zc1) (.slice za2 n2 zc2) n1 f1 n2 f2 wr ∧ TriC wr gc nc L ∧ Below w.heap.size w wr) (fun _ t _ => (W - intOf t).toNat)
            case atStart => exact ⟨0, kk, by omega, by simpa [coR] using hk, hk2, rfl, rfl, D, TC, bW⟩
            case round =>
              clear D TC bW hk hk2
              obtain ⟨X, kk, hX, hk, hk2, rfl, rfl, D, TC, bW⟩ := hrel
              have lq := D.aq.lt
              obtain ⟨c0, c1, c2, c3, -⟩ := D.aq.open4
              by_cases hltX : (X : Int) < W - 1
              · have hnext : coR W f1 f2 Y (X + 1) = coR W f1 f2 Y X ++ (if buT W f1 f2 X Y = 0 then [] else [(X : Int), (Y : Int), buT W f1 f2 X Y]) := rfl
                have hpre := co_pre (W := W) (r := f1) (u := f2) (Y := Y) (X := X + 1) (h := hc) (by omega) (by omega)
                rw [hnext, hLL] at hpre
                go_wp2_with fail
                refine (specBurgers_yes W H X Y D.o1.src D.o2.src h1 h2 hok (by simp only [sq, Bool.and_eq_true, decide_eq_true_eq]; omega)).mono ?_
                rintro e w9 ⟨rfl, b9⟩
                obtain ⟨bb, hbb⟩ : ∃ b, buT W f1 f2 X Y = b := ⟨_, rfl⟩
                rw [hbb] at hnext hpre ⊢
                replace D := D.below b9
                replace TC := TC.below b9
                replace bW := bW.trans (b9.mono bW.size)
                clear b9 c0 c1 c2 c3 lq
                by_cases hb0 : bb = 0
                · have hb0' : (bb == 0) = true := by simp [hb0]
                  go_wp2
                  refine ⟨⟨X + 1, kk, by omega, ?_, hk2, rfl, by go_num, D, TC, bW⟩, by simp [intOf]; omega⟩
                  rw [hnext, if_pos hb0]; simpa using hk
                · have hb0' : (bb == 0) = false := by simp [hb0]
                  have hb1 := hb0
                  rw [if_neg hb0, ← List.append_assoc] at hpre
                  obtain ⟨t0, t1, t2, t3⟩ := at_pre hpre hk
                  have hlt : kk < nc := by omega
                  have hlt' : (kk : Int) < nc := by omega
                  have z0 := TC.2 (kk * 3) (by omega)
                  have z1 := TC.2 (kk * 3 + 1) (by omega)
                  have z2 := TC.2 (kk * 3 + 2) (by omega)
                  rw [t0] at z0
                  rw [t1] at z1
                  rw [t2] at z2
                  have lg := TC.1
                  clear t0 t1 t2 hb0
                  go_wp2_with fail
                  refine ⟨⟨X + 1, kk + 1, by omega, ?_, by omega, by go_num, by go_num, D, TC, bW⟩, by simp [intOf]; omega⟩
                  rw [hnext, if_neg hb1, ← List.append_assoc, List.length_append, hk]
                  simp
                  omega
              · have hXW : X = (W - 1).toNat := by omega
                go_wp2
                refine ⟨⟨Y + 1, kk, by omega, ?_, hk2, rfl, by go_num, D, TC, bW⟩, by simp [intOf]; omega⟩
                rw [show coA W f1 f2 (Y + 1) = coA W f1 f2 Y ++ coR W f1 f2 Y (W - 1).toNat from rfl, ← hXW]
                exact hk
          · have hYH : Y = hc := by omega
            have hkn : kk = nc := by rw [hYH, hLL] at hk; omega
            subst hkn
            have hkk : ((kk : Int) == (kk : Int)) = true := by simp
            go_wp2
            go_ret
            exact ⟨rfl, bW⟩
theorem stokes_of {w : World} {a : Option Addr} {len cap : Nat} {zs : List Int} (h : IsRow .u8 w a len cap zs) :
    Calls Try.prog 4 #[.slice a len cap] w fun e w' => e = .returned (.bool true) ∧ Below w.heap.size w w' := stokes_walk (row_of h)
end Go.Proofs.Ytlmgdcoknpakcaa
