/-
  Tapes, points and rounds drawn: walked.
-/
import Derived.Test.YtloailicdoknbaaI15c
namespace Go.Proofs.Ytloailicdoknbaa
open Go.RowKit

/-- The cursor, and what has turned since w0: its own block alone. -/
structure Dz (w0 w : World) (p : Nat) (a : Option Addr) (len cap : Nat) : Prop where
  kp : Kept p w0 w
  cur : Cur w p a len cap
  pN : p < w0.heap.size
theorem Dz.st {w0 w : World} {p : Nat} {a : Option Addr} {len cap : Nat} (h : Dz w0 w p a len cap) : Dr w p a len cap w := Dr.start h.cur
theorem Dz.draw {w0 w w' : World} {p : Nat} {a : Option Addr} {len cap : Nat} (h : Dz w0 w p a len cap) (d : Dr w p a len cap w') : Dz w0 w' p a len cap := ⟨h.kp.trans d.1, d.2, h.pN⟩
theorem Dz.below {w0 w w' : World} {p : Nat} {a : Option Addr} {len cap : Nat} (h : Dz w0 w p a len cap) (hb : Below w.heap.size w w') : Dz w0 w' p a len cap := ⟨h.kp.trans (Kept.of_below hb), h.cur.kept hb, h.pN⟩
theorem lit_at {t : TypeId} {w : World} {q : Nat} {l : List Int} (h : At t w q (lCells l).toArray) {i : Nat} (hi : i < l.length) : w.cell? ⟨q, i, none⟩ = some (.int .i64 (l.getD i 0)) := by
  refine h.cell i ?_
  simp [lCells, hi]
set_option maxRecDepth 100000 in
set_option maxHeartbeats 3200000 in
theorem odd_any {w : World} {p : Nat} {a : Option Addr} {len cap : Nat} (R : Dz w w p a len cap) :
    Calls Try.prog 64 #[.pointer (some ⟨p, 0, none⟩)] w fun e w' => ∃ x : Int, e = .returned (.int .i64 x) ∧ is64 x ∧ Dr w p a len cap w' := by
  have hb4 : ∀ w, (Instr.buildSlice 23 10 #[(0, .int .i64 (-1)), (1, .int .i64 0), (2, .int .i64 1), (3, .int .i64 2147483648), (4, .int .i64 (-2147483648)), (5, .int .i64 1099511627776), (6, .int .i64 4611686018427387904), (7, .int .i64 (-4611686018427387904)), (8, .int .i64 9223372036854775807), (9, .int .i64 (-9223372036854775808))]).run Try.prog w = .ok (.slice (some ⟨w.heap.size, 0, none⟩) 10 10) (w.alloc (.cells #[.int .i64 (-1), .int .i64 0, .int .i64 1, .int .i64 2147483648, .int .i64 (-2147483648), .int .i64 1099511627776, .int .i64 4611686018427387904, .int .i64 (-4611686018427387904), .int .i64 9223372036854775807, .int .i64 (-9223372036854775808)] 2)) := fun _ => by kernel_rfl
  obtain ⟨V1, hV1, b4, bb4, -⟩ := boxed w 2 #[.int .i64 (-1), .int .i64 0, .int .i64 1, .int .i64 2147483648, .int .i64 (-2147483648), .int .i64 1099511627776, .int .i64 4611686018427387904, .int .i64 (-4611686018427387904), .int .i64 9223372036854775807, .int .i64 (-9223372036854775808)]
  have hp4 : p < w.heap.size := R.cur.lt
  replace R := R.below bb4
  obtain ⟨q4, hq4⟩ : ∃ r, w.heap.size = r := ⟨_, rfl⟩
  rw [hq4] at b4 hp4
  clear bb4
  go_enter Try.func64, Try.ntmps64
  go_wp2_with fail
  refine (below_dr R.st 10 (by omega) (by omega)).mono ?_
  rintro e w2 ⟨x9, rfl, x90, x91, hd⟩
  replace b4 := b4.keptP hd.1 (by omega)
  replace R := R.draw hd
  clear hd
  obtain ⟨i9, rfl⟩ : ∃ i9 : Nat, x9 = (i9 : Int) := ⟨x9.toNat, by omega⟩
  have c9 := lit_at (l := [-1, 0, 1, 2147483648, -2147483648, 1099511627776, 4611686018427387904, -4611686018427387904, 9223372036854775807, -9223372036854775808]) b4 (i := i9) (by simp; omega)
  obtain ⟨y9, hy9⟩ : ∃ y, ([-1, 0, 1, 2147483648, -2147483648, 1099511627776, 4611686018427387904, -4611686018427387904, 9223372036854775807, -9223372036854775808] : List Int).getD i9 0 = y := ⟨_, rfl⟩
  rw [hy9] at c9
  have hy64 : Hid (is64 y9) := by show is64 y9; rw [← hy9]; exact lit64 (by decide) _
  clear hy9
  go_wp2
  go_ret
  exact ⟨_, rfl, hy64.out, R.kp, R.cur⟩
set_option maxRecDepth 100000 in
set_option maxHeartbeats 12800000 in
theorem drawXs_any {w : World} {p : Nat} {a : Option Addr} {len cap : Nat} (hc : Cur w p a len cap) (inp : Nat) (hi1 : inp ≤ 1000) :
    Calls Try.prog 59 #[.pointer (some ⟨p, 0, none⟩), .int .i64 (inp : Int)] w fun e w' => ∃ v l, e = .returned v ∧ LG 2 1 w w' p a len cap v inp l := by
  obtain ⟨i0, hj0, hz0, hz1, hz2⟩ := info_parts infoI
  obtain ⟨V, hV, A0, bb, -⟩ := boxed w 2 #[]
  have R : LG 2 1 w V p a len cap (.slice (some ⟨w.heap.size, 0, none⟩) 0 0) 0 [] := ⟨⟨rfl, .inr ⟨w.heap.size, 0, #[], rfl, Nat.le_refl _, A0, Nat.le_refl _, Nat.zero_le _, rfl, rfl⟩⟩, (fun h => by cases h), hc.kept bb, Kept.of_below bb, hc.lt, (fun _ h => by cases h)⟩
  have hbs : ∀ w, (Instr.buildSlice 23 0 #[]).run Try.prog w = .ok (.slice (some ⟨w.heap.size, 0, none⟩) 0 0) (w.alloc (.cells #[] 2)) := fun _ => by kernel_rfl
  clear hc bb A0
  go_enter Try.func59, Try.ntmps59
  go_wp2
  clear hV
  go_loopw [1, 5] (fun t s wr => ∃ (m k : Nat) (l : List Int), m + k = inp ∧ t = .int .i64 (k : Int) ∧ LG 2 1 w wr p a len cap s m l) (fun t _ _ => (intOf t).toNat)
  case atStart => exact ⟨0, inp, [], by omega, rfl, R⟩
  case round =>
    clear R
    obtain ⟨m, k, l, hmk, rfl, R⟩ := hrel
    obtain ⟨g7, c7, rfl⟩ := R.open
    by_cases hkp : 0 < k
    · have hkp2 : (0 : Int) < (k : Int) := by omega
      go_wp2_with fail
      refine (from_dr R.st (-9) 9 (by omega) (by omega) (by omega) (by omega)).mono ?_
      rintro e w2 ⟨x, rfl, x0, x1, hd⟩
      replace R := R.draw hd
      clear hd
      go_wp2_with fail
      refine (once_dr R.st 20 (by omega) (by omega)).mono ?_
      rintro e w3 ⟨b1, rfl, hd⟩
      replace R := R.draw hd
      clear hd
      cases b1
      · skip
        obtain ⟨V9, hV9, A9, b10, -⟩ := boxed w3 2 #[.int .i64 x]
        have R9 := R.below b10
        have hkk : w.heap.size ≤ V9.heap.size := R9.kp.size
        obtain ⟨g9, hg9⟩ : ∃ g, w3.heap.size = g := ⟨_, rfl⟩
        rw [hg9] at A9
        have hb2 : ∀ w, (Instr.buildSlice 23 1 #[(0, .int .i64 x)]).run Try.prog w = .ok (.slice (some ⟨w.heap.size, 0, none⟩) 1 1) (w.alloc (.cells #[.int .i64 x] 2)) := fun _ => by kernel_rfl
        clear b10 R
        go_wp2_with (at_builtin; refine wpList_append_own _ rfl _ _ _ rfl w.heap.size 2 i0 _ 1 8 Try.underlying23 hj0 hz0 hz1 hz2 rfl (by omega) (.slice (some ⟨g7, 0, none⟩) m c7) m (lCells l) rfl R9.own ⟨g9, 0, none⟩ 1 1 (lCells [x]) rfl rfl (news1d A9) (lCells_one _) (by unfold maxLen; omega) (by omega) hkk ?_; intro v2 w16 hown2 hgrow2 hne2)
        have R3 := R9.grow hown2 hgrow2 (fun h => R9.nn (hne2.1 h).1) (by intro z hz; simp only [List.mem_cons, List.not_mem_nil, or_false] at hz; subst hz; first | exact hy64.out | (unfold is64; omega))
        exact ⟨⟨m + 1, k - 1, _, by omega, by rw [show ((k - 1 : Nat) : Int) = (k : Int) - 1 by omega], R3⟩, by simp [intOf]; omega⟩
      · skip
        have hb4 : ∀ w, (Instr.buildSlice 23 5 #[(0, .int .i64 100), (1, .int .i64 (-100)), (2, .int .i64 101), (3, .int .i64 (-9223372036854775808)), (4, .int .i64 9223372036854775807)]).run Try.prog w = .ok (.slice (some ⟨w.heap.size, 0, none⟩) 5 5) (w.alloc (.cells #[.int .i64 100, .int .i64 (-100), .int .i64 101, .int .i64 (-9223372036854775808), .int .i64 9223372036854775807] 2)) := fun _ => by kernel_rfl
        obtain ⟨V4, hV4, b4, bb4, -⟩ := boxed w3 2 #[.int .i64 100, .int .i64 (-100), .int .i64 101, .int .i64 (-9223372036854775808), .int .i64 9223372036854775807]
        have hp4 : p < w3.heap.size := R.cur.lt
        replace R := R.below bb4
        obtain ⟨q4, hq4⟩ : ∃ r, w3.heap.size = r := ⟨_, rfl⟩
        rw [hq4] at b4 hp4
        clear bb4
        go_wp2_with fail
        refine (below_dr R.st 5 (by omega) (by omega)).mono ?_
        rintro e w5 ⟨x9, rfl, x90, x91, hd⟩
        replace b4 := b4.keptP hd.1 (by omega)
        replace R := R.draw hd
        clear hd
        obtain ⟨i9, rfl⟩ : ∃ i9 : Nat, x9 = (i9 : Int) := ⟨x9.toNat, by omega⟩
        have c9 := lit_at (l := [100, -100, 101, -9223372036854775808, 9223372036854775807]) b4 (i := i9) (by simp; omega)
        obtain ⟨y9, hy9⟩ : ∃ y, ([100, -100, 101, -9223372036854775808, 9223372036854775807] : List Int).getD i9 0 = y := ⟨_, rfl⟩
        rw [hy9] at c9
        have hy64 : Hid (is64 y9) := by show is64 y9; rw [← hy9]; exact lit64 (by decide) _
        clear hy9
        obtain ⟨V9, hV9, A9, b10, -⟩ := boxed w5 2 #[.int .i64 y9]
        have R9 := R.below b10
        have hkk : w.heap.size ≤ V9.heap.size := R9.kp.size
        obtain ⟨g9, hg9⟩ : ∃ g, w5.heap.size = g := ⟨_, rfl⟩
        rw [hg9] at A9
        have hb2 : ∀ w, (Instr.buildSlice 23 1 #[(0, .int .i64 y9)]).run Try.prog w = .ok (.slice (some ⟨w.heap.size, 0, none⟩) 1 1) (w.alloc (.cells #[.int .i64 y9] 2)) := fun _ => by kernel_rfl
        clear b10 R
        go_wp2_with (at_builtin; refine wpList_append_own _ rfl _ _ _ rfl w.heap.size 2 i0 _ 1 8 Try.underlying23 hj0 hz0 hz1 hz2 rfl (by omega) (.slice (some ⟨g7, 0, none⟩) m c7) m (lCells l) rfl R9.own ⟨g9, 0, none⟩ 1 1 (lCells [y9]) rfl rfl (news1d A9) (lCells_one _) (by unfold maxLen; omega) (by omega) hkk ?_; intro v2 w16 hown2 hgrow2 hne2)
        have R3 := R9.grow hown2 hgrow2 (fun h => R9.nn (hne2.1 h).1) (by intro z hz; simp only [List.mem_cons, List.not_mem_nil, or_false] at hz; subst hz; first | exact hy64.out | (unfold is64; omega))
        exact ⟨⟨m + 1, k - 1, _, by omega, by rw [show ((k - 1 : Nat) : Int) = (k : Int) - 1 by omega], R3⟩, by simp [intOf]; omega⟩
    · obtain rfl : k = 0 := by omega
      obtain rfl : m = inp := by omega
      go_wp2
      exact bodyPost_ret (v := .slice (some ⟨g7, 0, none⟩) _ c7) (by simp [results, Try.results59, go_sem]) rfl ⟨_, _, rfl, R⟩
set_option maxRecDepth 100000 in
set_option maxHeartbeats 12800000 in
theorem drawAny_any {w : World} {p : Nat} {a : Option Addr} {len cap : Nat} (hc : Cur w p a len cap) (inp : Int) (hi0 : 0 ≤ inp) (hi1 : inp ≤ 1000) :
    Calls Try.prog 58 #[.pointer (some ⟨p, 0, none⟩), .int .i64 inp] w (DtP w p a len cap 201) := by
  obtain ⟨i0, hj0, hz0, hz1, hz2⟩ := info_parts infoSt
  go_enter Try.func58, Try.ntmps58
  go_wp2_with fail
  refine (drawTape_any hc inp hi0 hi1).mono ?_
  rintro e w1 ⟨v, m, l, rfl, hm13, R⟩
  clear hc
  obtain ⟨g7, c7, rfl⟩ := R.open
  go_wp2_with fail
  refine (once_dr R.st 14 (by omega) (by omega)).mono ?_
  rintro e w2 ⟨b1, rfl, hd⟩
  replace R := R.draw hd
  clear hd
  cases b1
  · skip
    go_wp2_with fail
    refine (once_dr R.st 40 (by omega) (by omega)).mono ?_
    rintro e w20 ⟨b2, rfl, hd⟩
    replace R := R.draw hd
    clear hd
    cases b2
    · go_wp2
      exact bodyPost_ret (v := .slice (some ⟨g7, 0, none⟩) m c7) (by simp [results, Try.results58, go_sem]) rfl ⟨_, _, _, rfl, by omega, R⟩
    · go_wp2
      go_loopw [5] (fun s wr => ∃ (m : Nat) (l : List Int), m ≤ 201 ∧ LG 46 3 w wr p a len cap s m l) (fun s _ => 201 - sLen s)
      case atStart => exact ⟨_, _, by omega, R⟩
      case round =>
        clear R
        obtain ⟨m, l, hm201, R⟩ := hrel
        obtain ⟨g7, c7, rfl⟩ := R.open
        go_wp2_with fail
        refine (below_dr R.st (2) (by omega) (by omega)).mono ?_
        rintro e w21 ⟨x8, rfl, x80, x81, hd⟩
        replace R := R.draw hd
        clear hd
        by_cases hc9 : (m : Int) < 200 + x8
        · skip
          obtain ⟨V9, hV9, A9, b10, -⟩ := boxed w21 46 #[.int .i64 5, .int .i64 3, .int .i64 0]
          have R9 := R.below b10
          have hkk : w.heap.size ≤ V9.heap.size := R9.kp.size
          obtain ⟨g9, hg9⟩ : ∃ g, w21.heap.size = g := ⟨_, rfl⟩
          rw [hg9] at A9
          have hb2 : ∀ w, (Instr.buildSlice 27 1 #[(0, .agg #[.int .i64 5, .int .i64 3, .int .i64 0])]).run Try.prog w = .ok (.slice (some ⟨w.heap.size, 0, none⟩) 1 1) (w.alloc (.cells #[.int .i64 5, .int .i64 3, .int .i64 0] 46)) := fun _ => by kernel_rfl
          clear b10 R
          go_wp2_with (at_builtin; refine wpList_append_own _ rfl _ _ _ rfl w.heap.size 46 i0 _ 3 24 Try.underlying27 hj0 hz0 hz1 hz2 rfl (by omega) (.slice (some ⟨g7, 0, none⟩) m c7) m (lCells l) rfl R9.own ⟨g9, 0, none⟩ 1 1 (lCells [5, 3, 0]) rfl rfl (news3d A9) (lCells_one _) (by unfold maxLen; omega) (by omega) hkk ?_; intro v2 w16 hown2 hgrow2 hne2)
          have R3 := R9.grow hown2 hgrow2 (fun h => R9.nn (hne2.1 h).1) (by intro z hz; simp only [List.mem_cons, List.not_mem_nil, or_false] at hz; unfold is64; omega)
          obtain ⟨g8, c8, rfl⟩ := R3.open
          exact ⟨⟨m + 1, _, by omega, R3⟩, by simp [sLen]; omega⟩
        · go_wp2
          exact bodyPost_ret (v := .slice (some ⟨g7, 0, none⟩) m c7) (by simp [results, Try.results58, go_sem]) rfl ⟨_, _, _, rfl, by omega, R⟩
  by_cases hm0 : 0 < m
  · have hm0' : (0 : Int) < (m : Int) := by omega
    go_wp2_with fail
    refine (below_dr R.st ((m : Int)) (by omega) (by omega)).mono ?_
    rintro e w3 ⟨xi, rfl, xi0, xi1, hd⟩
    replace R := R.draw hd
    clear hd
    obtain ⟨i, rfl⟩ : ∃ i : Nat, xi = (i : Int) := ⟨xi.toNat, by omega⟩
    go_wp2_with fail
    refine (below_dr R.st (3) (by omega) (by omega)).mono ?_
    rintro e w4 ⟨j, rfl, j0, j1, hd⟩
    replace R := R.draw hd
    clear hd
    rcases (by omega : j = 0 ∨ j = 1 ∨ j = 2) with rfl | rfl | rfl
    · skip
      go_wp2_with fail
      refine (from_dr R.st (0) 6 (by omega) (by omega) (by omega) (by omega)).mono ?_
      rintro e w5 ⟨x, rfl, x0, x1, hd⟩
      replace R := R.draw hd
      clear hd
      obtain ⟨d0, f0⟩ := R.cell (i := i * 3) (by omega)
      replace R := R.set (i * 3) (x) (by first | assumption | (unfold is64; omega))
      obtain ⟨W14, hW14⟩ : ∃ W, w5.setCell ⟨g7, i * 3, none⟩ (.int .i64 (x)) = W := ⟨_, rfl⟩
      rw [hW14] at R
      go_wp2_with fail
      refine (once_dr R.st 40 (by omega) (by omega)).mono ?_
      rintro e w20 ⟨b2, rfl, hd⟩
      replace R := R.draw hd
      clear hd
      cases b2
      · go_wp2
        exact bodyPost_ret (v := .slice (some ⟨g7, 0, none⟩) m c7) (by simp [results, Try.results58, go_sem]) rfl ⟨_, _, _, rfl, by omega, R⟩
      · go_wp2
        go_loopw [5] (fun s wr => ∃ (m : Nat) (l : List Int), m ≤ 201 ∧ LG 46 3 w wr p a len cap s m l) (fun s _ => 201 - sLen s)
        case atStart => exact ⟨_, _, by omega, R⟩
        case round =>
          clear R
          obtain ⟨m, l, hm201, R⟩ := hrel
          obtain ⟨g7, c7, rfl⟩ := R.open
          go_wp2_with fail
          refine (below_dr R.st (2) (by omega) (by omega)).mono ?_
          rintro e w21 ⟨x8, rfl, x80, x81, hd⟩
          replace R := R.draw hd
          clear hd
          by_cases hc9 : (m : Int) < 200 + x8
          · skip
            obtain ⟨V9, hV9, A9, b10, -⟩ := boxed w21 46 #[.int .i64 5, .int .i64 3, .int .i64 0]
            have R9 := R.below b10
            have hkk : w.heap.size ≤ V9.heap.size := R9.kp.size
            obtain ⟨g9, hg9⟩ : ∃ g, w21.heap.size = g := ⟨_, rfl⟩
            rw [hg9] at A9
            have hb2 : ∀ w, (Instr.buildSlice 27 1 #[(0, .agg #[.int .i64 5, .int .i64 3, .int .i64 0])]).run Try.prog w = .ok (.slice (some ⟨w.heap.size, 0, none⟩) 1 1) (w.alloc (.cells #[.int .i64 5, .int .i64 3, .int .i64 0] 46)) := fun _ => by kernel_rfl
            clear b10 R
            go_wp2_with (at_builtin; refine wpList_append_own _ rfl _ _ _ rfl w.heap.size 46 i0 _ 3 24 Try.underlying27 hj0 hz0 hz1 hz2 rfl (by omega) (.slice (some ⟨g7, 0, none⟩) m c7) m (lCells l) rfl R9.own ⟨g9, 0, none⟩ 1 1 (lCells [5, 3, 0]) rfl rfl (news3d A9) (lCells_one _) (by unfold maxLen; omega) (by omega) hkk ?_; intro v2 w16 hown2 hgrow2 hne2)
            have R3 := R9.grow hown2 hgrow2 (fun h => R9.nn (hne2.1 h).1) (by intro z hz; simp only [List.mem_cons, List.not_mem_nil, or_false] at hz; unfold is64; omega)
            obtain ⟨g8, c8, rfl⟩ := R3.open
            exact ⟨⟨m + 1, _, by omega, R3⟩, by simp [sLen]; omega⟩
          · go_wp2
            exact bodyPost_ret (v := .slice (some ⟨g7, 0, none⟩) m c7) (by simp [results, Try.results58, go_sem]) rfl ⟨_, _, _, rfl, by omega, R⟩
    · go_wp2_with fail
      refine (odd_any ⟨Kept.refl _ _, R.cur, R.cur.lt⟩).mono ?_
      rintro e w5 ⟨x, rfl, hx64, hd⟩
      replace R := R.draw hd
      clear hd
      obtain ⟨d0, f0⟩ := R.cell (i := i * 3 + 1) (by omega)
      replace R := R.set (i * 3 + 1) (x) (by first | assumption | (unfold is64; omega))
      obtain ⟨W14, hW14⟩ : ∃ W, w5.setCell ⟨g7, i * 3 + 1, none⟩ (.int .i64 (x)) = W := ⟨_, rfl⟩
      rw [hW14] at R
      go_wp2_with fail
      refine (once_dr R.st 40 (by omega) (by omega)).mono ?_
      rintro e w20 ⟨b2, rfl, hd⟩
      replace R := R.draw hd
      clear hd
      cases b2
      · go_wp2
        exact bodyPost_ret (v := .slice (some ⟨g7, 0, none⟩) m c7) (by simp [results, Try.results58, go_sem]) rfl ⟨_, _, _, rfl, by omega, R⟩
      · go_wp2
        go_loopw [5] (fun s wr => ∃ (m : Nat) (l : List Int), m ≤ 201 ∧ LG 46 3 w wr p a len cap s m l) (fun s _ => 201 - sLen s)
        case atStart => exact ⟨_, _, by omega, R⟩
        case round =>
          clear R
          obtain ⟨m, l, hm201, R⟩ := hrel
          obtain ⟨g7, c7, rfl⟩ := R.open
          go_wp2_with fail
          refine (below_dr R.st (2) (by omega) (by omega)).mono ?_
          rintro e w21 ⟨x8, rfl, x80, x81, hd⟩
          replace R := R.draw hd
          clear hd
          by_cases hc9 : (m : Int) < 200 + x8
          · skip
            obtain ⟨V9, hV9, A9, b10, -⟩ := boxed w21 46 #[.int .i64 5, .int .i64 3, .int .i64 0]
            have R9 := R.below b10
            have hkk : w.heap.size ≤ V9.heap.size := R9.kp.size
            obtain ⟨g9, hg9⟩ : ∃ g, w21.heap.size = g := ⟨_, rfl⟩
            rw [hg9] at A9
            have hb2 : ∀ w, (Instr.buildSlice 27 1 #[(0, .agg #[.int .i64 5, .int .i64 3, .int .i64 0])]).run Try.prog w = .ok (.slice (some ⟨w.heap.size, 0, none⟩) 1 1) (w.alloc (.cells #[.int .i64 5, .int .i64 3, .int .i64 0] 46)) := fun _ => by kernel_rfl
            clear b10 R
            go_wp2_with (at_builtin; refine wpList_append_own _ rfl _ _ _ rfl w.heap.size 46 i0 _ 3 24 Try.underlying27 hj0 hz0 hz1 hz2 rfl (by omega) (.slice (some ⟨g7, 0, none⟩) m c7) m (lCells l) rfl R9.own ⟨g9, 0, none⟩ 1 1 (lCells [5, 3, 0]) rfl rfl (news3d A9) (lCells_one _) (by unfold maxLen; omega) (by omega) hkk ?_; intro v2 w16 hown2 hgrow2 hne2)
            have R3 := R9.grow hown2 hgrow2 (fun h => R9.nn (hne2.1 h).1) (by intro z hz; simp only [List.mem_cons, List.not_mem_nil, or_false] at hz; unfold is64; omega)
            obtain ⟨g8, c8, rfl⟩ := R3.open
            exact ⟨⟨m + 1, _, by omega, R3⟩, by simp [sLen]; omega⟩
          · go_wp2
            exact bodyPost_ret (v := .slice (some ⟨g7, 0, none⟩) m c7) (by simp [results, Try.results58, go_sem]) rfl ⟨_, _, _, rfl, by omega, R⟩
    · obtain ⟨y, hy⟩ : ∃ y, l.getD (i * 3 + 2) 0 = y := ⟨_, rfl⟩
      obtain ⟨X, hX⟩ : ∃ X, wrap64 (y + 1) = X := ⟨_, rfl⟩
      have hX64 : is64 X := by rw [← hX]; unfold is64 wrap64; omega
      obtain ⟨d0, f0⟩ := R.cell (i := i * 3 + 2) (by omega)
      replace R := R.set (i * 3 + 2) (X) (by first | assumption | (unfold is64; omega))
      obtain ⟨W14, hW14⟩ : ∃ W, w4.setCell ⟨g7, i * 3 + 2, none⟩ (.int .i64 (X)) = W := ⟨_, rfl⟩
      rw [hW14] at R
      rw [hy] at d0
      clear hy
      go_wp2_with fail
      refine (once_dr R.st 40 (by omega) (by omega)).mono ?_
      rintro e w20 ⟨b2, rfl, hd⟩
      replace R := R.draw hd
      clear hd
      cases b2
      · go_wp2
        exact bodyPost_ret (v := .slice (some ⟨g7, 0, none⟩) m c7) (by simp [results, Try.results58, go_sem]) rfl ⟨_, _, _, rfl, by omega, R⟩
      · go_wp2
        go_loopw [5] (fun s wr => ∃ (m : Nat) (l : List Int), m ≤ 201 ∧ LG 46 3 w wr p a len cap s m l) (fun s _ => 201 - sLen s)
        case atStart => exact ⟨_, _, by omega, R⟩
        case round =>
          clear R
          obtain ⟨m, l, hm201, R⟩ := hrel
          obtain ⟨g7, c7, rfl⟩ := R.open
          go_wp2_with fail
          refine (below_dr R.st (2) (by omega) (by omega)).mono ?_
          rintro e w21 ⟨x8, rfl, x80, x81, hd⟩
          replace R := R.draw hd
          clear hd
          by_cases hc9 : (m : Int) < 200 + x8
          · skip
            obtain ⟨V9, hV9, A9, b10, -⟩ := boxed w21 46 #[.int .i64 5, .int .i64 3, .int .i64 0]
            have R9 := R.below b10
            have hkk : w.heap.size ≤ V9.heap.size := R9.kp.size
            obtain ⟨g9, hg9⟩ : ∃ g, w21.heap.size = g := ⟨_, rfl⟩
            rw [hg9] at A9
            have hb2 : ∀ w, (Instr.buildSlice 27 1 #[(0, .agg #[.int .i64 5, .int .i64 3, .int .i64 0])]).run Try.prog w = .ok (.slice (some ⟨w.heap.size, 0, none⟩) 1 1) (w.alloc (.cells #[.int .i64 5, .int .i64 3, .int .i64 0] 46)) := fun _ => by kernel_rfl
            clear b10 R
            go_wp2_with (at_builtin; refine wpList_append_own _ rfl _ _ _ rfl w.heap.size 46 i0 _ 3 24 Try.underlying27 hj0 hz0 hz1 hz2 rfl (by omega) (.slice (some ⟨g7, 0, none⟩) m c7) m (lCells l) rfl R9.own ⟨g9, 0, none⟩ 1 1 (lCells [5, 3, 0]) rfl rfl (news3d A9) (lCells_one _) (by unfold maxLen; omega) (by omega) hkk ?_; intro v2 w16 hown2 hgrow2 hne2)
            have R3 := R9.grow hown2 hgrow2 (fun h => R9.nn (hne2.1 h).1) (by intro z hz; simp only [List.mem_cons, List.not_mem_nil, or_false] at hz; unfold is64; omega)
            obtain ⟨g8, c8, rfl⟩ := R3.open
            exact ⟨⟨m + 1, _, by omega, R3⟩, by simp [sLen]; omega⟩
          · go_wp2
            exact bodyPost_ret (v := .slice (some ⟨g7, 0, none⟩) m c7) (by simp [results, Try.results58, go_sem]) rfl ⟨_, _, _, rfl, by omega, R⟩
  · have hm0' : ¬ (0 : Int) < (m : Int) := by omega
    go_wp2_with fail
    refine (once_dr R.st 40 (by omega) (by omega)).mono ?_
    rintro e w20 ⟨b2, rfl, hd⟩
    replace R := R.draw hd
    clear hd
    cases b2
    · go_wp2
      exact bodyPost_ret (v := .slice (some ⟨g7, 0, none⟩) m c7) (by simp [results, Try.results58, go_sem]) rfl ⟨_, _, _, rfl, by omega, R⟩
    · go_wp2
      go_loopw [5] (fun s wr => ∃ (m : Nat) (l : List Int), m ≤ 201 ∧ LG 46 3 w wr p a len cap s m l) (fun s _ => 201 - sLen s)
      case atStart => exact ⟨_, _, by omega, R⟩
      case round =>
        clear R
        obtain ⟨m, l, hm201, R⟩ := hrel
        obtain ⟨g7, c7, rfl⟩ := R.open
        go_wp2_with fail
        refine (below_dr R.st (2) (by omega) (by omega)).mono ?_
        rintro e w21 ⟨x8, rfl, x80, x81, hd⟩
        replace R := R.draw hd
        clear hd
        by_cases hc9 : (m : Int) < 200 + x8
        · skip
          obtain ⟨V9, hV9, A9, b10, -⟩ := boxed w21 46 #[.int .i64 5, .int .i64 3, .int .i64 0]
          have R9 := R.below b10
          have hkk : w.heap.size ≤ V9.heap.size := R9.kp.size
          obtain ⟨g9, hg9⟩ : ∃ g, w21.heap.size = g := ⟨_, rfl⟩
          rw [hg9] at A9
          have hb2 : ∀ w, (Instr.buildSlice 27 1 #[(0, .agg #[.int .i64 5, .int .i64 3, .int .i64 0])]).run Try.prog w = .ok (.slice (some ⟨w.heap.size, 0, none⟩) 1 1) (w.alloc (.cells #[.int .i64 5, .int .i64 3, .int .i64 0] 46)) := fun _ => by kernel_rfl
          clear b10 R
          go_wp2_with (at_builtin; refine wpList_append_own _ rfl _ _ _ rfl w.heap.size 46 i0 _ 3 24 Try.underlying27 hj0 hz0 hz1 hz2 rfl (by omega) (.slice (some ⟨g7, 0, none⟩) m c7) m (lCells l) rfl R9.own ⟨g9, 0, none⟩ 1 1 (lCells [5, 3, 0]) rfl rfl (news3d A9) (lCells_one _) (by unfold maxLen; omega) (by omega) hkk ?_; intro v2 w16 hown2 hgrow2 hne2)
          have R3 := R9.grow hown2 hgrow2 (fun h => R9.nn (hne2.1 h).1) (by intro z hz; simp only [List.mem_cons, List.not_mem_nil, or_false] at hz; unfold is64; omega)
          obtain ⟨g8, c8, rfl⟩ := R3.open
          exact ⟨⟨m + 1, _, by omega, R3⟩, by simp [sLen]; omega⟩
        · go_wp2
          exact bodyPost_ret (v := .slice (some ⟨g7, 0, none⟩) m c7) (by simp [results, Try.results58, go_sem]) rfl ⟨_, _, _, rfl, by omega, R⟩
end Go.Proofs.Ytloailicdoknbaa
