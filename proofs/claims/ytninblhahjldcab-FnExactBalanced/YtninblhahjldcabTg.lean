/-
  Balanced, by the specification: walked. The law.
-/
import Derived.Test.YtninblhahjldcabTf
import Derived.BigRegion
namespace Go.Proofs.Ytninblhahjldcab
open Go.RowKit

set_option maxRecDepth 100000 in
set_option maxHeartbeats 1000000 in
theorem specBal_yes (s : ByteArray) (w : World) (h : rowOk s 1000 = true) : Calls Try.prog 13 #[.string s] w fun e w' => BalT s e ∧ Below w.heap.size w w' := by
  obtain ⟨hs, -⟩ := rowOk_iff.1 h
  have hs' : s.size ≤ 1000 := by omega
  go_enter Try.func13, Try.ntmps13
  go_wp2_with (go_at_call 18; refine (l9Row_any _ _ _ (by decide)).mono ?_; rintro e w2 ⟨rfl, rfl⟩; rw [h])
  have o0 : (w.alloc (.cells #[.int .i64 0] 3)).ownsRow w.heap.size 3 1 (.slice (some ⟨w.heap.size, 0, none⟩) 1 1) 1 (jCells (la s) 1) := ⟨rfl, .inr ⟨w.heap.size, 1, #[.int .i64 0], rfl, Nat.le_refl _, heap_alloc_new w _, Nat.le_refl _, by decide, rfl, rfl⟩⟩
  go_loopw [3, 4] (fun v t wr => ∃ (k : Nat), k ≤ s.size ∧ v ≠ .slice none 0 0 ∧ wr.ownsRow w.heap.size 3 1 v (k + 1) (jCells (la s) (k + 1)) ∧ t = .int .i64 k ∧ Below w.heap.size w wr) (fun _ t _ => s.size - (intOf t).toNat)
  case atStart => exact ⟨0, Nat.zero_le _, (by intro h; cases h), o0, rfl, below_alloc _ _⟩
  case round =>
    obtain ⟨k, hk, hne, own, rfl, bW⟩ := hrel
    clear o0
    obtain ⟨i0, hi0, hz0, hz1, hz2⟩ := info_parts infoN
    have lw2 := bW.size
    obtain ⟨g0, c0, rfl, hg0, hc0, hc1, hI⟩ := ints_of_row own hne
    by_cases hlt : k < s.size
    · have hlt' : (k : Int) < s.size := by omega
      have hix := sb_ix s k k rfl hlt
      have lb := la_bound s k
      obtain ⟨lb0, lb1⟩ := lb
      have HS : Hid (la s (k + 1) = la s k + (if sb s k = 76 then 1 else 0)) := rfl
      have hcl := hI.2 k (by omega)
      obtain ⟨x, hx⟩ : ∃ x, la s k = x := ⟨_, rfl⟩
      rw [hx] at lb0 lb1 hcl
      obtain ⟨C, hC⟩ : ∃ C, jCells (la s) (k + 1) = C := ⟨_, rfl⟩
      have hCl : C.length = (k + 1) * 1 := by rw [← hC, jCells_len]; omega
      rw [hC] at own
      have hk2 : (k : Int) < (k : Int) + 1 := by omega
      clear hI hne
      by_cases h1 : sb s k = 76
      · have h1' : (sb s k == 76) = true := by simp [h1]
        have HX : Hid (la s (k + 1) = x + 1) := by show la s (k + 1) = x + 1; rw [HS.out, hx, if_pos h1]
        have bA : Below w.heap.size w (wr.alloc (.cells #[.int .i64 (x + 1)] 3)) := bW.alloc bW.size _
        clear hx HS
        have HC : Hid (jCells (la s) (k + 1) = C) := hC
        clear hC
        go_wp2_with (at_builtin; refine wpList_append_lies _ rfl _ _ _ rfl w.heap.size 3 i0 _ 1 8 Try.underlying41 hi0 hz0 hz1 hz2 rfl (by omega) _ (k + 1) C rfl (own.alloc _) ⟨wr.heap.size, 0, none⟩ 1 1 [.int .i64 (x + 1)] rfl rfl (World.news_of_block (cs := #[.int .i64 (x + 1)]) (t := 3) (fr := (0, 0)) (heap_alloc_new wr _)) (by simp [Value.oneCell']) (by omega) (by unfold maxLen; omega) (by omega) (by simp; omega) (wr.heap.size + 1) (by simp) ?_; intro g gcap w2 hown2 hgrow hat hlt3)
        refine ⟨⟨k + 1, by omega, (by intro h; cases h), ?_, by go_num, below_grown9 bA hgrow (fun b hb => ownBlock_ge9 own hb) bA.size⟩, by simp [intOf]; omega⟩
        rw [jCells, HC.out, HX.out]; exact hown2
      · have h1' : (sb s k == 76) = false := by simp [h1]
        have HX : Hid (la s (k + 1) = x) := by show la s (k + 1) = x; rw [HS.out, hx, if_neg h1]; omega
        have bA : Below w.heap.size w (wr.alloc (.cells #[.int .i64 x] 3)) := bW.alloc bW.size _
        clear hx HS
        have HC : Hid (jCells (la s) (k + 1) = C) := hC
        clear hC
        go_wp2_with (at_builtin; refine wpList_append_lies _ rfl _ _ _ rfl w.heap.size 3 i0 _ 1 8 Try.underlying41 hi0 hz0 hz1 hz2 rfl (by omega) _ (k + 1) C rfl (own.alloc _) ⟨wr.heap.size, 0, none⟩ 1 1 [.int .i64 (x)] rfl rfl (World.news_of_block (cs := #[.int .i64 (x)]) (t := 3) (fr := (0, 0)) (heap_alloc_new wr _)) (by simp [Value.oneCell']) (by omega) (by unfold maxLen; omega) (by omega) (by simp; omega) (wr.heap.size + 1) (by simp) ?_; intro g gcap w2 hown2 hgrow hat hlt3)
        refine ⟨⟨k + 1, by omega, (by intro h; cases h), ?_, by go_num, below_grown9 bA hgrow (fun b hb => ownBlock_ge9 own hb) bA.size⟩, by simp [intOf]; omega⟩
        rw [jCells, HC.out, HX.out]; exact hown2
    · have hlt' : ¬ (k : Int) < s.size := by omega
      obtain rfl : k = s.size := by omega
      have HI : Hid (IntsAt wr g0 (s.size + 1) (la s)) := hI
      clear hI own hne
      go_wp2
      go_loopw [6] (fun t wv => ∃ n : Nat, 1 ≤ n ∧ n ≤ s.size + 1 ∧ t = .int .i64 n ∧ IntsAt wv g0 (s.size + 1) (la s) ∧ Below w.heap.size w wv ∧ ∀ m, m < n → ¬ unev s m) (fun t _ => s.size + 1 - (intOf t).toNat)
      case atStart => exact ⟨1, by omega, by omega, rfl, HI.out, bW, fun m hm => by rw [show m = 0 by omega]; exact unev_0 s⟩
      case round =>
        clear HI bW lw2 hlt hlt' hk
        obtain ⟨n, hn0, hn1, rfl, hI, bW, hall⟩ := hrel
        have HA : Hid (∀ m, m < n → ¬ unev s m) := hall
        clear hall
        by_cases hlt : n ≤ s.size
        · have hlt' : (n : Int) ≤ s.size := by omega
          have HI : Hid (IntsAt wr g0 (s.size + 1) (la s)) := hI
          clear hI
          go_wp2
          go_loopw [7, 8, 9] (fun l h t wv => ∃ (k : Nat) (lo hi : Int), n + k ≤ s.size + 1 ∧ Mm s n k lo hi ∧ (k = 0 → lo = n + 1 ∧ hi = -1) ∧ 0 ≤ lo ∧ lo ≤ n + 1 ∧ -1 ≤ hi ∧ hi ≤ n ∧ l = .int .i64 lo ∧ h = .int .i64 hi ∧ t = .int .i64 k ∧ IntsAt wv g0 (s.size + 1) (la s) ∧ Below w.heap.size w wv) (fun _ _ t _ => s.size + 1 - (intOf t).toNat)
          case atStart => exact ⟨0, n + 1, -1, by omega, Mm.none _ _ _ _, fun _ => ⟨rfl, rfl⟩, by omega, by omega, by omega, by omega, rfl, rfl, rfl, HI.out, bW⟩
          case round =>
            clear HI bW
            obtain ⟨k, lo, hi, hk, hM, h0, l0, l1, i0, i1, rfl, rfl, rfl, hI, bW⟩ := hrel
            have HM : Hid (Mm s n k lo hi) := hM
            have H0 : Hid (k = 0 → lo = n + 1 ∧ hi = -1) := h0
            have HI : Hid (IntsAt wr g0 (s.size + 1) (la s)) := hI
            clear hM h0 hI
            by_cases hlk : k + n ≤ s.size
            · have hlk' : (k : Int) + n ≤ s.size := by omega
              have k1 : (k : Int) < (s.size : Int) + 1 := by omega
              have k2 : (k : Int) + n < (s.size : Int) + 1 := by omega
              obtain ⟨q, hq⟩ : ∃ q : Nat, (k : Int) + n = q := ⟨k + n, by omega⟩
              have hq2 : (q : Int) < (s.size : Int) + 1 := by omega
              have c1 := HI.out.2 q (by omega)
              have c2 := HI.out.2 k (by omega)
              have b1 := la_bound s q
              have b2 := la_bound s k
              have b3 := ln_bound s n k
              obtain ⟨d, hd⟩ : ∃ d, la s q - la s k = d := ⟨_, rfl⟩
              have hdl : ln s n k = d := by rw [← hd, show q = n + k by omega]; rfl
              rw [hdl] at b3
              obtain ⟨b30, b31⟩ := b3
              have HD : Hid (ln s n k = d) := hdl
              obtain ⟨x, hx⟩ : ∃ x, la s q = x := ⟨_, rfl⟩
              obtain ⟨y, hy⟩ : ∃ y, la s k = y := ⟨_, rfl⟩
              rw [hx] at c1 b1 hd
              rw [hy] at c2 b2 hd
              obtain ⟨b10, b11⟩ := b1
              obtain ⟨b20, b21⟩ := b2
              clear hdl hx hy
              have w1 : IntKind.i64.wrap (q : Int) = (q : Int) := IntWalk.i64_in _ (by omega)
              have w2 : IntKind.i64.wrap d = d := IntWalk.i64_in _ (by omega)
              go_wp2
              go_region
              have hst := HM.out.step (fun e => by have := H0.out e; subst e; rw [HD.out]; omega)
              rw [HD.out] at hst
              by_cases e1 : d < lo
              · rw [show min lo d = d by omega] at hst
                by_cases e2 : hi < d
                · rw [show max hi d = d by omega] at hst
                  have HT : Hid (Mm s n (k + 1) d d) := hst
                  clear hst
                  go_wp2
                  exact ⟨⟨k + 1, d, d, by omega, HT.out, fun e => by omega, by omega, by omega, by omega, by omega, rfl, rfl, by go_num, HI.out, bW.drew⟩, by simp [intOf]; omega⟩
                · rw [show max hi d = hi by omega] at hst
                  have HT : Hid (Mm s n (k + 1) d hi) := hst
                  clear hst
                  go_wp2
                  exact ⟨⟨k + 1, d, hi, by omega, HT.out, fun e => by omega, by omega, by omega, by omega, by omega, rfl, rfl, by go_num, HI.out, bW.drew⟩, by simp [intOf]; omega⟩
              · rw [show min lo d = lo by omega] at hst
                by_cases e2 : hi < d
                · rw [show max hi d = d by omega] at hst
                  have HT : Hid (Mm s n (k + 1) lo d) := hst
                  clear hst
                  go_wp2
                  exact ⟨⟨k + 1, lo, d, by omega, HT.out, fun e => by omega, by omega, by omega, by omega, by omega, rfl, rfl, by go_num, HI.out, bW.drew⟩, by simp [intOf]; omega⟩
                · rw [show max hi d = hi by omega] at hst
                  have HT : Hid (Mm s n (k + 1) lo hi) := hst
                  clear hst
                  go_wp2
                  exact ⟨⟨k + 1, lo, hi, by omega, HT.out, fun e => by omega, by omega, by omega, by omega, by omega, rfl, rfl, by go_num, HI.out, bW.drew⟩, by simp [intOf]; omega⟩
            · have hlk' : ¬ (k : Int) + n ≤ s.size := by omega
              by_cases hu : unev s n
              · have hd := (HM.out.done (by omega) (by omega)).2 hu
                have HU : Hid (unev s n) := hu
                clear hu
                go_wp2
                go_ret
                exact ⟨balT_no (by omega) HU.out, bW⟩
              · have hd : ¬ 1 < hi - lo := fun h => hu ((HM.out.done (by omega) (by omega)).1 h)
                have hd' := decide_eq_false hd
                have HU : Hid (¬ unev s n) := hu
                clear hu
                go_wp2
                refine ⟨⟨n + 1, by omega, by omega, by go_num, HI.out, bW, fun m hm => ?_⟩, by simp [intOf]; omega⟩
                by_cases e : m = n
                · rw [e]; exact HU.out
                · exact HA.out m (by omega)
        · have hlt' : ¬ (n : Int) ≤ s.size := by omega
          go_wp2
          go_ret
          exact ⟨balT_yes fun m hm => HA.out m (by omega), bW⟩
theorem specBal_no (s : ByteArray) (w : World) (h : rowOk s 1000 = false) : Calls Try.prog 13 #[.string s] w fun e w' => e = .returned (.bool false) ∧ Below w.heap.size w w' := by
  go_enter Try.func13, Try.ntmps13
  go_wp2_with (go_at_call 18; refine (l9Row_any _ _ _ (by decide)).mono ?_; rintro e w2 ⟨rfl, rfl⟩; rw [h])
  go_ret
  exact ⟨rfl, Below.refl _ _⟩
set_option maxHeartbeats 1000000 in
theorem exactBal_walk (s : ByteArray) (w : World) : Calls Try.prog 5 #[.string s] w fun e w' => e = .returned (.bool true) ∧ Below w.heap.size w w' := by
  by_cases h0 : (1048576 : Int) < s.size
  · go_enter Try.func5, Try.ntmps5
    go_wp2
    go_ret
    exact ⟨rfl, Below.refl _ _⟩
  · by_cases h : rowOk s 1000 = true
    · go_enter Try.func5, Try.ntmps5
      go_wp2_with (go_at_call 13; refine (specBal_yes _ _ h).mono ?_; rintro e w2 ⟨⟨b, hb, rfl⟩, b2⟩)
      go_wp2_with (go_at_call 14; refine (implBal_yes _ _ h).mono ?_; rintro e w3 ⟨⟨c, hc, rfl⟩, b3⟩; obtain rfl := Bool.eq_iff_iff.2 (hb.trans hc.symm); have hne := bne_self_eq_false b)
      go_ret
      exact ⟨rfl, b2.trans (b3.mono b2.size)⟩
    · have h : rowOk s 1000 = false := by simpa using h
      go_enter Try.func5, Try.ntmps5
      go_wp2_with (go_at_call 13; refine (specBal_no _ _ h).mono ?_; rintro e w2 ⟨rfl, b2⟩)
      go_wp2_with (go_at_call 14; refine (implBal_no _ _ h).mono ?_; rintro e w3 ⟨rfl, b3⟩)
      go_ret
      exact ⟨rfl, b2.trans (b3.mono b2.size)⟩
end Go.Proofs.Ytninblhahjldcab
