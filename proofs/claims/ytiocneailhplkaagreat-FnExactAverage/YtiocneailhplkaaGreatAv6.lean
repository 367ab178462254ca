/-
  The law of Average: walked.
-/
import Derived.Test.YtiocneailhplkaaGreatAv4
import Derived.Test.YtiocneailhplkaaGreatAv5
import Derived.Test.YtiocneailhplkaaGreatMT
namespace Go.Proofs.YtiocneailhplkaaGreat
open Go.RowKit

theorem szOpS_from {w : World} {a : Option Addr} {n cap : Nat} {A : Nat → OpD} (l : Int) (hl : 0 ≤ l ∧ l ≤ 1048576) (hS : OpsS w a n A) (hn : n ≤ maxLen) :
    Calls Tryz.prog 13 #[.slice a n cap, .int .i64 l] w fun e w' => ∃ r : Int, e = .returned (.int .i64 r) ∧ (r = -1 ∨ (0 ≤ r ∧ r ≤ 1048576 ∧ Short n A ∧ totN A n ≤ 1048576)) ∧ Below w.heap.size w w' := by
  unfold maxLen at hn
  obtain ⟨hl0, hl1⟩ := hl
  by_cases hb : l < n
  · have h1 : l - (n : Int) < 0 := by omega
    go_enter Tryz.func13, Tryz.ntmps13
    go_wp2
    go_ret
    exact ⟨_, rfl, .inl rfl, Below.refl _ _⟩
  · have h1 : ¬ l - (n : Int) < 0 := by omega
    go_enter Tryz.func13, Tryz.ntmps13
    go_wp2
    go_loopw [1, 5] (fun l s wr => ∃ (k : Nat) (r : Int), k ≤ n ∧ s = .int .i64 k ∧ l = .int .i64 r ∧ 0 ≤ r ∧ r + (totN A k : Int) ≤ 1048576 ∧ Hid (∀ i, i < k → (A i).n ≤ 1048576 ∧ (A i).k ≤ 1048576) ∧ Below w.heap.size w wr) (fun _ s _ => n - (intOf s).toNat)
    case atStart => exact ⟨0, _, Nat.zero_le _, rfl, rfl, by omega, by simp [totN]; omega, fun i hi => by omega, Below.refl _ _⟩
    case round =>
      obtain ⟨k, r, hk, rfl, rfl, hr0, hr1, hok, B⟩ := hrel
      by_cases hlt : k < n
      · have hlt' : (k : Int) < (n : Int) := by omega
        rcases hS.below B with h0 | ⟨g, off, rfl, hg, rr⟩
        · omega
        obtain ⟨x, c, y, d, e1, e2, s1, s2, m1, m2⟩ := rr k hlt
        obtain ⟨N, hN⟩ : ∃ N, (A k).n = N := ⟨_, rfl⟩
        obtain ⟨K, hK⟩ : ∃ N, (A k).k = N := ⟨_, rfl⟩
        rw [hN] at e1 m1
        rw [hK] at e2 m2
        clear rr s1 s2
        go_wp2_with fail
        refine (szOp_any x y N c K d r wr m1 m2 (by omega)).mono ?_
        rintro e w3 ⟨r', rfl, hr', b3⟩
        replace B := B.trans (b3.mono B.size)
        clear b3 e1 e2 m1 m2
        rcases hr' with rfl | ⟨he, hr'⟩
        · go_wp2
          go_ret
          exact ⟨_, rfl, .inl rfl, B⟩
        · have hr2 : ¬ r' < 0 := by omega
          have HO : Hid (∀ i, i < k + 1 → (A i).n ≤ 1048576 ∧ (A i).k ≤ 1048576) := fun i hi => by
            by_cases e : i = k
            · rw [e, hN, hK]; omega
            · exact hok.out i (by omega)
          have hr3 : r' + (totN A (k + 1) : Int) ≤ 1048576 := by simp only [totN]; rw [hN, hK]; omega
          clear hok he
          go_wp2
          exact ⟨⟨k + 1, r', by omega, by go_num, rfl, hr', hr3, HO, B⟩, by simp [intOf]; omega⟩
      · have hlt' : ¬ (k : Int) < (n : Int) := by omega
        obtain rfl : k = n := by omega
        go_wp2
        go_ret
        exact ⟨_, rfl, .inr ⟨hr0, by omega, ⟨by omega, hok.out⟩, by omega⟩, B⟩
set_option maxRecDepth 100000 in
set_option maxHeartbeats 800000 in
theorem markOpS_far {w : World} {lo hi g n c : Nat} {X Y : Nat → Value} {A : Nat → OpD} (h : OpsA w lo hi g n X Y A) (hn : n ≤ 1048576) (ht : totN A n ≤ 1048576) (x : Nat) (hx : x ≤ 2000000) :
    Calls Tryz.prog 19 #[.slice (some ⟨g, 0, none⟩) n c, .int .i64 (x : Int)] w fun e w' => e = .returned (.int .i64 ((x + totN A n : Nat) : Int)) ∧ OpsA w' lo hi g n X Y (marked A x) ∧ Turn lo hi w w' := by
  have hn' : (n : Int) ≤ 1048576 := by omega
  go_enter Tryz.func19, Tryz.ntmps19
  go_wp2
  go_loopw [1, 5] (fun k s wr => ∃ i : Nat, i ≤ n ∧ s = .int .i64 i ∧ k = .int .i64 ((x + totN A i : Nat) : Int) ∧ OpsA wr lo hi g n X Y (upTo A x i) ∧ Turn lo hi w wr) (fun _ s _ => n - (intOf s).toNat)
  case atStart => exact ⟨0, Nat.zero_le _, rfl, rfl, h, .of_below (Below.refl _ _)⟩
  case round =>
    obtain ⟨i, hi', rfl, rfl, H, T⟩ := hrel
    by_cases hlt : i < n
    · have hlt' : (i : Int) < (n : Int) := by omega
      have hui : upTo A x i i = A i := by simp [upTo]
      have hx1 := H.xs i hlt
      rw [hui] at hx1
      obtain ⟨N, hN⟩ : ∃ N, (A i).n = N := ⟨_, rfl⟩
      obtain ⟨K, hK⟩ : ∃ N, (A i).k = N := ⟨_, rfl⟩
      obtain ⟨z, hz⟩ : ∃ z, x + totN A i = z := ⟨_, rfl⟩
      have hlen : totN A i + N + K ≤ 1048576 := by
        have := totN_mono A (show i + 1 ≤ n by omega)
        simp only [totN, hN, hK] at this
        omega
      have hnext : Hid (x + totN A (i + 1) = z + N + K) := by show _ = _; simp only [totN, hN, hK]; omega
      rw [hN] at hx1
      obtain ⟨d1, e1, hX, -⟩ := hx1.src
      have hX' : Hid (X i = .slice d1 N e1) := hX
      obtain ⟨c0, c1⟩ := H.cells hlt
      rw [hX] at c0 hx1
      clear hX
      have hz' : Hid (x + totN A i = z) := hz
      rw [hz]
      clear hz c1
      go_wp2_with fail
      refine (markArr_any hx1 (by omega) z (by have := hz'.out; omega)).mono ?_
      rintro e w3 ⟨rfl, m1, o3⟩
      have T3 := T.trans (Turn.of_only o3 hx1)
      rw [← hX'.out] at m1 o3
      obtain ⟨A1, hA1⟩ : ∃ A1 : Nat → OpD, A1 = fun t => if t = i then ⟨N, fun j => (z + j : Nat), K, (A i).h⟩ else upTo A x i t := ⟨_, rfl⟩
      have hA1i : A1 i = ⟨N, fun j => (z + j : Nat), K, (A i).h⟩ := by rw [hA1]; simp
      have hA1t : ∀ t, t ≠ i → A1 t = upTo A x i t := fun t e => by rw [hA1]; simp [e]
      have H1 : OpsA w3 lo hi g n X Y A1 := H.mark1 hlt o3 (by rw [hA1i]; exact m1) hA1t (by rw [hA1i, hui]; exact ⟨hK.symm, rfl⟩)
      clear H m1 o3 hx1 c0 T
      have hy1 := H1.ys i hlt
      rw [hA1i] at hy1
      change Arr w3 lo hi (Y i) K (A i).h at hy1
      obtain ⟨d2, e2, hY, -⟩ := hy1.src
      have hY' : Hid (Y i = .slice d2 K e2) := hY
      obtain ⟨c0, c1⟩ := H1.cells hlt
      rw [hY] at c1 hy1
      clear hY c0
      go_wp2_with fail
      refine (markArr_any hy1 (by omega) (z + N) (by have := hz'.out; omega)).mono ?_
      rintro e w4 ⟨rfl, m2, o4⟩
      have T4 := T3.trans (Turn.of_only o4 hy1)
      rw [← hY'.out] at m2 o4
      have hu2 : upTo A x (i + 1) i = ⟨N, fun j => (z + j : Nat), K, fun j => (z + N + j : Nat)⟩ := by
        simp only [upTo, Nat.lt_succ_self, if_true, marked, hN, hK, hz'.out]
      have H2 : OpsA w4 lo hi g n X Y (upTo A x (i + 1)) := H1.mark2 hlt o4 (by rw [hu2]; exact m2) (fun t e => by
        rw [hA1t t e]
        unfold upTo
        by_cases h : t < i
        · rw [if_pos h, if_pos (by omega)]
        · rw [if_neg h, if_neg (by omega)]) (by rw [hu2, hA1i]; exact ⟨rfl, rfl⟩)
      clear H1 m2 o4 hy1 c1 T3
      go_wp2
      refine ⟨⟨i + 1, by omega, by go_num, ?_, H2, T4⟩, by simp [intOf]; omega⟩
      rw [hnext.out]
      go_num
    · obtain rfl : i = n := by omega
      have hlt' : ¬ (i : Int) < (i : Int) := by omega
      have H' : OpsA wr lo hi g i X Y (marked A x) := by
        refine ⟨H.blk, fun t ht' => ?_, fun t ht' => ?_, H.dj⟩
        · have := H.xs t ht'; unfold upTo at this; rwa [if_pos ht'] at this
        · have := H.ys t ht'; unfold upTo at this; rwa [if_pos ht'] at this
      go_wp2
      go_ret
      exact ⟨rfl, H', T⟩
/-- Both answers, with one side and one list of numbers. -/
theorem av_one (N : Int) (len n : Nat) (A : Nat → OpD) (f : Nat → Int) (hl : len ≤ 1048576) : ∃ (R : Int) (L : Nat) (E : Nat → Int), L ≤ 1048576 ∧ ∀ w e w', AvE w N len n A f e w' → ∃ a c, e = .returned (.agg #[.int .i64 R, .slice a L c]) ∧ Arr w' w.heap.size w'.heap.size (.slice a L c) L E ∧ Below w.heap.size w w' := by
  by_cases h : avO N len n A f
  · refine ⟨N, len, avF N n A f, hl, ?_⟩
    rintro w e w' ⟨⟨m, rfl, ⟨-, v, rfl, hA⟩ | ⟨h', -⟩⟩, hb⟩
    · obtain ⟨a, c, rfl, -⟩ := hA.src
      exact ⟨a, c, rfl, hA, hb⟩
    · exact absurd h h'
  · refine ⟨0, 0, fun _ => 0, by omega, ?_⟩
    rintro w e w' ⟨⟨m, rfl, ⟨h', -⟩ | ⟨-, rfl⟩⟩, hb⟩
    · exact absurd h' h
    · exact ⟨none, 0, rfl, .inl ⟨rfl, rfl⟩, hb⟩
set_option maxRecDepth 100000 in
set_option maxHeartbeats 6000000 in
theorem exactAverage_walk {w : World} {a a' : Option Addr} {len cap n cap' : Nat} {f : Nat → Int} {A : Nat → OpD} (N : Int) (hNb : -9223372036854775808 ≤ N ∧ N ≤ 9223372036854775807) (hs : Src w a len f) (hl : len ≤ maxLen) (hS : OpsS w a' n A) (hn : n ≤ maxLen) :
    Calls Tryz.prog 4 #[mV N (.slice a len cap), .slice a' n cap'] w fun e w' => e = .returned (.bool true) ∧ Below w.heap.size w w' := by
  have HS := hid_of hs
  have HO := hid_of hS
  clear hs hS
  obtain ⟨q2, hq2⟩ : ∃ q, w.heap.size = q := ⟨_, rfl⟩
  obtain ⟨W, hW, b0, bW, -⟩ := boxed w 34 #[.int .i64 N, .slice a len cap]
  rw [hq2] at b0
  have hwq : w.heap.size ≤ q2 := by omega
  have Q2 := hid_of b0
  have HB := hid_of bW
  obtain ⟨c0, c1, -⟩ := b0.open2
  clear b0 bW
  go_enter Tryz.func4, Tryz.ntmps4
  go_wp2_with fail
  refine (szMap_any N a len cap W hl).mono ?_
  rintro e w1 ⟨r, rfl, hr, b1⟩
  replace Q2 := hid_of (Q2.out.below b1)
  replace HB := hid_of (HB.out.trans (b1.mono HB.out.size))
  clear b1 hW c0 c1
  rcases hr with rfl | ⟨hr1, hr⟩
  · go_wp2
    go_ret
    exact ⟨rfl, HB.out⟩
  have hr' : ¬ r < 0 := by omega
  have hlen : len ≤ 1048576 := by omega
  have hrb : r ≤ 1048576 := by omega
  clear hr1
  go_wp2_with fail
  refine (szOpS_from r ⟨hr, hrb⟩ (HO.out.below HB.out) hn).mono ?_
  rintro e w2 ⟨r2, rfl, hr2, b2⟩
  replace Q2 := hid_of (Q2.out.below b2)
  replace HB := hid_of (HB.out.trans (b2.mono HB.out.size))
  clear b2
  rcases hr2 with rfl | ⟨hr20, -, hsh, htot⟩
  · go_wp2
    go_ret
    exact ⟨rfl, HB.out⟩
  have hr2' : ¬ r2 < 0 := by omega
  have HSH := hid_of hsh
  have HTT := hid_of htot
  clear hsh htot hr hrb hr'
  obtain ⟨R, L, E, hL, hM0⟩ := av_one N len n A f hlen
  have HM := hid_of hM0
  clear hM0
  obtain ⟨c0, c1, -⟩ := Q2.out.open2
  go_wp2_with fail
  refine (toMap_any N (HS.out.below HB.out) hlen).mono ?_
  rintro e w3 ⟨m3, rfl, M3, b3⟩
  obtain ⟨v3, rfl, A3⟩ := M3
  have HA3 := hid_of A3
  replace Q2 := hid_of (Q2.out.below b3)
  replace HB := hid_of (HB.out.trans (b3.mono HB.out.size))
  clear b3 A3 c0 c1
  go_wp2_with fail
  refine (toOpS_any (HO.out.below HB.out) HSH.out).mono ?_
  rintro e w4 ⟨g4, rfl, L4, b4⟩
  have HL4 := hid_of L4
  replace HA3 := hid_of (HA3.out.below b4)
  replace Q2 := hid_of (Q2.out.below b4)
  replace HB := hid_of (HB.out.trans (b4.mono HB.out.size))
  clear b4 L4
  go_wp2_with fail
  refine (specAverage_any HA3.out hlen HL4.out HSH.out.1).mono ?_
  rintro e w5 hv
  obtain ⟨a0, k0, rfl, hA0, b5⟩ := HM.out _ _ _ hv
  obtain ⟨lo0, el0⟩ : ∃ q, w4.heap.size = q := ⟨_, rfl⟩
  rw [el0] at hA0
  have hw0 : w.heap.size ≤ lo0 := el0 ▸ HB.out.size
  have hq20 : q2 < lo0 := by have := Q2.out.lt; omega
  replace Q2 := hid_of (Q2.out.below b5)
  replace HB := hid_of (HB.out.trans (b5.mono HB.out.size))
  obtain ⟨q6, hq6⟩ : ∃ q, w5.heap.size = q := ⟨_, rfl⟩
  have hs5 : lo0 ≤ q6 := by rw [← hq6, ← el0]; exact b5.size
  rw [hq6] at hA0
  obtain ⟨W5, hW5, a5, b6, -⟩ := boxed w5 26 #[.int .i64 R, .slice a0 L k0]
  rw [hq6] at a5
  have O0 := hid_of (hA0.below b6)
  replace Q2 := hid_of (Q2.out.below b6)
  have Q6 := hid_of a5
  replace HB := hid_of (HB.out.trans (b6.mono HB.out.size))
  clear hv hA0 b5 b6 a5 HL4 HA3 el0
  obtain ⟨c0, c1, -⟩ := Q2.out.open2
  go_wp2_with fail
  clear hW5 hq6
  refine (toMap_any N (HS.out.below HB.out) hlen).mono ?_
  rintro e w6 ⟨m6, rfl, M6, b6⟩
  obtain ⟨v6, rfl, A6⟩ := M6
  obtain ⟨a1, c1', rfl, -⟩ := A6.src
  obtain ⟨lo1, el1⟩ : ∃ q, W5.heap.size = q := ⟨_, rfl⟩
  rw [el1] at A6
  have h01 : q6 < lo1 := by have := Q6.out.lt; omega
  obtain ⟨q7, hq7⟩ : ∃ q, w6.heap.size = q := ⟨_, rfl⟩
  have hs6 : lo1 ≤ q7 := by rw [← hq7, ← el1]; exact b6.size
  rw [hq7] at A6
  replace O0 := hid_of (O0.out.below b6)
  replace Q2 := hid_of (Q2.out.below b6)
  replace Q6 := hid_of (Q6.out.below b6)
  replace HB := hid_of (HB.out.trans (b6.mono HB.out.size))
  obtain ⟨W6, hW6, a7, b7, -⟩ := boxed w6 26 #[.int .i64 N, .slice a1 len c1']
  rw [hq7] at a7
  have H1 := hid_of (A6.below b7)
  have Q7 := hid_of a7
  replace O0 := hid_of (O0.out.below b7)
  replace Q2 := hid_of (Q2.out.below b7)
  replace Q6 := hid_of (Q6.out.below b7)
  replace HB := hid_of (HB.out.trans (b7.mono HB.out.size))
  clear b6 b7 a7 A6 c0 c1 el1
  go_wp2_with fail
  clear hW6 hq7
  refine (toOpS_own (HO.out.below HB.out) HSH.out).mono ?_
  rintro e w7 ⟨X1, Y1, rfl, hO1, b8⟩
  obtain ⟨lo2, el2⟩ : ∃ q, W6.heap.size = q := ⟨_, rfl⟩
  rw [el2] at hO1 ⊢
  have h12 : q7 < lo2 := by have := Q7.out.lt; omega
  replace O0 := hid_of (O0.out.below b8)
  replace H1 := hid_of (H1.out.below b8)
  replace Q2 := hid_of (Q2.out.below b8)
  replace Q6 := hid_of (Q6.out.below b8)
  replace Q7 := hid_of (Q7.out.below b8)
  replace HB := hid_of (HB.out.trans (b8.mono HB.out.size))
  obtain ⟨lo3, el3⟩ : ∃ q, w7.heap.size = q := ⟨_, rfl⟩
  have h23 : lo2 ≤ lo3 := by rw [← el2, ← el3]; exact b8.size
  rw [el3] at hO1
  have O1 := hid_of hO1
  obtain ⟨c0, c1, -⟩ := Q7.out.open2
  clear hO1 b8 el2
  go_wp2_with fail
  refine (implAverage_any hNb H1.out hlen O1.out.opsL HSH.out.1).mono ?_
  rintro e w8 hv
  obtain ⟨a2, k2, rfl, hA2, b9⟩ := HM.out _ _ _ hv
  rw [el3] at hA2
  replace O0 := hid_of (O0.out.below b9)
  replace H1 := hid_of (H1.out.below b9)
  replace O1 := hid_of (O1.out.below b9)
  replace Q2 := hid_of (Q2.out.below b9)
  replace Q6 := hid_of (Q6.out.below b9)
  replace Q7 := hid_of (Q7.out.below b9)
  replace HB := hid_of (HB.out.trans (b9.mono HB.out.size))
  obtain ⟨q9, hq9⟩ : ∃ q, w8.heap.size = q := ⟨_, rfl⟩
  have h39 : lo3 ≤ q9 := by rw [← hq9, ← el3]; exact b9.size
  rw [hq9] at hA2
  obtain ⟨W8, hW8, a9, b10, -⟩ := boxed w8 26 #[.int .i64 R, .slice a2 L k2]
  rw [hq9] at a9
  have O2 := hid_of (hA2.below b10)
  have Q9 := hid_of a9
  replace O0 := hid_of (O0.out.below b10)
  replace H1 := hid_of (H1.out.below b10)
  replace O1 := hid_of (O1.out.below b10)
  replace Q2 := hid_of (Q2.out.below b10)
  replace Q6 := hid_of (Q6.out.below b10)
  replace Q7 := hid_of (Q7.out.below b10)
  replace HB := hid_of (HB.out.trans (b10.mono HB.out.size))
  clear hv hA2 b9 b10 a9 c0 c1 el3
  obtain ⟨c0, c1, -⟩ := Q9.out.open2
  obtain ⟨c2, c3, -⟩ := Q6.out.open2
  go_wp2_with fail
  clear hW8 hq9
  refine (eqMap_true (n := R) ⟨_, rfl, O2.out⟩ ⟨_, rfl, O0.out⟩ hL).mono ?_
  rintro e wq ⟨rfl, b11⟩
  replace O0 := hid_of (O0.out.below b11)
  replace H1 := hid_of (H1.out.below b11)
  replace O1 := hid_of (O1.out.below b11)
  replace O2 := hid_of (O2.out.below b11)
  replace Q2 := hid_of (Q2.out.below b11)
  replace Q6 := hid_of (Q6.out.below b11)
  replace Q7 := hid_of (Q7.out.below b11)
  replace Q9 := hid_of (Q9.out.below b11)
  replace HB := hid_of (HB.out.trans (b11.mono HB.out.size))
  clear b11 c0 c1 c2 c3
  have Q7u := Q7.out
  have Q2u := Q2.out
  go_wp2_with fail
  obtain ⟨u0, hu0, bb⟩ : ∃ uu, wq.drew = uu ∧ Below wq.heap.size wq uu := ⟨_, rfl, (Below.refl _ _).drew⟩
  replace Q7u := Q7u.below bb
  replace Q2u := Q2u.below bb
  have bk0 : Kb wq u0 := bb
  clear bb
  refine wp_region_held_drew (S := Kb u0) (by kernel_rfl) (by rw [hu0]; exact Below.refl _ _) (fun hHeld => ?_)
  rw [hu0] at hHeld ⊢
  clear hu0
  have bu : Kb u0 u0 := Below.refl _ _
  change wpAnyH _ _ _ _ _ 5 #[false, false, false, false, false] _ _
  refine wpAnyH_take (i := 0) (v := .agg #[.int .i64 N, .slice a1 len c1']) rfl (by kernel_rfl) (by kernel_rfl) (by kernel_rfl) (fun _ _ _ h => h) (Or.inl ⟨by kernel_rfl, ?_⟩) hHeld ?_
  · intro w' hSw; obtain ⟨z0, z1, -⟩ := (Q7u.below hSw).open2; go_simp
  try simp only [Act.put, List.setIfInBounds_toArray, List.set_cons_zero, List.set_cons_succ, List.getElem_toArray, List.getElem_cons_zero]
  refine wpAnyH_take (i := 1) (v := .agg #[.int .i64 N, .slice a len cap]) rfl (by kernel_rfl) (by kernel_rfl) (by kernel_rfl) (fun _ _ _ h => h) (Or.inl ⟨by kernel_rfl, ?_⟩) hHeld ?_
  · intro w' hSw; obtain ⟨z0, z1, -⟩ := (Q2u.below hSw).open2; go_simp
  try simp only [Act.put, List.setIfInBounds_toArray, List.set_cons_zero, List.set_cons_succ, List.getElem_toArray, List.getElem_cons_succ, List.getElem_cons_zero]
  refine wpAnyH_ready (rs := [2]) (by kernel_rfl) (by simp) ?_
  refine AllReadyH.cons rfl (fun KK hK' => ?_) AllReadyH.nil
  go_simp
  refine (toMap_any N (HS.out.below (HB.out.trans ((bk0.trans (Below.mono bu bk0.size)).mono HB.out.size))) hlen).mono ?_
  rintro e u1 ⟨mx, rfl, Mx, bb⟩
  obtain ⟨vx, rfl, Ax⟩ := Mx
  obtain ⟨ax, cx, rfl, -⟩ := Ax.src
  have HAX := hid_of Ax
  replace bu : Kb u0 u1 := bu.trans (bb.mono bu.size)
  clear bb Ax
  try go_wp2_with fail
  clear hHeld
  refine hK'.out _ _ (bu) (fun hHeld => ?_)
  clear hK' KK
  try simp only [List.setIfInBounds_toArray, List.set_cons_zero, List.set_cons_succ]
  refine wpAnyH_ready (rs := [3]) (by kernel_rfl) (by simp) ?_
  refine AllReadyH.cons rfl (fun KK hK' => ?_) AllReadyH.nil
  go_simp
  refine (eqMap_true (n := N) ⟨_, rfl, H1.out.below (bk0.trans (Below.mono bu bk0.size))⟩ ⟨_, rfl, HAX.out⟩ hlen).mono ?_
  rintro e u2 ⟨rfl, bb⟩
  replace bu : Kb u0 u2 := bu.trans (bb.mono bu.size)
  clear bb
  try go_wp2_with fail
  clear hHeld
  refine hK'.out _ _ (bu) (fun hHeld => ?_)
  clear hK' KK
  try simp only [List.setIfInBounds_toArray, List.set_cons_zero, List.set_cons_succ]
  refine wpAnyH_take (i := 4) (v := .bool false) rfl (by kernel_rfl) (by kernel_rfl) (by kernel_rfl) (fun _ _ _ h => h) (Or.inl ⟨by kernel_rfl, ?_⟩) hHeld ?_
  · intro w' hSw; go_simp
  try simp only [Act.put, List.setIfInBounds_toArray, List.set_cons_zero, List.set_cons_succ, List.getElem_toArray, List.getElem_cons_succ, List.getElem_cons_zero]
  refine wpAnyH_done (by kernel_rfl) ?_ _
  clear hHeld
  have bz := bk0.trans (Below.mono bu bk0.size)
  clear bu bk0 HAX
  obtain ⟨w9, hw9⟩ : ∃ W, W = u2 := ⟨_, rfl⟩
  subst hw9
  replace O0 := hid_of (O0.out.below bz)
  replace H1 := hid_of (H1.out.below bz)
  replace O1 := hid_of (O1.out.below bz)
  replace O2 := hid_of (O2.out.below bz)
  replace Q2 := hid_of (Q2.out.below bz)
  replace Q6 := hid_of (Q6.out.below bz)
  replace Q7 := hid_of (Q7.out.below bz)
  replace Q9 := hid_of (Q9.out.below bz)
  replace HB := hid_of (HB.out.trans (bz.mono HB.out.size))
  clear bz Q7u Q2u
  go_wp2_with fail
  refine (toOpS_any (HO.out.below HB.out) HSH.out).mono ?_
  rintro e w10 ⟨g10, rfl, L10, b12⟩
  have HL10 := hid_of L10
  replace O0 := hid_of (O0.out.below b12)
  replace H1 := hid_of (H1.out.below b12)
  replace O1 := hid_of (O1.out.below b12)
  replace O2 := hid_of (O2.out.below b12)
  replace Q2 := hid_of (Q2.out.below b12)
  replace Q6 := hid_of (Q6.out.below b12)
  replace Q7 := hid_of (Q7.out.below b12)
  replace Q9 := hid_of (Q9.out.below b12)
  replace HB := hid_of (HB.out.trans (b12.mono HB.out.size))
  clear b12 L10
  go_wp2_with fail
  refine (eqOpS_true O1.out.opsL HL10.out HSH.out).mono ?_
  rintro e w11 ⟨rfl, b13⟩
  replace O0 := hid_of (O0.out.below b13)
  replace H1 := hid_of (H1.out.below b13)
  replace O1 := hid_of (O1.out.below b13)
  replace O2 := hid_of (O2.out.below b13)
  replace Q2 := hid_of (Q2.out.below b13)
  replace Q6 := hid_of (Q6.out.below b13)
  replace Q7 := hid_of (Q7.out.below b13)
  replace Q9 := hid_of (Q9.out.below b13)
  replace HB := hid_of (HB.out.trans (b13.mono HB.out.size))
  clear b13 HL10
  obtain ⟨c0, c1, -⟩ := Q7.out.open2
  have MM := markMap_any (n := N) ⟨_, rfl, H1.out⟩ hlen 1 (by omega)
  rw [show ((1 : Nat) : Int) = 1 from rfl] at MM
  obtain ⟨t1, ht1⟩ : ∃ t, 1 + len = t := ⟨_, rfl⟩
  rw [ht1] at MM
  go_wp2_with fail
  refine MM.mono ?_
  rintro e w12 ⟨rfl, -, ht⟩
  replace O0 := hid_of (O0.out.turn ht (.inl (by omega)))
  replace O1 := hid_of (O1.out.turn ht (.inr (by omega)))
  replace O2 := hid_of (O2.out.turn ht (.inr (by omega)))
  replace Q2 := hid_of (Q2.out.turn ht (.inl (by omega)))
  replace Q6 := hid_of (Q6.out.turn ht (.inl (by omega)))
  replace Q9 := hid_of (Q9.out.turn ht (.inr (by omega)))
  replace HB := hid_of (ht.below HB.out (by omega) HB.out.size)
  clear ht MM H1 c0 c1 Q7
  obtain ⟨T1, hT1⟩ : ∃ t : Int, ((t1 + totN A n : Nat) : Int) = t := ⟨_, rfl⟩
  have hT1' : ¬ T1 < 0 := by omega
  have MK := markOpS_far (c := n) O1.out HSH.out.1 HTT.out t1 (by omega)
  rw [hT1] at MK
  clear hT1
  go_wp2_with fail
  refine MK.mono ?_
  rintro e w13 ⟨rfl, -, ht⟩
  replace O0 := hid_of (O0.out.turn ht (.inl (by omega)))
  replace O2 := hid_of (O2.out.turn ht (.inr (by omega)))
  replace Q2 := hid_of (Q2.out.turn ht (.inl (by omega)))
  replace Q6 := hid_of (Q6.out.turn ht (.inl (by omega)))
  replace Q9 := hid_of (Q9.out.turn ht (.inr (by omega)))
  replace HB := hid_of (ht.below HB.out (by omega) HB.out.size)
  clear ht MK O1
  obtain ⟨c0, c1, -⟩ := Q9.out.open2
  obtain ⟨c2, c3, -⟩ := Q6.out.open2
  go_wp2_with fail
  refine (eqMap_true (n := R) ⟨_, rfl, O2.out⟩ ⟨_, rfl, O0.out⟩ hL).mono ?_
  rintro e w14 ⟨rfl, b14⟩
  replace O0 := hid_of (O0.out.below b14)
  replace O2 := hid_of (O2.out.below b14)
  replace Q2 := hid_of (Q2.out.below b14)
  replace Q6 := hid_of (Q6.out.below b14)
  replace Q9 := hid_of (Q9.out.below b14)
  replace HB := hid_of (HB.out.trans (b14.mono HB.out.size))
  clear b14 c0 c1 c2 c3
  obtain ⟨c0, c1, -⟩ := Q9.out.open2
  have MM := markMap_any (n := R) ⟨_, rfl, O2.out⟩ hL 1 (by omega)
  rw [show ((1 : Nat) : Int) = 1 from rfl] at MM
  obtain ⟨T2, hT2⟩ : ∃ t : Int, ((1 + L : Nat) : Int) = t := ⟨_, rfl⟩
  have hT2' : ¬ T2 < 0 := by omega
  have hT2n : (T2 != T2) = false := bne_self_eq_false T2
  have HT2 : Hid (((1 + L : Nat) : Int) = T2) := hT2
  rw [hT2] at MM
  clear hT2
  go_wp2_with fail
  refine MM.mono ?_
  rintro e w15 ⟨rfl, hO2, ht⟩
  obtain ⟨v2, ev2, hA2'⟩ := hO2
  cases ev2
  have O2' := hid_of hA2'
  replace O0 := hid_of (O0.out.turn ht (.inl (by omega)))
  replace Q2 := hid_of (Q2.out.turn ht (.inl (by omega)))
  replace Q6 := hid_of (Q6.out.turn ht (.inl (by omega)))
  replace Q9 := hid_of (Q9.out.turn ht (.inr (by omega)))
  replace HB := hid_of (ht.below HB.out (by omega) HB.out.size)
  clear ht MM O2 hA2' c0 c1
  obtain ⟨c0, c1, -⟩ := Q9.out.open2
  have HD := heldMap_any (n := R) 1 ⟨_, rfl, O2'.out⟩ hL (by omega)
  rw [HT2.out, show ((1 : Nat) : Int) = 1 from rfl] at HD
  go_wp2_with fail
  refine HD.mono ?_
  rintro e w16 ⟨rfl, b16⟩
  replace O0 := hid_of (O0.out.below b16)
  replace O2' := hid_of (O2'.out.below b16)
  replace Q2 := hid_of (Q2.out.below b16)
  replace Q6 := hid_of (Q6.out.below b16)
  replace Q9 := hid_of (Q9.out.below b16)
  replace HB := hid_of (HB.out.trans (b16.mono HB.out.size))
  clear b16 HD c0 c1
  obtain ⟨c0, c1, -⟩ := Q2.out.open2
  go_wp2_with fail
  refine (toMap_any N (HS.out.below HB.out) hlen).mono ?_
  rintro e w17 ⟨m17, rfl, M17, b17⟩
  obtain ⟨v17, rfl, A17⟩ := M17
  have HA17 := hid_of A17
  replace O0 := hid_of (O0.out.below b17)
  replace O2' := hid_of (O2'.out.below b17)
  replace Q6 := hid_of (Q6.out.below b17)
  replace Q9 := hid_of (Q9.out.below b17)
  replace HB := hid_of (HB.out.trans (b17.mono HB.out.size))
  clear b17 A17 c0 c1 Q2
  go_wp2_with fail
  refine (toOpS_any (HO.out.below HB.out) HSH.out).mono ?_
  rintro e w18 ⟨g18, rfl, L18, b18⟩
  have HL18 := hid_of L18
  replace HA17 := hid_of (HA17.out.below b18)
  replace O0 := hid_of (O0.out.below b18)
  replace O2' := hid_of (O2'.out.below b18)
  replace Q6 := hid_of (Q6.out.below b18)
  replace Q9 := hid_of (Q9.out.below b18)
  replace HB := hid_of (HB.out.trans (b18.mono HB.out.size))
  clear b18 L18
  go_wp2_with fail
  refine (implAverage_any hNb HA17.out hlen HL18.out HSH.out.1).mono ?_
  rintro e w19 hv
  obtain ⟨a3, k3, rfl, hA3, b19⟩ := HM.out _ _ _ hv
  replace O0 := hid_of (O0.out.below b19)
  replace O2' := hid_of (O2'.out.below b19)
  replace Q6 := hid_of (Q6.out.below b19)
  replace Q9 := hid_of (Q9.out.below b19)
  replace HB := hid_of (HB.out.trans (b19.mono HB.out.size))
  obtain ⟨q13, hq13⟩ : ∃ q, w19.heap.size = q := ⟨_, rfl⟩
  obtain ⟨W19, hW19, a13, b20, -⟩ := boxed w19 26 #[.int .i64 R, .slice a3 L k3]
  rw [hq13] at a13
  have O3 := hid_of (hA3.below b20)
  replace O0 := hid_of (O0.out.below b20)
  replace O2' := hid_of (O2'.out.below b20)
  replace Q6 := hid_of (Q6.out.below b20)
  replace Q9 := hid_of (Q9.out.below b20)
  replace HB := hid_of (HB.out.trans (b20.mono HB.out.size))
  obtain ⟨c0, c1, -⟩ := a13.open2
  obtain ⟨c2, c3, -⟩ := Q6.out.open2
  clear hv hA3 b19 b20 HA17 HL18
  go_wp2_with fail
  clear hW19 hq13
  refine (eqMap_true (n := R) ⟨_, rfl, O3.out⟩ ⟨_, rfl, O0.out⟩ hL).mono ?_
  rintro e w20 ⟨rfl, b21⟩
  replace O2' := hid_of (O2'.out.below b21)
  replace Q9 := hid_of (Q9.out.below b21)
  replace HB := hid_of (HB.out.trans (b21.mono HB.out.size))
  clear b21 O3 O0 c0 c1 c2 c3 a13 Q6
  obtain ⟨c0, c1, -⟩ := Q9.out.open2
  have HD := heldMap_any (n := R) 1 ⟨_, rfl, O2'.out⟩ hL (by omega)
  rw [HT2.out, show ((1 : Nat) : Int) = 1 from rfl] at HD
  go_wp2_with fail
  refine HD.mono ?_
  rintro e w21 ⟨rfl, b22⟩
  replace HB := hid_of (HB.out.trans (b22.mono HB.out.size))
  clear b22 HD O2' c0 c1
  go_wp2
  go_ret
  exact ⟨rfl, HB.out⟩
end Go.Proofs.YtiocneailhplkaaGreat
