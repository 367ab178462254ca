/-
  What drawn generators make: the law walked.
-/
import Derived.Test.YtpolnkjmojofoaaB17n
import Derived.Test.YtpolnkjmojofoaaB17k
import Derived.Test.YtpolnkjmojofoaaB17i
import Derived.Test.YtpolnkjmojofoaaB17d
import Derived.Test.YtpolnkjmojofoaaNN
import Derived.Test.YtpolnkjmojofoaaNI
import Derived.Test.YtpolnkjmojofoaaMQ
import Derived.Test.YtpolnkjmojofoaaMN
namespace Go.Proofs.Ytpolnkjmojofoaa
open Go.RowKit

theorem same_numsK {o o' : OpD} (e : kV o.key = kV o'.key) : (∀ i, i < 9 → o.f i = o'.f i) ∧ ∀ i, i < 3 → o.h i = o'.h i := by
  obtain ⟨h1, h2⟩ := kV_ext.1 e
  refine ⟨fun i hi => ?_, fun i hi => ?_⟩
  · rw [← key_lo o hi, ← key_lo o' hi]; exact h1 i hi
  · rw [← key_hi o i, ← key_hi o' i]; exact h2 i hi
theorem opD_sizes (G : Nat → Nat → Int) (m : Nat) : ∀ i, i < m → ((fun i => opD (G i)) i).n ≤ 1048576 ∧ ((fun i => opD (G i)) i).k ≤ 1048576 := fun i _ => ⟨by show 9 ≤ 1048576; omega, by show 3 ≤ 1048576; omega⟩
set_option maxRecDepth 100000 in
set_option maxHeartbeats 6400000 in
theorem closes_walk {w : World} {a : Option Addr} {len cap : Nat} (hr : Row w w.heap.size a len) :
    Calls Try.prog 3 #[.slice a len cap] w fun e w' => e = .returned (.bool true) ∧ Below w.heap.size w w' := by
  have hbs : ∀ w, (Instr.buildSlice 24 0 #[]).run Try.prog w = .ok (.slice (some ⟨w.heap.size, 0, none⟩) 0 0) (w.alloc (.cells #[] 33)) := fun _ => by kernel_rfl
  obtain ⟨i0, hi0, hz0, hz1, hz2⟩ := info_parts Try.info33
  go_enter Try.func3, Try.ntmps3
  go_wp2_with fail
  refine (big_any a len cap w hr.1).mono ?_
  rintro e w' ⟨rfl, rfl⟩
  by_cases hb : 1048576 < len
  · simp only [decide_eq_true hb]
    go_wp2
    go_ret
    exact ⟨rfl, Below.refl _ _⟩
  simp only [decide_eq_false hb]
  go_wp2_with fail
  refine (drawClose_any hr).mono ?_
  rintro e w1 ⟨g, n, c, A, rfl, hn, L, LN, B⟩
  have HL := hid_of L
  have HLN := hid_of LN
  have HB := hid_of B
  clear hr L LN B
  go_wp2_with fail
  refine (specClose_any HL.out (by omega)).mono ?_
  rintro e w2 ⟨⟨g2, m, c2, bo, X2, Y2, H, rfl, OA2, S2, -⟩, b2⟩
  have HT2 := hid_of S2
  replace HL := hid_of (HL.out.below b2)
  replace HB := hid_of (HB.out.trans (b2.mono HB.out.size))
  clear OA2 S2 b2
  go_wp2_with fail
  refine (copyOpsZ_any HL.out (by omega) HLN.out).mono ?_
  rintro e w3 ⟨⟨g3, c3, rfl, L3⟩, b3⟩
  replace HL := hid_of (HL.out.below b3)
  replace HB := hid_of (HB.out.trans (b3.mono HB.out.size))
  clear b3
  go_wp2_with fail
  refine (implClose_any L3 (by omega)).mono ?_
  rintro e w4 ⟨⟨g4, m4, c4, bo4, X4, Y4, G, rfl, OA4, T4⟩, b4⟩
  obtain ⟨e1, e2, -⟩ := cls_same T4 HT2.out
  obtain rfl := e1.symm
  obtain rfl := e2.symm
  have HG := hid_of OA4.opsL
  have HT4 := hid_of T4
  replace HL := hid_of (HL.out.below b4)
  replace HB := hid_of (HB.out.trans (b4.mono HB.out.size))
  clear OA4 T4 b4 L3 e1 e2 HT2
  cases bo
  · obtain rfl : m = 0 := by
      rcases HT4.out with ⟨h, -⟩ | ⟨-, h, -⟩
      · exact absurd h (by decide)
      · exact h
    go_wp2
    go_ret
    exact ⟨rfl, HB.out⟩
  obtain ⟨hGr, hm0, hgen, -⟩ := clsT_group HT4.out
  have HGr := hid_of hGr
  have HGE := hid_of hgen
  have hm2 : m ≤ 200 := by have := hGr.1; omega
  clear hGr hgen HT4
  go_wp2_with fail
  refine (copyOpsZ_any HG.out hm2 (fun i _ => ⟨by show 9 ≤ 9; omega, by show 3 ≤ 9; omega⟩)).mono ?_
  rintro e w8 ⟨⟨g8, c8, rfl, L8⟩, b8⟩
  replace HL := hid_of (HL.out.below b8)
  replace HG := hid_of (HG.out.below b8)
  replace HB := hid_of (HB.out.trans (b8.mono HB.out.size))
  clear b8
  go_wp2_with fail
  refine (implGroupOk_any L8 (by omega)).mono ?_
  rintro e w9 ⟨⟨b9, rfl, hg9⟩, b9'⟩
  obtain rfl : b9 = true := hg9.2 HGr.out
  replace HL := hid_of (HL.out.below b9')
  replace HG := hid_of (HG.out.below b9')
  replace HB := hid_of (HB.out.trans (b9'.mono HB.out.size))
  clear b9' hg9 L8
  go_wp2
  go_loopw [8] (fun s wr => ∃ k : Nat, k ≤ n ∧ s = .int .i64 k ∧ Hid (Below w9.heap.size w9 wr)) (fun s _ => n - (intOf s).toNat)
  case atStart => exact ⟨0, Nat.zero_le _, rfl, Below.refl _ _⟩
  case round =>
    obtain ⟨k, hk, rfl, B⟩ := hrel
    by_cases hlt : k < n
    · have hlt' : (k : Int) < (n : Int) := by omega
      have hk0 : (0 : Int) ≤ (k : Int) := by omega
      obtain ⟨xa, xc, xb, xd, f0, f1, s1, s2⟩ := (HL.out.below B.out).2 k hlt
      obtain ⟨hok, j, hj, ej⟩ := HGE.out k hlt
      rw [hok.1] at f0 s1
      rw [hok.2.1] at f1 s2
      have CP := hid_of (inOps_any (c := c4) (c1 := xc) (c2 := xd) (HG.out.below B.out) (by omega) (opD_sizes G m) s1 s2 (by omega) (by omega))
      have YES : Hid (∃ i, i < m ∧ sameD ((fun i => opD (G i)) i) ⟨9, (A k).f, 3, (A k).h⟩) := by
        obtain ⟨q1, q2⟩ := same_numsK ((opD_keyK (G j)).trans ej)
        exact ⟨j, hj, ⟨rfl, fun i hi => q1 i hi⟩, rfl, fun i hi => q2 i hi⟩
      clear s1 s2 hok ej hj
      go_wp2_with fail
      refine CP.out.mono ?_
      rintro e wq ⟨⟨bq, rfl, hq⟩, bb⟩
      obtain rfl : bq = true := hq.2 YES.out
      replace B := hid_of (B.out.trans (bb.mono B.out.size))
      clear CP YES hq bb f0 f1
      go_wp2
      exact ⟨⟨k + 1, by omega, by go_num, B⟩, by simp [intOf]; omega⟩
    · have hlt' : ¬ (k : Int) < (n : Int) := by omega
      obtain rfl : k = n := by omega
      obtain ⟨wA, hwA⟩ : ∃ W, W = wr := ⟨_, rfl⟩
      subst hwA
      have hm0' : (m : Int) ≠ 0 := by omega
      have hle : (len : Int) ≤ 1048576 := by omega
      obtain ⟨i1, hi1⟩ : ∃ q, len % m = q := ⟨_, rfl⟩
      have hi1m : i1 < m := by rw [← hi1]; exact Nat.mod_lt _ hm0
      have hmod : (len : Int).tmod (m : Int) = (i1 : Int) := by rw [Int.tmod_eq_emod_of_nonneg (by omega), ← Int.natCast_emod, hi1]
      clear hi1
      replace HG := hid_of (HG.out.below B.out)
      replace HB := hid_of (HB.out.trans (B.out.mono HB.out.size))
      clear HL HLN HGE B
      obtain ⟨W1, hW1, a1, B1, -⟩ := boxed wA 33 #[]
      obtain ⟨g0, hg0⟩ : ∃ q, wA.heap.size = q := ⟨_, rfl⟩
      have O1 : Hid (OpsM W1 wA.heap.size (.slice (some ⟨g0, 0, none⟩) 0 0) 0 (fun _ => undef) (fun _ => undef) (fun u => opD (G (i1 + u)))) := by
        rw [← hg0]; exact opsM_new1 a1
      have HB1 : Hid (Below wA.heap.size wA W1) := B1
      clear a1 B1
      go_wp2
      clear hW1 hg0
      go_loopw [9, 10] (fun v s wq => ∃ t : Nat, t ≤ 12 ∧ i1 + t ≤ m ∧ s = .int .i64 ((i1 + t : Nat) : Int) ∧ Hid (∃ X Y, OpsM wq wA.heap.size v t X Y (fun u => opD (G (i1 + u)))) ∧ Hid (Below wA.heap.size wA wq)) (fun _ s _ => m - (intOf s).toNat)
      case atStart => exact ⟨0, by omega, by omega, rfl, ⟨_, _, O1.out⟩, HB1⟩
      case round =>
        clear O1 HB1
        obtain ⟨t, ht, htm, rfl, IO, BO⟩ := hrel
        obtain ⟨X, Y, O⟩ := IO.out
        obtain ⟨gv, cv, ev, -, -⟩ := O.opsL
        subst ev
        clear IO
        obtain ⟨x, hx⟩ : ∃ x, i1 + t = x := ⟨_, rfl⟩
        rw [hx] at htm ⊢
        by_cases hgo : x < m ∧ t < 12
        · obtain ⟨hg1, hg2⟩ := hgo
          have hg1' : (x : Int) < (m : Int) := by omega
          have hg2' : (t : Int) < 12 := by omega
          have hx0 : (0 : Int) ≤ (x : Int) := by omega
          have hm1 : t + 1 ≤ maxLen := by unfold maxLen; omega
          have hm3' : (t + 1) * 48 ≤ 140737488355328 := by omega
          obtain ⟨xa, xc, xb, xd, f0, f1, s1, s2⟩ := (HG.out.below BO.out).2 x hg1
          have CP := hid_of (copyOpZ_any (n1 := 9) (n2 := 3) (c1 := xc) (c2 := xd) s1 s2 (by omega) (by omega))
          have f0' : World.cell? _ ⟨g4, x * 2, none⟩ = some (Value.slice xa 9 xc) := f0
          have f1' : World.cell? _ ⟨g4, x * 2 + 1, none⟩ = some (Value.slice xb 3 xd) := f1
          clear s1 s2 f0 f1
          have HX := hid_of hx
          clear hx
          go_wp2_with fail
          refine CP.out.mono ?_
          rintro e w3 ⟨x3, l3, x4, l4, rfl, t1, t2, b3⟩
          clear CP f0' f1'
          obtain ⟨W6, hW6, a6, b6, -⟩ := boxed w3 33 #[.slice (some ⟨x3, 0, none⟩) 9 l3, .slice (some ⟨x4, 0, none⟩) 3 l4]
          have O6 := (O.below b3).below b6
          have B6 : Hid (Below wA.heap.size wA W6) := (BO.out.trans (b3.mono BO.out.size)).trans (b6.mono (BO.out.trans (b3.mono BO.out.size)).size)
          have rx6 := hid_of (t1.below b6)
          have ry6 := hid_of (t2.below b6)
          have hnw : ∀ j u, [Value.slice (some ⟨x3, 0, none⟩) 9 l3, Value.slice (some ⟨x4, 0, none⟩) 3 l4][j]? = some u → W6.cell? ((⟨w3.heap.size, 0, none⟩ : Addr).add j) = some u := by
            intro j u hu
            match j with
            | 0 => cases hu; exact a6.cell 0 rfl
            | 1 => cases hu; exact a6.cell 1 rfl
            | j + 2 => cases hu
          have h1c : ∀ u ∈ [Value.slice (some ⟨x3, 0, none⟩) 9 l3, Value.slice (some ⟨x4, 0, none⟩) 3 l4], u.oneCell' = true := by
            intro u hu
            simp at hu
            rcases hu with rfl | rfl <;> rfl
          have hm3 : wA.heap.size ≤ W6.heap.size := B6.out.size
          clear O t1 t2 b3 b6 BO
          go_wp2_with (at_builtin; refine Hid.out (?_ : Hid _))
          refine (?_ : wpList _ _ _ _ _ _)
          refine wpList_append_own_at _ rfl _ _ _ rfl wA.heap.size 33 i0 _ 2 48 Try.underlying24 hi0 hz0 hz1 hz2 rfl (by omega) (.slice (some ⟨gv, 0, none⟩) t cv) t _ rfl O6.row ⟨w3.heap.size, 0, none⟩ 1 1 [.slice (some ⟨x3, 0, none⟩) 9 l3, .slice (some ⟨x4, 0, none⟩) 3 l4] rfl rfl hnw h1c hm1 hm3' hm3 ?_
          intro v3 w7 hown3 hgrow3 hne3 hblk3
          have e3 : v3 ≠ .slice none 0 0 := by
            intro e
            have := (hne3.1 e).2
            omega
          have B7 : Hid (Below wA.heap.size wA w7) := B6.out.grown hgrow3 hm3 (fun x hx => ownBlock_ge O6.row hx)
          have I7 : Hid (∃ X Y, OpsM w7 wA.heap.size v3 (t + 1) X Y (fun u => opD (G (i1 + u)))) := O6.snoc ⟨x3, l3, rfl, by show Made W6 x3 l3 9 (opD (G (i1 + t))).f; rw [HX.out]; exact rx6.out⟩ ⟨x4, l4, rfl, by show Made W6 x4 l4 3 (opD (G (i1 + t))).h; rw [HX.out]; exact ry6.out⟩ hgrow3 hown3 e3
          clear O6 rx6 ry6 hnw h1c hm3 hown3 hgrow3 hne3 hblk3 e3 hm1 hm3' a6 hW6 B6
          go_wp2
          have hx := HX.out
          exact ⟨⟨t + 1, by omega, by omega, by rw [show i1 + (t + 1) = x + 1 by omega]; go_num, I7, B7⟩, by simp [intOf]; omega⟩
        · obtain ⟨_, _, ev, -, L9⟩ := O.opsL
          cases ev
          have HL9 := hid_of L9
          have HX := hid_of hx
          have HG2 := hid_of (HG.out.below BO.out)
          have HB2 := hid_of (HB.out.trans (BO.out.mono HB.out.size))
          clear O L9 hx HG HB BO
          by_cases hxm : x < m
          · have hxm' : (x : Int) < (m : Int) := by omega
            have ht12 : ¬ (t : Int) < 12 := by omega
            have CI := hid_of (implClose_any (c := cv) HL9.out (by omega))
            go_wp2_with fail
            refine CI.out.mono ?_
            rintro e w20 ⟨⟨g20, m20, c20, bo20, X20, Y20, H20, rfl, OA20, T20⟩, b20⟩
            obtain ⟨rfl, hp20, hd20, hw20⟩ := clsT_within HGr.out ht (fun u hu => ⟨opD_okK (kR_congr (opD_keyK (G (i1 + u))) (HGr.out.key (i := i1 + u) (by have := HX.out; omega))), i1 + u, by have := HX.out; omega, rfl⟩) T20
            have HH := hid_of OA20.opsL
            have HW := hid_of hw20
            have HG3 := hid_of (HG2.out.below b20)
            have HB3 := hid_of (HB2.out.trans (b20.mono HB2.out.size))
            have hm20 : m20 ≤ m := Nat.le_of_dvd (by omega) hd20
            have hz20 : (m20 : Int) ≠ 0 := by omega
            have hp20' : (0 : Int) < (m20 : Int) := by omega
            have hmod2 : (m : Int).tmod (m20 : Int) = 0 := by rw [Int.tmod_eq_emod_of_nonneg (by omega)]; exact Int.emod_eq_zero_of_dvd (Int.natCast_dvd_natCast.2 hd20)
            clear CI OA20 T20 b20 HG2 HB2 HL9 hw20 hd20 HX
            go_wp2
            go_loopw [13] (fun s ws => ∃ k : Nat, k ≤ m20 ∧ s = .int .i64 k ∧ Hid (Below w20.heap.size w20 ws)) (fun s _ => m20 - (intOf s).toNat)
            case atStart => exact ⟨0, Nat.zero_le _, rfl, Below.refl _ _⟩
            case round =>
              obtain ⟨k, hk, rfl, B⟩ := hrel
              by_cases hlt : k < m20
              · have hlt' : (k : Int) < (m20 : Int) := by omega
                have hk0 : (0 : Int) ≤ (k : Int) := by omega
                obtain ⟨xa, xc, xb, xd, f0, f1, s1, s2⟩ := (HH.out.below B.out).2 k hlt
                have CP := hid_of (inOps_any (N := 9) (K := 3) (c := c4) (c1 := xc) (c2 := xd) (HG3.out.below B.out) (by omega) (opD_sizes G m) s1 s2 (by omega) (by omega))
                have YES : Hid (∃ i, i < m ∧ sameD ((fun i => opD (G i)) i) ⟨9, (opD (H20 k)).f, 3, (opD (H20 k)).h⟩) := by
                  obtain ⟨j, hj, ej⟩ := HW.out k hlt
                  obtain ⟨q1, q2⟩ := same_numsK (o := opD (G j)) (o' := opD (H20 k)) (ej.trans (opD_keyK (H20 k)).symm)
                  exact ⟨j, hj, ⟨rfl, fun i hi => q1 i hi⟩, rfl, fun i hi => q2 i hi⟩
                replace f0 := f0
                clear s1 s2
                have f0' : World.cell? _ ⟨g20, k * 2, none⟩ = some (Value.slice xa 9 xc) := f0
                have f1' : World.cell? _ ⟨g20, k * 2 + 1, none⟩ = some (Value.slice xb 3 xd) := f1
                clear f0 f1
                go_wp2_with fail
                refine CP.out.mono ?_
                rintro e wq ⟨⟨bq, rfl, hq⟩, bb⟩
                obtain rfl : bq = true := hq.2 YES.out
                replace B := hid_of (B.out.trans (bb.mono B.out.size))
                clear CP YES hq bb f0' f1'
                go_wp2
                exact ⟨⟨k + 1, by omega, by go_num, B⟩, by simp [intOf]; omega⟩
              · have hlt' : ¬ (k : Int) < (m20 : Int) := by omega
                have HBZ := hid_of (HB3.out.trans (B.out.mono HB3.out.size))
                clear HH HW HG3 HB3 B
                go_wp2
                go_ret
                exact ⟨rfl, HBZ.out⟩
          · have hxm' : ¬ (x : Int) < (m : Int) := by omega
            have CI := hid_of (implClose_any (c := cv) HL9.out (by omega))
            go_wp2_with fail
            refine CI.out.mono ?_
            rintro e w20 ⟨⟨g20, m20, c20, bo20, X20, Y20, H20, rfl, OA20, T20⟩, b20⟩
            obtain ⟨rfl, hp20, hd20, hw20⟩ := clsT_within HGr.out ht (fun u hu => ⟨opD_okK (kR_congr (opD_keyK (G (i1 + u))) (HGr.out.key (i := i1 + u) (by have := HX.out; omega))), i1 + u, by have := HX.out; omega, rfl⟩) T20
            have HH := hid_of OA20.opsL
            have HW := hid_of hw20
            have HG3 := hid_of (HG2.out.below b20)
            have HB3 := hid_of (HB2.out.trans (b20.mono HB2.out.size))
            have hm20 : m20 ≤ m := Nat.le_of_dvd (by omega) hd20
            have hz20 : (m20 : Int) ≠ 0 := by omega
            have hp20' : (0 : Int) < (m20 : Int) := by omega
            have hmod2 : (m : Int).tmod (m20 : Int) = 0 := by rw [Int.tmod_eq_emod_of_nonneg (by omega)]; exact Int.emod_eq_zero_of_dvd (Int.natCast_dvd_natCast.2 hd20)
            clear CI OA20 T20 b20 HG2 HB2 HL9 hw20 hd20 HX
            go_wp2
            go_loopw [13] (fun s ws => ∃ k : Nat, k ≤ m20 ∧ s = .int .i64 k ∧ Hid (Below w20.heap.size w20 ws)) (fun s _ => m20 - (intOf s).toNat)
            case atStart => exact ⟨0, Nat.zero_le _, rfl, Below.refl _ _⟩
            case round =>
              obtain ⟨k, hk, rfl, B⟩ := hrel
              by_cases hlt : k < m20
              · have hlt' : (k : Int) < (m20 : Int) := by omega
                have hk0 : (0 : Int) ≤ (k : Int) := by omega
                obtain ⟨xa, xc, xb, xd, f0, f1, s1, s2⟩ := (HH.out.below B.out).2 k hlt
                have CP := hid_of (inOps_any (N := 9) (K := 3) (c := c4) (c1 := xc) (c2 := xd) (HG3.out.below B.out) (by omega) (opD_sizes G m) s1 s2 (by omega) (by omega))
                have YES : Hid (∃ i, i < m ∧ sameD ((fun i => opD (G i)) i) ⟨9, (opD (H20 k)).f, 3, (opD (H20 k)).h⟩) := by
                  obtain ⟨j, hj, ej⟩ := HW.out k hlt
                  obtain ⟨q1, q2⟩ := same_numsK (o := opD (G j)) (o' := opD (H20 k)) (ej.trans (opD_keyK (H20 k)).symm)
                  exact ⟨j, hj, ⟨rfl, fun i hi => q1 i hi⟩, rfl, fun i hi => q2 i hi⟩
                replace f0 := f0
                clear s1 s2
                have f0' : World.cell? _ ⟨g20, k * 2, none⟩ = some (Value.slice xa 9 xc) := f0
                have f1' : World.cell? _ ⟨g20, k * 2 + 1, none⟩ = some (Value.slice xb 3 xd) := f1
                clear f0 f1
                go_wp2_with fail
                refine CP.out.mono ?_
                rintro e wq ⟨⟨bq, rfl, hq⟩, bb⟩
                obtain rfl : bq = true := hq.2 YES.out
                replace B := hid_of (B.out.trans (bb.mono B.out.size))
                clear CP YES hq bb f0' f1'
                go_wp2
                exact ⟨⟨k + 1, by omega, by go_num, B⟩, by simp [intOf]; omega⟩
              · have hlt' : ¬ (k : Int) < (m20 : Int) := by omega
                have HBZ := hid_of (HB3.out.trans (B.out.mono HB3.out.size))
                clear HH HW HG3 HB3 B
                go_wp2
                go_ret
                exact ⟨rfl, HBZ.out⟩
end Go.Proofs.Ytpolnkjmojofoaa
