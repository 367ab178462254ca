/-
  A group turned by an operator, by the program: walked.
-/
import Derived.Test.YtgjhbkpocbihbaaNR
import Derived.Test.YtgjhbkpocbihbaaNC
import Derived.Test.YtgjhbkpocbihbaaNB
import Derived.Test.YtgjhbkpocbihbaaMQ
namespace Go.Proofs.Ytgjhbkpocbihbaa
open Go.RowKit

def backK (p : Nat → Int) : Nat → Int := cat 9 (backM p) (backV p (kh p))
def wholeK (p : Nat → Int) (F : Nat → Nat → Int) (i : Nat) : Nat → Int := mulQ (mulQ p (F i)) (backK p)
theorem back_k {p : Nat → Int} (hp : kR p) (w : World) : Calls Try.prog 32 #[kV p] w fun e w' => e = .returned (kV (backK p)) ∧ Below w.heap.size w w' := back_any hp w
theorem behind3_k {x y : Nat → Int} (h1 : ∀ i, i < 9 → -3 ≤ x i ∧ x i ≤ 3) (h2 : ∀ i, i < 3 → 0 ≤ kh x i ∧ kh x i < 24) (hy : kR y) (w : World) : Calls Try.prog 34 #[kV x, kV y] w fun e w' => e = .returned (kV (mulQ x y)) ∧ Below w.heap.size w w' := behind3_any h1 h2 hy w
theorem mulQ_in {x y : Nat → Int} (hx : kR x) (hy : kR y) : (∀ i, i < 9 → -3 ≤ mulQ x y i ∧ mulQ x y i ≤ 3) ∧ ∀ i, i < 3 → 0 ≤ kh (mulQ x y) i ∧ kh (mulQ x y) i < 24 := by
  refine ⟨fun i hi => ?_, fun i hi => ?_⟩
  · rw [mulQ_lo _ _ hi]
    have := psum_bound hx.1 hy.1 i hi 3 (by omega)
    exact ⟨by unfold mulM; omega, by unfold mulM; omega⟩
  · show 0 ≤ mulQ x y (9 + i) ∧ mulQ x y (9 + i) < 24
    rw [mulQ_hi]
    unfold behV
    omega
/-- All is right. -/
def TbOk (n : Nat) (F : Nat → Nat → Int) (p : Nat → Int) : Prop := kR (backK p) ∧ ∀ i, i < n → kR (mulQ p (F i)) ∧ kR (wholeK p F i)
/-- How turnedBy ends. -/
def TbE (w : World) (n : Nat) (F : Nat → Nat → Int) (p : Nat → Int) (e : Ending) (w' : World) : Prop :=
  (∃ v m G, e = .returned v ∧ Oprs w' w.heap.size v m G ∧ ((TbOk n F p ∧ m = n ∧ SortOf n (wholeK p F) G) ∨ (¬ TbOk n F p ∧ m = 0))) ∧ Below w.heap.size w w'
set_option maxRecDepth 100000 in
set_option maxHeartbeats 6000000 in
theorem turnedBy_any {w : World} {base g n c : Nat} {F : Nat → Nat → Int} {p : Nat → Int} (hF : Oprs w base (.slice (some ⟨g, 0, none⟩) n c) n F) (hR : ∀ i, i < n → kR (F i)) (hp : kR p) (hn : n ≤ 192) :
    Calls Try.prog 18 #[.slice (some ⟨g, 0, none⟩) n c, kV p] w fun e w' => TbE w n F p e w' := by
  have hbs2 : ∀ w, (Instr.buildSlice 38 0 #[]).run Try.prog w = .ok (.slice (some ⟨w.heap.size, 0, none⟩) 0 0) (w.alloc (.cells #[] 46)) := fun _ => by kernel_rfl
  obtain ⟨i0, hi0, hz0, hz1, hz2⟩ := info_parts Try.info46
  have hn' : (n : Int) ≤ 192 := by omega
  have HP := hid_of hp
  have HR := hid_of hR
  have NO : Hid (∀ wq, Below w.heap.size w wq → ¬ TbOk n F p → TbE w n F p (.returned (.slice (some ⟨wq.heap.size, 0, none⟩) 0 0)) (wq.alloc (.cells #[] 46))) := fun wq hq hno =>
    ⟨⟨_, 0, F, rfl, oprs_base (oprs_new (at_new _ _ _)) hq.size, .inr ⟨hno, rfl⟩⟩, hq.trans ((below_alloc _ _).mono hq.size)⟩
  obtain ⟨W1, hW1, Q1, B1, -⟩ := boxed w 46 (kc p).toArray
  obtain ⟨q1, hq1⟩ : ∃ q, w.heap.size = q := ⟨_, rfl⟩
  rw [hq1] at Q1
  obtain ⟨d0, d1, d2, d3, d4, d5, d6, d7, d8, d9, d10, d11⟩ := At.openk (x := p) Q1
  clear hp hR
  unfold kV
  unfold kc at hW1 ⊢
  go_enter Try.func18, Try.ntmps18
  go_wp2_with fail
  refine (back_k HP.out _).mono ?_
  rintro e w2 ⟨rfl, b2⟩
  clear d0 d1 d2 d3 d4 d5 d6 d7 d8 d9 d10 d11 hW1 hq1
  obtain ⟨Bk, hBk⟩ : ∃ K, backK p = K := ⟨_, rfl⟩
  have HBk := hid_of hBk
  rw [hBk]
  clear hBk
  have B2 := B1.trans (b2.mono B1.size)
  obtain ⟨W3, hW3, Q5, B3, -⟩ := boxed w2 46 (kc Bk).toArray
  obtain ⟨q5, hq5⟩ : ∃ q, w2.heap.size = q := ⟨_, rfl⟩
  rw [hq5] at Q5
  have BW := B2.trans (B3.mono B2.size)
  have Q13 := (Q1.below b2).below B3
  obtain ⟨f0, f1, f2, f3, f4, f5, f6, f7, f8, f9, f10, f11⟩ := At.openk (x := Bk) Q5
  unfold kV
  unfold kc at hW3 ⊢
  go_wp2_with fail
  refine (right_k Bk _).mono ?_
  rintro e w4 ⟨rfl, b4⟩
  clear f0 f1 f2 f3 f4 f5 f6 f7 f8 f9 f10 f11 hW3 hq5
  have B4 := BW.trans (b4.mono BW.size)
  by_cases hRB : kR Bk
  rotate_left
  · have N0 := hid_of (NO.out _ B4 (fun h => hRB (HBk.out ▸ h.1)))
    simp only [decide_eq_false hRB]
    clear NO B4 b4 BW Q13 Q5 B3 B2 b2 B1 Q1 hF hRB
    go_wp2
    go_ret
    exact N0.out
  simp only [decide_eq_true hRB]
  have HRB := hid_of hRB
  have Q14 := hid_of (Q13.below b4)
  have Q54 := hid_of (Q5.below b4)
  have HO := hid_of (hF.below B4)
  have HB4 := hid_of B4
  obtain ⟨W5, hW5, a5, B5, -⟩ := boxed w4 46 #[]
  obtain ⟨p5, hp5⟩ : ∃ q, w4.heap.size = q := ⟨_, rfl⟩
  have o5 : Hid (Oprs W5 w4.heap.size (.slice (some ⟨p5, 0, none⟩) 0 0) 0 (wholeK p F)) := hp5 ▸ oprs_new a5
  clear hRB B4 b4 BW Q13 Q5 B3 B2 b2 B1 Q1 hF a5
  go_wp2
  clear hW5 hp5
  go_loopw [6, 20] (fun v s wr => ∃ i : Nat, i ≤ n ∧ s = .int .i64 (i : Int) ∧ Hid (Oprs wr w4.heap.size v i (wholeK p F)) ∧ Hid (∀ t, t < i → kR (mulQ p (F t)) ∧ kR (wholeK p F t)) ∧ Below w4.heap.size w4 wr) (fun _ s _ => n - (intOf s).toNat)
  case atStart => exact ⟨0, Nat.zero_le _, rfl, o5, fun t ht => by omega, B5⟩
  case round =>
    clear o5 B5
    obtain ⟨i, hi, rfl, own, ALL, B⟩ := hrel
    by_cases hlt : i < n
    rotate_left
    · obtain rfl : i = n := by omega
      have hlt' : ¬ (i : Int) < (i : Int) := by omega
      obtain ⟨g', c', e'⟩ := oprs_open own.out
      subst e'
      go_wp2_with fail
      refine (sort_any own.out (by omega)).mono ?_
      rintro e w9 ⟨rfl, ⟨G, hG, hS⟩, hg⟩
      have hlo := own.out.lt.1
      have FI : Hid (TbE w i F p (.returned (.slice (some ⟨g', 0, none⟩) i c')) w9) := by
        refine ⟨⟨_, i, G, rfl, oprs_base hG HB4.out.size, .inl ⟨⟨HBk.out ▸ HRB.out, ALL.out⟩, rfl, hS⟩⟩, ?_⟩
        exact HB4.out.trans ((B.grown hg B.size (fun q hq => by simp only [Value.ownBlock, Option.some.injEq] at hq; omega)).mono HB4.out.size)
      clear hG hS hg own ALL B NO
      go_wp2
      go_ret
      exact FI.out
    have hlt' : (i : Int) < (n : Int) := by omega
    obtain ⟨e0, e1, e2, e3, e4, e5, e6, e7, e8, e9, e10, e11⟩ := (HO.out.below B).open i hlt
    have HRi := hid_of (HR.out i hlt)
    obtain ⟨K, hK⟩ : ∃ K, F i = K := ⟨_, rfl⟩
    have HK := hid_of hK
    rw [hK] at HRi
    simp only [hK] at e0 e1 e2 e3 e4 e5 e6 e7 e8 e9 e10 e11
    clear hK
    obtain ⟨W7, hW7, a7, b7, -⟩ := boxed wr 46 (kc K).toArray
    obtain ⟨p7, hp7⟩ : ∃ p, wr.heap.size = p := ⟨_, rfl⟩
    rw [hp7] at a7
    have B7 := B.trans (b7.mono B.size)
    have own7 := hid_of (own.out.below b7)
    have Q17 := Q14.out.below B7
    obtain ⟨d0, d1, d2, d3, d4, d5, d6, d7, d8, d9, d10, d11⟩ := At.openk (x := p) Q17
    obtain ⟨f0, f1, f2, f3, f4, f5, f6, f7, f8, f9, f10, f11⟩ := At.openk (x := K) a7
    clear own b7 B
    unfold kc at hW7
    go_wp2_with fail
    refine (behind_k HP.out HRi.out W7).mono ?_
    rintro e w8 ⟨rfl, b8⟩
    clear d0 d1 d2 d3 d4 d5 d6 d7 d8 d9 d10 d11 f0 f1 f2 f3 f4 f5 f6 f7 f8 f9 f10 f11 e0 e1 e2 e3 e4 e5 e6 e7 e8 e9 e10 e11 hW7 hp7 a7 Q17
    have hin := hid_of (mulQ_in HP.out HRi.out)
    obtain ⟨P1, hP1⟩ : ∃ L, mulQ p K = L := ⟨_, rfl⟩
    have HP1 : Hid (mulQ p (F i) = P1) := by rw [HK.out]; exact hP1
    rw [hP1] at hin ⊢
    clear hP1
    obtain ⟨W9, hW9, a9, b9, -⟩ := boxed w8 46 (kc P1).toArray
    obtain ⟨p9, hp9⟩ : ∃ p, w8.heap.size = p := ⟨_, rfl⟩
    rw [hp9] at a9
    have b89 := b8.trans (b9.mono b8.size)
    have B9 := B7.trans (b89.mono B7.size)
    have own9 := hid_of (own7.out.below b89)
    have Q59 := Q54.out.below B9
    obtain ⟨d0, d1, d2, d3, d4, d5, d6, d7, d8, d9, d10, d11⟩ := At.openk (x := P1) a9
    obtain ⟨f0, f1, f2, f3, f4, f5, f6, f7, f8, f9, f10, f11⟩ := At.openk (x := Bk) Q59
    clear own7 b8 b9 b89 B7
    unfold kV
    unfold kc at hW9 ⊢
    go_wp2_with fail
    refine (behind3_k hin.out.1 hin.out.2 HRB.out W9).mono ?_
    rintro e w10 ⟨rfl, b10⟩
    clear d0 d1 d2 d3 d4 d5 d6 d7 d8 d9 d10 d11 f0 f1 f2 f3 f4 f5 f6 f7 f8 f9 f10 f11 hW9 hp9 Q59
    obtain ⟨P2, hP2⟩ : ∃ L, mulQ P1 Bk = L := ⟨_, rfl⟩
    have HP2 : Hid (wholeK p F i = P2) := by
      show mulQ (mulQ p (F i)) (backK p) = P2
      rw [HP1.out, HBk.out]; exact hP2
    rw [hP2]
    clear hP2
    obtain ⟨W11, hW11, a11, b11, -⟩ := boxed w10 46 (kc P2).toArray
    obtain ⟨p11, hp11⟩ : ∃ p, w10.heap.size = p := ⟨_, rfl⟩
    rw [hp11] at a11
    have b1011 := b10.trans (b11.mono b10.size)
    have B11 := B9.trans (b1011.mono B9.size)
    have own11 := hid_of (own9.out.below b1011)
    have a911 := a9.below b1011
    obtain ⟨d0, d1, d2, d3, d4, d5, d6, d7, d8, d9, d10, d11⟩ := At.openk (x := P1) a911
    clear own9 b10 b11 b1011 B9 a9
    unfold kV
    unfold kc at hW11 ⊢
    go_wp2_with fail
    refine (right_k P1 W11).mono ?_
    rintro e w12 ⟨rfl, b12⟩
    clear d0 d1 d2 d3 d4 d5 d6 d7 d8 d9 d10 d11 hW11 hp11 a911
    have B12 := B11.trans (b12.mono B11.size)
    have BF12 := HB4.out.trans (B12.mono HB4.out.size)
    by_cases hR1 : kR P1
    rotate_left
    · have N0 := hid_of (NO.out _ BF12 (fun h => hR1 (HP1.out ▸ (h.2 i hlt).1)))
      simp only [decide_eq_false hR1]
      clear NO B12 BF12 b12 B11 own11 a11 ALL hR1
      go_wp2
      go_ret
      exact N0.out
    simp only [decide_eq_true hR1]
    have own12 := hid_of (own11.out.below b12)
    have a12 := a11.below b12
    obtain ⟨d0, d1, d2, d3, d4, d5, d6, d7, d8, d9, d10, d11⟩ := At.openk (x := P2) a12
    clear own11 a11 b12 B11 BF12
    go_wp2_with fail
    refine (right_k P2 w12).mono ?_
    rintro e w13 ⟨rfl, b13⟩
    clear d0 d1 d2 d3 d4 d5 d6 d7 d8 d9 d10 d11
    have B13 := B12.trans (b13.mono B12.size)
    have BF13 := HB4.out.trans (B13.mono HB4.out.size)
    by_cases hR2 : kR P2
    rotate_left
    · have N0 := hid_of (NO.out _ BF13 (fun h => hR2 (HP2.out ▸ (h.2 i hlt).2)))
      simp only [decide_eq_false hR2]
      clear NO B12 BF13 b13 B13 own12 a12 ALL hR2
      go_wp2
      go_ret
      exact N0.out
    simp only [decide_eq_true hR2]
    have a13 := a12.below b13
    obtain ⟨d0, d1, d2, d3, d4, d5, d6, d7, d8, d9, d10, d11⟩ := At.openk (x := P2) a13
    obtain ⟨W4, hW4, a4, b4, -⟩ := boxed w13 46 (kc P2).toArray
    obtain ⟨p4, hp4⟩ : ∃ p, w13.heap.size = p := ⟨_, rfl⟩
    rw [hp4] at a4
    have own4 := hid_of ((own12.out.below b13).below b4).1
    have B14 := B13.trans (b4.mono B13.size)
    have hm1 : i + 1 ≤ maxLen := by unfold maxLen; omega
    have hm2 : (i + 1) * 96 ≤ 140737488355328 := by omega
    have ALL2 : Hid (∀ t, t < i + 1 → kR (mulQ p (F t)) ∧ kR (wholeK p F t)) := fun t ht => by
      by_cases e : t = i
      · rw [e, HP1.out, HP2.out]; exact ⟨hR1, hR2⟩
      · exact ALL.out t (by omega)
    clear b13 own12 a12 a13 B12 BF13 B13 b4 ALL hR1 hR2
    unfold kc at hW4
    go_wp2_with (at_builtin; refine Hid.out (?_ : Hid _))
    refine (?_ : wpList _ _ _ _ _ _)
    refine wpList_append_own_at _ rfl _ _ _ rfl w4.heap.size 46 i0 _ 12 96 Try.underlying38 hi0 hz0 hz1 hz2 rfl (by omega) u6 i (kCells (wholeK p F) i) rfl own4.out ⟨p4, 0, none⟩ 1 1 (kc P2) rfl rfl (cell12_new W4 p4 P2 a4) (kc_one _) hm1 hm2 B14.size ?_
    intro v6 w6 hown5 hgrow5 hne5 hblk5
    have OF : Hid (Oprs w6 w4.heap.size v6 (i + 1) (wholeK p F)) := by
      refine ⟨?_, fun e => by have := (hne5.1 e).2; omega⟩
      show w6.ownsRow _ _ 12 v6 _ (kCells (wholeK p F) i ++ kc (wholeK p F i))
      rw [HP2.out]
      exact hown5
    have BF : Below w4.heap.size w4 w6 := B14.grown hgrow5 B14.size (fun x hx => ownBlock_ge own4.out hx)
    clear hown5 hgrow5 hne5 hblk5 own4 B14 a4 hW4 hp4 hm1 hm2 d0 d1 d2 d3 d4 d5 d6 d7 d8 d9 d10 d11 NO HRi HP1 HP2
    go_wp2
    exact ⟨⟨i + 1, by omega, by go_num, OF, ALL2, BF⟩, by simp [intOf]; omega⟩
end Go.Proofs.Ytgjhbkpocbihbaa
/-
  Turned by the program: walked.
-/
namespace Go.Proofs.Ytgjhbkpocbihbaa
open Go.RowKit

theorem adj_congr {f f' : Nat → Int} (h : ∀ j, j < 9 → f j = f' j) : adj f = adj f' := by
  funext i
  unfold adj
  split <;> simp only [h 0 (by decide), h 1 (by decide), h 2 (by decide), h 3 (by decide), h 4 (by decide), h 5 (by decide), h 6 (by decide), h 7 (by decide), h 8 (by decide)]
theorem det3_congr {f f' : Nat → Int} (h : ∀ j, j < 9 → f j = f' j) : det3 f = det3 f' := by
  unfold det3
  simp only [h 0 (by decide), h 1 (by decide), h 2 (by decide), h 3 (by decide), h 4 (by decide), h 5 (by decide), h 6 (by decide), h 7 (by decide), h 8 (by decide)]
theorem back_key (o : OpD) : backK o.key = (backD o).key := by
  have h1 : ∀ j, j < 9 → o.key j = o.f j := fun j hj => key_lo o hj
  have h2 : kh o.key = o.h := by funext j; exact key_hi o j
  have h3 : backM o.key = backM o.f := by
    funext i
    unfold backM
    rw [adj_congr h1, det3_congr h1]
  unfold backK backV
  rw [h2, h3]
  rfl
theorem mulD_okR {x y : OpD} : (mulD x y).ok ↔ kR (mulQ x.key y.key) :=
  ⟨fun h => kR_congr (mulD_key x y) (ok_R h), fun h => ⟨rfl, rfl, isR_cat (kR_congr (mulD_key x y).symm h)⟩⟩
theorem whole_key (o : OpD) (A : Nat → OpD) (i : Nat) : kV (wholeD o A i).key = kV (wholeK o.key (fun i => (A i).key) i) := by
  unfold wholeD wholeK
  rw [mulD_key, mulQ_congr (mulD_key o (A i)), back_key]
theorem whole_okR {o : OpD} {A : Nat → OpD} {i : Nat} : (wholeD o A i).ok ↔ kR (wholeK o.key (fun i => (A i).key) i) :=
  ⟨fun h => kR_congr (whole_key o A i) (ok_R h), fun h => ⟨rfl, rfl, isR_cat (kR_congr (whole_key o A i).symm h)⟩⟩
theorem backD_okR {o : OpD} : (backD o).ok ↔ kR (backK o.key) := by
  rw [back_key]
  exact ⟨fun h => ok_R h, fun h => ⟨rfl, rfl, isR_cat h⟩⟩
theorem tbOk_iff {n : Nat} {A : Nat → OpD} {o : OpD} (hG : isG n A) (ho : o.ok) : TbOk n (fun i => (A i).key) o.key ↔ TurOk n A o :=
  ⟨fun h => ⟨hG, ho, backD_okR.2 h.1, fun i hi => ⟨mulD_okR.2 (h.2 i hi).1, whole_okR.2 (h.2 i hi).2⟩⟩, fun h => ⟨backD_okR.1 h.2.2.1, fun i hi => ⟨mulD_okR.1 (h.2.2.2 i hi).1, whole_okR.1 (h.2.2.2 i hi).2⟩⟩⟩
/-- What turnedBy tells, of a group or none. -/
theorem turT_of {n m m' : Nat} {A : Nat → OpD} {o : OpD} {G : Nat → Nat → Int} (hGm : isG n A ∧ m = n ∨ ¬ isG n A ∧ m = 0) (ho : o.ok) (h : (TbOk m (fun i => (A i).key) o.key ∧ m' = m ∧ SortOf m (wholeK o.key (fun i => (A i).key)) G) ∨ (¬ TbOk m (fun i => (A i).key) o.key ∧ m' = 0)) : TurT n A o m' G (decide (0 < m')) := by
  rcases hGm with ⟨hG, rfl⟩ | ⟨hG, rfl⟩
  · rcases h with ⟨h1, rfl, hp, hs⟩ | ⟨h1, rfl⟩
    · have h0 : 0 < m' := by
        obtain ⟨i, hi, -⟩ := hG.2.2.2.1
        omega
      refine .inl ⟨decide_eq_true h0, rfl, (tbOk_iff hG ho).1 h1, ?_, hs⟩
      have := hp.map kV
      refine this.trans (List.Perm.of_eq ?_)
      rw [List.map_map]
      exact List.map_congr_left (fun t _ => (whole_key o A t).symm)
    · exact .inr ⟨rfl, rfl, fun h => h1 ((tbOk_iff hG ho).2 h)⟩
  · have : m' = 0 := by rcases h with ⟨-, h, -⟩ | ⟨-, h⟩ <;> exact h
    subst this
    exact .inr ⟨rfl, rfl, fun h => hG h.1⟩
/-- How the program's Turned ends. -/
def TurF (w : World) (n : Nat) (A : Nat → OpD) (o : OpD) (e : Ending) (w' : World) : Prop :=
  (∃ g' m c' b X Y G, e = .returned (.tuple #[.slice (some ⟨g', 0, none⟩) m c', .bool b]) ∧ OpsA w' w.heap.size w'.heap.size g' m X Y (fun i => opD (G i)) ∧ TurT n A o m G b) ∧ Below w.heap.size w w'
end Go.Proofs.Ytgjhbkpocbihbaa
