/-
  The laws' comparisons of operators, told both ways, and what lies in a list of operators: walked.
-/
import Derived.Test.YtpolnkjmojofoaaNN
import Derived.Test.YtpolnkjmojofoaaMF
import Derived.Test.YtpolnkjmojofoaaMH
namespace Go.Proofs.Ytpolnkjmojofoaa
open Go.RowKit

abbrev KbI (u w : World) : Prop := Below u.heap.size u w
theorem hidI {p : Prop} (h : p) : Hid p := h
theorem Src.get {w w' : World} {a : Option Addr} {n k : Nat} {f : Nat → Int} (h : Src w a n f) (hb : Below w.heap.size w w') (hk : k < n) : ∃ g o, a = some ⟨g, o, none⟩ ∧ w'.cell? ⟨g, o + k, none⟩ = some (.int .i64 (f k)) := by
  rcases h with h0 | ⟨g, o, e, l, r⟩
  · omega
  · exact ⟨g, o, e, (hb.cell (p := ⟨g, o + k, none⟩) l).trans (r k hk)⟩
theorem sameInts_any {w : World} {a1 a2 : Option Addr} {n m c1 c2 : Nat} {f h : Nat → Int} (h1 : Src w a1 n f) (h2 : Src w a2 m h) (hn : n ≤ 1048576) (hm : m ≤ 1048576) :
    Calls Try.prog 43 #[.slice a1 n c1, .slice a2 m c2] w fun e w' => Tells e (n = m ∧ ∀ i, i < n → f i = h i) ∧ Below w.heap.size w w' := by
  by_cases hnm : n = m
  · subst hnm
    have H1 := hidI h1
    have H2 := hidI h2
    clear h1 h2
    go_enter Try.func43, Try.ntmps43
    go_wp2
    go_loopw [5] (fun s wr => ∃ k : Nat, k ≤ n ∧ s = .int .i64 k ∧ Hid (∀ i, i < k → f i = h i) ∧ Below w.heap.size w wr) (fun s _ => n - (intOf s).toNat)
    case atStart => exact ⟨0, Nat.zero_le _, rfl, fun i hi => absurd hi (Nat.not_lt_zero _), Below.refl _ _⟩
    case round =>
      obtain ⟨k, hk, rfl, HE, hbel⟩ := hrel
      by_cases hlt : k < n
      · have hlt' : (k : Int) < (n : Int) := by omega
        have hk0 : (0 : Int) ≤ (k : Int) := by omega
        obtain ⟨g1, o1, rfl, q0⟩ := H1.out.get hbel hlt
        obtain ⟨g2, o2, rfl, q1⟩ := H2.out.get hbel hlt
        have HF := hidI (show f k = f k from rfl)
        obtain ⟨x, hx⟩ : ∃ x, f k = x := ⟨_, rfl⟩
        obtain ⟨y, hy⟩ : ∃ x, h k = x := ⟨_, rfl⟩
        have HX := hidI hx
        have HY := hidI hy
        rw [hx] at q0
        rw [hy] at q1
        clear hx hy HF
        by_cases hxy : x = y
        · subst hxy
          have HE2 : Hid (∀ i, i < k + 1 → f i = h i) := fun i hi => by
            by_cases e : i = k
            · rw [e]; exact HX.out.trans HY.out.symm
            · exact HE.out i (by omega)
          clear HE HX HY
          go_wp2
          go_quiet (fail)
          go_wp2
          go_roundw
          case rel => exact ⟨k + 1, by omega, by go_num, HE2, below_drewN hbel _⟩
          case measure => simp [intOf]; omega
        · have NO : Hid (Tells (.returned (.bool false)) (n = n ∧ ∀ i, i < n → f i = h i)) := tells_no (fun z => hxy (HX.out.symm.trans ((z.2 k hlt).trans HY.out)))
          clear HE HX HY
          go_wp2
          go_quiet (fail)
          go_wp2
          go_ret
          exact ⟨NO.out, below_drewN hbel _⟩
      · have hlt' : ¬ (k : Int) < (n : Int) := by omega
        obtain rfl : k = n := by omega
        go_wp2
        go_ret
        first | exact ⟨tells_yes ⟨rfl, HE.out⟩, hbel⟩ | exact ⟨tells_yes HE.out, hbel⟩
  · have hnm' : ¬ (n : Int) = (m : Int) := by omega
    clear h1 h2
    go_enter Try.func43, Try.ntmps43
    go_wp2
    go_ret
    exact ⟨tells_no (fun z => hnm z.1), Below.refl _ _⟩
/-- Two operators of the same numbers. -/
def sameD (x y : OpD) : Prop := (x.n = y.n ∧ ∀ i, i < x.n → x.f i = y.f i) ∧ (x.k = y.k ∧ ∀ i, i < x.k → x.h i = y.h i)
theorem sameOp_any {w : World} {a1 a2 b1 b2 : Option Addr} {n k n' k' c1 c2 d1 d2 : Nat} {f f' h h' : Nat → Int} (m1 : Src w a1 n f) (m2 : Src w a2 n' f') (t1 : Src w b1 k h) (t2 : Src w b2 k' h') (hn : n ≤ 1048576 ∧ n' ≤ 1048576) (hk : k ≤ 1048576 ∧ k' ≤ 1048576) :
    Calls Try.prog 17 #[.agg #[.slice a1 n c1, .slice b1 k d1], .agg #[.slice a2 n' c2, .slice b2 k' d2]] w fun e w' => Tells e (sameD ⟨n, f, k, h⟩ ⟨n', f', k', h'⟩) ∧ Below w.heap.size w w' := by
  obtain ⟨W1, hW1, x1, bW1, -⟩ := boxed w 33 #[.slice a1 n c1, .slice b1 k d1]
  obtain ⟨W2, hW2, x2, bW2, -⟩ := boxed W1 33 #[.slice a2 n' c2, .slice b2 k' d2]
  have s1 := x1.lt
  replace x1 := x1.below bW2
  replace m1 := (m1.below bW1).below bW2
  replace m2 := (m2.below bW1).below bW2
  replace t1 := (t1.below bW1).below bW2
  replace t2 := (t2.below bW1).below bW2
  replace bW1 := bW1.trans (bW2.mono bW1.size)
  obtain ⟨e0, e1, -⟩ := x1.open2
  obtain ⟨e2, e3, -⟩ := x2.open2
  go_enter Try.func17, Try.ntmps17
  go_wp2_with fail
  refine (sameInts_any m1 m2 hn.1 hn.2).mono ?_
  rintro e w3 ⟨⟨b, rfl, hb⟩, b3⟩
  replace x1 := x1.below b3
  replace x2 := x2.below b3
  replace t1 := t1.below b3
  replace t2 := t2.below b3
  replace bW1 := bW1.trans (b3.mono bW1.size)
  have HBB := hidI hb
  clear e0 e1 e2 e3 m1 m2 hb
  obtain ⟨e0, e1, -⟩ := x1.open2
  obtain ⟨e2, e3, -⟩ := x2.open2
  cases b
  · have NO : Hid (Tells (.returned (.bool false)) (sameD ⟨n, f, k, h⟩ ⟨n', f', k', h'⟩)) := tells_no (fun z => absurd (HBB.out.2 z.1) (by decide))
    clear HBB
    go_wp2
    go_ret
    exact ⟨NO.out, bW1⟩
  go_wp2_with fail
  refine (sameInts_any t1 t2 hk.1 hk.2).mono ?_
  rintro e w4 ⟨⟨b, rfl, hb⟩, b4⟩
  have YES : Hid (Tells (.returned (.bool b)) (sameD ⟨n, f, k, h⟩ ⟨n', f', k', h'⟩)) := ⟨b, rfl, ⟨fun e => ⟨HBB.out.1 (by first | rfl | trivial), hb.1 e⟩, fun z => hb.2 z.2⟩⟩
  clear HBB hb
  go_wp2
  go_ret
  exact ⟨YES.out, bW1.trans (b4.mono bW1.size)⟩
set_option maxRecDepth 100000 in
set_option maxHeartbeats 3000000 in
theorem inOps_any {w : World} {g n c : Nat} {A : Nat → OpD} {a b : Option Addr} {N K c1 c2 : Nat} {f h : Nat → Int} (hL : OpsL w g n A) (hn : n ≤ 1048576) (hA : ∀ i, i < n → (A i).n ≤ 1048576 ∧ (A i).k ≤ 1048576) (s1 : Src w a N f) (s2 : Src w b K h) (hN : N ≤ 1048576) (hK : K ≤ 1048576) :
    Calls Try.prog 12 #[.slice (some ⟨g, 0, none⟩) n c, .agg #[.slice a N c1, .slice b K c2]] w fun e w' => Tells e (∃ i, i < n ∧ sameD (A i) ⟨N, f, K, h⟩) ∧ Below w.heap.size w w' := by
  obtain ⟨W1, hW1, x1, bW1, -⟩ := boxed w 33 #[.slice a N c1, .slice b K c2]
  obtain ⟨q, hq⟩ : ∃ q, w.heap.size = q := ⟨_, rfl⟩
  rw [hq] at x1
  have HL := hidI (hL.below bW1)
  have HA := hidI hA
  have S1 := hidI (s1.below bW1)
  have S2 := hidI (s2.below bW1)
  have X1 := hidI x1
  have B1 := hidI bW1
  clear hL hA s1 s2 x1 bW1
  go_enter Try.func12, Try.ntmps12
  go_wp2
  clear hW1 hq
  go_loopw [5] (fun s wr => ∃ k : Nat, k ≤ n ∧ s = .int .i64 k ∧ Hid (∀ i, i < k → ¬ sameD (A i) ⟨N, f, K, h⟩) ∧ Hid (Below W1.heap.size W1 wr)) (fun s _ => n - (intOf s).toNat)
  case atStart => exact ⟨0, Nat.zero_le _, rfl, fun i hi => absurd hi (Nat.not_lt_zero _), Below.refl _ _⟩
  case round =>
    obtain ⟨k, hk, rfl, HE, B⟩ := hrel
    by_cases hlt : k < n
    · have hlt' : (k : Int) < (n : Int) := by omega
      have hk0 : (0 : Int) ≤ (k : Int) := by omega
      have LB := HL.out.below B.out
      obtain ⟨xa, xc, xb, xd, f0, f1, s1, s2⟩ := LB.2 k hlt
      obtain ⟨i1, i2⟩ := HA.out k hlt
      obtain ⟨n1, hn1⟩ : ∃ m, (A k).n = m := ⟨_, rfl⟩
      obtain ⟨n2, hn2⟩ : ∃ m, (A k).k = m := ⟨_, rfl⟩
      have HN1 := hidI hn1
      have HN2 := hidI hn2
      rw [hn1] at f0 s1 i1
      rw [hn2] at f1 s2 i2
      have HX := hidI (X1.out.below B.out)
      have hL1 := hidI LB
      have hs1 := hidI s1
      have hs2 := hidI s2
      clear hn1 hn2 s1 s2 LB
      go_wp2_with fail
      obtain ⟨u0, hu0, bb⟩ : ∃ uu, wr.drew = uu ∧ Below wr.heap.size wr uu := ⟨_, rfl, (Below.refl _ _).drew⟩
      have bk0 : KbI wr u0 := bb
      clear bb
      refine wp_region_held_drew (S := KbI u0) (by kernel_rfl) (by rw [hu0]; exact Below.refl _ _) (fun hHeld => ?_)
      rw [hu0] at hHeld ⊢
      clear hu0
      have bu : KbI u0 u0 := Below.refl _ _
      change wpAnyH _ _ _ _ _ 6 #[false, false, false, false, false, false] _ _
      refine wpAnyH_take (i := 0) (v := .slice ((some ⟨g, 0, none⟩)) n c) rfl (by kernel_rfl) (by kernel_rfl) (by kernel_rfl) (fun _ _ _ h => h) (Or.inl ⟨by kernel_rfl, ?_⟩) hHeld ?_
      · intro w' hSw; go_simp
      try simp only [Act.put, List.setIfInBounds_toArray, List.set_cons_zero, List.set_cons_succ, List.getElem_toArray, List.getElem_cons_zero]
      refine wpAnyH_take (i := 1) (v := .int .i64 ((k : Int))) rfl (by kernel_rfl) (by kernel_rfl) (by kernel_rfl) (fun _ _ _ h => h) (Or.inl ⟨by kernel_rfl, ?_⟩) hHeld ?_
      · intro w' hSw; go_simp
      try simp only [Act.put, List.setIfInBounds_toArray, List.set_cons_zero, List.set_cons_succ, List.getElem_toArray, List.getElem_cons_succ, List.getElem_cons_zero]
      refine wpAnyH_take (i := 2) (v := .pointer (some ⟨g, k * 2, none⟩)) rfl (by kernel_rfl) (by kernel_rfl) (by kernel_rfl) (fun _ _ _ h => h) (Or.inl ⟨by kernel_rfl, ?_⟩) hHeld ?_
      · intro w' hSw; go_simp
      try simp only [Act.put, List.setIfInBounds_toArray, List.set_cons_zero, List.set_cons_succ, List.getElem_toArray, List.getElem_cons_succ, List.getElem_cons_zero]
      refine wpAnyH_take (i := 3) (v := .agg #[.slice xa n1 xc, .slice xb n2 xd]) rfl (by kernel_rfl) (by kernel_rfl) (by kernel_rfl) (fun _ _ _ h => h) (Or.inl ⟨by kernel_rfl, ?_⟩) hHeld ?_
      · intro w' hSw; have z0 := OpsL.cell hL1.out (bk0.trans (Below.mono hSw bk0.size)) f0; have z1 := OpsL.cell hL1.out (bk0.trans (Below.mono hSw bk0.size)) f1; go_simp
      try simp only [Act.put, List.setIfInBounds_toArray, List.set_cons_zero, List.set_cons_succ, List.getElem_toArray, List.getElem_cons_succ, List.getElem_cons_zero]
      refine wpAnyH_take (i := 4) (v := .agg #[.slice a N c1, .slice b K c2]) rfl (by kernel_rfl) (by kernel_rfl) (by kernel_rfl) (fun _ _ _ h => h) (Or.inl ⟨by kernel_rfl, ?_⟩) hHeld ?_
      · intro w' hSw; obtain ⟨z0, z1, -⟩ := (HX.out.below (bk0.trans (Below.mono hSw bk0.size))).open2; go_simp
      try simp only [Act.put, List.setIfInBounds_toArray, List.set_cons_zero, List.set_cons_succ, List.getElem_toArray, List.getElem_cons_succ, List.getElem_cons_zero]
      refine wpAnyH_ready (rs := [5]) (by kernel_rfl) (by simp) ?_
      refine AllReadyH.cons rfl (fun KK hK' => ?_) AllReadyH.nil
      go_simp
      refine (sameOp_any (hs1.out.below (bk0.trans (Below.mono bu bk0.size))) (S1.out.below (Below.trans B.out (Below.mono (bk0.trans (Below.mono bu bk0.size)) B.out.size))) (hs2.out.below (bk0.trans (Below.mono bu bk0.size))) (S2.out.below (Below.trans B.out (Below.mono (bk0.trans (Below.mono bu bk0.size)) B.out.size))) ⟨i1, hN⟩ ⟨i2, hK⟩).mono ?_
      rintro e u1 ⟨⟨bo, rfl, hbo⟩, bb⟩
      have HBO := hidI hbo
      replace bu : KbI u0 u1 := bu.trans (bb.mono bu.size)
      clear bb hbo
      try go_wp2_with fail
      clear hHeld
      refine hK'.out _ _ (bu) (fun hHeld => ?_)
      clear hK' KK
      try simp only [List.setIfInBounds_toArray, List.set_cons_zero, List.set_cons_succ]
      refine wpAnyH_done (by kernel_rfl) ?_ _
      clear hHeld
      have bz := bk0.trans (Below.mono bu bk0.size)
      replace B := hidI (B.out.trans (bz.mono B.out.size))
      clear bu bk0 bz f0 f1 hL1 hs1 hs2 HX
      cases bo
      · have HE2 : Hid (∀ i, i < k + 1 → ¬ sameD (A i) ⟨N, f, K, h⟩) := fun i hi hsd => by
          by_cases e : i = k
          · subst e
            refine absurd (HBO.out.2 ?_) (by decide)
            obtain ⟨⟨a1, a2⟩, a3, a4⟩ := hsd
            rw [HN1.out] at a1 a2
            rw [HN2.out] at a3 a4
            exact ⟨⟨a1, a2⟩, a3, a4⟩
          · exact HE.out i (by omega) hsd
        clear HE HBO HN1 HN2
        go_wp2
        exact ⟨⟨k + 1, by omega, by go_num, HE2, B⟩, by simp [intOf]; omega⟩
      · have YES : Hid (Tells (.returned (.bool true)) (∃ i, i < n ∧ sameD (A i) ⟨N, f, K, h⟩)) := tells_yes ⟨k, hlt, by
          obtain ⟨⟨a1, a2⟩, a3, a4⟩ := HBO.out.1 (by first | rfl | trivial)
          refine ⟨⟨?_, ?_⟩, ?_, ?_⟩
          · rw [HN1.out]; exact a1
          · rw [HN1.out]; exact a2
          · rw [HN2.out]; exact a3
          · rw [HN2.out]; exact a4⟩
        clear HE HBO HN1 HN2
        go_wp2
        go_ret
        exact ⟨YES.out, B1.out.trans (B.out.mono B1.out.size)⟩
    · have hlt' : ¬ (k : Int) < (n : Int) := by omega
      obtain rfl : k = n := by omega
      have NO : Hid (Tells (.returned (.bool false)) (∃ i, i < k ∧ sameD (A i) ⟨N, f, K, h⟩)) := tells_no (fun ⟨i, hi, z⟩ => HE.out i hi z)
      clear HE
      go_wp2
      go_ret
      exact ⟨NO.out, B1.out.trans (B.out.mono B1.out.size)⟩
end Go.Proofs.Ytpolnkjmojofoaa
