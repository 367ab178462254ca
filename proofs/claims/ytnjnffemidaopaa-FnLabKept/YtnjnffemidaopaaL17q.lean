/-
  The code of a deed by the specification: walked.
-/
import Derived.Test.YtnjnffemidaopaaL17p
import Derived.Test.YtnjnffemidaopaaL17d
namespace Go.Proofs.Ytnjnffemidaopaa
open Go.RowKit

set_option maxHeartbeats 1600000 in
theorem l17Deed_any (K s o a : Int) (w : World) (b : Bool) (hb : Hid (b = true ↔ dOk K s o a)) : Calls Try.prog 64 #[deedV K s o a] w fun e w' => e = .returned (.bool b) ∧ Below w.heap.size w w' := by
  obtain ⟨V1, hV1, m1, bb1, -⟩ := boxed w 29 #[.int .i64 K, .int .i64 s, .int .i64 o, .int .i64 a]
  obtain ⟨c0, c1, c2, c3, -⟩ := Job.box m1
  have I0 := fun w => in_any K 1 8 w
  have I1 := fun w => in_any s 1 1000000 w
  have I2 := fun w => in_any o 1 1000000 w
  have I3 := fun w => in_any a 1 1000 w
  have I4 := fun w => in_any a 0 1000 w
  obtain ⟨y0, hy0⟩ : ∃ y, decide (1 ≤ K ∧ K ≤ 8) = y := ⟨_, rfl⟩
  obtain ⟨y1, hy1⟩ : ∃ y, decide (1 ≤ s ∧ s ≤ 1000000) = y := ⟨_, rfl⟩
  obtain ⟨y2, hy2⟩ : ∃ y, decide (1 ≤ o ∧ o ≤ 1000000) = y := ⟨_, rfl⟩
  obtain ⟨y3, hy3⟩ : ∃ y, decide (1 ≤ a ∧ a ≤ 1000) = y := ⟨_, rfl⟩
  obtain ⟨y4, hy4⟩ : ∃ y, decide (0 ≤ a ∧ a ≤ 1000) = y := ⟨_, rfl⟩
  have H : Hid (b = true ↔ y0 = true ∧ y1 = true ∧ (K = 1 → y4 = true) ∧ (K = 2 → y2 = true ∧ y3 = true) ∧ (K = 6 ∨ K = 7 → y2 = true)) := by
    show _ ↔ _
    rw [hb.out, ← hy0, ← hy1, ← hy2, ← hy3, ← hy4]
    simp [dOk]
  rw [hy0] at I0
  rw [hy1] at I1
  rw [hy2] at I2
  rw [hy3] at I3
  rw [hy4] at I4
  clear hb hy0 hy1 hy2 hy3 hy4 m1
  cases y0
  · obtain rfl := no_of H (fun k => absurd k.1 (by simp))
    clear H
    go_enter Try.func64, Try.ntmps64
    go_wp2_with fail
    refine (I0 _).mono ?_
    rintro e w2 ⟨rfl, rfl⟩
    go_wp2
    go_ret
    exact ⟨rfl, bb1⟩
  cases y1
  · obtain rfl := no_of H (fun k => absurd k.2.1 (by simp))
    clear H
    go_enter Try.func64, Try.ntmps64
    go_wp2_with fail
    refine (I0 _).mono ?_
    rintro e w2 ⟨rfl, rfl⟩
    go_wp2_with fail
    refine (I1 _).mono ?_
    rintro e w2 ⟨rfl, rfl⟩
    go_wp2
    go_ret
    exact ⟨rfl, bb1⟩
  by_cases k1 : K = 1
  · subst k1
    cases y4
    · obtain rfl := no_of H (fun k => absurd (k.2.2.1 rfl) (by simp))
      clear H
      go_enter Try.func64, Try.ntmps64
      go_wp2_with fail
      refine (I0 _).mono ?_
      rintro e w2 ⟨rfl, rfl⟩
      go_wp2_with fail
      refine (I1 _).mono ?_
      rintro e w2 ⟨rfl, rfl⟩
      go_wp2_with fail
      refine (I4 _).mono ?_
      rintro e w2 ⟨rfl, rfl⟩
      go_wp2
      go_ret
      exact ⟨rfl, bb1⟩
    obtain rfl : b = true := H.out.2 (by simp)
    clear H
    go_enter Try.func64, Try.ntmps64
    go_wp2_with fail
    refine (I0 _).mono ?_
    rintro e w2 ⟨rfl, rfl⟩
    go_wp2_with fail
    refine (I1 _).mono ?_
    rintro e w2 ⟨rfl, rfl⟩
    go_wp2_with fail
    refine (I4 _).mono ?_
    rintro e w2 ⟨rfl, rfl⟩
    go_wp2
    go_ret
    exact ⟨rfl, bb1⟩
  by_cases k2 : K = 2
  · subst k2
    cases y2
    · obtain rfl := no_of H (fun k => absurd (k.2.2.2.1 rfl).1 (by simp))
      clear H
      go_enter Try.func64, Try.ntmps64
      go_wp2_with fail
      refine (I0 _).mono ?_
      rintro e w2 ⟨rfl, rfl⟩
      go_wp2_with fail
      refine (I1 _).mono ?_
      rintro e w2 ⟨rfl, rfl⟩
      go_wp2_with fail
      refine (I2 _).mono ?_
      rintro e w2 ⟨rfl, rfl⟩
      go_wp2
      go_ret
      exact ⟨rfl, bb1⟩
    cases y3
    · obtain rfl := no_of H (fun k => absurd (k.2.2.2.1 rfl).2 (by simp))
      clear H
      go_enter Try.func64, Try.ntmps64
      go_wp2_with fail
      refine (I0 _).mono ?_
      rintro e w2 ⟨rfl, rfl⟩
      go_wp2_with fail
      refine (I1 _).mono ?_
      rintro e w2 ⟨rfl, rfl⟩
      go_wp2_with fail
      refine (I2 _).mono ?_
      rintro e w2 ⟨rfl, rfl⟩
      go_wp2_with fail
      refine (I3 _).mono ?_
      rintro e w2 ⟨rfl, rfl⟩
      go_wp2
      go_ret
      exact ⟨rfl, bb1⟩
    obtain rfl : b = true := H.out.2 (by simp)
    clear H
    go_enter Try.func64, Try.ntmps64
    go_wp2_with fail
    refine (I0 _).mono ?_
    rintro e w2 ⟨rfl, rfl⟩
    go_wp2_with fail
    refine (I1 _).mono ?_
    rintro e w2 ⟨rfl, rfl⟩
    go_wp2_with fail
    refine (I2 _).mono ?_
    rintro e w2 ⟨rfl, rfl⟩
    go_wp2_with fail
    refine (I3 _).mono ?_
    rintro e w2 ⟨rfl, rfl⟩
    go_wp2
    go_ret
    exact ⟨rfl, bb1⟩
  by_cases k6 : K = 6
  · subst k6
    cases y2
    · obtain rfl := no_of H (fun k => absurd (k.2.2.2.2 (by simp)) (by simp))
      clear H
      go_enter Try.func64, Try.ntmps64
      go_wp2_with fail
      refine (I0 _).mono ?_
      rintro e w2 ⟨rfl, rfl⟩
      go_wp2_with fail
      refine (I1 _).mono ?_
      rintro e w2 ⟨rfl, rfl⟩
      go_wp2_with fail
      refine (I2 _).mono ?_
      rintro e w2 ⟨rfl, rfl⟩
      go_wp2
      go_ret
      exact ⟨rfl, bb1⟩
    obtain rfl : b = true := H.out.2 (by simp)
    clear H
    go_enter Try.func64, Try.ntmps64
    go_wp2_with fail
    refine (I0 _).mono ?_
    rintro e w2 ⟨rfl, rfl⟩
    go_wp2_with fail
    refine (I1 _).mono ?_
    rintro e w2 ⟨rfl, rfl⟩
    go_wp2_with fail
    refine (I2 _).mono ?_
    rintro e w2 ⟨rfl, rfl⟩
    go_wp2
    go_ret
    exact ⟨rfl, bb1⟩
  by_cases k7 : K = 7
  · subst k7
    cases y2
    · obtain rfl := no_of H (fun k => absurd (k.2.2.2.2 (by simp)) (by simp))
      clear H
      go_enter Try.func64, Try.ntmps64
      go_wp2_with fail
      refine (I0 _).mono ?_
      rintro e w2 ⟨rfl, rfl⟩
      go_wp2_with fail
      refine (I1 _).mono ?_
      rintro e w2 ⟨rfl, rfl⟩
      go_wp2_with fail
      refine (I2 _).mono ?_
      rintro e w2 ⟨rfl, rfl⟩
      go_wp2
      go_ret
      exact ⟨rfl, bb1⟩
    obtain rfl : b = true := H.out.2 (by simp)
    clear H
    go_enter Try.func64, Try.ntmps64
    go_wp2_with fail
    refine (I0 _).mono ?_
    rintro e w2 ⟨rfl, rfl⟩
    go_wp2_with fail
    refine (I1 _).mono ?_
    rintro e w2 ⟨rfl, rfl⟩
    go_wp2_with fail
    refine (I2 _).mono ?_
    rintro e w2 ⟨rfl, rfl⟩
    go_wp2
    go_ret
    exact ⟨rfl, bb1⟩
  have p1 : (K == 1) = false := by simpa using k1
  have p2 : (K == 2) = false := by simpa using k2
  have p6 : (K == 6) = false := by simpa using k6
  have p7 : (K == 7) = false := by simpa using k7
  obtain rfl : b = true := H.out.2 (⟨rfl, rfl, fun h => absurd h k1, fun h => absurd h k2, fun h => h.elim (fun h => absurd h k6) (fun h => absurd h k7)⟩)
  clear H
  clear k1 k2 k6 k7
  go_enter Try.func64, Try.ntmps64
  go_wp2_with fail
  refine (I0 _).mono ?_
  rintro e w2 ⟨rfl, rfl⟩
  go_wp2_with fail
  refine (I1 _).mono ?_
  rintro e w2 ⟨rfl, rfl⟩
  go_wp2
  go_ret
  exact ⟨rfl, bb1⟩
set_option maxRecDepth 100000 in
set_option maxHeartbeats 1600000 in
theorem l17Free_any {w : World} {a s : Option Addr} {m c n d : Nat} {f : Nat → Int} {T : Int} (to : Int) (hs : Ls 3 w s n f) (hn : n ≤ 100) (b : Bool) (hb : Hid (b = true ↔ ∀ i, i < n → f (i * 3 + 1) ≠ to)) :
    Calls Try.prog 84 #[lbV s n d a m c T, .int .i64 to] w fun e w' => e = .returned (.bool b) ∧ Below w.heap.size w w' := by
  have hn' : (n : Int) ≤ 100 := by omega
  obtain ⟨V1, hV1, m1, B1, -⟩ := boxed w 27 #[.slice s n d, .slice a m c, .int .i64 T]
  obtain ⟨r1, hr1⟩ : ∃ r, w.heap.size = r := ⟨_, rfl⟩
  rw [hr1] at m1
  have L := hs.below B1
  obtain ⟨c0, c1, c2, -⟩ := m1.open3
  go_enter Try.func84, Try.ntmps84
  go_wp2
  clear hV1 hr1
  go_loopw [5] (fun u wr => ∃ k : Nat, k ≤ n ∧ u = .int .i64 (k : Int) ∧ V1 = wr ∧ ∀ i, i < k → f (i * 3 + 1) ≠ to) (fun u _ => n - (intOf u).toNat)
  case atStart => exact ⟨0, Nat.zero_le _, rfl, rfl, fun i hi => by omega⟩
  case round =>
    obtain ⟨k, hk, rfl, rfl, hno⟩ := hrel
    have HN : Hid (∀ i, i < k → f (i * 3 + 1) ≠ to) := hno
    clear hno
    by_cases hlt : k < n
    · have hlt' : (k : Int) < (n : Int) := by omega
      obtain ⟨r, rfl, R⟩ := L.some hlt
      obtain ⟨d0, d1, d2⟩ := Sample.open R k hlt
      obtain ⟨x, hx⟩ : ∃ x, f (k * 3 + 1) = x := ⟨_, rfl⟩
      rw [hx] at d1
      have HX : Hid (f (k * 3 + 1) = x) := hx
      clear hx R
      by_cases e : x = to
      · have h1' : (x == to) = true := by simpa using e
        obtain rfl := no_of hb (fun h => h k hlt (HX.out.trans e))
        clear e
        go_wp2
        go_ret
        exact ⟨rfl, B1⟩
      · have h1' : (x == to) = false := by simpa using e
        have HE : Hid (¬ x = to) := e
        clear e
        go_wp2
        refine ⟨⟨k + 1, by omega, by go_num, trivial, fun i hi => ?_⟩, by simp [intOf]; omega⟩
        by_cases e : i = k
        · rw [e, HX.out]; exact HE.out
        · exact HN.out i (by omega)
    · have hlt' : ¬ (k : Int) < (n : Int) := by omega
      obtain rfl : k = n := by omega
      obtain rfl : b = true := hb.out.2 HN.out
      go_wp2
      go_ret
      exact ⟨rfl, B1⟩
set_option maxRecDepth 100000 in
set_option maxHeartbeats 6400000 in
theorem l17Code_any {w : World} {aj sa : Option Addr} {m c n d p j : Nat} {f g : Nat → Int} {T : Int} {ys yj : Bool} (K s o a : Int) (hs : Ls 3 w sa n f) (hj : Ls 4 w aj m g) (HL : Hid (LbOk n f m g T)) (HF : Hid (Fnd n f m g s o p ys j yj)) (HO : Hid (dOk K s o a)) :
    Calls Try.prog 65 #[lbV sa n d aj m c T, deedV K s o a] w fun e w' => e = .returned (.int .i64 (codeR n f m g K p ys j yj)) ∧ Below w.heap.size w w' := by
  obtain ⟨W2, hW2, A1, A2, B1, -⟩ := bx2 w 27 29 #[.slice sa n d, .slice aj m c, .int .i64 T] #[.int .i64 K, .int .i64 s, .int .i64 o, .int .i64 a]
  obtain ⟨q1, hq1⟩ : ∃ q, w.heap.size = q := ⟨_, rfl⟩
  obtain ⟨q2, hq2⟩ : ∃ q, q1 + 1 = q := ⟨_, rfl⟩
  rw [hq1] at A1 A2
  rw [hq2] at A2
  have hn := HL.out.1.1
  have hm := HL.out.2.1.1
  have L := hs.below B1
  have J := hj.below B1
  clear hs hj
  obtain ⟨sv, hsv, hs1, hs2⟩ : ∃ sv : Int, (∀ w, Ls 3 w sa n f → Calls Try.prog 38 #[lbV sa n d aj m c T, .int .i64 s] w fun e w' => e = .returned (.int .i64 sv) ∧ Below w.heap.size w w') ∧ (ys = true → sv = (p : Int) ∧ p < n ∧ f (p * 3) = s) ∧ (ys = false → sv = -1) := by
    cases ys
    · exact ⟨-1, fun w l => l17Sample_no s l hn (show ∀ _, _ from fun i hi e => iff_no HF.out.sy ((HF.out.pl.find HL.out.1.rise).2 ⟨i, hi, e⟩)), (fun h => by cases h), fun _ => rfl⟩
    · have h := HF.out.sy.1 rfl
      exact ⟨(p : Int), fun w l => l17Sample_yes s l hn h.1 (show ∀ _, _ from fun i hi e => by have := HF.out.pl.2.1 i hi; omega) h.2, fun _ => ⟨rfl, h.1, h.2⟩, fun h => by cases h⟩
  obtain ⟨jv, hjv, hj1, hj2⟩ : ∃ jv : Int, (∀ w, Ls 4 w aj m g → Calls Try.prog 39 #[lbV sa n d aj m c T, .int .i64 s, .int .i64 o] w fun e w' => e = .returned (.int .i64 jv) ∧ Below w.heap.size w w') ∧ (yj = true → jv = (j : Int) ∧ j < m ∧ isJ g s o j) ∧ (yj = false → jv = -1) := by
    cases yj
    · exact ⟨-1, fun w l => l17Job_no s o l hm (HF.out.jn rfl), (fun h => by cases h), fun _ => rfl⟩
    · obtain ⟨a1, a2, a3⟩ := HF.out.jy rfl
      exact ⟨(j : Int), fun w l => l17Job_yes s o l hm a1 a2 a3, fun _ => ⟨rfl, a1, a3⟩, fun h => by cases h⟩
  have HSJ : Hid (yj = true → ys = true) := fun h => by
    obtain ⟨a1, a2, a3⟩ := HF.out.jy h
    have h1 := (HL.out.2.1.2 j a1).2.1
    rw [a3.1] at h1
    exact HF.out.sy.2 ((HF.out.pl.find HL.out.1.rise).2 h1)
  have H1 : Hid (ys = true → sv = (p : Int) ∧ p < n ∧ f (p * 3) = s) := hs1
  have H2 : Hid (ys = false → sv = -1) := hs2
  have H3 : Hid (yj = true → jv = (j : Int) ∧ j < m ∧ isJ g s o j) := hj1
  have H4 : Hid (yj = false → jv = -1) := hj2
  clear hs1 hs2 hj1 hj2
  obtain ⟨c0, c1, c2, -⟩ := A1.open3
  obtain ⟨d0, d1, d2, d3, -⟩ := Job.box A2
  go_enter Try.func65, Try.ntmps65
  go_wp2_with fail
  refine (hsv _ L).mono ?_
  rintro e w3 ⟨rfl, bb⟩
  replace B1 := B1.trans (bb.mono B1.size)
  replace L := L.below bb
  replace J := J.below bb
  replace A1 := A1.below bb
  replace A2 := A2.below bb
  clear c0 c1 c2 d0 d1 d2 d3 bb hW2 hq1 hq2 hsv
  obtain ⟨c0, c1, c2, -⟩ := A1.open3
  obtain ⟨d0, d1, d2, d3, -⟩ := Job.box A2
  go_wp2_with fail
  refine (hjv _ J).mono ?_
  rintro e w4 ⟨rfl, bb⟩
  replace B1 := B1.trans (bb.mono B1.size)
  replace L := L.below bb
  replace J := J.below bb
  replace A1 := A1.below bb
  replace A2 := A2.below bb
  clear c0 c1 c2 d0 d1 d2 d3 bb hjv
  obtain ⟨c0, c1, c2, -⟩ := A1.open3
  obtain ⟨d0, d1, d2, d3, -⟩ := Job.box A2
  by_cases k1 : K = 1
  · subst k1
    by_cases h1 : n = 100
    · have H5 : Hid (n = 100) := h1
      have hn' : ((n : Int) == 100) = true := by simp; omega
      clear h1
      go_wp2
      go_ret
      exact ⟨by rw [show codeR n f m g _ p _ j _ = 3 by simp [codeR, H5.out]]; rfl, B1⟩
    have H5 : Hid (¬ n = 100) := h1
    have hn' : ((n : Int) == 100) = false := by simp; omega
    clear h1
    cases ys
    · obtain rfl := H2.out rfl
      go_wp2
      go_ret
      exact ⟨by rw [show codeR n f m g _ p _ j _ = 0 by simp [codeR, H5.out]]; rfl, B1⟩
    obtain ⟨rfl, -, -⟩ := H1.out rfl
    have hp00 : (0 : Int) ≤ (p : Int) := by omega
    go_wp2
    go_ret
    exact ⟨by rw [show codeR n f m g _ p _ j _ = 4 by simp [codeR, H5.out]]; rfl, B1⟩
  by_cases k2 : K = 2
  · subst k2
    by_cases h1 : m = 300
    · have H5 : Hid (m = 300) := h1
      have hn' : ((m : Int) == 300) = true := by simp; omega
      clear h1
      go_wp2
      go_ret
      exact ⟨by rw [show codeR n f m g _ p _ j _ = 3 by simp [codeR, H5.out]]; rfl, B1⟩
    have H5 : Hid (¬ m = 300) := h1
    have hn' : ((m : Int) == 300) = false := by simp; omega
    clear h1
    cases yj
    case true =>
      obtain ⟨rfl, -, -⟩ := H3.out rfl
      have hj00 : (0 : Int) ≤ (j : Int) := by omega
      go_wp2
      go_ret
      exact ⟨by rw [show codeR n f m g _ p _ j _ = 4 by simp [codeR, H5.out]]; rfl, B1⟩
    obtain rfl := H4.out rfl
    cases ys
    · obtain rfl := H2.out rfl
      go_wp2
      go_ret
      exact ⟨by rw [show codeR n f m g _ p _ j _ = 5 by simp [codeR, H5.out]]; rfl, B1⟩
    obtain ⟨rfl, hpn, hpe⟩ := H1.out rfl
    have HE : Hid (f (p * 3) = s) := hpe
    clear hpe
    have hpi : (p : Int) < (n : Int) := by omega
    obtain ⟨gs, rfl, R⟩ := L.some hpn
    obtain ⟨x0, x1, x2⟩ := Sample.open R p hpn
    obtain ⟨pl, hpl⟩ : ∃ x, f (p * 3 + 1) = x := ⟨_, rfl⟩
    rw [hpl] at x1
    have HP : Hid (f (p * 3 + 1) = pl) := hpl
    clear hpl
    have hp0 : ¬ (p : Int) < 0 := by omega
    have hp00 : (0 : Int) ≤ (p : Int) := by omega
    by_cases h2 : pl = 4
    · subst h2
      go_wp2
      go_ret
      exact ⟨by rw [show codeR n f m g _ p _ j _ = 6 by simp [codeR, H5.out, HP.out]]; rfl, B1⟩
    have h2' : (pl != 4) = true := by simpa using h2
    have H6 : Hid (¬ pl = 4) := h2
    clear h2
    go_wp2
    go_ret
    exact ⟨by rw [show codeR n f m g _ p _ j _ = 0 by simp [codeR, H5.out, HP.out, H6.out]]; rfl, B1⟩
  by_cases k3 : K = 3
  · subst k3
    cases ys
    · obtain rfl := H2.out rfl
      go_wp2
      go_ret
      exact ⟨by rw [show codeR n f m g _ p _ j _ = 5 by simp [codeR]]; rfl, B1⟩
    obtain ⟨rfl, hpn, hpe⟩ := H1.out rfl
    have HE : Hid (f (p * 3) = s) := hpe
    clear hpe
    have hpi : (p : Int) < (n : Int) := by omega
    obtain ⟨gs, rfl, R⟩ := L.some hpn
    obtain ⟨x0, x1, x2⟩ := Sample.open R p hpn
    obtain ⟨pl, hpl⟩ : ∃ x, f (p * 3 + 1) = x := ⟨_, rfl⟩
    rw [hpl] at x1
    have HP : Hid (f (p * 3 + 1) = pl) := hpl
    clear hpl
    have hp0 : ¬ (p : Int) < 0 := by omega
    have hp00 : (0 : Int) ≤ (p : Int) := by omega
    by_cases h1 : pl = 1
    · subst h1
      obtain ⟨y, hy⟩ := bool_of (∀ i, i < n → f (i * 3 + 1) ≠ 2)
      have FR := fun w (l : Ls 3 w (some ⟨gs, 0, none⟩) n f) => l17Free_any (d := d) (a := aj) (m := m) (c := c) (T := T) 2 l hn y hy
      cases y
      · have H7 : Hid (¬ Rm n f 2) := fun h => h.elim (fun h => by omega) (fun h => h.elim (fun h => by omega) (iff_no hy))
        clear hy
        go_wp2_with fail
        refine (FR _ (.inr ⟨gs, rfl, R⟩)).mono ?_
        rintro e w5 ⟨rfl, bb⟩
        replace B1 := B1.trans (bb.mono B1.size)
        replace A2 := A2.below bb
        clear d0 d1 d2 d3
        obtain ⟨d0, d1, d2, d3, -⟩ := Job.box A2
        go_wp2
        go_ret
        exact ⟨by rw [code3_no (fun h => H7.out h.2)]; rfl, B1⟩
      have H7 : Hid (Rm n f 2) := .inr (.inr (hy.1 rfl))
      clear hy
      go_wp2_with fail
      refine (FR _ (.inr ⟨gs, rfl, R⟩)).mono ?_
      rintro e w5 ⟨rfl, bb⟩
      replace B1 := B1.trans (bb.mono B1.size)
      replace A2 := A2.below bb
      clear d0 d1 d2 d3
      obtain ⟨d0, d1, d2, d3, -⟩ := Job.box A2
      go_wp2
      go_ret
      exact ⟨by rw [code3_yes ⟨.inl HP.out, H7.out⟩]; rfl, B1⟩
    have h1' : (pl == 1) = false := by simpa using h1
    by_cases h3 : pl = 3
    · subst h3
      clear h1
      obtain ⟨y, hy⟩ := bool_of (∀ i, i < n → f (i * 3 + 1) ≠ 2)
      have FR := fun w (l : Ls 3 w (some ⟨gs, 0, none⟩) n f) => l17Free_any (d := d) (a := aj) (m := m) (c := c) (T := T) 2 l hn y hy
      cases y
      · have H7 : Hid (¬ Rm n f 2) := fun h => h.elim (fun h => by omega) (fun h => h.elim (fun h => by omega) (iff_no hy))
        clear hy
        go_wp2_with fail
        refine (FR _ (.inr ⟨gs, rfl, R⟩)).mono ?_
        rintro e w5 ⟨rfl, bb⟩
        replace B1 := B1.trans (bb.mono B1.size)
        replace A2 := A2.below bb
        clear d0 d1 d2 d3
        obtain ⟨d0, d1, d2, d3, -⟩ := Job.box A2
        go_wp2
        go_ret
        exact ⟨by rw [code3_no (fun h => H7.out h.2)]; rfl, B1⟩
      have H7 : Hid (Rm n f 2) := .inr (.inr (hy.1 rfl))
      clear hy
      go_wp2_with fail
      refine (FR _ (.inr ⟨gs, rfl, R⟩)).mono ?_
      rintro e w5 ⟨rfl, bb⟩
      replace B1 := B1.trans (bb.mono B1.size)
      replace A2 := A2.below bb
      clear d0 d1 d2 d3
      obtain ⟨d0, d1, d2, d3, -⟩ := Job.box A2
      go_wp2
      go_ret
      exact ⟨by rw [code3_yes ⟨.inr HP.out, H7.out⟩]; rfl, B1⟩
    have h3' : (pl == 3) = false := by simpa using h3
    have H6 : Hid (¬ (pl = 1 ∨ pl = 3)) := fun h => h.elim h1 h3
    clear h1 h3
    go_wp2
    go_ret
    exact ⟨by rw [code3_no (fun h => H6.out (by rw [HP.out] at h; exact h.1))]; rfl, B1⟩
  by_cases k4 : K = 4
  · subst k4
    cases ys
    · obtain rfl := H2.out rfl
      go_wp2
      go_ret
      exact ⟨by rw [show codeR n f m g _ p _ j _ = 5 by simp [codeR]]; rfl, B1⟩
    obtain ⟨rfl, hpn, hpe⟩ := H1.out rfl
    have HE : Hid (f (p * 3) = s) := hpe
    clear hpe
    have hpi : (p : Int) < (n : Int) := by omega
    obtain ⟨gs, rfl, R⟩ := L.some hpn
    obtain ⟨x0, x1, x2⟩ := Sample.open R p hpn
    obtain ⟨pl, hpl⟩ : ∃ x, f (p * 3 + 1) = x := ⟨_, rfl⟩
    rw [hpl] at x1
    have HP : Hid (f (p * 3 + 1) = pl) := hpl
    clear hpl
    have hp0 : ¬ (p : Int) < 0 := by omega
    have hp00 : (0 : Int) ≤ (p : Int) := by omega
    by_cases h1 : pl = 2
    · subst h1
      obtain ⟨y, hy⟩ := bool_of (∀ i, i < n → f (i * 3 + 1) ≠ 3)
      have FR := fun w (l : Ls 3 w (some ⟨gs, 0, none⟩) n f) => l17Free_any (d := d) (a := aj) (m := m) (c := c) (T := T) 3 l hn y hy
      cases y
      · have H7 : Hid (¬ Rm n f 3) := fun h => h.elim (fun h => by omega) (fun h => h.elim (fun h => by omega) (iff_no hy))
        clear hy
        go_wp2_with fail
        refine (FR _ (.inr ⟨gs, rfl, R⟩)).mono ?_
        rintro e w5 ⟨rfl, bb⟩
        replace B1 := B1.trans (bb.mono B1.size)
        replace A2 := A2.below bb
        clear d0 d1 d2 d3
        obtain ⟨d0, d1, d2, d3, -⟩ := Job.box A2
        go_wp2
        go_ret
        exact ⟨by rw [code4_no (fun h => H7.out h.2)]; rfl, B1⟩
      have H7 : Hid (Rm n f 3) := .inr (.inr (hy.1 rfl))
      clear hy
      go_wp2_with fail
      refine (FR _ (.inr ⟨gs, rfl, R⟩)).mono ?_
      rintro e w5 ⟨rfl, bb⟩
      replace B1 := B1.trans (bb.mono B1.size)
      replace A2 := A2.below bb
      clear d0 d1 d2 d3
      obtain ⟨d0, d1, d2, d3, -⟩ := Job.box A2
      go_wp2
      go_ret
      exact ⟨by rw [code4_yes ⟨HP.out, H7.out⟩]; rfl, B1⟩
    have h1' : (pl == 2) = false := by simpa using h1
    have H6 : Hid (¬ pl = 2) := h1
    clear h1
    go_wp2
    go_ret
    exact ⟨by rw [code4_no (fun h => H6.out (by rw [HP.out] at h; exact h.1))]; rfl, B1⟩
  by_cases k5 : K = 5
  · subst k5
    cases ys
    · obtain rfl := H2.out rfl
      go_wp2
      go_ret
      exact ⟨by rw [show codeR n f m g _ p _ j _ = 5 by simp [codeR]]; rfl, B1⟩
    obtain ⟨rfl, hpn, hpe⟩ := H1.out rfl
    have HE : Hid (f (p * 3) = s) := hpe
    clear hpe
    have hpi : (p : Int) < (n : Int) := by omega
    obtain ⟨gs, rfl, R⟩ := L.some hpn
    obtain ⟨x0, x1, x2⟩ := Sample.open R p hpn
    obtain ⟨pl, hpl⟩ : ∃ x, f (p * 3 + 1) = x := ⟨_, rfl⟩
    rw [hpl] at x1
    have HP : Hid (f (p * 3 + 1) = pl) := hpl
    clear hpl
    have hp0 : ¬ (p : Int) < 0 := by omega
    have hp00 : (0 : Int) ≤ (p : Int) := by omega
    by_cases h1 : pl = 2
    · subst h1
      go_wp2
      go_ret
      exact ⟨by rw [code5_yes HP.out]; rfl, B1⟩
    have h1' : (pl == 2) = false := by simpa using h1
    have H6 : Hid (¬ pl = 2) := h1
    clear h1
    go_wp2
    go_ret
    exact ⟨by rw [code5_no (fun h => H6.out (by rw [HP.out] at h; exact h))]; rfl, B1⟩
  by_cases k6 : K = 6
  · subst k6
    cases yj
    · obtain rfl := H4.out rfl
      go_wp2
      go_ret
      exact ⟨by rw [show codeR n f m g _ p _ j _ = 5 by simp [codeR]]; rfl, B1⟩
    obtain rfl := HSJ.out rfl
    obtain ⟨rfl, hpn, hpe⟩ := H1.out rfl
    have HE : Hid (f (p * 3) = s) := hpe
    clear hpe
    have hpi : (p : Int) < (n : Int) := by omega
    obtain ⟨gs, rfl, R⟩ := L.some hpn
    obtain ⟨x0, x1, x2⟩ := Sample.open R p hpn
    obtain ⟨pl, hpl⟩ : ∃ x, f (p * 3 + 1) = x := ⟨_, rfl⟩
    rw [hpl] at x1
    have HP : Hid (f (p * 3 + 1) = pl) := hpl
    clear hpl
    have hp0 : ¬ (p : Int) < 0 := by omega
    have hp00 : (0 : Int) ≤ (p : Int) := by omega
    obtain ⟨rfl, hjm, hjj⟩ := H3.out rfl
    clear hjj
    have hji : (j : Int) < (m : Int) := by omega
    obtain ⟨gj, rfl, RJ⟩ := J.some hjm
    obtain ⟨v0, v1, v2, v3⟩ := Job.open RJ j hjm
    have hj0 : ¬ (j : Int) < 0 := by omega
    have hj00 : (0 : Int) ≤ (j : Int) := by omega
    obtain ⟨nd, hnd⟩ : ∃ x, g (j * 4 + 2) = x := ⟨_, rfl⟩
    obtain ⟨st, hst⟩ : ∃ x, g (j * 4 + 3) = x := ⟨_, rfl⟩
    obtain ⟨lf, hlf⟩ : ∃ x, f (p * 3 + 2) = x := ⟨_, rfl⟩
    rw [hnd] at v2
    rw [hst] at v3
    rw [hlf] at x2
    have G1 : Hid (g (j * 4 + 2) = nd) := hnd
    have G2 : Hid (g (j * 4 + 3) = st) := hst
    have G3 : Hid (f (p * 3 + 2) = lf) := hlf
    clear hnd hst hlf
    by_cases h1 : pl = 3
    case neg =>
      have h1' : (pl == 3) = false := by simpa using h1
      have H6 : Hid (¬ pl = 3) := h1
      clear h1
      go_wp2
      go_ret
      exact ⟨by rw [show codeR n f m g _ p _ j _ = 6 by simp [codeR, HP.out, H6.out]]; rfl, B1⟩
    subst h1
    by_cases h2 : st = 1
    case neg =>
      have h2' : (st != 1) = true := by simpa using h2
      have H6 : Hid (¬ st = 1) := h2
      clear h2
      go_wp2
      go_ret
      exact ⟨by rw [show codeR n f m g _ p _ j _ = 7 by simp [codeR, HP.out, G2.out, H6.out]]; rfl, B1⟩
    subst h2
    by_cases h3 : lf < nd
    · have H6 : Hid (lf < nd) := h3
      go_wp2_with fail
      obtain ⟨u0, hu0, bb⟩ : ∃ uu, w4.drew = uu ∧ Below w4.heap.size w4 uu := ⟨_, rfl, (Below.refl _ _).drew⟩
      replace A1 := A1.below bb
      replace A2 := A2.below bb
      replace B1 := B1.trans (bb.mono B1.size)
      have R0 := R.below bb
      have RJ0 := RJ.below bb
      clear bb
      refine wp_region_held_drew (S := Kb u0) (by kernel_rfl) (by rw [hu0]; exact Below.refl _ _) (fun hHeld => ?_)
      rw [hu0] at hHeld ⊢
      clear hu0
      have bu : Kb u0 u0 := Below.refl _ _
      change wpAnyH _ _ _ _ _ 18 #[false, false, false, false, false, false, false, false, false, false, false, false, false, false, false, false, false, false] _ _
      refine wpAnyH_take (i := 0) (v := .pointer (some ⟨q2, 0, none⟩)) rfl (by kernel_rfl) (by kernel_rfl) (by kernel_rfl) (fun _ _ _ h => h) (Or.inl ⟨by kernel_rfl, ?_⟩) hHeld ?_
      · intro w' hSw; go_simp
      try simp only [Act.put, List.setIfInBounds_toArray, List.set_cons_zero, List.set_cons_succ, List.getElem_toArray, List.getElem_cons_zero]
      refine wpAnyH_take (i := 1) (v := .int .i64 (6)) rfl (by kernel_rfl) (by kernel_rfl) (by kernel_rfl) (fun _ _ _ h => h) (Or.inl ⟨by kernel_rfl, ?_⟩) hHeld ?_
      · intro w' hSw; obtain ⟨z0, z1, z2, z3, -⟩ := Job.box (A2.below hSw); go_simp
      try simp only [Act.put, List.setIfInBounds_toArray, List.set_cons_zero, List.set_cons_succ, List.getElem_toArray, List.getElem_cons_succ, List.getElem_cons_zero]
      refine wpAnyH_take (i := 2) (v := .bool true) rfl (by kernel_rfl) (by kernel_rfl) (by kernel_rfl) (fun _ _ _ h => h) (Or.inl ⟨by kernel_rfl, ?_⟩) hHeld ?_
      · intro w' hSw; go_simp
      try simp only [Act.put, List.setIfInBounds_toArray, List.set_cons_zero, List.set_cons_succ, List.getElem_toArray, List.getElem_cons_succ, List.getElem_cons_zero]
      refine wpAnyH_take (i := 3) (v := .bool true) rfl (by kernel_rfl) (by kernel_rfl) (by kernel_rfl) (fun _ _ _ h => h) (Or.inl ⟨by kernel_rfl, ?_⟩) hHeld ?_
      · intro w' hSw; go_simp
      try simp only [Act.put, List.setIfInBounds_toArray, List.set_cons_zero, List.set_cons_succ, List.getElem_toArray, List.getElem_cons_succ, List.getElem_cons_zero]
      refine wpAnyH_take (i := 4) (v := .pointer (some ⟨q1, 0, none⟩)) rfl (by kernel_rfl) (by kernel_rfl) (by kernel_rfl) (fun _ _ _ h => h) (Or.inl ⟨by kernel_rfl, ?_⟩) hHeld ?_
      · intro w' hSw; go_simp
      try simp only [Act.put, List.setIfInBounds_toArray, List.set_cons_zero, List.set_cons_succ, List.getElem_toArray, List.getElem_cons_succ, List.getElem_cons_zero]
      refine wpAnyH_take (i := 5) (v := .slice ((some ⟨gs, 0, none⟩)) n d) rfl (by kernel_rfl) (by kernel_rfl) (by kernel_rfl) (fun _ _ _ h => h) (Or.inl ⟨by kernel_rfl, ?_⟩) hHeld ?_
      · intro w' hSw; obtain ⟨z0, z1, z2, -⟩ := (A1.below hSw).open3; go_simp
      try simp only [Act.put, List.setIfInBounds_toArray, List.set_cons_zero, List.set_cons_succ, List.getElem_toArray, List.getElem_cons_succ, List.getElem_cons_zero]
      refine wpAnyH_take (i := 6) (v := .int .i64 ((p : Int))) rfl (by kernel_rfl) (by kernel_rfl) (by kernel_rfl) (fun _ _ _ h => h) (Or.inl ⟨by kernel_rfl, ?_⟩) hHeld ?_
      · intro w' hSw; go_simp
      try simp only [Act.put, List.setIfInBounds_toArray, List.set_cons_zero, List.set_cons_succ, List.getElem_toArray, List.getElem_cons_succ, List.getElem_cons_zero]
      refine wpAnyH_take (i := 7) (v := .pointer (some ⟨gs, p * 3, none⟩)) rfl (by kernel_rfl) (by kernel_rfl) (by kernel_rfl) (fun _ _ _ h => h) (Or.inl ⟨by kernel_rfl, ?_⟩) hHeld ?_
      · intro w' hSw; go_simp
      try simp only [Act.put, List.setIfInBounds_toArray, List.set_cons_zero, List.set_cons_succ, List.getElem_toArray, List.getElem_cons_succ, List.getElem_cons_zero]
      refine wpAnyH_take (i := 8) (v := .pointer (some ⟨gs, p * 3 + 2, none⟩)) rfl (by kernel_rfl) (by kernel_rfl) (by kernel_rfl) (fun _ _ _ h => h) (Or.inl ⟨by kernel_rfl, ?_⟩) hHeld ?_
      · intro w' hSw; go_simp
      try simp only [Act.put, List.setIfInBounds_toArray, List.set_cons_zero, List.set_cons_succ, List.getElem_toArray, List.getElem_cons_succ, List.getElem_cons_zero]
      refine wpAnyH_take (i := 9) (v := .int .i64 (lf)) rfl (by kernel_rfl) (by kernel_rfl) (by kernel_rfl) (fun _ _ _ h => h) (Or.inl ⟨by kernel_rfl, ?_⟩) hHeld ?_
      · intro w' hSw; have z0 := (R0.below hSw).2 (p * 3 + 2) (by omega); rw [G3.out] at z0; go_simp
      try simp only [Act.put, List.setIfInBounds_toArray, List.set_cons_zero, List.set_cons_succ, List.getElem_toArray, List.getElem_cons_succ, List.getElem_cons_zero]
      refine wpAnyH_take (i := 10) (v := .pointer (some ⟨q1, 1, none⟩)) rfl (by kernel_rfl) (by kernel_rfl) (by kernel_rfl) (fun _ _ _ h => h) (Or.inl ⟨by kernel_rfl, ?_⟩) hHeld ?_
      · intro w' hSw; go_simp
      try simp only [Act.put, List.setIfInBounds_toArray, List.set_cons_zero, List.set_cons_succ, List.getElem_toArray, List.getElem_cons_succ, List.getElem_cons_zero]
      refine wpAnyH_take (i := 11) (v := .slice ((some ⟨gj, 0, none⟩)) m c) rfl (by kernel_rfl) (by kernel_rfl) (by kernel_rfl) (fun _ _ _ h => h) (Or.inl ⟨by kernel_rfl, ?_⟩) hHeld ?_
      · intro w' hSw; obtain ⟨z0, z1, z2, -⟩ := (A1.below hSw).open3; go_simp
      try simp only [Act.put, List.setIfInBounds_toArray, List.set_cons_zero, List.set_cons_succ, List.getElem_toArray, List.getElem_cons_succ, List.getElem_cons_zero]
      refine wpAnyH_take (i := 12) (v := .int .i64 ((j : Int))) rfl (by kernel_rfl) (by kernel_rfl) (by kernel_rfl) (fun _ _ _ h => h) (Or.inl ⟨by kernel_rfl, ?_⟩) hHeld ?_
      · intro w' hSw; go_simp
      try simp only [Act.put, List.setIfInBounds_toArray, List.set_cons_zero, List.set_cons_succ, List.getElem_toArray, List.getElem_cons_succ, List.getElem_cons_zero]
      refine wpAnyH_take (i := 13) (v := .pointer (some ⟨gj, j * 4, none⟩)) rfl (by kernel_rfl) (by kernel_rfl) (by kernel_rfl) (fun _ _ _ h => h) (Or.inl ⟨by kernel_rfl, ?_⟩) hHeld ?_
      · intro w' hSw; go_simp
      try simp only [Act.put, List.setIfInBounds_toArray, List.set_cons_zero, List.set_cons_succ, List.getElem_toArray, List.getElem_cons_succ, List.getElem_cons_zero]
      refine wpAnyH_take (i := 14) (v := .pointer (some ⟨gj, j * 4 + 2, none⟩)) rfl (by kernel_rfl) (by kernel_rfl) (by kernel_rfl) (fun _ _ _ h => h) (Or.inl ⟨by kernel_rfl, ?_⟩) hHeld ?_
      · intro w' hSw; go_simp
      try simp only [Act.put, List.setIfInBounds_toArray, List.set_cons_zero, List.set_cons_succ, List.getElem_toArray, List.getElem_cons_succ, List.getElem_cons_zero]
      refine wpAnyH_take (i := 15) (v := .int .i64 (nd)) rfl (by kernel_rfl) (by kernel_rfl) (by kernel_rfl) (fun _ _ _ h => h) (Or.inl ⟨by kernel_rfl, ?_⟩) hHeld ?_
      · intro w' hSw; have z0 := (RJ0.below hSw).2 (j * 4 + 2) (by omega); rw [G1.out] at z0; go_simp
      try simp only [Act.put, List.setIfInBounds_toArray, List.set_cons_zero, List.set_cons_succ, List.getElem_toArray, List.getElem_cons_succ, List.getElem_cons_zero]
      refine wpAnyH_take (i := 16) (v := .bool true) rfl (by kernel_rfl) (by kernel_rfl) (by kernel_rfl) (fun _ _ _ h => h) (Or.inl ⟨by kernel_rfl, ?_⟩) hHeld ?_
      · intro w' hSw; go_simp
      try simp only [Act.put, List.setIfInBounds_toArray, List.set_cons_zero, List.set_cons_succ, List.getElem_toArray, List.getElem_cons_succ, List.getElem_cons_zero]
      refine wpAnyH_take (i := 17) (v := .bool true) rfl (by kernel_rfl) (by kernel_rfl) (by kernel_rfl) (fun _ _ _ h => h) (Or.inl ⟨by kernel_rfl, ?_⟩) hHeld ?_
      · intro w' hSw; go_simp
      try simp only [Act.put, List.setIfInBounds_toArray, List.set_cons_zero, List.set_cons_succ, List.getElem_toArray, List.getElem_cons_succ, List.getElem_cons_zero]
      refine wpAnyH_done (by kernel_rfl) ?_ _
      clear hHeld
      go_wp2
      go_ret
      exact ⟨by rw [show codeR n f m g _ p _ j _ = 8 by simp [codeR, HP.out, G1.out, G2.out, G3.out, H6.out]]; rfl, B1⟩
    have H6 : Hid (nd ≤ lf) := show nd ≤ lf by omega
    go_wp2_with fail
    obtain ⟨u0, hu0, bb⟩ : ∃ uu, w4.drew = uu ∧ Below w4.heap.size w4 uu := ⟨_, rfl, (Below.refl _ _).drew⟩
    replace A1 := A1.below bb
    replace A2 := A2.below bb
    replace B1 := B1.trans (bb.mono B1.size)
    have R0 := R.below bb
    have RJ0 := RJ.below bb
    clear bb
    refine wp_region_held_drew (S := Kb u0) (by kernel_rfl) (by rw [hu0]; exact Below.refl _ _) (fun hHeld => ?_)
    rw [hu0] at hHeld ⊢
    clear hu0
    have bu : Kb u0 u0 := Below.refl _ _
    change wpAnyH _ _ _ _ _ 18 #[false, false, false, false, false, false, false, false, false, false, false, false, false, false, false, false, false, false] _ _
    refine wpAnyH_take (i := 0) (v := .pointer (some ⟨q2, 0, none⟩)) rfl (by kernel_rfl) (by kernel_rfl) (by kernel_rfl) (fun _ _ _ h => h) (Or.inl ⟨by kernel_rfl, ?_⟩) hHeld ?_
    · intro w' hSw; go_simp
    try simp only [Act.put, List.setIfInBounds_toArray, List.set_cons_zero, List.set_cons_succ, List.getElem_toArray, List.getElem_cons_zero]
    refine wpAnyH_take (i := 1) (v := .int .i64 (6)) rfl (by kernel_rfl) (by kernel_rfl) (by kernel_rfl) (fun _ _ _ h => h) (Or.inl ⟨by kernel_rfl, ?_⟩) hHeld ?_
    · intro w' hSw; obtain ⟨z0, z1, z2, z3, -⟩ := Job.box (A2.below hSw); go_simp
    try simp only [Act.put, List.setIfInBounds_toArray, List.set_cons_zero, List.set_cons_succ, List.getElem_toArray, List.getElem_cons_succ, List.getElem_cons_zero]
    refine wpAnyH_take (i := 2) (v := .bool true) rfl (by kernel_rfl) (by kernel_rfl) (by kernel_rfl) (fun _ _ _ h => h) (Or.inl ⟨by kernel_rfl, ?_⟩) hHeld ?_
    · intro w' hSw; go_simp
    try simp only [Act.put, List.setIfInBounds_toArray, List.set_cons_zero, List.set_cons_succ, List.getElem_toArray, List.getElem_cons_succ, List.getElem_cons_zero]
    refine wpAnyH_take (i := 3) (v := .bool true) rfl (by kernel_rfl) (by kernel_rfl) (by kernel_rfl) (fun _ _ _ h => h) (Or.inl ⟨by kernel_rfl, ?_⟩) hHeld ?_
    · intro w' hSw; go_simp
    try simp only [Act.put, List.setIfInBounds_toArray, List.set_cons_zero, List.set_cons_succ, List.getElem_toArray, List.getElem_cons_succ, List.getElem_cons_zero]
    refine wpAnyH_take (i := 4) (v := .pointer (some ⟨q1, 0, none⟩)) rfl (by kernel_rfl) (by kernel_rfl) (by kernel_rfl) (fun _ _ _ h => h) (Or.inl ⟨by kernel_rfl, ?_⟩) hHeld ?_
    · intro w' hSw; go_simp
    try simp only [Act.put, List.setIfInBounds_toArray, List.set_cons_zero, List.set_cons_succ, List.getElem_toArray, List.getElem_cons_succ, List.getElem_cons_zero]
    refine wpAnyH_take (i := 5) (v := .slice ((some ⟨gs, 0, none⟩)) n d) rfl (by kernel_rfl) (by kernel_rfl) (by kernel_rfl) (fun _ _ _ h => h) (Or.inl ⟨by kernel_rfl, ?_⟩) hHeld ?_
    · intro w' hSw; obtain ⟨z0, z1, z2, -⟩ := (A1.below hSw).open3; go_simp
    try simp only [Act.put, List.setIfInBounds_toArray, List.set_cons_zero, List.set_cons_succ, List.getElem_toArray, List.getElem_cons_succ, List.getElem_cons_zero]
    refine wpAnyH_take (i := 6) (v := .int .i64 ((p : Int))) rfl (by kernel_rfl) (by kernel_rfl) (by kernel_rfl) (fun _ _ _ h => h) (Or.inl ⟨by kernel_rfl, ?_⟩) hHeld ?_
    · intro w' hSw; go_simp
    try simp only [Act.put, List.setIfInBounds_toArray, List.set_cons_zero, List.set_cons_succ, List.getElem_toArray, List.getElem_cons_succ, List.getElem_cons_zero]
    refine wpAnyH_take (i := 7) (v := .pointer (some ⟨gs, p * 3, none⟩)) rfl (by kernel_rfl) (by kernel_rfl) (by kernel_rfl) (fun _ _ _ h => h) (Or.inl ⟨by kernel_rfl, ?_⟩) hHeld ?_
    · intro w' hSw; go_simp
    try simp only [Act.put, List.setIfInBounds_toArray, List.set_cons_zero, List.set_cons_succ, List.getElem_toArray, List.getElem_cons_succ, List.getElem_cons_zero]
    refine wpAnyH_take (i := 8) (v := .pointer (some ⟨gs, p * 3 + 2, none⟩)) rfl (by kernel_rfl) (by kernel_rfl) (by kernel_rfl) (fun _ _ _ h => h) (Or.inl ⟨by kernel_rfl, ?_⟩) hHeld ?_
    · intro w' hSw; go_simp
    try simp only [Act.put, List.setIfInBounds_toArray, List.set_cons_zero, List.set_cons_succ, List.getElem_toArray, List.getElem_cons_succ, List.getElem_cons_zero]
    refine wpAnyH_take (i := 9) (v := .int .i64 (lf)) rfl (by kernel_rfl) (by kernel_rfl) (by kernel_rfl) (fun _ _ _ h => h) (Or.inl ⟨by kernel_rfl, ?_⟩) hHeld ?_
    · intro w' hSw; have z0 := (R0.below hSw).2 (p * 3 + 2) (by omega); rw [G3.out] at z0; go_simp
    try simp only [Act.put, List.setIfInBounds_toArray, List.set_cons_zero, List.set_cons_succ, List.getElem_toArray, List.getElem_cons_succ, List.getElem_cons_zero]
    refine wpAnyH_take (i := 10) (v := .pointer (some ⟨q1, 1, none⟩)) rfl (by kernel_rfl) (by kernel_rfl) (by kernel_rfl) (fun _ _ _ h => h) (Or.inl ⟨by kernel_rfl, ?_⟩) hHeld ?_
    · intro w' hSw; go_simp
    try simp only [Act.put, List.setIfInBounds_toArray, List.set_cons_zero, List.set_cons_succ, List.getElem_toArray, List.getElem_cons_succ, List.getElem_cons_zero]
    refine wpAnyH_take (i := 11) (v := .slice ((some ⟨gj, 0, none⟩)) m c) rfl (by kernel_rfl) (by kernel_rfl) (by kernel_rfl) (fun _ _ _ h => h) (Or.inl ⟨by kernel_rfl, ?_⟩) hHeld ?_
    · intro w' hSw; obtain ⟨z0, z1, z2, -⟩ := (A1.below hSw).open3; go_simp
    try simp only [Act.put, List.setIfInBounds_toArray, List.set_cons_zero, List.set_cons_succ, List.getElem_toArray, List.getElem_cons_succ, List.getElem_cons_zero]
    refine wpAnyH_take (i := 12) (v := .int .i64 ((j : Int))) rfl (by kernel_rfl) (by kernel_rfl) (by kernel_rfl) (fun _ _ _ h => h) (Or.inl ⟨by kernel_rfl, ?_⟩) hHeld ?_
    · intro w' hSw; go_simp
    try simp only [Act.put, List.setIfInBounds_toArray, List.set_cons_zero, List.set_cons_succ, List.getElem_toArray, List.getElem_cons_succ, List.getElem_cons_zero]
    refine wpAnyH_take (i := 13) (v := .pointer (some ⟨gj, j * 4, none⟩)) rfl (by kernel_rfl) (by kernel_rfl) (by kernel_rfl) (fun _ _ _ h => h) (Or.inl ⟨by kernel_rfl, ?_⟩) hHeld ?_
    · intro w' hSw; go_simp
    try simp only [Act.put, List.setIfInBounds_toArray, List.set_cons_zero, List.set_cons_succ, List.getElem_toArray, List.getElem_cons_succ, List.getElem_cons_zero]
    refine wpAnyH_take (i := 14) (v := .pointer (some ⟨gj, j * 4 + 2, none⟩)) rfl (by kernel_rfl) (by kernel_rfl) (by kernel_rfl) (fun _ _ _ h => h) (Or.inl ⟨by kernel_rfl, ?_⟩) hHeld ?_
    · intro w' hSw; go_simp
    try simp only [Act.put, List.setIfInBounds_toArray, List.set_cons_zero, List.set_cons_succ, List.getElem_toArray, List.getElem_cons_succ, List.getElem_cons_zero]
    refine wpAnyH_take (i := 15) (v := .int .i64 (nd)) rfl (by kernel_rfl) (by kernel_rfl) (by kernel_rfl) (fun _ _ _ h => h) (Or.inl ⟨by kernel_rfl, ?_⟩) hHeld ?_
    · intro w' hSw; have z0 := (RJ0.below hSw).2 (j * 4 + 2) (by omega); rw [G1.out] at z0; go_simp
    try simp only [Act.put, List.setIfInBounds_toArray, List.set_cons_zero, List.set_cons_succ, List.getElem_toArray, List.getElem_cons_succ, List.getElem_cons_zero]
    refine wpAnyH_take (i := 16) (v := .bool false) rfl (by kernel_rfl) (by kernel_rfl) (by kernel_rfl) (fun _ _ _ h => h) (Or.inl ⟨by kernel_rfl, ?_⟩) hHeld ?_
    · intro w' hSw; go_simp
    try simp only [Act.put, List.setIfInBounds_toArray, List.set_cons_zero, List.set_cons_succ, List.getElem_toArray, List.getElem_cons_succ, List.getElem_cons_zero]
    refine wpAnyH_take (i := 17) (v := .bool false) rfl (by kernel_rfl) (by kernel_rfl) (by kernel_rfl) (fun _ _ _ h => h) (Or.inl ⟨by kernel_rfl, ?_⟩) hHeld ?_
    · intro w' hSw; go_simp
    try simp only [Act.put, List.setIfInBounds_toArray, List.set_cons_zero, List.set_cons_succ, List.getElem_toArray, List.getElem_cons_succ, List.getElem_cons_zero]
    refine wpAnyH_done (by kernel_rfl) ?_ _
    clear hHeld
    go_wp2
    go_ret
    exact ⟨by rw [show codeR n f m g _ p _ j _ = 0 by rw [codeR]; simp [HP.out, G1.out, G2.out, G3.out, H6.out]]; rfl, B1⟩
  by_cases k7 : K = 7
  · subst k7
    cases yj
    · obtain rfl := H4.out rfl
      go_wp2
      go_ret
      exact ⟨by rw [show codeR n f m g _ p _ j _ = 5 by simp [codeR]]; rfl, B1⟩
    obtain rfl := HSJ.out rfl
    obtain ⟨rfl, hpn, hpe⟩ := H1.out rfl
    have HE : Hid (f (p * 3) = s) := hpe
    clear hpe
    have hpi : (p : Int) < (n : Int) := by omega
    obtain ⟨gs, rfl, R⟩ := L.some hpn
    obtain ⟨x0, x1, x2⟩ := Sample.open R p hpn
    obtain ⟨pl, hpl⟩ : ∃ x, f (p * 3 + 1) = x := ⟨_, rfl⟩
    rw [hpl] at x1
    have HP : Hid (f (p * 3 + 1) = pl) := hpl
    clear hpl
    have hp0 : ¬ (p : Int) < 0 := by omega
    have hp00 : (0 : Int) ≤ (p : Int) := by omega
    obtain ⟨rfl, hjm, hjj⟩ := H3.out rfl
    clear hjj
    have hji : (j : Int) < (m : Int) := by omega
    obtain ⟨gj, rfl, RJ⟩ := J.some hjm
    obtain ⟨v0, v1, v2, v3⟩ := Job.open RJ j hjm
    have hj0 : ¬ (j : Int) < 0 := by omega
    have hj00 : (0 : Int) ≤ (j : Int) := by omega
    obtain ⟨st, hst⟩ : ∃ x, g (j * 4 + 3) = x := ⟨_, rfl⟩
    rw [hst] at v3
    have G2 : Hid (g (j * 4 + 3) = st) := hst
    clear hst
    by_cases h2 : st = 1
    case neg =>
      have h2' : (st != 1) = true := by simpa using h2
      have H6 : Hid (¬ st = 1) := h2
      clear h2
      go_wp2
      go_ret
      exact ⟨by rw [show codeR n f m g _ p _ j _ = 7 by simp [codeR, G2.out, H6.out]]; rfl, B1⟩
    subst h2
    go_wp2_with fail
    obtain ⟨u0, hu0, bb⟩ : ∃ uu, w4.drew = uu ∧ Below w4.heap.size w4 uu := ⟨_, rfl, (Below.refl _ _).drew⟩
    replace A1 := A1.below bb
    replace A2 := A2.below bb
    replace B1 := B1.trans (bb.mono B1.size)
    have R0 := R.below bb
    have RJ0 := RJ.below bb
    clear bb
    refine wp_region_held_drew (S := Kb u0) (by kernel_rfl) (by rw [hu0]; exact Below.refl _ _) (fun hHeld => ?_)
    rw [hu0] at hHeld ⊢
    clear hu0
    have bu : Kb u0 u0 := Below.refl _ _
    change wpAnyH _ _ _ _ _ 18 #[false, false, false, false, false, false, false, false, false, false, false, false, false, false, false, false, false, false] _ _
    refine wpAnyH_take (i := 0) (v := .pointer (some ⟨q2, 0, none⟩)) rfl (by kernel_rfl) (by kernel_rfl) (by kernel_rfl) (fun _ _ _ h => h) (Or.inl ⟨by kernel_rfl, ?_⟩) hHeld ?_
    · intro w' hSw; go_simp
    try simp only [Act.put, List.setIfInBounds_toArray, List.set_cons_zero, List.set_cons_succ, List.getElem_toArray, List.getElem_cons_zero]
    refine wpAnyH_take (i := 1) (v := .int .i64 (7)) rfl (by kernel_rfl) (by kernel_rfl) (by kernel_rfl) (fun _ _ _ h => h) (Or.inl ⟨by kernel_rfl, ?_⟩) hHeld ?_
    · intro w' hSw; obtain ⟨z0, z1, z2, z3, -⟩ := Job.box (A2.below hSw); go_simp
    try simp only [Act.put, List.setIfInBounds_toArray, List.set_cons_zero, List.set_cons_succ, List.getElem_toArray, List.getElem_cons_succ, List.getElem_cons_zero]
    refine wpAnyH_take (i := 2) (v := .bool false) rfl (by kernel_rfl) (by kernel_rfl) (by kernel_rfl) (fun _ _ _ h => h) (Or.inl ⟨by kernel_rfl, ?_⟩) hHeld ?_
    · intro w' hSw; go_simp
    try simp only [Act.put, List.setIfInBounds_toArray, List.set_cons_zero, List.set_cons_succ, List.getElem_toArray, List.getElem_cons_succ, List.getElem_cons_zero]
    refine wpAnyH_take (i := 3) (v := .bool false) rfl (by kernel_rfl) (by kernel_rfl) (by kernel_rfl) (fun _ _ _ h => h) (Or.inl ⟨by kernel_rfl, ?_⟩) hHeld ?_
    · intro w' hSw; go_simp
    try simp only [Act.put, List.setIfInBounds_toArray, List.set_cons_zero, List.set_cons_succ, List.getElem_toArray, List.getElem_cons_succ, List.getElem_cons_zero]
    refine wpAnyH_take (i := 4) (v := undef) rfl (by kernel_rfl) (by kernel_rfl) (by kernel_rfl) (fun _ _ _ h => h) (Or.inr ⟨by kernel_rfl, rfl⟩) hHeld ?_
    try simp only [Act.put, List.setIfInBounds_toArray, List.set_cons_zero, List.set_cons_succ, List.getElem_toArray, List.getElem_cons_succ, List.getElem_cons_zero]
    refine wpAnyH_take (i := 5) (v := undef) rfl (by kernel_rfl) (by kernel_rfl) (by kernel_rfl) (fun _ _ _ h => h) (Or.inr ⟨by kernel_rfl, rfl⟩) hHeld ?_
    try simp only [Act.put, List.setIfInBounds_toArray, List.set_cons_zero, List.set_cons_succ, List.getElem_toArray, List.getElem_cons_succ, List.getElem_cons_zero]
    refine wpAnyH_take (i := 6) (v := undef) rfl (by kernel_rfl) (by kernel_rfl) (by kernel_rfl) (fun _ _ _ h => h) (Or.inr ⟨by kernel_rfl, rfl⟩) hHeld ?_
    try simp only [Act.put, List.setIfInBounds_toArray, List.set_cons_zero, List.set_cons_succ, List.getElem_toArray, List.getElem_cons_succ, List.getElem_cons_zero]
    refine wpAnyH_take (i := 7) (v := undef) rfl (by kernel_rfl) (by kernel_rfl) (by kernel_rfl) (fun _ _ _ h => h) (Or.inr ⟨by kernel_rfl, rfl⟩) hHeld ?_
    try simp only [Act.put, List.setIfInBounds_toArray, List.set_cons_zero, List.set_cons_succ, List.getElem_toArray, List.getElem_cons_succ, List.getElem_cons_zero]
    refine wpAnyH_take (i := 8) (v := undef) rfl (by kernel_rfl) (by kernel_rfl) (by kernel_rfl) (fun _ _ _ h => h) (Or.inr ⟨by kernel_rfl, rfl⟩) hHeld ?_
    try simp only [Act.put, List.setIfInBounds_toArray, List.set_cons_zero, List.set_cons_succ, List.getElem_toArray, List.getElem_cons_succ, List.getElem_cons_zero]
    refine wpAnyH_take (i := 9) (v := undef) rfl (by kernel_rfl) (by kernel_rfl) (by kernel_rfl) (fun _ _ _ h => h) (Or.inr ⟨by kernel_rfl, rfl⟩) hHeld ?_
    try simp only [Act.put, List.setIfInBounds_toArray, List.set_cons_zero, List.set_cons_succ, List.getElem_toArray, List.getElem_cons_succ, List.getElem_cons_zero]
    refine wpAnyH_take (i := 10) (v := undef) rfl (by kernel_rfl) (by kernel_rfl) (by kernel_rfl) (fun _ _ _ h => h) (Or.inr ⟨by kernel_rfl, rfl⟩) hHeld ?_
    try simp only [Act.put, List.setIfInBounds_toArray, List.set_cons_zero, List.set_cons_succ, List.getElem_toArray, List.getElem_cons_succ, List.getElem_cons_zero]
    refine wpAnyH_take (i := 11) (v := undef) rfl (by kernel_rfl) (by kernel_rfl) (by kernel_rfl) (fun _ _ _ h => h) (Or.inr ⟨by kernel_rfl, rfl⟩) hHeld ?_
    try simp only [Act.put, List.setIfInBounds_toArray, List.set_cons_zero, List.set_cons_succ, List.getElem_toArray, List.getElem_cons_succ, List.getElem_cons_zero]
    refine wpAnyH_take (i := 12) (v := undef) rfl (by kernel_rfl) (by kernel_rfl) (by kernel_rfl) (fun _ _ _ h => h) (Or.inr ⟨by kernel_rfl, rfl⟩) hHeld ?_
    try simp only [Act.put, List.setIfInBounds_toArray, List.set_cons_zero, List.set_cons_succ, List.getElem_toArray, List.getElem_cons_succ, List.getElem_cons_zero]
    refine wpAnyH_take (i := 13) (v := undef) rfl (by kernel_rfl) (by kernel_rfl) (by kernel_rfl) (fun _ _ _ h => h) (Or.inr ⟨by kernel_rfl, rfl⟩) hHeld ?_
    try simp only [Act.put, List.setIfInBounds_toArray, List.set_cons_zero, List.set_cons_succ, List.getElem_toArray, List.getElem_cons_succ, List.getElem_cons_zero]
    refine wpAnyH_take (i := 14) (v := undef) rfl (by kernel_rfl) (by kernel_rfl) (by kernel_rfl) (fun _ _ _ h => h) (Or.inr ⟨by kernel_rfl, rfl⟩) hHeld ?_
    try simp only [Act.put, List.setIfInBounds_toArray, List.set_cons_zero, List.set_cons_succ, List.getElem_toArray, List.getElem_cons_succ, List.getElem_cons_zero]
    refine wpAnyH_take (i := 15) (v := undef) rfl (by kernel_rfl) (by kernel_rfl) (by kernel_rfl) (fun _ _ _ h => h) (Or.inr ⟨by kernel_rfl, rfl⟩) hHeld ?_
    try simp only [Act.put, List.setIfInBounds_toArray, List.set_cons_zero, List.set_cons_succ, List.getElem_toArray, List.getElem_cons_succ, List.getElem_cons_zero]
    refine wpAnyH_take (i := 16) (v := undef) rfl (by kernel_rfl) (by kernel_rfl) (by kernel_rfl) (fun _ _ _ h => h) (Or.inr ⟨by kernel_rfl, rfl⟩) hHeld ?_
    try simp only [Act.put, List.setIfInBounds_toArray, List.set_cons_zero, List.set_cons_succ, List.getElem_toArray, List.getElem_cons_succ, List.getElem_cons_zero]
    refine wpAnyH_take (i := 17) (v := .bool false) rfl (by kernel_rfl) (by kernel_rfl) (by kernel_rfl) (fun _ _ _ h => h) (Or.inl ⟨by kernel_rfl, ?_⟩) hHeld ?_
    · intro w' hSw; go_simp
    try simp only [Act.put, List.setIfInBounds_toArray, List.set_cons_zero, List.set_cons_succ, List.getElem_toArray, List.getElem_cons_succ, List.getElem_cons_zero]
    refine wpAnyH_done (by kernel_rfl) ?_ _
    clear hHeld
    go_wp2
    go_ret
    exact ⟨by rw [show codeR n f m g _ p _ j _ = 0 by simp [codeR, G2.out]]; rfl, B1⟩
  have hK : K = 8 := by have := HO.out.1; omega
  subst hK
  clear k1 k2 k3 k4 k5 k6 k7
  cases ys
  · obtain rfl := H2.out rfl
    go_wp2
    go_ret
    exact ⟨by rw [show codeR n f m g _ p _ j _ = 5 by simp [codeR]]; rfl, B1⟩
  obtain ⟨rfl, hpn, hpe⟩ := H1.out rfl
  have HE : Hid (f (p * 3) = s) := hpe
  clear hpe
  have hpi : (p : Int) < (n : Int) := by omega
  obtain ⟨gs, rfl, R⟩ := L.some hpn
  obtain ⟨x0, x1, x2⟩ := Sample.open R p hpn
  obtain ⟨pl, hpl⟩ : ∃ x, f (p * 3 + 1) = x := ⟨_, rfl⟩
  rw [hpl] at x1
  have HP : Hid (f (p * 3 + 1) = pl) := hpl
  clear hpl
  have hp0 : ¬ (p : Int) < 0 := by omega
  have hp00 : (0 : Int) ≤ (p : Int) := by omega
  by_cases h1 : pl = 1
  · subst h1
    go_wp2
    go_ret
    exact ⟨by rw [show codeR n f m g _ p _ j _ = 0 by simp [codeR, HP.out]]; rfl, B1⟩
  have h1' : (pl == 1) = false := by simpa using h1
  have H6 : Hid (¬ pl = 1) := h1
  clear h1
  go_wp2
  go_ret
  exact ⟨by rw [show codeR n f m g _ p _ j _ = 6 by simp [codeR, HP.out, H6.out]]; rfl, B1⟩
end Go.Proofs.Ytnjnffemidaopaa
