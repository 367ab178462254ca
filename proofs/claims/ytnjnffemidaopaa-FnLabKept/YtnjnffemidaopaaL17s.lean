/-
  A deed done by the specification: walked.
-/
import Derived.Test.YtnjnffemidaopaaL17q
import Derived.Test.YtnjnffemidaopaaL17r
import Derived.Test.YtnjnffemidaopaaL17e
namespace Go.Proofs.Ytnjnffemidaopaa
open Go.RowKit

/-- A lab of one's own. -/
structure Lk (B q : Nat) (w : World) (vS vJ : Value) (n : Nat) (f : Nat → Int) (m : Nat) (g : Nat → Int) (T : Int) : Prop where
  bx : At 27 w q #[vS, vJ, .int .i64 T]
  S : ArK 3 37 w B w.heap.size vS n f
  J : ArK 4 39 w B w.heap.size vJ m g
  hq : B ≤ q
section
variable {B q : Nat} {w w' : World} {vS vJ : Value} {n m : Nat} {f g : Nat → Int} {T : Int}
theorem Lk.below (h : Lk B q w vS vJ n f m g T) (hb : Below w.heap.size w w') : Lk B q w' vS vJ n f m g T := ⟨h.bx.below hb, (h.S.below hb).fit, (h.J.below hb).fit, h.hq⟩
theorem Lk.lt (h : Lk B q w vS vJ n f m g T) : B ≤ w.heap.size := Nat.le_trans h.hq (Nat.le_of_lt h.bx.lt)
theorem Lk.updS {gs cs i : Nat} (h : Lk B q w (.slice (some ⟨gs, 0, none⟩) n cs) vJ n f m g T) (hi : i < n * 3) (x : Int) : Lk B q (w.setCell ⟨gs, i, none⟩ (.int .i64 x)) (.slice (some ⟨gs, 0, none⟩) n cs) vJ n (upd f i x) m g T ∧ Below B w (w.setCell ⟨gs, i, none⟩ (.int .i64 x)) := by
  rcases h.S with ⟨h1, -⟩ | ⟨b, c, h1, h2, _, h3, h4, h5⟩
  · cases h1
  simp only [Value.slice.injEq, Option.some.injEq, Addr.mk.injEq] at h1
  obtain ⟨⟨rfl, -, -⟩, -, rfl⟩ := h1
  have hle : n * 3 ≤ cs * 3 := Nat.mul_le_mul_right 3 h3
  refine ⟨⟨h.bx.setOther (fun e => (h5.apartA h.bx (by decide)) e.symm) _, ArK.own (h5.upd (by omega) x) h2 h3 h4, ((h.J.only (set_only _ _ _ _) (fun j e1 e2 => ?_))).fit, h.hq⟩, (Below.refl _ _).setCell h2 _⟩
  have : gs = j := by simpa [Value.ownBlock] using e1
  subst this
  exact (h.S.apart h.J (by decide)) gs rfl e2
theorem Lk.updJ {gs cs i : Nat} (h : Lk B q w vS (.slice (some ⟨gs, 0, none⟩) m cs) n f m g T) (hi : i < m * 4) (x : Int) : Lk B q (w.setCell ⟨gs, i, none⟩ (.int .i64 x)) vS (.slice (some ⟨gs, 0, none⟩) m cs) n f m (upd g i x) T ∧ Below B w (w.setCell ⟨gs, i, none⟩ (.int .i64 x)) := by
  rcases h.J with ⟨h1, -⟩ | ⟨b, c, h1, h2, _, h3, h4, h5⟩
  · cases h1
  simp only [Value.slice.injEq, Option.some.injEq, Addr.mk.injEq] at h1
  obtain ⟨⟨rfl, -, -⟩, -, rfl⟩ := h1
  have hle : m * 4 ≤ cs * 4 := Nat.mul_le_mul_right 4 h3
  refine ⟨⟨h.bx.setOther (fun e => (h5.apartA h.bx (by decide)) e.symm) _, ((h.S.only (set_only _ _ _ _) (fun j e1 e2 => ?_))).fit, ArK.own (h5.upd (by omega) x) h2 h3 h4, h.hq⟩, (Below.refl _ _).setCell h2 _⟩
  have : gs = j := by simpa [Value.ownBlock] using e1
  subst this
  exact (h.J.apart h.S (by decide)) gs rfl e2
theorem Lk.updT (h : Lk B q w vS vJ n f m g T) (x : Int) : Lk B q (w.setCell ⟨q, 2, none⟩ (.int .i64 x)) vS vJ n f m g x ∧ Below B w (w.setCell ⟨q, 2, none⟩ (.int .i64 x)) := by
  refine ⟨⟨by simpa using h.bx.set 2 (.int .i64 x), (h.S.only (set_only _ _ _ _) (apart_box (h.S.box h.bx (by decide)))).fit, (h.J.only (set_only _ _ _ _) (apart_box (h.J.box h.bx (by decide)))).fit, h.hq⟩, (Below.refl _ _).setCell h.hq _⟩
theorem Lk.frS {gs cs i : Nat} (h : Lk B q w (.slice (some ⟨gs, 0, none⟩) n cs) vJ n f m g T) (hi : i < n * 3) : w.cell? ⟨gs, i, none⟩ = some (.int .i64 (f i)) ∧ w.frozen? ⟨gs, i, none⟩ = false ∧ gs < w.heap.size := by
  rcases h.S with ⟨h1, -⟩ | ⟨b, c, h1, h2, _, h3, h4, cur, k1, k2, k3⟩
  · cases h1
  simp only [Value.slice.injEq, Option.some.injEq, Addr.mk.injEq] at h1
  obtain ⟨⟨rfl, -, -⟩, -, rfl⟩ := h1
  exact ⟨k1.cell i (k3 i hi), k1.frozen i, k1.lt⟩
theorem Lk.frJ {gs cs i : Nat} (h : Lk B q w vS (.slice (some ⟨gs, 0, none⟩) m cs) n f m g T) (hi : i < m * 4) : w.cell? ⟨gs, i, none⟩ = some (.int .i64 (g i)) ∧ w.frozen? ⟨gs, i, none⟩ = false ∧ gs < w.heap.size := by
  rcases h.J with ⟨h1, -⟩ | ⟨b, c, h1, h2, _, h3, h4, cur, k1, k2, k3⟩
  · cases h1
  simp only [Value.slice.injEq, Option.some.injEq, Addr.mk.injEq] at h1
  obtain ⟨⟨rfl, -, -⟩, -, rfl⟩ := h1
  exact ⟨k1.cell i (k3 i hi), k1.frozen i, k1.lt⟩
end
section
variable {B q : Nat} {w : World} {vS vJ : Value} {n m p j : Nat} {f g : Nat → Int} {T : Int}
theorem lk_putS {n' hi hi' : Nat} {f' : Nat → Int} {v' : Value} (bx : At 27 w q #[vS, vJ, .int .i64 T]) (S : ArK 3 37 w B hi v' n' f') (J : ArK 4 39 w B hi' vJ m g) (hq : B ≤ q) : Lk B q (w.setCell ⟨q, 0, none⟩ v') v' vJ n' f' m g T ∧ Below B w (w.setCell ⟨q, 0, none⟩ v') :=
  ⟨⟨by simpa using bx.set 0 v', (S.only (put_only _ _ _ _) (apart_box (S.box bx (by decide)))).fit, (J.only (put_only _ _ _ _) (apart_box (J.box bx (by decide)))).fit, hq⟩, (Below.refl _ _).setCell hq _⟩
theorem lk_putJ {m' hi hi' : Nat} {g' : Nat → Int} {v' : Value} (bx : At 27 w q #[vS, vJ, .int .i64 T]) (S : ArK 3 37 w B hi vS n f) (J : ArK 4 39 w B hi' v' m' g') (hq : B ≤ q) : Lk B q (w.setCell ⟨q, 1, none⟩ v') vS v' n f m' g' T ∧ Below B w (w.setCell ⟨q, 1, none⟩ v') :=
  ⟨⟨by simpa using bx.set 1 v', (S.only (put_only _ _ _ _) (apart_box (S.box bx (by decide)))).fit, (J.only (put_only _ _ _ _) (apart_box (J.box bx (by decide)))).fit, hq⟩, (Below.refl _ _).setCell hq _⟩
theorem Lk.geS {gs cs : Nat} (h : Lk B q w (.slice (some ⟨gs, 0, none⟩) n cs) vJ n f m g T) : B ≤ gs := (h.S.lt rfl).1
theorem Lk.geJ {gs cs : Nat} (h : Lk B q w vS (.slice (some ⟨gs, 0, none⟩) m cs) n f m g T) : B ≤ gs := (h.J.lt rfl).1
theorem Lk.neSJ {gs cs gj cj : Nat} (h : Lk B q w (.slice (some ⟨gs, 0, none⟩) n cs) (.slice (some ⟨gj, 0, none⟩) m cj) n f m g T) : gs ≠ gj := fun e => (h.S.apart h.J (by decide)) gs rfl (by rw [e]; rfl)
end
section
variable {n m p j : Nat} {f g : Nat → Int} {ys yj : Bool}
theorem code1_0 (h : codeR n f m g 1 p ys j yj = 0) : n ≠ 100 ∧ ys = false := by
  unfold codeR at h
  rw [if_pos rfl] at h
  by_cases e : n = 100
  · rw [if_pos e] at h; omega
  · rw [if_neg e] at h
    cases ys
    · exact ⟨e, rfl⟩
    · simp at h
theorem code2_0 (h : codeR n f m g 2 p ys j yj = 0) : m ≠ 300 := by
  intro e
  simp [codeR, e] at h
theorem codeS_0 {K : Int} (hK : K = 3 ∨ K = 4 ∨ K = 5 ∨ K = 8) (h : codeR n f m g K p ys j yj = 0) : ys = true := by
  cases ys
  · rcases hK with rfl | rfl | rfl | rfl <;> simp [codeR] at h
  · rfl
theorem codeJ_0 {K : Int} (hK : K = 6 ∨ K = 7) (h : codeR n f m g K p ys j yj = 0) : yj = true := by
  cases yj
  · rcases hK with rfl | rfl <;> simp [codeR] at h
  · rfl
end
theorem ins_of {f h : Nat → Int} {n p : Nat} {x y z : Int} (hlo : ∀ i, i < p * 3 → h i = f i) (hhi : ∀ i, p * 3 + 3 ≤ i → i < (n + 1) * 3 → h i = f (i - 3)) : ∀ i, i < (n + 1) * 3 → upd (upd (upd h (p * 3) x) (p * 3 + 1) y) (p * 3 + 2) z i = ins f p x y z i := by
  intro i hi
  unfold ins upd
  by_cases a : i < p * 3
  · rw [if_pos a, if_neg (by omega), if_neg (by omega), if_neg (by omega), hlo i a]
  · rw [if_neg a]
    by_cases e2 : i = p * 3 + 2
    · rw [if_pos e2, if_neg (by omega), if_neg (by omega), if_pos e2]
    · rw [if_neg e2]
      by_cases e1 : i = p * 3 + 1
      · rw [if_pos e1, if_neg (by omega), if_pos e1]
      · rw [if_neg e1]
        by_cases e0 : i = p * 3
        · rw [if_pos e0, if_pos e0]
        · rw [if_neg e0, if_neg e0, if_neg e1, if_neg e2, hhi i (by omega) hi]
set_option maxRecDepth 100000 in
set_option maxHeartbeats 12800000 in
theorem l17Do_any {w : World} {aj sa : Option Addr} {m c n d p j : Nat} {f g : Nat → Int} {T : Int} {ys yj : Bool} (K s o a : Int) (hs : Ls 3 w sa n f) (hj : Ls 4 w aj m g) (hcS : sa = none → n = 0 ∧ d = 0) (hcJ : aj = none → m = 0 ∧ c = 0) (HL : Hid (LbOk n f m g T)) (HF : Hid (Fnd n f m g s o p ys j yj)) :
    Calls Try.prog 42 #[lbV sa n d aj m c T, deedV K s o a] w (LdP (outc n f m g T K s o a p ys j yj) w) := by
  obtain ⟨W3, hW3, A1, A2, A3, BW⟩ := bx3 w 27 29 27 #[.slice sa n d, .slice aj m c, .int .i64 T] #[.int .i64 K, .int .i64 s, .int .i64 o, .int .i64 a] #[.slice none 0 0, .slice none 0 0, .int .i64 0]
  obtain ⟨q1, hq1⟩ : ∃ q, w.heap.size = q := ⟨_, rfl⟩
  obtain ⟨q2, hq2⟩ : ∃ q, q1 + 1 = q := ⟨_, rfl⟩
  obtain ⟨q3, hq3⟩ : ∃ q, q2 + 1 = q := ⟨_, rfl⟩
  rw [hq1] at A1 A2 A3
  rw [hq2] at A2
  rw [show q1 + 2 = q3 by omega] at A3
  have hq3w : w.heap.size ≤ q3 := by omega
  have hq13 : q1 < q3 := by omega
  have hq23 : q2 < q3 := by omega
  have hn := HL.out.1.1
  have hm := HL.out.2.1.1
  have L := hs.below BW
  have J := hj.below BW
  obtain ⟨c0, c1, c2, -⟩ := A1.open3
  go_enter Try.func42, Try.ntmps42
  go_wp2_with fail
  refine (l17Copy_any L J hcS hcJ (by omega) (by omega)).mono ?_
  rintro e w3 ⟨vS, vJ, rfl, OS, OJ, nS, nJ, bb⟩
  obtain ⟨gS, eS, rfl, -, -, -, -⟩ := OS.nn nS
  obtain ⟨gJ, eJ, rfl, -, -, -, -⟩ := OJ.nn nJ
  replace BW := BW.trans (bb.mono BW.size)
  replace L := L.below bb
  replace J := J.below bb
  have hB3 : q3 < W3.heap.size := A3.lt
  have hws : W3.heap.size ≤ w3.heap.size := bb.size
  replace A1 := A1.below bb
  replace A2 := A2.below bb
  replace A3 := A3.below bb
  clear c0 c1 c2 hW3 hq1 hq2 hq3 bb hs hj nS nJ
  obtain ⟨V4, hV4, A4, b4, -⟩ := boxed w3 27 #[.slice (some ⟨gS, 0, none⟩) n eS, .slice (some ⟨gJ, 0, none⟩) m eJ, .int .i64 T]
  obtain ⟨q4, hq4⟩ : ∃ q, w3.heap.size = q := ⟨_, rfl⟩
  obtain ⟨B, hB⟩ : ∃ B, W3.heap.size = B := ⟨_, rfl⟩
  rw [hB] at OS OJ hB3 hws
  have A4' : At 27 V4 q4 #[.slice (some ⟨gS, 0, none⟩) n eS, .slice (some ⟨gJ, 0, none⟩) m eJ, .int .i64 T] := by rw [← hq4]; exact A4
  have K4 : Lk B q4 V4 (.slice (some ⟨gS, 0, none⟩) n eS) (.slice (some ⟨gJ, 0, none⟩) m eJ) n f m g T := ⟨A4', (OS.below b4).fit, (OJ.below b4).fit, by omega⟩
  have hwB : w.heap.size ≤ B := by omega
  replace BW := BW.trans (b4.mono BW.size)
  replace L := L.below b4
  replace J := J.below b4
  replace A1 := A1.below b4
  replace A2 := A2.below b4
  replace A3 := A3.below b4
  clear A4 A4' b4 OS OJ hB hws
  obtain ⟨y, hy⟩ := bool_of (dOk K s o a)
  have DK := fun w => l17Deed_any K s o a w y hy
  obtain ⟨d0, d1, d2, d3, -⟩ := Job.box A2
  go_wp2_with fail
  refine (DK _).mono ?_
  rintro e w5 ⟨rfl, bb⟩
  replace BW := BW.trans (bb.mono BW.size)
  replace L := L.below bb
  replace J := J.below bb
  replace A1 := A1.below bb
  replace A2 := A2.below bb
  replace A3 := A3.below bb
  replace K4 := K4.below bb
  clear d0 d1 d2 d3 hV4 hq4 bb DK
  cases y
  · have HN : Hid (¬ dOk K s o a) := iff_no hy
    clear hy
    obtain ⟨x0, x1, x2, -⟩ := K4.bx.open3
    obtain ⟨r0, r1, r2, t0, t1, t2⟩ := A3.open3
    go_wp2
    have a7 := put3_at A3 (.slice (some ⟨gS, 0, none⟩) n eS) (.slice (some ⟨gJ, 0, none⟩) m eJ) (.int .i64 (T))
    obtain ⟨p0, p1, p2, -⟩ := a7.open3
    refine bodyPost_ret (v := .tuple #[labV (.slice (some ⟨gS, 0, none⟩) n eS) (.slice (some ⟨gJ, 0, none⟩) m eJ) (T), .int .i64 2]) (by simp [results, Try.results42, go_sem, p0, p1, p2]) rfl ?_
    rw [outc_bad HN.out]
    exact ⟨_, _, rfl, ((K4.S.only (put3_only _ q3 (.slice (some ⟨gS, 0, none⟩) n eS) (.slice (some ⟨gJ, 0, none⟩) m eJ) (.int .i64 (T))) (apart_box (K4.S.box A3 (by decide)))).fit).wide hwB (Nat.le_refl _), ((K4.J.only (put3_only _ q3 (.slice (some ⟨gS, 0, none⟩) n eS) (.slice (some ⟨gJ, 0, none⟩) m eJ) (.int .i64 (T))) (apart_box (K4.J.box A3 (by decide)))).fit).wide hwB (Nat.le_refl _), below_put3 BW hq3w _ _ _⟩
  have HO : Hid (dOk K s o a) := hy.1 rfl
  clear hy
  have CD := fun w (l : Ls 3 w sa n f) (k : Ls 4 w aj m g) => l17Code_any (d := d) (c := c) (T := T) K s o a l k HL HF HO
  obtain ⟨cd, hcd⟩ : ∃ c, codeR n f m g K p ys j yj = c := ⟨_, rfl⟩
  rw [hcd] at CD
  have HC : Hid (codeR n f m g K p ys j yj = cd) := hcd
  clear hcd
  obtain ⟨c0, c1, c2, -⟩ := A1.open3
  obtain ⟨d0, d1, d2, d3, -⟩ := Job.box A2
  go_wp2_with fail
  refine (CD _ L J).mono ?_
  rintro e w6 ⟨rfl, bb⟩
  replace BW := BW.trans (bb.mono BW.size)
  replace L := L.below bb
  replace J := J.below bb
  replace A1 := A1.below bb
  replace A2 := A2.below bb
  replace A3 := A3.below bb
  replace K4 := K4.below bb
  clear c0 c1 c2 d0 d1 d2 d3 bb CD
  by_cases h0 : cd = 0
  case neg =>
    have h0' : (cd != 0) = true := by simpa using h0
    have H0 : Hid (cd ≠ 0) := h0
    clear h0
    obtain ⟨x0, x1, x2, -⟩ := K4.bx.open3
    obtain ⟨r0, r1, r2, t0, t1, t2⟩ := A3.open3
    go_wp2
    have a7 := put3_at A3 (.slice (some ⟨gS, 0, none⟩) n eS) (.slice (some ⟨gJ, 0, none⟩) m eJ) (.int .i64 (T))
    obtain ⟨p0, p1, p2, -⟩ := a7.open3
    refine bodyPost_ret (v := .tuple #[labV (.slice (some ⟨gS, 0, none⟩) n eS) (.slice (some ⟨gJ, 0, none⟩) m eJ) (T), .int .i64 cd]) (by simp [results, Try.results42, go_sem, p0, p1, p2]) rfl ?_
    rw [outc_no HO.out HC.out H0.out]
    exact ⟨_, _, rfl, ((K4.S.only (put3_only _ q3 (.slice (some ⟨gS, 0, none⟩) n eS) (.slice (some ⟨gJ, 0, none⟩) m eJ) (.int .i64 (T))) (apart_box (K4.S.box A3 (by decide)))).fit).wide hwB (Nat.le_refl _), ((K4.J.only (put3_only _ q3 (.slice (some ⟨gS, 0, none⟩) n eS) (.slice (some ⟨gJ, 0, none⟩) m eJ) (.int .i64 (T))) (apart_box (K4.J.box A3 (by decide)))).fit).wide hwB (Nat.le_refl _), below_put3 BW hq3w _ _ _⟩
  subst h0
  have HX : Hid (outc n f m g T K s o a p ys j yj = (0, nxt n f m g T K s o a p j)) := outc_yes HO.out HC.out
  obtain ⟨sv, hsv, hs1⟩ : ∃ sv : Int, (∀ w, Ls 3 w sa n f → Calls Try.prog 38 #[lbV sa n d aj m c T, .int .i64 s] w fun e w' => e = .returned (.int .i64 sv) ∧ Below w.heap.size w w') ∧ (ys = true → sv = (p : Int) ∧ p < n ∧ f (p * 3) = s) := by
    cases ys
    · exact ⟨-1, fun w l => l17Sample_no s l hn (show ∀ _, _ from fun i hi e => iff_no HF.out.sy ((HF.out.pl.find HL.out.1.rise).2 ⟨i, hi, e⟩)), fun h => by cases h⟩
    · have h := HF.out.sy.1 rfl
      exact ⟨(p : Int), fun w l => l17Sample_yes s l hn h.1 (show ∀ _, _ from fun i hi e => by have := HF.out.pl.2.1 i hi; omega) h.2, fun _ => ⟨rfl, h.1, h.2⟩⟩
  obtain ⟨jv, hjv, hj1⟩ : ∃ jv : Int, (∀ w, Ls 4 w aj m g → Calls Try.prog 39 #[lbV sa n d aj m c T, .int .i64 s, .int .i64 o] w fun e w' => e = .returned (.int .i64 jv) ∧ Below w.heap.size w w') ∧ (yj = true → jv = (j : Int) ∧ j < m) := by
    cases yj
    · exact ⟨-1, fun w l => l17Job_no s o l hm (HF.out.jn rfl), fun h => by cases h⟩
    · obtain ⟨a1, a2, a3⟩ := HF.out.jy rfl
      exact ⟨(j : Int), fun w l => l17Job_yes s o l hm a1 a2 a3, fun _ => ⟨rfl, a1⟩⟩
  have HSJ : Hid (yj = true → ys = true) := fun h => by
    obtain ⟨a1, a2, a3⟩ := HF.out.jy h
    have h1 := (HL.out.2.1.2 j a1).2.1
    rw [a3.1] at h1
    exact HF.out.sy.2 ((HF.out.pl.find HL.out.1.rise).2 h1)
  have H1 : Hid (ys = true → sv = (p : Int) ∧ p < n ∧ f (p * 3) = s) := hs1
  have H3 : Hid (yj = true → jv = (j : Int) ∧ j < m) := hj1
  clear hs1 hj1
  obtain ⟨c0, c1, c2, -⟩ := A1.open3
  obtain ⟨d0, d1, d2, d3, -⟩ := Job.box A2
  go_wp2_with fail
  refine (hsv _ L).mono ?_
  rintro e w7 ⟨rfl, bb⟩
  replace BW := BW.trans (bb.mono BW.size)
  replace J := J.below bb
  replace A1 := A1.below bb
  replace A2 := A2.below bb
  replace A3 := A3.below bb
  replace K4 := K4.below bb
  clear c0 c1 c2 d0 d1 d2 d3 bb hsv L
  obtain ⟨c0, c1, c2, -⟩ := A1.open3
  obtain ⟨d0, d1, d2, d3, -⟩ := Job.box A2
  go_wp2_with fail
  refine (hjv _ J).mono ?_
  rintro e w8 ⟨rfl, bb⟩
  replace BW := BW.trans (bb.mono BW.size)
  replace A2 := A2.below bb
  replace A3 := A3.below bb
  replace K4 := K4.below bb
  clear c0 c1 c2 d0 d1 d2 d3 bb hjv J A1
  by_cases k1 : K = 1
  · subst k1
    obtain ⟨hn1, rfl⟩ := code1_0 HC.out
    obtain ⟨x0, x1, x2, -⟩ := K4.bx.open3
    obtain ⟨d0, d1, d2, d3, -⟩ := Job.box A2
    have hgS := K4.geS
    have hq3S : q3 ≠ gS := by omega
    have hq2S : q2 ≠ gS := by omega
    have hS : Hid (¬ (p < n ∧ f (p * 3) = s)) := iff_no HF.out.sy
    have hn' : n < 100 := by omega
    obtain ⟨V9, hV9, X9, b9, -⟩ := boxed w8 37 #[.int .i64 0, .int .i64 0, .int .i64 0]
    obtain ⟨gx, hgx⟩ : ∃ q, w8.heap.size = q := ⟨_, rfl⟩
    have hbs : ∀ w, (Instr.buildSlice 24 1 #[(0, sampleV 0 0 0)]).run Try.prog w = .ok (.slice (some ⟨w.heap.size, 0, none⟩) 1 1) (w.alloc (.cells #[.int .i64 0, .int .i64 0, .int .i64 0] 37)) := fun _ => by kernel_rfl
    go_wp2_with (at_builtin; refine Hid.out (?_ : Hid _))
    have K9 := K4.below b9
    have A9 := A3.below b9
    have D9 := A2.below b9
    have BW9 := BW.trans (b9.mono BW.size)
    rw [hgx] at X9
    clear hV9 hgx hbs x0 x1 x2 d0 d1 d2 d3 b9
    refine (?_ : wpList _ _ _ _ _ _)
    refine wpListK_append Try.underlying24 infoSample rfl (by omega) (by omega) V9 rfl _ _ rfl rfl K9.S rfl (.inr ⟨gx, rfl, three_recs X9⟩) (fun h => by cases h) (by omega) K9.lt ?_
    intro v' u1 S' ho hN
    obtain ⟨gv, cv', rfl, -, -, -, -⟩ := S'.nn (hN (fun h => by cases h))
    have bx' := K9.bx.only ho (K9.S.box K9.bx (by decide))
    have J' := K9.J.only ho (K9.S.apart K9.J (by decide))
    have A3' := A9.only ho (K9.S.box A9 (by decide))
    have A2' := D9.only ho (K9.S.box D9 (by decide))
    have BW1 := ho.belowK K9.S hwB BW9 (by have := K9.lt; omega)
    obtain ⟨K5, b5⟩ := lk_putS bx' S' J' K9.hq
    have hq34 : q3 ≠ q4 := by have := K9.hq; omega
    have hq24 : q2 ≠ q4 := by have := K9.hq; omega
    have A5 := A3'.setOther (i := 0) hq34 (.slice (some ⟨gv, 0, none⟩) (n + 1) cv')
    have D5 := A2'.setOther (i := 0) hq24 (.slice (some ⟨gv, 0, none⟩) (n + 1) cv')
    have BW5 := BW1.trans (b5.mono hwB)
    obtain ⟨u5, hu5⟩ : ∃ u, u1.setCell ⟨q4, 0, none⟩ (.slice (some ⟨gv, 0, none⟩) (n + 1) cv') = u := ⟨_, rfl⟩
    rw [hu5] at K5 A5 D5 BW5
    obtain ⟨x0, x1, x2, f0, f1, f2⟩ := bx'.open3
    obtain ⟨z0, z1, z2, -⟩ := K5.bx.open3
    clear ho hN J' S' A3' A2' BW1 b5 K9 A9 D9 BW9 X9 K4 A3 A2 BW hgS hq3S hq2S
    have hn1' : (n : Int) ≤ 100 := by omega
    have hwk : IntKind.i64.wrap ((n : Int) + 1 - 1) = (n : Int) := by rw [IntKind.wrap_i64]; omega
    go_wp2_with fail
    clear x0 x1 x2 f0 f1 f2 z0 z1 z2 hu5 bx'
    have hgv := K5.geS
    have hq3v : q3 ≠ gv := by omega
    have hq2v : q2 ≠ gv := by omega
    go_loopw [10] (fun t wr => ∃ k : Nat, p ≤ k ∧ k ≤ n ∧ t = .int .i64 (k : Int) ∧ ∃ h : Nat → Int, (∀ i, i < k * 3 → h i = f i) ∧ (∀ i, k * 3 + 3 ≤ i → i < (n + 1) * 3 → h i = f (i - 3)) ∧ Lk B q4 wr (.slice (some ⟨gv, 0, none⟩) (n + 1) cv') (.slice (some ⟨gJ, 0, none⟩) m eJ) (n + 1) h m g T ∧ At 27 wr q3 #[.slice none 0 0, .slice none 0 0, .int .i64 0] ∧ At 29 wr q2 #[.int .i64 1, .int .i64 s, .int .i64 o, .int .i64 a] ∧ Below w.heap.size w wr) (fun t _ => (intOf t).toNat)
    case atStart => exact ⟨n, HF.out.pl.1, Nat.le_refl _, by go_num, _, fun i hi => by rw [cat, if_pos hi], fun i h1 h2 => by omega, K5, A5, D5, BW5⟩
    case round =>
      clear K5 A5 D5 BW5
      obtain ⟨k, hpk, hkn, rfl, h, hlo, hhi, K5, A3, A2, BW⟩ := hrel
      have HLO : Hid (∀ i, i < k * 3 → h i = f i) := hlo
      have HHI : Hid (∀ i, k * 3 + 3 ≤ i → i < (n + 1) * 3 → h i = f (i - 3)) := hhi
      clear hlo hhi
      by_cases hk0 : p < k
      · obtain ⟨kk, hkk⟩ : ∃ kk, k = kk + 1 := ⟨k - 1, by omega⟩
        have hk1 : (0 : Int) < (k : Int) := by omega
        have hw : IntKind.i64.wrap ((k : Int) - 1) = (kk : Int) := by rw [IntKind.wrap_i64]; omega
        have hkl : kk < n + 1 := by omega
        have hkl' : (kk : Int) < (n : Int) + 1 := by omega
        have hkl2 : (k : Int) < (n : Int) + 1 := by omega
        obtain ⟨x, hx⟩ : ∃ x, f (kk * 3) = x := ⟨_, rfl⟩
        have hxs : s < x := by
          have e1 := HF.out.pl.2.2 kk (by omega) (by omega)
          have e2 : f (kk * 3) ≠ s := fun e => hS.out ((HF.out.pl.find HL.out.1.rise).2 ⟨kk, by omega, e⟩)
          omega
        have HXK : Hid (h (kk * 3) = x) := by show _ = _; rw [HLO.out _ (by omega)]; exact hx
        have HKK : Hid (k = kk + 1) := hkk
        clear hx hkk
        go_wp2_with fail
        obtain ⟨u0, hu0, bb⟩ : ∃ uu, wr.drew = uu ∧ Below wr.heap.size wr uu := ⟨_, rfl, (Below.refl _ _).drew⟩
        replace K5 := K5.below bb
        replace A3 := A3.below bb
        replace A2 := A2.below bb
        replace BW := BW.trans (bb.mono BW.size)
        have n0 := K5.bx
        have m0 := A2
        have k0 := K5
        clear bb
        refine wp_region_held_drew (S := Kb u0) (by kernel_rfl) (by rw [hu0]; exact Below.refl _ _) (fun hHeld => ?_)
        rw [hu0] at hHeld ⊢
        clear hu0
        have bu : Kb u0 u0 := Below.refl _ _
        change wpAnyH _ _ _ _ _ 14 #[false, false, false, false, false, false, false, false, false, false, false, false, false, false] _ _
        refine wpAnyH_take (i := 0) (v := .int .i64 ((k : Int))) rfl (by kernel_rfl) (by kernel_rfl) (by kernel_rfl) (fun _ _ _ h => h) (Or.inl ⟨by kernel_rfl, ?_⟩) hHeld ?_
        · intro w' hSw; go_simp
        try simp only [Act.put, List.setIfInBounds_toArray, List.set_cons_zero, List.set_cons_succ, List.getElem_toArray, List.getElem_cons_zero]
        refine wpAnyH_take (i := 1) (v := .bool true) rfl (by kernel_rfl) (by kernel_rfl) (by kernel_rfl) (fun _ _ _ h => h) (Or.inl ⟨by kernel_rfl, ?_⟩) hHeld ?_
        · intro w' hSw; go_simp; omega
        try simp only [Act.put, List.setIfInBounds_toArray, List.set_cons_zero, List.set_cons_succ, List.getElem_toArray, List.getElem_cons_succ, List.getElem_cons_zero]
        refine wpAnyH_take (i := 2) (v := .bool true) rfl (by kernel_rfl) (by kernel_rfl) (by kernel_rfl) (fun _ _ _ h => h) (Or.inl ⟨by kernel_rfl, ?_⟩) hHeld ?_
        · intro w' hSw; go_simp
        try simp only [Act.put, List.setIfInBounds_toArray, List.set_cons_zero, List.set_cons_succ, List.getElem_toArray, List.getElem_cons_succ, List.getElem_cons_zero]
        refine wpAnyH_take (i := 3) (v := .pointer (some ⟨q4, 0, none⟩)) rfl (by kernel_rfl) (by kernel_rfl) (by kernel_rfl) (fun _ _ _ h => h) (Or.inl ⟨by kernel_rfl, ?_⟩) hHeld ?_
        · intro w' hSw; go_simp
        try simp only [Act.put, List.setIfInBounds_toArray, List.set_cons_zero, List.set_cons_succ, List.getElem_toArray, List.getElem_cons_succ, List.getElem_cons_zero]
        refine wpAnyH_take (i := 4) (v := .slice ((some ⟨gv, 0, none⟩)) ((n + 1)) (cv')) rfl (by kernel_rfl) (by kernel_rfl) (by kernel_rfl) (fun _ _ _ h => h) (Or.inl ⟨by kernel_rfl, ?_⟩) hHeld ?_
        · intro w' hSw; obtain ⟨z0, z1, z2, -⟩ := (n0.below hSw).open3; go_simp
        try simp only [Act.put, List.setIfInBounds_toArray, List.set_cons_zero, List.set_cons_succ, List.getElem_toArray, List.getElem_cons_succ, List.getElem_cons_zero]
        refine wpAnyH_take (i := 5) (v := .int .i64 ((k : Int))) rfl (by kernel_rfl) (by kernel_rfl) (by kernel_rfl) (fun _ _ _ h => h) (Or.inl ⟨by kernel_rfl, ?_⟩) hHeld ?_
        · intro w' hSw; go_simp
        try simp only [Act.put, List.setIfInBounds_toArray, List.set_cons_zero, List.set_cons_succ, List.getElem_toArray, List.getElem_cons_succ, List.getElem_cons_zero]
        refine wpAnyH_take (i := 6) (v := .int .i64 ((kk : Int))) rfl (by kernel_rfl) (by kernel_rfl) (by kernel_rfl) (fun _ _ _ h => h) (Or.inl ⟨by kernel_rfl, ?_⟩) hHeld ?_
        · intro w' hSw; go_simp
        try simp only [Act.put, List.setIfInBounds_toArray, List.set_cons_zero, List.set_cons_succ, List.getElem_toArray, List.getElem_cons_succ, List.getElem_cons_zero]
        refine wpAnyH_take (i := 7) (v := .pointer (some ⟨gv, kk * 3, none⟩)) rfl (by kernel_rfl) (by kernel_rfl) (by kernel_rfl) (fun _ _ _ h => h) (Or.inl ⟨by kernel_rfl, ?_⟩) hHeld ?_
        · intro w' hSw; go_simp
        try simp only [Act.put, List.setIfInBounds_toArray, List.set_cons_zero, List.set_cons_succ, List.getElem_toArray, List.getElem_cons_succ, List.getElem_cons_zero]
        refine wpAnyH_take (i := 8) (v := .pointer (some ⟨gv, kk * 3, none⟩)) rfl (by kernel_rfl) (by kernel_rfl) (by kernel_rfl) (fun _ _ _ h => h) (Or.inl ⟨by kernel_rfl, ?_⟩) hHeld ?_
        · intro w' hSw; go_simp
        try simp only [Act.put, List.setIfInBounds_toArray, List.set_cons_zero, List.set_cons_succ, List.getElem_toArray, List.getElem_cons_succ, List.getElem_cons_zero]
        refine wpAnyH_take (i := 9) (v := .int .i64 (x)) rfl (by kernel_rfl) (by kernel_rfl) (by kernel_rfl) (fun _ _ _ h => h) (Or.inl ⟨by kernel_rfl, ?_⟩) hHeld ?_
        · intro w' hSw; obtain ⟨z0, -, -⟩ := (k0.below hSw).frS (i := kk * 3) (by omega); rw [HXK.out] at z0; go_simp
        try simp only [Act.put, List.setIfInBounds_toArray, List.set_cons_zero, List.set_cons_succ, List.getElem_toArray, List.getElem_cons_succ, List.getElem_cons_zero]
        refine wpAnyH_take (i := 10) (v := .pointer (some ⟨q2, 1, none⟩)) rfl (by kernel_rfl) (by kernel_rfl) (by kernel_rfl) (fun _ _ _ h => h) (Or.inl ⟨by kernel_rfl, ?_⟩) hHeld ?_
        · intro w' hSw; go_simp
        try simp only [Act.put, List.setIfInBounds_toArray, List.set_cons_zero, List.set_cons_succ, List.getElem_toArray, List.getElem_cons_succ, List.getElem_cons_zero]
        refine wpAnyH_take (i := 11) (v := .int .i64 (s)) rfl (by kernel_rfl) (by kernel_rfl) (by kernel_rfl) (fun _ _ _ h => h) (Or.inl ⟨by kernel_rfl, ?_⟩) hHeld ?_
        · intro w' hSw; obtain ⟨z0, z1, z2, z3, -⟩ := Job.box (m0.below hSw); go_simp
        try simp only [Act.put, List.setIfInBounds_toArray, List.set_cons_zero, List.set_cons_succ, List.getElem_toArray, List.getElem_cons_succ, List.getElem_cons_zero]
        refine wpAnyH_take (i := 12) (v := .bool true) rfl (by kernel_rfl) (by kernel_rfl) (by kernel_rfl) (fun _ _ _ h => h) (Or.inl ⟨by kernel_rfl, ?_⟩) hHeld ?_
        · intro w' hSw; go_simp
        try simp only [Act.put, List.setIfInBounds_toArray, List.set_cons_zero, List.set_cons_succ, List.getElem_toArray, List.getElem_cons_succ, List.getElem_cons_zero]
        refine wpAnyH_take (i := 13) (v := .bool true) rfl (by kernel_rfl) (by kernel_rfl) (by kernel_rfl) (fun _ _ _ h => h) (Or.inl ⟨by kernel_rfl, ?_⟩) hHeld ?_
        · intro w' hSw; go_simp
        try simp only [Act.put, List.setIfInBounds_toArray, List.set_cons_zero, List.set_cons_succ, List.getElem_toArray, List.getElem_cons_succ, List.getElem_cons_zero]
        refine wpAnyH_done (by kernel_rfl) ?_ _
        clear hHeld
        clear n0 m0 k0
        obtain ⟨x0, x1, x2, f0, f1, f2⟩ := K5.bx.open3
        have hq4l := K5.bx.lt
        obtain ⟨e0, g0, hgl⟩ := K5.frS (i := kk * 3) (by omega)
        obtain ⟨e1, g1, -⟩ := K5.frS (i := kk * 3 + 1) (by omega)
        obtain ⟨e2, g2, -⟩ := K5.frS (i := kk * 3 + 2) (by omega)
        obtain ⟨y0, m0, -⟩ := K5.frS (i := k * 3) (by have := HKK.out; omega)
        obtain ⟨y1, m1, -⟩ := K5.frS (i := k * 3 + 1) (by have := HKK.out; omega)
        obtain ⟨y2, m2, -⟩ := K5.frS (i := k * 3 + 2) (by have := HKK.out; omega)
        go_wp2_with fail
        go_region
        clear x0 x1 x2 f0 f1 f2 hq4l e0 g0 hgl e1 g1 e2 g2 y0 m0 y1 m1 y2 m2
        obtain ⟨K6, b6⟩ := K5.updS (i := k * 3) (by have := HKK.out; omega) (h (kk * 3))
        obtain ⟨K7, b7⟩ := K6.updS (i := k * 3 + 1) (by have := HKK.out; omega) (h (kk * 3 + 1))
        obtain ⟨K8, b8⟩ := K7.updS (i := k * 3 + 2) (by have := HKK.out; omega) (h (kk * 3 + 2))
        replace A3 := ((A3.setOther (i := k * 3) hq3v (.int .i64 (h (kk * 3)))).setOther (i := k * 3 + 1) hq3v (.int .i64 (h (kk * 3 + 1)))).setOther (i := k * 3 + 2) hq3v (.int .i64 (h (kk * 3 + 2)))
        replace A2 := ((A2.setOther (i := k * 3) hq2v (.int .i64 (h (kk * 3)))).setOther (i := k * 3 + 1) hq2v (.int .i64 (h (kk * 3 + 1)))).setOther (i := k * 3 + 2) hq2v (.int .i64 (h (kk * 3 + 2)))
        replace BW := ((BW.trans (b6.mono hwB)).trans (b7.mono hwB)).trans (b8.mono hwB)
        obtain ⟨u6, hu6⟩ : ∃ u, ((u0.setCell ⟨gv, k * 3, none⟩ (.int .i64 (h (kk * 3)))).setCell ⟨gv, k * 3 + 1, none⟩ (.int .i64 (h (kk * 3 + 1)))).setCell ⟨gv, k * 3 + 2, none⟩ (.int .i64 (h (kk * 3 + 2))) = u := ⟨_, rfl⟩
        rw [hu6] at K8 A3 A2 BW ⊢
        have z3 : Below u6.heap.size u6 u6.drew := (Below.refl _ _).drew
        replace K8 := K8.below z3
        replace A3 := A3.below z3
        replace A2 := A2.below z3
        replace BW := BW.trans (z3.mono BW.size)
        clear K5 K6 K7 b6 b7 b8 hu6 z3
        have E1 : Hid (∀ i, i < kk * 3 → upd (upd (upd h (k * 3) (h (kk * 3))) (k * 3 + 1) (h (kk * 3 + 1))) (k * 3 + 2) (h (kk * 3 + 2)) i = f i) := fun i hi => by
          have := HKK.out
          simp only [upd]
          rw [if_neg (by omega), if_neg (by omega), if_neg (by omega)]
          exact HLO.out i (by omega)
        have E2 : Hid (∀ i, kk * 3 + 3 ≤ i → i < (n + 1) * 3 → upd (upd (upd h (k * 3) (h (kk * 3))) (k * 3 + 1) (h (kk * 3 + 1))) (k * 3 + 2) (h (kk * 3 + 2)) i = f (i - 3)) := fun i h1 h2 => by
          have := HKK.out
          simp only [upd]
          by_cases e2 : i = k * 3 + 2
          · rw [if_pos e2, HLO.out _ (by omega)]; congr 1; omega
          · rw [if_neg e2]
            by_cases e1 : i = k * 3 + 1
            · rw [if_pos e1, HLO.out _ (by omega)]; congr 1; omega
            · rw [if_neg e1]
              by_cases e0 : i = k * 3
              · rw [if_pos e0, HLO.out _ (by omega)]; congr 1; omega
              · rw [if_neg e0]
                exact HHI.out i (by omega) h2
        go_wp2
        exact ⟨⟨kk, by have := HKK.out; omega, by have := HKK.out; omega, rfl, _, E1.out, E2.out, K8, A3, A2, BW⟩, by have := HKK.out; simp [intOf]; omega⟩
      · obtain rfl : p = k := by omega
        by_cases hk00 : p = 0
        · have hk1 : ¬ (0 : Int) < (p : Int) := by omega
          have HKK : Hid (p = 0) := hk00
          clear hk00
          go_wp2_with fail
          obtain ⟨u0, hu0, bb⟩ : ∃ uu, wr.drew = uu ∧ Below wr.heap.size wr uu := ⟨_, rfl, (Below.refl _ _).drew⟩
          replace K5 := K5.below bb
          replace A3 := A3.below bb
          replace A2 := A2.below bb
          replace BW := BW.trans (bb.mono BW.size)
          have n0 := K5.bx
          have m0 := A2
          have k0 := K5
          clear bb
          refine wp_region_held_drew (S := Kb u0) (by kernel_rfl) (by rw [hu0]; exact Below.refl _ _) (fun hHeld => ?_)
          rw [hu0] at hHeld ⊢
          clear hu0
          have bu : Kb u0 u0 := Below.refl _ _
          change wpAnyH _ _ _ _ _ 14 #[false, false, false, false, false, false, false, false, false, false, false, false, false, false] _ _
          refine wpAnyH_take (i := 0) (v := .int .i64 ((p : Int))) rfl (by kernel_rfl) (by kernel_rfl) (by kernel_rfl) (fun _ _ _ h => h) (Or.inl ⟨by kernel_rfl, ?_⟩) hHeld ?_
          · intro w' hSw; go_simp
          try simp only [Act.put, List.setIfInBounds_toArray, List.set_cons_zero, List.set_cons_succ, List.getElem_toArray, List.getElem_cons_zero]
          refine wpAnyH_take (i := 1) (v := .bool false) rfl (by kernel_rfl) (by kernel_rfl) (by kernel_rfl) (fun _ _ _ h => h) (Or.inl ⟨by kernel_rfl, ?_⟩) hHeld ?_
          · intro w' hSw; go_simp; exact HKK.out
          try simp only [Act.put, List.setIfInBounds_toArray, List.set_cons_zero, List.set_cons_succ, List.getElem_toArray, List.getElem_cons_succ, List.getElem_cons_zero]
          refine wpAnyH_take (i := 2) (v := .bool false) rfl (by kernel_rfl) (by kernel_rfl) (by kernel_rfl) (fun _ _ _ h => h) (Or.inl ⟨by kernel_rfl, ?_⟩) hHeld ?_
          · intro w' hSw; go_simp
          try simp only [Act.put, List.setIfInBounds_toArray, List.set_cons_zero, List.set_cons_succ, List.getElem_toArray, List.getElem_cons_succ, List.getElem_cons_zero]
          refine wpAnyH_take (i := 3) (v := undef) rfl (by kernel_rfl) (by kernel_rfl) (by kernel_rfl) (fun _ _ _ h => h) (Or.inr ⟨by kernel_rfl, rfl⟩) hHeld ?_
          try simp only [Act.put, List.setIfInBounds_toArray, List.set_cons_zero, List.set_cons_succ, List.getElem_toArray, List.getElem_cons_succ, List.getElem_cons_zero]
          refine wpAnyH_take (i := 4) (v := undef) rfl (by kernel_rfl) (by kernel_rfl) (by kernel_rfl) (fun _ _ _ h => h) (Or.inr ⟨by kernel_rfl, rfl⟩) hHeld ?_
          try simp only [Act.put, List.setIfInBounds_toArray, List.set_cons_zero, List.set_cons_succ, List.getElem_toArray, List.getElem_cons_succ, List.getElem_cons_zero]
          refine wpAnyH_take (i := 5) (v := undef) rfl (by kernel_rfl) (by kernel_rfl) (by kernel_rfl) (fun _ _ _ h => h) (Or.inr ⟨by kernel_rfl, rfl⟩) hHeld ?_
          try simp only [Act.put, List.setIfInBounds_toArray, List.set_cons_zero, List.set_cons_succ, List.getElem_toArray, List.getElem_cons_succ, List.getElem_cons_zero]
          refine wpAnyH_take (i := 6) (v := undef) rfl (by kernel_rfl) (by kernel_rfl) (by kernel_rfl) (fun _ _ _ h => h) (Or.inr ⟨by kernel_rfl, rfl⟩) hHeld ?_
          try simp only [Act.put, List.setIfInBounds_toArray, List.set_cons_zero, List.set_cons_succ, List.getElem_toArray, List.getElem_cons_succ, List.getElem_cons_zero]
          refine wpAnyH_take (i := 7) (v := undef) rfl (by kernel_rfl) (by kernel_rfl) (by kernel_rfl) (fun _ _ _ h => h) (Or.inr ⟨by kernel_rfl, rfl⟩) hHeld ?_
          try simp only [Act.put, List.setIfInBounds_toArray, List.set_cons_zero, List.set_cons_succ, List.getElem_toArray, List.getElem_cons_succ, List.getElem_cons_zero]
          refine wpAnyH_take (i := 8) (v := undef) rfl (by kernel_rfl) (by kernel_rfl) (by kernel_rfl) (fun _ _ _ h => h) (Or.inr ⟨by kernel_rfl, rfl⟩) hHeld ?_
          try simp only [Act.put, List.setIfInBounds_toArray, List.set_cons_zero, List.set_cons_succ, List.getElem_toArray, List.getElem_cons_succ, List.getElem_cons_zero]
          refine wpAnyH_take (i := 9) (v := undef) rfl (by kernel_rfl) (by kernel_rfl) (by kernel_rfl) (fun _ _ _ h => h) (Or.inr ⟨by kernel_rfl, rfl⟩) hHeld ?_
          try simp only [Act.put, List.setIfInBounds_toArray, List.set_cons_zero, List.set_cons_succ, List.getElem_toArray, List.getElem_cons_succ, List.getElem_cons_zero]
          refine wpAnyH_take (i := 10) (v := undef) rfl (by kernel_rfl) (by kernel_rfl) (by kernel_rfl) (fun _ _ _ h => h) (Or.inr ⟨by kernel_rfl, rfl⟩) hHeld ?_
          try simp only [Act.put, List.setIfInBounds_toArray, List.set_cons_zero, List.set_cons_succ, List.getElem_toArray, List.getElem_cons_succ, List.getElem_cons_zero]
          refine wpAnyH_take (i := 11) (v := undef) rfl (by kernel_rfl) (by kernel_rfl) (by kernel_rfl) (fun _ _ _ h => h) (Or.inr ⟨by kernel_rfl, rfl⟩) hHeld ?_
          try simp only [Act.put, List.setIfInBounds_toArray, List.set_cons_zero, List.set_cons_succ, List.getElem_toArray, List.getElem_cons_succ, List.getElem_cons_zero]
          refine wpAnyH_take (i := 12) (v := undef) rfl (by kernel_rfl) (by kernel_rfl) (by kernel_rfl) (fun _ _ _ h => h) (Or.inr ⟨by kernel_rfl, rfl⟩) hHeld ?_
          try simp only [Act.put, List.setIfInBounds_toArray, List.set_cons_zero, List.set_cons_succ, List.getElem_toArray, List.getElem_cons_succ, List.getElem_cons_zero]
          refine wpAnyH_take (i := 13) (v := .bool false) rfl (by kernel_rfl) (by kernel_rfl) (by kernel_rfl) (fun _ _ _ h => h) (Or.inl ⟨by kernel_rfl, ?_⟩) hHeld ?_
          · intro w' hSw; go_simp
          try simp only [Act.put, List.setIfInBounds_toArray, List.set_cons_zero, List.set_cons_succ, List.getElem_toArray, List.getElem_cons_succ, List.getElem_cons_zero]
          refine wpAnyH_done (by kernel_rfl) ?_ _
          clear hHeld
          clear n0 m0 k0
          have hpi : (p : Int) < (n : Int) + 1 := by omega
          obtain ⟨x0, x1, x2, -⟩ := K5.bx.open3
          obtain ⟨d0, d1, d2, d3, -⟩ := Job.box A2
          obtain ⟨y0, m0, -⟩ := K5.frS (i := p * 3) (by omega)
          obtain ⟨K6, b6⟩ := K5.updS (i := p * 3) (by omega) s
          obtain ⟨y1, m1, -⟩ := K6.frS (i := p * 3 + 1) (by omega)
          obtain ⟨K7, b7⟩ := K6.updS (i := p * 3 + 1) (by omega) 1
          obtain ⟨y2, m2, -⟩ := K7.frS (i := p * 3 + 2) (by omega)
          obtain ⟨K8, b8⟩ := K7.updS (i := p * 3 + 2) (by omega) a
          have A8 := ((A3.setOther (i := p * 3) hq3v (.int .i64 s)).setOther (i := p * 3 + 1) hq3v (.int .i64 1)).setOther (i := p * 3 + 2) hq3v (.int .i64 a)
          have BW8 := ((BW.trans (b6.mono hwB)).trans (b7.mono hwB)).trans (b8.mono hwB)
          have K9 : Lk B q4 _ (.slice (some ⟨gv, 0, none⟩) (n + 1) cv') (.slice (some ⟨gJ, 0, none⟩) m eJ) (n + 1) (ins f p s 1 a) m g T := ⟨K8.bx, K8.S.same (ins_of HLO.out HHI.out), K8.J, K8.hq⟩
          obtain ⟨z0, z1, z2, -⟩ := K9.bx.open3
          obtain ⟨r0, r1, r2, t0, t1, t2⟩ := A8.open3
          clear K5 K6 K7 K8 b6 b7 b8
          go_wp2
          have a7 := put3_at A8 (.slice (some ⟨gv, 0, none⟩) (n + 1) cv') (.slice (some ⟨gJ, 0, none⟩) m eJ) (.int .i64 (T))
          obtain ⟨p0, p1, p2, -⟩ := a7.open3
          refine bodyPost_ret (v := .tuple #[labV (.slice (some ⟨gv, 0, none⟩) (n + 1) cv') (.slice (some ⟨gJ, 0, none⟩) m eJ) (T), .int .i64 0]) (by simp [results, Try.results42, go_sem, p0, p1, p2]) rfl ?_
          rw [HX.out, show nxt n f m g T 1 s o a p j = _ from by simp only [nxt]; rfl]
          exact ⟨_, _, rfl, ((K9.S.only (put3_only _ q3 (.slice (some ⟨gv, 0, none⟩) (n + 1) cv') (.slice (some ⟨gJ, 0, none⟩) m eJ) (.int .i64 (T))) (apart_box (K9.S.box A8 (by decide)))).fit).wide hwB (Nat.le_refl _), ((K9.J.only (put3_only _ q3 (.slice (some ⟨gv, 0, none⟩) (n + 1) cv') (.slice (some ⟨gJ, 0, none⟩) m eJ) (.int .i64 (T))) (apart_box (K9.J.box A8 (by decide)))).fit).wide hwB (Nat.le_refl _), below_put3 BW8 hq3w _ _ _⟩
        obtain ⟨kk, hkk⟩ : ∃ kk, p = kk + 1 := ⟨p - 1, by omega⟩
        have hk1 : (0 : Int) < (p : Int) := by omega
        have hw : IntKind.i64.wrap ((p : Int) - 1) = (kk : Int) := by rw [IntKind.wrap_i64]; omega
        have hkl : kk < n + 1 := by omega
        have hkl' : (kk : Int) < (n : Int) + 1 := by omega
        obtain ⟨x, hx⟩ : ∃ x, f (kk * 3) = x := ⟨_, rfl⟩
        have hxs : ¬ s < x := by
          have e1 := HF.out.pl.2.1 kk (by omega)
          omega
        have HXK : Hid (h (kk * 3) = x) := by show _ = _; rw [HLO.out _ (by omega)]; exact hx
        have HKK : Hid (p = kk + 1) := hkk
        clear hx hkk
        go_wp2_with fail
        obtain ⟨u0, hu0, bb⟩ : ∃ uu, wr.drew = uu ∧ Below wr.heap.size wr uu := ⟨_, rfl, (Below.refl _ _).drew⟩
        replace K5 := K5.below bb
        replace A3 := A3.below bb
        replace A2 := A2.below bb
        replace BW := BW.trans (bb.mono BW.size)
        have n0 := K5.bx
        have m0 := A2
        have k0 := K5
        clear bb
        refine wp_region_held_drew (S := Kb u0) (by kernel_rfl) (by rw [hu0]; exact Below.refl _ _) (fun hHeld => ?_)
        rw [hu0] at hHeld ⊢
        clear hu0
        have bu : Kb u0 u0 := Below.refl _ _
        change wpAnyH _ _ _ _ _ 14 #[false, false, false, false, false, false, false, false, false, false, false, false, false, false] _ _
        refine wpAnyH_take (i := 0) (v := .int .i64 ((p : Int))) rfl (by kernel_rfl) (by kernel_rfl) (by kernel_rfl) (fun _ _ _ h => h) (Or.inl ⟨by kernel_rfl, ?_⟩) hHeld ?_
        · intro w' hSw; go_simp
        try simp only [Act.put, List.setIfInBounds_toArray, List.set_cons_zero, List.set_cons_succ, List.getElem_toArray, List.getElem_cons_zero]
        refine wpAnyH_take (i := 1) (v := .bool true) rfl (by kernel_rfl) (by kernel_rfl) (by kernel_rfl) (fun _ _ _ h => h) (Or.inl ⟨by kernel_rfl, ?_⟩) hHeld ?_
        · intro w' hSw; go_simp; omega
        try simp only [Act.put, List.setIfInBounds_toArray, List.set_cons_zero, List.set_cons_succ, List.getElem_toArray, List.getElem_cons_succ, List.getElem_cons_zero]
        refine wpAnyH_take (i := 2) (v := .bool true) rfl (by kernel_rfl) (by kernel_rfl) (by kernel_rfl) (fun _ _ _ h => h) (Or.inl ⟨by kernel_rfl, ?_⟩) hHeld ?_
        · intro w' hSw; go_simp
        try simp only [Act.put, List.setIfInBounds_toArray, List.set_cons_zero, List.set_cons_succ, List.getElem_toArray, List.getElem_cons_succ, List.getElem_cons_zero]
        refine wpAnyH_take (i := 3) (v := .pointer (some ⟨q4, 0, none⟩)) rfl (by kernel_rfl) (by kernel_rfl) (by kernel_rfl) (fun _ _ _ h => h) (Or.inl ⟨by kernel_rfl, ?_⟩) hHeld ?_
        · intro w' hSw; go_simp
        try simp only [Act.put, List.setIfInBounds_toArray, List.set_cons_zero, List.set_cons_succ, List.getElem_toArray, List.getElem_cons_succ, List.getElem_cons_zero]
        refine wpAnyH_take (i := 4) (v := .slice ((some ⟨gv, 0, none⟩)) ((n + 1)) (cv')) rfl (by kernel_rfl) (by kernel_rfl) (by kernel_rfl) (fun _ _ _ h => h) (Or.inl ⟨by kernel_rfl, ?_⟩) hHeld ?_
        · intro w' hSw; obtain ⟨z0, z1, z2, -⟩ := (n0.below hSw).open3; go_simp
        try simp only [Act.put, List.setIfInBounds_toArray, List.set_cons_zero, List.set_cons_succ, List.getElem_toArray, List.getElem_cons_succ, List.getElem_cons_zero]
        refine wpAnyH_take (i := 5) (v := .int .i64 ((p : Int))) rfl (by kernel_rfl) (by kernel_rfl) (by kernel_rfl) (fun _ _ _ h => h) (Or.inl ⟨by kernel_rfl, ?_⟩) hHeld ?_
        · intro w' hSw; go_simp
        try simp only [Act.put, List.setIfInBounds_toArray, List.set_cons_zero, List.set_cons_succ, List.getElem_toArray, List.getElem_cons_succ, List.getElem_cons_zero]
        refine wpAnyH_take (i := 6) (v := .int .i64 ((kk : Int))) rfl (by kernel_rfl) (by kernel_rfl) (by kernel_rfl) (fun _ _ _ h => h) (Or.inl ⟨by kernel_rfl, ?_⟩) hHeld ?_
        · intro w' hSw; go_simp
        try simp only [Act.put, List.setIfInBounds_toArray, List.set_cons_zero, List.set_cons_succ, List.getElem_toArray, List.getElem_cons_succ, List.getElem_cons_zero]
        refine wpAnyH_take (i := 7) (v := .pointer (some ⟨gv, kk * 3, none⟩)) rfl (by kernel_rfl) (by kernel_rfl) (by kernel_rfl) (fun _ _ _ h => h) (Or.inl ⟨by kernel_rfl, ?_⟩) hHeld ?_
        · intro w' hSw; go_simp
        try simp only [Act.put, List.setIfInBounds_toArray, List.set_cons_zero, List.set_cons_succ, List.getElem_toArray, List.getElem_cons_succ, List.getElem_cons_zero]
        refine wpAnyH_take (i := 8) (v := .pointer (some ⟨gv, kk * 3, none⟩)) rfl (by kernel_rfl) (by kernel_rfl) (by kernel_rfl) (fun _ _ _ h => h) (Or.inl ⟨by kernel_rfl, ?_⟩) hHeld ?_
        · intro w' hSw; go_simp
        try simp only [Act.put, List.setIfInBounds_toArray, List.set_cons_zero, List.set_cons_succ, List.getElem_toArray, List.getElem_cons_succ, List.getElem_cons_zero]
        refine wpAnyH_take (i := 9) (v := .int .i64 (x)) rfl (by kernel_rfl) (by kernel_rfl) (by kernel_rfl) (fun _ _ _ h => h) (Or.inl ⟨by kernel_rfl, ?_⟩) hHeld ?_
        · intro w' hSw; obtain ⟨z0, -, -⟩ := (k0.below hSw).frS (i := kk * 3) (by omega); rw [HXK.out] at z0; go_simp
        try simp only [Act.put, List.setIfInBounds_toArray, List.set_cons_zero, List.set_cons_succ, List.getElem_toArray, List.getElem_cons_succ, List.getElem_cons_zero]
        refine wpAnyH_take (i := 10) (v := .pointer (some ⟨q2, 1, none⟩)) rfl (by kernel_rfl) (by kernel_rfl) (by kernel_rfl) (fun _ _ _ h => h) (Or.inl ⟨by kernel_rfl, ?_⟩) hHeld ?_
        · intro w' hSw; go_simp
        try simp only [Act.put, List.setIfInBounds_toArray, List.set_cons_zero, List.set_cons_succ, List.getElem_toArray, List.getElem_cons_succ, List.getElem_cons_zero]
        refine wpAnyH_take (i := 11) (v := .int .i64 (s)) rfl (by kernel_rfl) (by kernel_rfl) (by kernel_rfl) (fun _ _ _ h => h) (Or.inl ⟨by kernel_rfl, ?_⟩) hHeld ?_
        · intro w' hSw; obtain ⟨z0, z1, z2, z3, -⟩ := Job.box (m0.below hSw); go_simp
        try simp only [Act.put, List.setIfInBounds_toArray, List.set_cons_zero, List.set_cons_succ, List.getElem_toArray, List.getElem_cons_succ, List.getElem_cons_zero]
        refine wpAnyH_take (i := 12) (v := .bool false) rfl (by kernel_rfl) (by kernel_rfl) (by kernel_rfl) (fun _ _ _ h => h) (Or.inl ⟨by kernel_rfl, ?_⟩) hHeld ?_
        · intro w' hSw; go_simp
        try simp only [Act.put, List.setIfInBounds_toArray, List.set_cons_zero, List.set_cons_succ, List.getElem_toArray, List.getElem_cons_succ, List.getElem_cons_zero]
        refine wpAnyH_take (i := 13) (v := .bool false) rfl (by kernel_rfl) (by kernel_rfl) (by kernel_rfl) (fun _ _ _ h => h) (Or.inl ⟨by kernel_rfl, ?_⟩) hHeld ?_
        · intro w' hSw; go_simp
        try simp only [Act.put, List.setIfInBounds_toArray, List.set_cons_zero, List.set_cons_succ, List.getElem_toArray, List.getElem_cons_succ, List.getElem_cons_zero]
        refine wpAnyH_done (by kernel_rfl) ?_ _
        clear hHeld
        clear n0 m0 k0
        have hpi : (p : Int) < (n : Int) + 1 := by omega
        obtain ⟨x0, x1, x2, -⟩ := K5.bx.open3
        obtain ⟨d0, d1, d2, d3, -⟩ := Job.box A2
        obtain ⟨y0, m0, -⟩ := K5.frS (i := p * 3) (by omega)
        obtain ⟨K6, b6⟩ := K5.updS (i := p * 3) (by omega) s
        obtain ⟨y1, m1, -⟩ := K6.frS (i := p * 3 + 1) (by omega)
        obtain ⟨K7, b7⟩ := K6.updS (i := p * 3 + 1) (by omega) 1
        obtain ⟨y2, m2, -⟩ := K7.frS (i := p * 3 + 2) (by omega)
        obtain ⟨K8, b8⟩ := K7.updS (i := p * 3 + 2) (by omega) a
        have A8 := ((A3.setOther (i := p * 3) hq3v (.int .i64 s)).setOther (i := p * 3 + 1) hq3v (.int .i64 1)).setOther (i := p * 3 + 2) hq3v (.int .i64 a)
        have BW8 := ((BW.trans (b6.mono hwB)).trans (b7.mono hwB)).trans (b8.mono hwB)
        have K9 : Lk B q4 _ (.slice (some ⟨gv, 0, none⟩) (n + 1) cv') (.slice (some ⟨gJ, 0, none⟩) m eJ) (n + 1) (ins f p s 1 a) m g T := ⟨K8.bx, K8.S.same (ins_of HLO.out HHI.out), K8.J, K8.hq⟩
        obtain ⟨z0, z1, z2, -⟩ := K9.bx.open3
        obtain ⟨r0, r1, r2, t0, t1, t2⟩ := A8.open3
        clear K5 K6 K7 K8 b6 b7 b8
        go_wp2
        have a7 := put3_at A8 (.slice (some ⟨gv, 0, none⟩) (n + 1) cv') (.slice (some ⟨gJ, 0, none⟩) m eJ) (.int .i64 (T))
        obtain ⟨p0, p1, p2, -⟩ := a7.open3
        refine bodyPost_ret (v := .tuple #[labV (.slice (some ⟨gv, 0, none⟩) (n + 1) cv') (.slice (some ⟨gJ, 0, none⟩) m eJ) (T), .int .i64 0]) (by simp [results, Try.results42, go_sem, p0, p1, p2]) rfl ?_
        rw [HX.out, show nxt n f m g T 1 s o a p j = _ from by simp only [nxt]; rfl]
        exact ⟨_, _, rfl, ((K9.S.only (put3_only _ q3 (.slice (some ⟨gv, 0, none⟩) (n + 1) cv') (.slice (some ⟨gJ, 0, none⟩) m eJ) (.int .i64 (T))) (apart_box (K9.S.box A8 (by decide)))).fit).wide hwB (Nat.le_refl _), ((K9.J.only (put3_only _ q3 (.slice (some ⟨gv, 0, none⟩) (n + 1) cv') (.slice (some ⟨gJ, 0, none⟩) m eJ) (.int .i64 (T))) (apart_box (K9.J.box A8 (by decide)))).fit).wide hwB (Nat.le_refl _), below_put3 BW8 hq3w _ _ _⟩
  by_cases k2 : K = 2
  · subst k2
    have hm1 := code2_0 HC.out
    obtain ⟨x0, x1, x2, -⟩ := K4.bx.open3
    obtain ⟨d0, d1, d2, d3, -⟩ := Job.box A2
    have hgJ := K4.geJ
    have hq3J : q3 ≠ gJ := by omega
    have hq2J : q2 ≠ gJ := by omega
    have hm' : m ≤ 300 := hm
    obtain ⟨V9, hV9, X9, b9, -⟩ := boxed w8 39 #[.int .i64 s, .int .i64 o, .int .i64 a, .int .i64 1]
    obtain ⟨gx, hgx⟩ : ∃ q, w8.heap.size = q := ⟨_, rfl⟩
    have hbs : ∀ w, (Instr.buildSlice 25 1 #[(0, jobV s o a 1)]).run Try.prog w = .ok (.slice (some ⟨w.heap.size, 0, none⟩) 1 1) (w.alloc (.cells #[.int .i64 s, .int .i64 o, .int .i64 a, .int .i64 1] 39)) := fun _ => by kernel_rfl
    go_wp2_with (at_builtin; refine Hid.out (?_ : Hid _))
    have K9 := K4.below b9
    have A9 := A3.below b9
    have BW9 := BW.trans (b9.mono BW.size)
    rw [hgx] at X9
    clear hV9 hgx hbs x0 x1 x2 d0 d1 d2 d3 b9
    refine (?_ : wpList _ _ _ _ _ _)
    refine wpListK_append Try.underlying25 infoJob rfl (by omega) (by omega) V9 rfl _ _ rfl rfl K9.J rfl (.inr ⟨gx, rfl, four_recs X9⟩) (fun h => by cases h) (by omega) K9.lt ?_
    intro v' u1 J' ho hN
    obtain ⟨gv, cv', rfl, -, -, -, -⟩ := J'.nn (hN (fun h => by cases h))
    have bx' := K9.bx.only ho (K9.J.box K9.bx (by decide))
    have S' := K9.S.only ho (K9.J.apart K9.S (by decide))
    have A3' := A9.only ho (K9.J.box A9 (by decide))
    have BW1 := ho.belowK K9.J hwB BW9 (by have := K9.lt; omega)
    obtain ⟨K5, b5⟩ := lk_putJ bx' S' J' K9.hq
    have hq34 : q3 ≠ q4 := by have := K9.hq; omega
    have A5 := A3'.setOther (i := 1) hq34 (.slice (some ⟨gv, 0, none⟩) (m + 1) cv')
    have BW5 := BW1.trans (b5.mono hwB)
    obtain ⟨x0, x1, x2, f0, f1, f2⟩ := bx'.open3
    obtain ⟨z0, z1, z2, -⟩ := K5.bx.open3
    obtain ⟨r0, r1, r2, t0, t1, t2⟩ := A5.open3
    clear ho hN J' S' A3' BW1 b5 K9 A9 BW9 X9
    go_wp2
    have a7 := put3_at A5 (.slice (some ⟨gS, 0, none⟩) n eS) (.slice (some ⟨gv, 0, none⟩) (m + 1) cv') (.int .i64 (T))
    obtain ⟨p0, p1, p2, -⟩ := a7.open3
    refine bodyPost_ret (v := .tuple #[labV (.slice (some ⟨gS, 0, none⟩) n eS) (.slice (some ⟨gv, 0, none⟩) (m + 1) cv') (T), .int .i64 0]) (by simp [results, Try.results42, go_sem, p0, p1, p2]) rfl ?_
    rw [HX.out, show nxt n f m g T 2 s o a p j = _ from by simp only [nxt]; rfl]
    exact ⟨_, _, rfl, ((K5.S.only (put3_only _ q3 (.slice (some ⟨gS, 0, none⟩) n eS) (.slice (some ⟨gv, 0, none⟩) (m + 1) cv') (.int .i64 (T))) (apart_box (K5.S.box A5 (by decide)))).fit).wide hwB (Nat.le_refl _), ((K5.J.only (put3_only _ q3 (.slice (some ⟨gS, 0, none⟩) n eS) (.slice (some ⟨gv, 0, none⟩) (m + 1) cv') (.int .i64 (T))) (apart_box (K5.J.box A5 (by decide)))).fit).wide hwB (Nat.le_refl _), below_put3 BW5 hq3w _ _ _⟩
  by_cases k3 : K = 3
  · subst k3
    obtain rfl := codeS_0 (by simp) HC.out
    obtain ⟨rfl, hpn, -⟩ := H1.out rfl
    have hpi : (p : Int) < (n : Int) := by omega
    have hgS := K4.geS
    have hq3S : q3 ≠ gS := by omega
    have hq2S : q2 ≠ gS := by omega
    obtain ⟨x0, x1, x2, -⟩ := K4.bx.open3
    obtain ⟨d0, d1, d2, d3, -⟩ := Job.box A2
    obtain ⟨y1, g1, -⟩ := K4.frS (i := p * 3 + 1) (by omega)
    obtain ⟨K5, b5⟩ := K4.updS (i := p * 3 + 1) (by omega) 2
    have A5 := A3.setOther (i := p * 3 + 1) hq3S (.int .i64 2)
    have BW5 := BW.trans (b5.mono hwB)
    obtain ⟨z0, z1, z2, -⟩ := K5.bx.open3
    obtain ⟨r0, r1, r2, t0, t1, t2⟩ := A5.open3
    go_wp2
    have a7 := put3_at A5 (.slice (some ⟨gS, 0, none⟩) n eS) (.slice (some ⟨gJ, 0, none⟩) m eJ) (.int .i64 (T))
    obtain ⟨p0, p1, p2, -⟩ := a7.open3
    refine bodyPost_ret (v := .tuple #[labV (.slice (some ⟨gS, 0, none⟩) n eS) (.slice (some ⟨gJ, 0, none⟩) m eJ) (T), .int .i64 0]) (by simp [results, Try.results42, go_sem, p0, p1, p2]) rfl ?_
    rw [HX.out, show nxt n f m g T 3 s o a p j = _ from by simp only [nxt]; rfl]
    exact ⟨_, _, rfl, ((K5.S.only (put3_only _ q3 (.slice (some ⟨gS, 0, none⟩) n eS) (.slice (some ⟨gJ, 0, none⟩) m eJ) (.int .i64 (T))) (apart_box (K5.S.box A5 (by decide)))).fit).wide hwB (Nat.le_refl _), ((K5.J.only (put3_only _ q3 (.slice (some ⟨gS, 0, none⟩) n eS) (.slice (some ⟨gJ, 0, none⟩) m eJ) (.int .i64 (T))) (apart_box (K5.J.box A5 (by decide)))).fit).wide hwB (Nat.le_refl _), below_put3 BW5 hq3w _ _ _⟩
  by_cases k4 : K = 4
  · subst k4
    obtain rfl := codeS_0 (by simp) HC.out
    obtain ⟨rfl, hpn, -⟩ := H1.out rfl
    have hpi : (p : Int) < (n : Int) := by omega
    have hgS := K4.geS
    have hq3S : q3 ≠ gS := by omega
    have hq2S : q2 ≠ gS := by omega
    obtain ⟨x0, x1, x2, -⟩ := K4.bx.open3
    obtain ⟨d0, d1, d2, d3, -⟩ := Job.box A2
    obtain ⟨y1, g1, -⟩ := K4.frS (i := p * 3 + 1) (by omega)
    obtain ⟨K5, b5⟩ := K4.updS (i := p * 3 + 1) (by omega) 3
    have A5 := A3.setOther (i := p * 3 + 1) hq3S (.int .i64 3)
    have BW5 := BW.trans (b5.mono hwB)
    obtain ⟨z0, z1, z2, -⟩ := K5.bx.open3
    obtain ⟨r0, r1, r2, t0, t1, t2⟩ := A5.open3
    go_wp2
    have a7 := put3_at A5 (.slice (some ⟨gS, 0, none⟩) n eS) (.slice (some ⟨gJ, 0, none⟩) m eJ) (.int .i64 (T))
    obtain ⟨p0, p1, p2, -⟩ := a7.open3
    refine bodyPost_ret (v := .tuple #[labV (.slice (some ⟨gS, 0, none⟩) n eS) (.slice (some ⟨gJ, 0, none⟩) m eJ) (T), .int .i64 0]) (by simp [results, Try.results42, go_sem, p0, p1, p2]) rfl ?_
    rw [HX.out, show nxt n f m g T 4 s o a p j = _ from by simp only [nxt]; rfl]
    exact ⟨_, _, rfl, ((K5.S.only (put3_only _ q3 (.slice (some ⟨gS, 0, none⟩) n eS) (.slice (some ⟨gJ, 0, none⟩) m eJ) (.int .i64 (T))) (apart_box (K5.S.box A5 (by decide)))).fit).wide hwB (Nat.le_refl _), ((K5.J.only (put3_only _ q3 (.slice (some ⟨gS, 0, none⟩) n eS) (.slice (some ⟨gJ, 0, none⟩) m eJ) (.int .i64 (T))) (apart_box (K5.J.box A5 (by decide)))).fit).wide hwB (Nat.le_refl _), below_put3 BW5 hq3w _ _ _⟩
  by_cases k5 : K = 5
  · subst k5
    obtain rfl := codeS_0 (by simp) HC.out
    obtain ⟨rfl, hpn, -⟩ := H1.out rfl
    have hpi : (p : Int) < (n : Int) := by omega
    have hgS := K4.geS
    have hq3S : q3 ≠ gS := by omega
    have hq2S : q2 ≠ gS := by omega
    obtain ⟨x0, x1, x2, -⟩ := K4.bx.open3
    obtain ⟨d0, d1, d2, d3, -⟩ := Job.box A2
    obtain ⟨y1, g1, -⟩ := K4.frS (i := p * 3 + 1) (by omega)
    obtain ⟨K5, b5⟩ := K4.updS (i := p * 3 + 1) (by omega) 1
    have A5 := A3.setOther (i := p * 3 + 1) hq3S (.int .i64 1)
    have BW5 := BW.trans (b5.mono hwB)
    obtain ⟨z0, z1, z2, -⟩ := K5.bx.open3
    obtain ⟨r0, r1, r2, t0, t1, t2⟩ := A5.open3
    go_wp2
    have a7 := put3_at A5 (.slice (some ⟨gS, 0, none⟩) n eS) (.slice (some ⟨gJ, 0, none⟩) m eJ) (.int .i64 (T))
    obtain ⟨p0, p1, p2, -⟩ := a7.open3
    refine bodyPost_ret (v := .tuple #[labV (.slice (some ⟨gS, 0, none⟩) n eS) (.slice (some ⟨gJ, 0, none⟩) m eJ) (T), .int .i64 0]) (by simp [results, Try.results42, go_sem, p0, p1, p2]) rfl ?_
    rw [HX.out, show nxt n f m g T 5 s o a p j = _ from by simp only [nxt]; rfl]
    exact ⟨_, _, rfl, ((K5.S.only (put3_only _ q3 (.slice (some ⟨gS, 0, none⟩) n eS) (.slice (some ⟨gJ, 0, none⟩) m eJ) (.int .i64 (T))) (apart_box (K5.S.box A5 (by decide)))).fit).wide hwB (Nat.le_refl _), ((K5.J.only (put3_only _ q3 (.slice (some ⟨gS, 0, none⟩) n eS) (.slice (some ⟨gJ, 0, none⟩) m eJ) (.int .i64 (T))) (apart_box (K5.J.box A5 (by decide)))).fit).wide hwB (Nat.le_refl _), below_put3 BW5 hq3w _ _ _⟩
  by_cases k6 : K = 6
  · subst k6
    obtain rfl := codeJ_0 (by simp) HC.out
    obtain rfl := HSJ.out rfl
    obtain ⟨rfl, hpn, -⟩ := H1.out rfl
    have hpi : (p : Int) < (n : Int) := by omega
    obtain ⟨rfl, hjm⟩ := H3.out rfl
    have hji : (j : Int) < (m : Int) := by omega
    have hgS := K4.geS
    have hq3S : q3 ≠ gS := by omega
    have hq2S : q2 ≠ gS := by omega
    have hgJ := K4.geJ
    have hq3J : q3 ≠ gJ := by omega
    have hq2J : q2 ≠ gJ := by omega
    have hSJ : gS ≠ gJ := K4.neSJ
    have hlf := (HL.out.1.2.1 p hpn).2.2
    have hnd := (HL.out.2.1.2 j hjm).1.2.2.1
    have hT := told_le HL.out.2.1 m (Nat.le_refl _)
    rw [← HL.out.2.2] at hT
    obtain ⟨lf, h2⟩ : ∃ x, f (p * 3 + 2) = x := ⟨_, rfl⟩
    obtain ⟨nd, h3⟩ : ∃ x, g (j * 4 + 2) = x := ⟨_, rfl⟩
    rw [h2] at hlf
    rw [h3] at hnd
    have G2 : Hid (f (p * 3 + 2) = lf) := h2
    have G3 : Hid (g (j * 4 + 2) = nd) := h3
    clear h2 h3
    obtain ⟨Z, hZ⟩ : ∃ Z, lf - nd = Z := ⟨_, rfl⟩
    obtain ⟨Y, hY⟩ : ∃ Y, T + nd = Y := ⟨_, rfl⟩
    have w1 : IntKind.i64.wrap (lf - nd) = Z := by rw [IntKind.wrap_i64]; omega
    have w2' : IntKind.i64.wrap (T + nd) = Y := by rw [IntKind.wrap_i64]; omega
    have HZ : Hid (lf - nd = Z) := hZ
    have HW : Hid (T + nd = Y) := hY
    clear hZ hY
    obtain ⟨x0, x1, x2, -⟩ := K4.bx.open3
    obtain ⟨d0, d1, d2, d3, -⟩ := Job.box A2
    obtain ⟨y1, g1, -⟩ := K4.frJ (i := j * 4 + 3) (by omega)
    obtain ⟨K5, b5⟩ := K4.updJ (i := j * 4 + 3) (by omega) 2
    replace A3 := A3.setOther (i := j * 4 + 3) hq3J (.int .i64 2)
    replace BW := BW.trans (b5.mono hwB)
    obtain ⟨u5, hu5⟩ : ∃ u, w8.setCell ⟨gJ, j * 4 + 3, none⟩ (.int .i64 2) = u := ⟨_, rfl⟩
    rw [hu5] at K5 A3 BW
    go_wp2_with fail
    clear x0 x1 x2 d0 d1 d2 d3 y1 g1 b5 hu5 K4
    obtain ⟨x0, x1, x2, f0, f1, f2⟩ := K5.bx.open3
    have hq4l := K5.bx.lt
    obtain ⟨e2, f2', hgs⟩ := K5.frS (i := p * 3 + 2) (by omega)
    obtain ⟨e3, f3, hgj⟩ := K5.frJ (i := j * 4 + 2) (by omega)
    have HG : Hid (upd g (j * 4 + 3) 2 (j * 4 + 2) = nd) := by show _ = _; rw [upd, if_neg (by omega)]; exact G3.out
    rw [G2.out] at e2
    rw [HG.out] at e3
    go_region
    clear x0 x1 x2 f0 f1 f2 e2 e3 f2' f3 hq4l hgs hgj
    obtain ⟨K6, b6⟩ := K5.updS (i := p * 3 + 2) (by omega) Z
    replace A3 := A3.setOther (i := p * 3 + 2) hq3S (.int .i64 Z)
    replace BW := BW.trans (b6.mono hwB)
    have z3 : Below (u5.setCell ⟨gS, p * 3 + 2, none⟩ (.int .i64 Z)).heap.size (u5.setCell ⟨gS, p * 3 + 2, none⟩ (.int .i64 Z)) (u5.setCell ⟨gS, p * 3 + 2, none⟩ (.int .i64 Z)).drew := (Below.refl _ _).drew
    replace BW := BW.trans (z3.mono BW.size)
    replace K6 := K6.below z3
    replace A3 := A3.below z3
    obtain ⟨u6, hu6⟩ : ∃ u, (u5.setCell ⟨gS, p * 3 + 2, none⟩ (.int .i64 Z)).drew = u := ⟨_, rfl⟩
    rw [hu6] at K6 A3 BW ⊢
    clear z3 hu6 K5 b6
    obtain ⟨x0, x1, x2, f0, f1, f2⟩ := K6.bx.open3
    have hq4l := K6.bx.lt
    obtain ⟨e3, f3, hgj⟩ := K6.frJ (i := j * 4 + 2) (by omega)
    rw [HG.out] at e3
    go_wp2_with fail
    go_region
    clear x0 x1 x2 f0 f1 f2 e3 f3 hq4l hgj
    obtain ⟨K7, b7⟩ := K6.updT Y
    have hq34 : q3 ≠ q4 := by have := K6.hq; omega
    replace A3 := A3.setOther (i := 2) hq34 (.int .i64 Y)
    replace BW := BW.trans (b7.mono hwB)
    have z3 : Below (u6.setCell ⟨q4, 2, none⟩ (.int .i64 Y)).heap.size (u6.setCell ⟨q4, 2, none⟩ (.int .i64 Y)) (u6.setCell ⟨q4, 2, none⟩ (.int .i64 Y)).drew := (Below.refl _ _).drew
    replace BW := BW.trans (z3.mono BW.size)
    replace K7 := K7.below z3
    replace A3 := A3.below z3
    obtain ⟨u7, hu7⟩ : ∃ u, (u6.setCell ⟨q4, 2, none⟩ (.int .i64 Y)).drew = u := ⟨_, rfl⟩
    rw [hu7] at K7 A3 BW ⊢
    clear z3 hu7 K6 b7
    obtain ⟨x0, x1, x2, -⟩ := K7.bx.open3
    obtain ⟨r0, r1, r2, t0, t1, t2⟩ := A3.open3
    go_wp2
    have a7 := put3_at A3 (.slice (some ⟨gS, 0, none⟩) n eS) (.slice (some ⟨gJ, 0, none⟩) m eJ) (.int .i64 (Y))
    obtain ⟨p0, p1, p2, -⟩ := a7.open3
    refine bodyPost_ret (v := .tuple #[labV (.slice (some ⟨gS, 0, none⟩) n eS) (.slice (some ⟨gJ, 0, none⟩) m eJ) (Y), .int .i64 0]) (by simp [results, Try.results42, go_sem, p0, p1, p2]) rfl ?_
    rw [HX.out, show nxt n f m g T 6 s o a p j = ⟨n, upd f (p * 3 + 2) Z, m, upd g (j * 4 + 3) 2, Y⟩ from by simp only [nxt, G2.out, G3.out, HZ.out, HW.out]; rfl]
    exact ⟨_, _, rfl, ((K7.S.only (put3_only _ q3 (.slice (some ⟨gS, 0, none⟩) n eS) (.slice (some ⟨gJ, 0, none⟩) m eJ) (.int .i64 (Y))) (apart_box (K7.S.box A3 (by decide)))).fit).wide hwB (Nat.le_refl _), ((K7.J.only (put3_only _ q3 (.slice (some ⟨gS, 0, none⟩) n eS) (.slice (some ⟨gJ, 0, none⟩) m eJ) (.int .i64 (Y))) (apart_box (K7.J.box A3 (by decide)))).fit).wide hwB (Nat.le_refl _), below_put3 BW hq3w _ _ _⟩
  by_cases k7 : K = 7
  · subst k7
    obtain rfl := codeJ_0 (by simp) HC.out
    obtain ⟨rfl, hjm⟩ := H3.out rfl
    have hji : (j : Int) < (m : Int) := by omega
    have hgJ := K4.geJ
    have hq3J : q3 ≠ gJ := by omega
    have hq2J : q2 ≠ gJ := by omega
    obtain ⟨x0, x1, x2, -⟩ := K4.bx.open3
    obtain ⟨d0, d1, d2, d3, -⟩ := Job.box A2
    obtain ⟨y1, g1, -⟩ := K4.frJ (i := j * 4 + 3) (by omega)
    obtain ⟨K5, b5⟩ := K4.updJ (i := j * 4 + 3) (by omega) 3
    have A5 := A3.setOther (i := j * 4 + 3) hq3J (.int .i64 3)
    have BW5 := BW.trans (b5.mono hwB)
    obtain ⟨z0, z1, z2, -⟩ := K5.bx.open3
    obtain ⟨r0, r1, r2, t0, t1, t2⟩ := A5.open3
    go_wp2
    have a7 := put3_at A5 (.slice (some ⟨gS, 0, none⟩) n eS) (.slice (some ⟨gJ, 0, none⟩) m eJ) (.int .i64 (T))
    obtain ⟨p0, p1, p2, -⟩ := a7.open3
    refine bodyPost_ret (v := .tuple #[labV (.slice (some ⟨gS, 0, none⟩) n eS) (.slice (some ⟨gJ, 0, none⟩) m eJ) (T), .int .i64 0]) (by simp [results, Try.results42, go_sem, p0, p1, p2]) rfl ?_
    rw [HX.out, show nxt n f m g T 7 s o a p j = _ from by simp only [nxt]; rfl]
    exact ⟨_, _, rfl, ((K5.S.only (put3_only _ q3 (.slice (some ⟨gS, 0, none⟩) n eS) (.slice (some ⟨gJ, 0, none⟩) m eJ) (.int .i64 (T))) (apart_box (K5.S.box A5 (by decide)))).fit).wide hwB (Nat.le_refl _), ((K5.J.only (put3_only _ q3 (.slice (some ⟨gS, 0, none⟩) n eS) (.slice (some ⟨gJ, 0, none⟩) m eJ) (.int .i64 (T))) (apart_box (K5.J.box A5 (by decide)))).fit).wide hwB (Nat.le_refl _), below_put3 BW5 hq3w _ _ _⟩
  have hK : K = 8 := by have := HO.out.1; omega
  subst hK
  clear k1 k2 k3 k4 k5 k6 k7
  obtain rfl := codeS_0 (by simp) HC.out
  obtain ⟨rfl, hpn, -⟩ := H1.out rfl
  have hpi : (p : Int) < (n : Int) := by omega
  have hgS := K4.geS
  have hq3S : q3 ≠ gS := by omega
  have hq2S : q2 ≠ gS := by omega
  have hgJ := K4.geJ
  have hq3J : q3 ≠ gJ := by omega
  have hq2J : q2 ≠ gJ := by omega
  obtain ⟨x0, x1, x2, -⟩ := K4.bx.open3
  obtain ⟨d0, d1, d2, d3, -⟩ := Job.box A2
  obtain ⟨y1, g1, -⟩ := K4.frS (i := p * 3 + 1) (by omega)
  obtain ⟨K5, b5⟩ := K4.updS (i := p * 3 + 1) (by omega) 4
  replace A3 := A3.setOther (i := p * 3 + 1) hq3S (.int .i64 4)
  replace A2 := A2.setOther (i := p * 3 + 1) hq2S (.int .i64 4)
  replace BW := BW.trans (b5.mono hwB)
  obtain ⟨u5, hu5⟩ : ∃ u, w8.setCell ⟨gS, p * 3 + 1, none⟩ (.int .i64 4) = u := ⟨_, rfl⟩
  rw [hu5] at K5 A3 A2 BW
  go_wp2_with fail
  clear x0 x1 x2 d0 d1 d2 d3 y1 g1 b5 K4
  have hm' : (m : Int) ≤ 300 := by omega
  go_loopw [11] (fun t wr => ∃ k : Nat, k ≤ m ∧ t = .int .i64 (k : Int) ∧ Lk B q4 wr (.slice (some ⟨gS, 0, none⟩) n eS) (.slice (some ⟨gJ, 0, none⟩) m eJ) n (upd f (p * 3 + 1) 4) m (offK g s k) T ∧ At 27 wr q3 #[.slice none 0 0, .slice none 0 0, .int .i64 0] ∧ At 29 wr q2 #[.int .i64 8, .int .i64 s, .int .i64 o, .int .i64 a] ∧ Below w.heap.size w wr) (fun t _ => m - (intOf t).toNat)
  case atStart => exact ⟨0, Nat.zero_le _, rfl, by rw [offK_zero]; exact K5, A3, A2, BW⟩
  case round =>
    clear K5 A3 A2 BW hu5
    obtain ⟨k, hk, rfl, K5, A3, A2, BW⟩ := hrel
    obtain ⟨x0, x1, x2, -⟩ := K5.bx.open3
    by_cases hlt : k < m
    · have hlt' : (k : Int) < (m : Int) := by omega
      obtain ⟨e0, -, -⟩ := K5.frJ (i := k * 4) (by omega)
      obtain ⟨e3, -, -⟩ := K5.frJ (i := k * 4 + 3) (by omega)
      rw [offK_cell (by omega)] at e0 e3
      obtain ⟨x, hx⟩ : ∃ x, g (k * 4) = x := ⟨_, rfl⟩
      obtain ⟨t, ht⟩ : ∃ x, g (k * 4 + 3) = x := ⟨_, rfl⟩
      rw [hx] at e0
      rw [ht] at e3
      have HX1 : Hid (g (k * 4) = x) := hx
      have HT1 : Hid (g (k * 4 + 3) = t) := ht
      have GO0 : Hid (offK g s k (k * 4) = x) := by show _ = _; rw [offK_cell (by omega)]; exact hx
      have GO3 : Hid (offK g s k (k * 4 + 3) = t) := by show _ = _; rw [offK_cell (by omega)]; exact ht
      clear hx ht
      go_wp2_with fail
      clear x0 x1 x2 e0 e3
      by_cases e1 : x = s
      · have e1' : (x == s) = true := by simpa using e1
        by_cases e2 : t = 1
        · subst e2
          have HO2 : Hid (upd (offK g s k) (k * 4 + 3) 3 = offK g s (k + 1)) := offK_yes (HX1.out.trans e1) HT1.out
          clear e1
          obtain ⟨u0, hu0, bb⟩ : ∃ uu, wr.drew = uu ∧ Below wr.heap.size wr uu := ⟨_, rfl, (Below.refl _ _).drew⟩
          replace K5 := K5.below bb
          replace A3 := A3.below bb
          replace A2 := A2.below bb
          replace BW := BW.trans (bb.mono BW.size)
          have n0 := K5.bx
          have m0 := A2
          have k0 := K5
          clear bb
          refine wp_region_held_drew (S := Kb u0) (by kernel_rfl) (by rw [hu0]; exact Below.refl _ _) (fun hHeld => ?_)
          rw [hu0] at hHeld ⊢
          clear hu0
          have bu : Kb u0 u0 := Below.refl _ _
          change wpAnyH _ _ _ _ _ 18 #[false, false, false, false, false, false, false, false, false, false, false, false, false, false, false, false, false, false] _ _
          refine wpAnyH_take (i := 0) (v := .pointer (some ⟨q4, 1, none⟩)) rfl (by kernel_rfl) (by kernel_rfl) (by kernel_rfl) (fun _ _ _ h => h) (Or.inl ⟨by kernel_rfl, ?_⟩) hHeld ?_
          · intro w' hSw; go_simp
          try simp only [Act.put, List.setIfInBounds_toArray, List.set_cons_zero, List.set_cons_succ, List.getElem_toArray, List.getElem_cons_zero]
          refine wpAnyH_take (i := 1) (v := .slice ((some ⟨gJ, 0, none⟩)) m eJ) rfl (by kernel_rfl) (by kernel_rfl) (by kernel_rfl) (fun _ _ _ h => h) (Or.inl ⟨by kernel_rfl, ?_⟩) hHeld ?_
          · intro w' hSw; obtain ⟨z0, z1, z2, -⟩ := (n0.below hSw).open3; go_simp
          try simp only [Act.put, List.setIfInBounds_toArray, List.set_cons_zero, List.set_cons_succ, List.getElem_toArray, List.getElem_cons_succ, List.getElem_cons_zero]
          refine wpAnyH_take (i := 2) (v := .int .i64 ((k : Int))) rfl (by kernel_rfl) (by kernel_rfl) (by kernel_rfl) (fun _ _ _ h => h) (Or.inl ⟨by kernel_rfl, ?_⟩) hHeld ?_
          · intro w' hSw; go_simp
          try simp only [Act.put, List.setIfInBounds_toArray, List.set_cons_zero, List.set_cons_succ, List.getElem_toArray, List.getElem_cons_succ, List.getElem_cons_zero]
          refine wpAnyH_take (i := 3) (v := .pointer (some ⟨gJ, k * 4, none⟩)) rfl (by kernel_rfl) (by kernel_rfl) (by kernel_rfl) (fun _ _ _ h => h) (Or.inl ⟨by kernel_rfl, ?_⟩) hHeld ?_
          · intro w' hSw; go_simp
          try simp only [Act.put, List.setIfInBounds_toArray, List.set_cons_zero, List.set_cons_succ, List.getElem_toArray, List.getElem_cons_succ, List.getElem_cons_zero]
          refine wpAnyH_take (i := 4) (v := .pointer (some ⟨gJ, k * 4, none⟩)) rfl (by kernel_rfl) (by kernel_rfl) (by kernel_rfl) (fun _ _ _ h => h) (Or.inl ⟨by kernel_rfl, ?_⟩) hHeld ?_
          · intro w' hSw; go_simp
          try simp only [Act.put, List.setIfInBounds_toArray, List.set_cons_zero, List.set_cons_succ, List.getElem_toArray, List.getElem_cons_succ, List.getElem_cons_zero]
          refine wpAnyH_take (i := 5) (v := .int .i64 (x)) rfl (by kernel_rfl) (by kernel_rfl) (by kernel_rfl) (fun _ _ _ h => h) (Or.inl ⟨by kernel_rfl, ?_⟩) hHeld ?_
          · intro w' hSw; obtain ⟨z0, -, -⟩ := (k0.below hSw).frJ (i := k * 4) (by omega); rw [GO0.out] at z0; go_simp
          try simp only [Act.put, List.setIfInBounds_toArray, List.set_cons_zero, List.set_cons_succ, List.getElem_toArray, List.getElem_cons_succ, List.getElem_cons_zero]
          refine wpAnyH_take (i := 6) (v := .pointer (some ⟨q2, 1, none⟩)) rfl (by kernel_rfl) (by kernel_rfl) (by kernel_rfl) (fun _ _ _ h => h) (Or.inl ⟨by kernel_rfl, ?_⟩) hHeld ?_
          · intro w' hSw; go_simp
          try simp only [Act.put, List.setIfInBounds_toArray, List.set_cons_zero, List.set_cons_succ, List.getElem_toArray, List.getElem_cons_succ, List.getElem_cons_zero]
          refine wpAnyH_take (i := 7) (v := .int .i64 (s)) rfl (by kernel_rfl) (by kernel_rfl) (by kernel_rfl) (fun _ _ _ h => h) (Or.inl ⟨by kernel_rfl, ?_⟩) hHeld ?_
          · intro w' hSw; obtain ⟨z0, z1, z2, z3, -⟩ := Job.box (m0.below hSw); go_simp
          try simp only [Act.put, List.setIfInBounds_toArray, List.set_cons_zero, List.set_cons_succ, List.getElem_toArray, List.getElem_cons_succ, List.getElem_cons_zero]
          refine wpAnyH_take (i := 8) (v := .bool true) rfl (by kernel_rfl) (by kernel_rfl) (by kernel_rfl) (fun _ _ _ h => h) (Or.inl ⟨by kernel_rfl, ?_⟩) hHeld ?_
          · intro w' hSw; go_simp
          try simp only [Act.put, List.setIfInBounds_toArray, List.set_cons_zero, List.set_cons_succ, List.getElem_toArray, List.getElem_cons_succ, List.getElem_cons_zero]
          refine wpAnyH_take (i := 9) (v := .bool true) rfl (by kernel_rfl) (by kernel_rfl) (by kernel_rfl) (fun _ _ _ h => h) (Or.inl ⟨by kernel_rfl, ?_⟩) hHeld ?_
          · intro w' hSw; go_simp
          try simp only [Act.put, List.setIfInBounds_toArray, List.set_cons_zero, List.set_cons_succ, List.getElem_toArray, List.getElem_cons_succ, List.getElem_cons_zero]
          refine wpAnyH_take (i := 10) (v := .pointer (some ⟨q4, 1, none⟩)) rfl (by kernel_rfl) (by kernel_rfl) (by kernel_rfl) (fun _ _ _ h => h) (Or.inl ⟨by kernel_rfl, ?_⟩) hHeld ?_
          · intro w' hSw; go_simp
          try simp only [Act.put, List.setIfInBounds_toArray, List.set_cons_zero, List.set_cons_succ, List.getElem_toArray, List.getElem_cons_succ, List.getElem_cons_zero]
          refine wpAnyH_take (i := 11) (v := .slice ((some ⟨gJ, 0, none⟩)) m eJ) rfl (by kernel_rfl) (by kernel_rfl) (by kernel_rfl) (fun _ _ _ h => h) (Or.inl ⟨by kernel_rfl, ?_⟩) hHeld ?_
          · intro w' hSw; obtain ⟨z0, z1, z2, -⟩ := (n0.below hSw).open3; go_simp
          try simp only [Act.put, List.setIfInBounds_toArray, List.set_cons_zero, List.set_cons_succ, List.getElem_toArray, List.getElem_cons_succ, List.getElem_cons_zero]
          refine wpAnyH_take (i := 12) (v := .int .i64 ((k : Int))) rfl (by kernel_rfl) (by kernel_rfl) (by kernel_rfl) (fun _ _ _ h => h) (Or.inl ⟨by kernel_rfl, ?_⟩) hHeld ?_
          · intro w' hSw; go_simp
          try simp only [Act.put, List.setIfInBounds_toArray, List.set_cons_zero, List.set_cons_succ, List.getElem_toArray, List.getElem_cons_succ, List.getElem_cons_zero]
          refine wpAnyH_take (i := 13) (v := .pointer (some ⟨gJ, k * 4, none⟩)) rfl (by kernel_rfl) (by kernel_rfl) (by kernel_rfl) (fun _ _ _ h => h) (Or.inl ⟨by kernel_rfl, ?_⟩) hHeld ?_
          · intro w' hSw; go_simp
          try simp only [Act.put, List.setIfInBounds_toArray, List.set_cons_zero, List.set_cons_succ, List.getElem_toArray, List.getElem_cons_succ, List.getElem_cons_zero]
          refine wpAnyH_take (i := 14) (v := .pointer (some ⟨gJ, k * 4 + 3, none⟩)) rfl (by kernel_rfl) (by kernel_rfl) (by kernel_rfl) (fun _ _ _ h => h) (Or.inl ⟨by kernel_rfl, ?_⟩) hHeld ?_
          · intro w' hSw; go_simp
          try simp only [Act.put, List.setIfInBounds_toArray, List.set_cons_zero, List.set_cons_succ, List.getElem_toArray, List.getElem_cons_succ, List.getElem_cons_zero]
          refine wpAnyH_take (i := 15) (v := .int .i64 (1)) rfl (by kernel_rfl) (by kernel_rfl) (by kernel_rfl) (fun _ _ _ h => h) (Or.inl ⟨by kernel_rfl, ?_⟩) hHeld ?_
          · intro w' hSw; obtain ⟨z0, -, -⟩ := (k0.below hSw).frJ (i := k * 4 + 3) (by omega); rw [GO3.out] at z0; go_simp
          try simp only [Act.put, List.setIfInBounds_toArray, List.set_cons_zero, List.set_cons_succ, List.getElem_toArray, List.getElem_cons_succ, List.getElem_cons_zero]
          refine wpAnyH_take (i := 16) (v := .bool true) rfl (by kernel_rfl) (by kernel_rfl) (by kernel_rfl) (fun _ _ _ h => h) (Or.inl ⟨by kernel_rfl, ?_⟩) hHeld ?_
          · intro w' hSw; go_simp
          try simp only [Act.put, List.setIfInBounds_toArray, List.set_cons_zero, List.set_cons_succ, List.getElem_toArray, List.getElem_cons_succ, List.getElem_cons_zero]
          refine wpAnyH_take (i := 17) (v := .bool true) rfl (by kernel_rfl) (by kernel_rfl) (by kernel_rfl) (fun _ _ _ h => h) (Or.inl ⟨by kernel_rfl, ?_⟩) hHeld ?_
          · intro w' hSw; go_simp
          try simp only [Act.put, List.setIfInBounds_toArray, List.set_cons_zero, List.set_cons_succ, List.getElem_toArray, List.getElem_cons_succ, List.getElem_cons_zero]
          refine wpAnyH_done (by kernel_rfl) ?_ _
          clear hHeld
          clear n0 m0 k0
          obtain ⟨x0, x1, x2, -⟩ := K5.bx.open3
          obtain ⟨y3, f3, -⟩ := K5.frJ (i := k * 4 + 3) (by omega)
          obtain ⟨K6, b6⟩ := K5.updJ (i := k * 4 + 3) (by omega) 3
          rw [HO2.out] at K6
          go_wp2
          exact ⟨⟨k + 1, by omega, by go_num, K6, A3.setOther hq3J _, A2.setOther hq2J _, BW.trans (b6.mono hwB)⟩, by simp [intOf]; omega⟩
        · have e2' : (t == 1) = false := by simpa using e2
          have HO2 : Hid (offK g s (k + 1) = offK g s k) := offK_no (fun h => e2 (HT1.out.symm.trans h.2))
          clear e1 e2
          obtain ⟨u0, hu0, bb⟩ : ∃ uu, wr.drew = uu ∧ Below wr.heap.size wr uu := ⟨_, rfl, (Below.refl _ _).drew⟩
          replace K5 := K5.below bb
          replace A3 := A3.below bb
          replace A2 := A2.below bb
          replace BW := BW.trans (bb.mono BW.size)
          have n0 := K5.bx
          have m0 := A2
          have k0 := K5
          clear bb
          refine wp_region_held_drew (S := Kb u0) (by kernel_rfl) (by rw [hu0]; exact Below.refl _ _) (fun hHeld => ?_)
          rw [hu0] at hHeld ⊢
          clear hu0
          have bu : Kb u0 u0 := Below.refl _ _
          change wpAnyH _ _ _ _ _ 18 #[false, false, false, false, false, false, false, false, false, false, false, false, false, false, false, false, false, false] _ _
          refine wpAnyH_take (i := 0) (v := .pointer (some ⟨q4, 1, none⟩)) rfl (by kernel_rfl) (by kernel_rfl) (by kernel_rfl) (fun _ _ _ h => h) (Or.inl ⟨by kernel_rfl, ?_⟩) hHeld ?_
          · intro w' hSw; go_simp
          try simp only [Act.put, List.setIfInBounds_toArray, List.set_cons_zero, List.set_cons_succ, List.getElem_toArray, List.getElem_cons_zero]
          refine wpAnyH_take (i := 1) (v := .slice ((some ⟨gJ, 0, none⟩)) m eJ) rfl (by kernel_rfl) (by kernel_rfl) (by kernel_rfl) (fun _ _ _ h => h) (Or.inl ⟨by kernel_rfl, ?_⟩) hHeld ?_
          · intro w' hSw; obtain ⟨z0, z1, z2, -⟩ := (n0.below hSw).open3; go_simp
          try simp only [Act.put, List.setIfInBounds_toArray, List.set_cons_zero, List.set_cons_succ, List.getElem_toArray, List.getElem_cons_succ, List.getElem_cons_zero]
          refine wpAnyH_take (i := 2) (v := .int .i64 ((k : Int))) rfl (by kernel_rfl) (by kernel_rfl) (by kernel_rfl) (fun _ _ _ h => h) (Or.inl ⟨by kernel_rfl, ?_⟩) hHeld ?_
          · intro w' hSw; go_simp
          try simp only [Act.put, List.setIfInBounds_toArray, List.set_cons_zero, List.set_cons_succ, List.getElem_toArray, List.getElem_cons_succ, List.getElem_cons_zero]
          refine wpAnyH_take (i := 3) (v := .pointer (some ⟨gJ, k * 4, none⟩)) rfl (by kernel_rfl) (by kernel_rfl) (by kernel_rfl) (fun _ _ _ h => h) (Or.inl ⟨by kernel_rfl, ?_⟩) hHeld ?_
          · intro w' hSw; go_simp
          try simp only [Act.put, List.setIfInBounds_toArray, List.set_cons_zero, List.set_cons_succ, List.getElem_toArray, List.getElem_cons_succ, List.getElem_cons_zero]
          refine wpAnyH_take (i := 4) (v := .pointer (some ⟨gJ, k * 4, none⟩)) rfl (by kernel_rfl) (by kernel_rfl) (by kernel_rfl) (fun _ _ _ h => h) (Or.inl ⟨by kernel_rfl, ?_⟩) hHeld ?_
          · intro w' hSw; go_simp
          try simp only [Act.put, List.setIfInBounds_toArray, List.set_cons_zero, List.set_cons_succ, List.getElem_toArray, List.getElem_cons_succ, List.getElem_cons_zero]
          refine wpAnyH_take (i := 5) (v := .int .i64 (x)) rfl (by kernel_rfl) (by kernel_rfl) (by kernel_rfl) (fun _ _ _ h => h) (Or.inl ⟨by kernel_rfl, ?_⟩) hHeld ?_
          · intro w' hSw; obtain ⟨z0, -, -⟩ := (k0.below hSw).frJ (i := k * 4) (by omega); rw [GO0.out] at z0; go_simp
          try simp only [Act.put, List.setIfInBounds_toArray, List.set_cons_zero, List.set_cons_succ, List.getElem_toArray, List.getElem_cons_succ, List.getElem_cons_zero]
          refine wpAnyH_take (i := 6) (v := .pointer (some ⟨q2, 1, none⟩)) rfl (by kernel_rfl) (by kernel_rfl) (by kernel_rfl) (fun _ _ _ h => h) (Or.inl ⟨by kernel_rfl, ?_⟩) hHeld ?_
          · intro w' hSw; go_simp
          try simp only [Act.put, List.setIfInBounds_toArray, List.set_cons_zero, List.set_cons_succ, List.getElem_toArray, List.getElem_cons_succ, List.getElem_cons_zero]
          refine wpAnyH_take (i := 7) (v := .int .i64 (s)) rfl (by kernel_rfl) (by kernel_rfl) (by kernel_rfl) (fun _ _ _ h => h) (Or.inl ⟨by kernel_rfl, ?_⟩) hHeld ?_
          · intro w' hSw; obtain ⟨z0, z1, z2, z3, -⟩ := Job.box (m0.below hSw); go_simp
          try simp only [Act.put, List.setIfInBounds_toArray, List.set_cons_zero, List.set_cons_succ, List.getElem_toArray, List.getElem_cons_succ, List.getElem_cons_zero]
          refine wpAnyH_take (i := 8) (v := .bool true) rfl (by kernel_rfl) (by kernel_rfl) (by kernel_rfl) (fun _ _ _ h => h) (Or.inl ⟨by kernel_rfl, ?_⟩) hHeld ?_
          · intro w' hSw; go_simp
          try simp only [Act.put, List.setIfInBounds_toArray, List.set_cons_zero, List.set_cons_succ, List.getElem_toArray, List.getElem_cons_succ, List.getElem_cons_zero]
          refine wpAnyH_take (i := 9) (v := .bool true) rfl (by kernel_rfl) (by kernel_rfl) (by kernel_rfl) (fun _ _ _ h => h) (Or.inl ⟨by kernel_rfl, ?_⟩) hHeld ?_
          · intro w' hSw; go_simp
          try simp only [Act.put, List.setIfInBounds_toArray, List.set_cons_zero, List.set_cons_succ, List.getElem_toArray, List.getElem_cons_succ, List.getElem_cons_zero]
          refine wpAnyH_take (i := 10) (v := .pointer (some ⟨q4, 1, none⟩)) rfl (by kernel_rfl) (by kernel_rfl) (by kernel_rfl) (fun _ _ _ h => h) (Or.inl ⟨by kernel_rfl, ?_⟩) hHeld ?_
          · intro w' hSw; go_simp
          try simp only [Act.put, List.setIfInBounds_toArray, List.set_cons_zero, List.set_cons_succ, List.getElem_toArray, List.getElem_cons_succ, List.getElem_cons_zero]
          refine wpAnyH_take (i := 11) (v := .slice ((some ⟨gJ, 0, none⟩)) m eJ) rfl (by kernel_rfl) (by kernel_rfl) (by kernel_rfl) (fun _ _ _ h => h) (Or.inl ⟨by kernel_rfl, ?_⟩) hHeld ?_
          · intro w' hSw; obtain ⟨z0, z1, z2, -⟩ := (n0.below hSw).open3; go_simp
          try simp only [Act.put, List.setIfInBounds_toArray, List.set_cons_zero, List.set_cons_succ, List.getElem_toArray, List.getElem_cons_succ, List.getElem_cons_zero]
          refine wpAnyH_take (i := 12) (v := .int .i64 ((k : Int))) rfl (by kernel_rfl) (by kernel_rfl) (by kernel_rfl) (fun _ _ _ h => h) (Or.inl ⟨by kernel_rfl, ?_⟩) hHeld ?_
          · intro w' hSw; go_simp
          try simp only [Act.put, List.setIfInBounds_toArray, List.set_cons_zero, List.set_cons_succ, List.getElem_toArray, List.getElem_cons_succ, List.getElem_cons_zero]
          refine wpAnyH_take (i := 13) (v := .pointer (some ⟨gJ, k * 4, none⟩)) rfl (by kernel_rfl) (by kernel_rfl) (by kernel_rfl) (fun _ _ _ h => h) (Or.inl ⟨by kernel_rfl, ?_⟩) hHeld ?_
          · intro w' hSw; go_simp
          try simp only [Act.put, List.setIfInBounds_toArray, List.set_cons_zero, List.set_cons_succ, List.getElem_toArray, List.getElem_cons_succ, List.getElem_cons_zero]
          refine wpAnyH_take (i := 14) (v := .pointer (some ⟨gJ, k * 4 + 3, none⟩)) rfl (by kernel_rfl) (by kernel_rfl) (by kernel_rfl) (fun _ _ _ h => h) (Or.inl ⟨by kernel_rfl, ?_⟩) hHeld ?_
          · intro w' hSw; go_simp
          try simp only [Act.put, List.setIfInBounds_toArray, List.set_cons_zero, List.set_cons_succ, List.getElem_toArray, List.getElem_cons_succ, List.getElem_cons_zero]
          refine wpAnyH_take (i := 15) (v := .int .i64 (t)) rfl (by kernel_rfl) (by kernel_rfl) (by kernel_rfl) (fun _ _ _ h => h) (Or.inl ⟨by kernel_rfl, ?_⟩) hHeld ?_
          · intro w' hSw; obtain ⟨z0, -, -⟩ := (k0.below hSw).frJ (i := k * 4 + 3) (by omega); rw [GO3.out] at z0; go_simp
          try simp only [Act.put, List.setIfInBounds_toArray, List.set_cons_zero, List.set_cons_succ, List.getElem_toArray, List.getElem_cons_succ, List.getElem_cons_zero]
          refine wpAnyH_take (i := 16) (v := .bool false) rfl (by kernel_rfl) (by kernel_rfl) (by kernel_rfl) (fun _ _ _ h => h) (Or.inl ⟨by kernel_rfl, ?_⟩) hHeld ?_
          · intro w' hSw; go_simp
          try simp only [Act.put, List.setIfInBounds_toArray, List.set_cons_zero, List.set_cons_succ, List.getElem_toArray, List.getElem_cons_succ, List.getElem_cons_zero]
          refine wpAnyH_take (i := 17) (v := .bool false) rfl (by kernel_rfl) (by kernel_rfl) (by kernel_rfl) (fun _ _ _ h => h) (Or.inl ⟨by kernel_rfl, ?_⟩) hHeld ?_
          · intro w' hSw; go_simp
          try simp only [Act.put, List.setIfInBounds_toArray, List.set_cons_zero, List.set_cons_succ, List.getElem_toArray, List.getElem_cons_succ, List.getElem_cons_zero]
          refine wpAnyH_done (by kernel_rfl) ?_ _
          clear hHeld
          clear n0 m0 k0
          go_wp2
          exact ⟨⟨k + 1, by omega, by go_num, by rw [HO2.out]; exact K5, A3, A2, BW⟩, by simp [intOf]; omega⟩
      · have e1' : (x == s) = false := by simpa using e1
        have HO2 : Hid (offK g s (k + 1) = offK g s k) := offK_no (fun h => e1 (HX1.out.symm.trans h.1))
        clear e1
        obtain ⟨u0, hu0, bb⟩ : ∃ uu, wr.drew = uu ∧ Below wr.heap.size wr uu := ⟨_, rfl, (Below.refl _ _).drew⟩
        replace K5 := K5.below bb
        replace A3 := A3.below bb
        replace A2 := A2.below bb
        replace BW := BW.trans (bb.mono BW.size)
        have n0 := K5.bx
        have m0 := A2
        have k0 := K5
        clear bb
        refine wp_region_held_drew (S := Kb u0) (by kernel_rfl) (by rw [hu0]; exact Below.refl _ _) (fun hHeld => ?_)
        rw [hu0] at hHeld ⊢
        clear hu0
        have bu : Kb u0 u0 := Below.refl _ _
        change wpAnyH _ _ _ _ _ 18 #[false, false, false, false, false, false, false, false, false, false, false, false, false, false, false, false, false, false] _ _
        refine wpAnyH_take (i := 0) (v := .pointer (some ⟨q4, 1, none⟩)) rfl (by kernel_rfl) (by kernel_rfl) (by kernel_rfl) (fun _ _ _ h => h) (Or.inl ⟨by kernel_rfl, ?_⟩) hHeld ?_
        · intro w' hSw; go_simp
        try simp only [Act.put, List.setIfInBounds_toArray, List.set_cons_zero, List.set_cons_succ, List.getElem_toArray, List.getElem_cons_zero]
        refine wpAnyH_take (i := 1) (v := .slice ((some ⟨gJ, 0, none⟩)) m eJ) rfl (by kernel_rfl) (by kernel_rfl) (by kernel_rfl) (fun _ _ _ h => h) (Or.inl ⟨by kernel_rfl, ?_⟩) hHeld ?_
        · intro w' hSw; obtain ⟨z0, z1, z2, -⟩ := (n0.below hSw).open3; go_simp
        try simp only [Act.put, List.setIfInBounds_toArray, List.set_cons_zero, List.set_cons_succ, List.getElem_toArray, List.getElem_cons_succ, List.getElem_cons_zero]
        refine wpAnyH_take (i := 2) (v := .int .i64 ((k : Int))) rfl (by kernel_rfl) (by kernel_rfl) (by kernel_rfl) (fun _ _ _ h => h) (Or.inl ⟨by kernel_rfl, ?_⟩) hHeld ?_
        · intro w' hSw; go_simp
        try simp only [Act.put, List.setIfInBounds_toArray, List.set_cons_zero, List.set_cons_succ, List.getElem_toArray, List.getElem_cons_succ, List.getElem_cons_zero]
        refine wpAnyH_take (i := 3) (v := .pointer (some ⟨gJ, k * 4, none⟩)) rfl (by kernel_rfl) (by kernel_rfl) (by kernel_rfl) (fun _ _ _ h => h) (Or.inl ⟨by kernel_rfl, ?_⟩) hHeld ?_
        · intro w' hSw; go_simp
        try simp only [Act.put, List.setIfInBounds_toArray, List.set_cons_zero, List.set_cons_succ, List.getElem_toArray, List.getElem_cons_succ, List.getElem_cons_zero]
        refine wpAnyH_take (i := 4) (v := .pointer (some ⟨gJ, k * 4, none⟩)) rfl (by kernel_rfl) (by kernel_rfl) (by kernel_rfl) (fun _ _ _ h => h) (Or.inl ⟨by kernel_rfl, ?_⟩) hHeld ?_
        · intro w' hSw; go_simp
        try simp only [Act.put, List.setIfInBounds_toArray, List.set_cons_zero, List.set_cons_succ, List.getElem_toArray, List.getElem_cons_succ, List.getElem_cons_zero]
        refine wpAnyH_take (i := 5) (v := .int .i64 (x)) rfl (by kernel_rfl) (by kernel_rfl) (by kernel_rfl) (fun _ _ _ h => h) (Or.inl ⟨by kernel_rfl, ?_⟩) hHeld ?_
        · intro w' hSw; obtain ⟨z0, -, -⟩ := (k0.below hSw).frJ (i := k * 4) (by omega); rw [GO0.out] at z0; go_simp
        try simp only [Act.put, List.setIfInBounds_toArray, List.set_cons_zero, List.set_cons_succ, List.getElem_toArray, List.getElem_cons_succ, List.getElem_cons_zero]
        refine wpAnyH_take (i := 6) (v := .pointer (some ⟨q2, 1, none⟩)) rfl (by kernel_rfl) (by kernel_rfl) (by kernel_rfl) (fun _ _ _ h => h) (Or.inl ⟨by kernel_rfl, ?_⟩) hHeld ?_
        · intro w' hSw; go_simp
        try simp only [Act.put, List.setIfInBounds_toArray, List.set_cons_zero, List.set_cons_succ, List.getElem_toArray, List.getElem_cons_succ, List.getElem_cons_zero]
        refine wpAnyH_take (i := 7) (v := .int .i64 (s)) rfl (by kernel_rfl) (by kernel_rfl) (by kernel_rfl) (fun _ _ _ h => h) (Or.inl ⟨by kernel_rfl, ?_⟩) hHeld ?_
        · intro w' hSw; obtain ⟨z0, z1, z2, z3, -⟩ := Job.box (m0.below hSw); go_simp
        try simp only [Act.put, List.setIfInBounds_toArray, List.set_cons_zero, List.set_cons_succ, List.getElem_toArray, List.getElem_cons_succ, List.getElem_cons_zero]
        refine wpAnyH_take (i := 8) (v := .bool false) rfl (by kernel_rfl) (by kernel_rfl) (by kernel_rfl) (fun _ _ _ h => h) (Or.inl ⟨by kernel_rfl, ?_⟩) hHeld ?_
        · intro w' hSw; go_simp
        try simp only [Act.put, List.setIfInBounds_toArray, List.set_cons_zero, List.set_cons_succ, List.getElem_toArray, List.getElem_cons_succ, List.getElem_cons_zero]
        refine wpAnyH_take (i := 9) (v := .bool false) rfl (by kernel_rfl) (by kernel_rfl) (by kernel_rfl) (fun _ _ _ h => h) (Or.inl ⟨by kernel_rfl, ?_⟩) hHeld ?_
        · intro w' hSw; go_simp
        try simp only [Act.put, List.setIfInBounds_toArray, List.set_cons_zero, List.set_cons_succ, List.getElem_toArray, List.getElem_cons_succ, List.getElem_cons_zero]
        refine wpAnyH_take (i := 10) (v := undef) rfl (by kernel_rfl) (by kernel_rfl) (by kernel_rfl) (fun _ _ _ h => h) (Or.inr ⟨by kernel_rfl, rfl⟩) hHeld ?_
        try simp only [Act.put, List.setIfInBounds_toArray, List.set_cons_zero, List.set_cons_succ, List.getElem_toArray, List.getElem_cons_succ, List.getElem_cons_zero]
        refine wpAnyH_take (i := 11) (v := undef) rfl (by kernel_rfl) (by kernel_rfl) (by kernel_rfl) (fun _ _ _ h => h) (Or.inr ⟨by kernel_rfl, rfl⟩) hHeld ?_
        try simp only [Act.put, List.setIfInBounds_toArray, List.set_cons_zero, List.set_cons_succ, List.getElem_toArray, List.getElem_cons_succ, List.getElem_cons_zero]
        refine wpAnyH_take (i := 12) (v := undef) rfl (by kernel_rfl) (by kernel_rfl) (by kernel_rfl) (fun _ _ _ h => h) (Or.inr ⟨by kernel_rfl, rfl⟩) hHeld ?_
        try simp only [Act.put, List.setIfInBounds_toArray, List.set_cons_zero, List.set_cons_succ, List.getElem_toArray, List.getElem_cons_succ, List.getElem_cons_zero]
        refine wpAnyH_take (i := 13) (v := undef) rfl (by kernel_rfl) (by kernel_rfl) (by kernel_rfl) (fun _ _ _ h => h) (Or.inr ⟨by kernel_rfl, rfl⟩) hHeld ?_
        try simp only [Act.put, List.setIfInBounds_toArray, List.set_cons_zero, List.set_cons_succ, List.getElem_toArray, List.getElem_cons_succ, List.getElem_cons_zero]
        refine wpAnyH_take (i := 14) (v := undef) rfl (by kernel_rfl) (by kernel_rfl) (by kernel_rfl) (fun _ _ _ h => h) (Or.inr ⟨by kernel_rfl, rfl⟩) hHeld ?_
        try simp only [Act.put, List.setIfInBounds_toArray, List.set_cons_zero, List.set_cons_succ, List.getElem_toArray, List.getElem_cons_succ, List.getElem_cons_zero]
        refine wpAnyH_take (i := 15) (v := undef) rfl (by kernel_rfl) (by kernel_rfl) (by kernel_rfl) (fun _ _ _ h => h) (Or.inr ⟨by kernel_rfl, rfl⟩) hHeld ?_
        try simp only [Act.put, List.setIfInBounds_toArray, List.set_cons_zero, List.set_cons_succ, List.getElem_toArray, List.getElem_cons_succ, List.getElem_cons_zero]
        refine wpAnyH_take (i := 16) (v := undef) rfl (by kernel_rfl) (by kernel_rfl) (by kernel_rfl) (fun _ _ _ h => h) (Or.inr ⟨by kernel_rfl, rfl⟩) hHeld ?_
        try simp only [Act.put, List.setIfInBounds_toArray, List.set_cons_zero, List.set_cons_succ, List.getElem_toArray, List.getElem_cons_succ, List.getElem_cons_zero]
        refine wpAnyH_take (i := 17) (v := .bool false) rfl (by kernel_rfl) (by kernel_rfl) (by kernel_rfl) (fun _ _ _ h => h) (Or.inl ⟨by kernel_rfl, ?_⟩) hHeld ?_
        · intro w' hSw; go_simp
        try simp only [Act.put, List.setIfInBounds_toArray, List.set_cons_zero, List.set_cons_succ, List.getElem_toArray, List.getElem_cons_succ, List.getElem_cons_zero]
        refine wpAnyH_done (by kernel_rfl) ?_ _
        clear hHeld
        clear n0 m0 k0
        go_wp2
        exact ⟨⟨k + 1, by omega, by go_num, by rw [HO2.out]; exact K5, A3, A2, BW⟩, by simp [intOf]; omega⟩
    · have hlt' : ¬ (k : Int) < (m : Int) := by omega
      obtain rfl : k = m := by omega
      obtain ⟨r0, r1, r2, t0, t1, t2⟩ := A3.open3
      go_wp2
      have a7 := put3_at A3 (.slice (some ⟨gS, 0, none⟩) n eS) (.slice (some ⟨gJ, 0, none⟩) k eJ) (.int .i64 (T))
      obtain ⟨p0, p1, p2, -⟩ := a7.open3
      refine bodyPost_ret (v := .tuple #[labV (.slice (some ⟨gS, 0, none⟩) n eS) (.slice (some ⟨gJ, 0, none⟩) k eJ) (T), .int .i64 0]) (by simp [results, Try.results42, go_sem, p0, p1, p2]) rfl ?_
      rw [HX.out, show nxt n f k g T 8 s o a p j = _ from by simp only [nxt]; rfl]
      exact ⟨_, _, rfl, ((K5.S.only (put3_only _ q3 (.slice (some ⟨gS, 0, none⟩) n eS) (.slice (some ⟨gJ, 0, none⟩) k eJ) (.int .i64 (T))) (apart_box (K5.S.box A3 (by decide)))).fit).wide hwB (Nat.le_refl _), ((K5.J.only (put3_only _ q3 (.slice (some ⟨gS, 0, none⟩) n eS) (.slice (some ⟨gJ, 0, none⟩) k eJ) (.int .i64 (T))) (apart_box (K5.J.box A3 (by decide)))).fit).wide hwB (Nat.le_refl _), below_put3 BW hq3w _ _ _⟩
end Go.Proofs.Ytnjnffemidaopaa
