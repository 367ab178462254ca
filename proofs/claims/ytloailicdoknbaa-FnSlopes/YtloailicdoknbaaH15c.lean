/-
  Slopes back by the specification: walked.
-/
import Derived.Test.YtloailicdoknbaaH15b
import Derived.Test.YtloailicdoknbaaD15d
namespace Go.Proofs.Ytloailicdoknbaa
open Go.RowKit

def SbP (w : World) (inp : Nat) (F : Nat → Int) (e : Ending) (w' : World) : Prop := ∃ v, e = .returned (.tuple #[v, .bool true]) ∧ Arr w' w.heap.size w'.heap.size v inp F ∧ Below w.heap.size w w'
theorem tmod_mp {x : Int} (h : 0 ≤ x) : Int.tmod x 12289 = mp x := Int.tmod_eq_emod_of_nonneg h
theorem mulC {x y : Int} (h1 : 0 ≤ x ∧ x < 12289) (h2 : 0 ≤ y ∧ y < 12289) : 0 ≤ x * y ∧ x * y ≤ 151019521 := by
  refine ⟨Int.mul_nonneg h1.1 h2.1, ?_⟩
  have := Int.mul_le_mul (show x ≤ 12289 by omega) (show y ≤ 12289 by omega) h2.1 (by omega)
  omega
set_option maxRecDepth 100000 in
set_option maxHeartbeats 12800000 in
theorem specBack_yes {w : World} {g n cap b o c inp : Nat} {f x : Nat → Int} (h : Recs 3 w g n f) (hx : Ints w b o inp x) (hb : b < w.heap.size) (hx64 : ∀ i, i < inp → is64 (x i)) (hf64 : ∀ i, i < n * 3 → is64 (f i)) (ok : TpN n inp f) :
    Calls Try.prog 18 #[.slice (some ⟨g, 0, none⟩) n cap, .slice (some ⟨b, o, none⟩) inp c] w (SbP w inp (bk n inp f (tv mp f x) n)) := by
  have hn0 := ok.2
  have hn200 := ok.1.1
  have hi20 := ok.1.2.1.2
  have hn' : (n : Int) ≤ 200 := by omega
  have hi' : (inp : Int) ≤ 20 := by omega
  have hn9 : (n : Int) ≠ 0 := by omega
  have h0' : ((n : Int) == 0) = false := by simpa using hn9
  have hmx : Try.prog.follows .mixedOrders = true := by kernel_rfl
  have T := fun w (h : Recs 3 w g n f) => specTapeOk_any (cap := cap) (inp : Int) h (by omega) true (show (true = true ↔ _) from ⟨fun _ => ok.1, fun _ => rfl⟩)
  have HO : Hid (TpN n inp f) := ok
  clear ok
  have hgw : g < w.heap.size := h.1
  have mk1 := makeZ inp (by omega)
  have mk2 := makeZ n (by omega)
  go_enter Try.func18, Try.ntmps18
  go_wp2_with fail
  refine (T _ h).mono ?_
  rintro e w2 ⟨rfl, bb⟩
  have h2 := h.below bb
  clear T
  obtain ⟨W2, hW2, a2, bb2, -⟩ := boxed w2 2 (madeCells #[.int .i64 0] inp)
  obtain ⟨qo, hqo⟩ : ∃ q, w2.heap.size = q := ⟨_, rfl⟩
  have sqo : w.heap.size ≤ qo := by rw [← hqo]; exact bb.size
  rw [hqo] at a2
  replace h2 := h2.below bb2
  have B2 := bb.trans (bb2.mono bb.size)
  have lo2 : qo < W2.heap.size := a2.lt
  go_wp2_with fail
  clear hW2 hqo bb bb2
  refine (specValues_any h2 (hx.below hb B2) (Nat.lt_of_lt_of_le hb B2.size) HO.out.1 hx64 hf64).mono ?_
  rintro e w3 ⟨v, rfl, G⟩
  obtain ⟨gv, cv, rfl, p1, p2, p5, I3⟩ := G.ints
  have bG := G.b
  replace a2 := a2.below bG
  have B3 := B2.trans (bG.mono B2.size)
  have lo3 : qo < w3.heap.size := a2.lt
  clear h2 bG G B2
  obtain ⟨N, hN⟩ : ∃ N, n - 1 = N := ⟨_, rfl⟩
  have hN' : (n : Int) - 1 = (N : Int) := by omega
  have hN2 : (N : Int) < (n : Int) := by omega
  obtain ⟨W4, hW4, a4, bb4, -⟩ := boxed w3 2 (madeCells #[.int .i64 0] n)
  obtain ⟨qw, hqw⟩ : ∃ q, w3.heap.size = q := ⟨_, rfl⟩
  rw [hqw] at a4 p5 lo3
  have sqw : w.heap.size ≤ qw := by rw [← hqw]; exact B3.size
  have K0 : Bs w (W4.setCell ⟨qw, N, none⟩ (.int .i64 1)) qo qw gv inp n (tv mp f x) (bk n inp f (tv mp f x) 0) := by
    have k1 : Bs w W4 qo qw gv inp n (tv mp f x) (fun _ => 0) := by
      refine ⟨⟨_, a2.below bb4, madeSz _, fun j hj => madeAt hj⟩, ⟨_, a4, madeSz _, fun j hj => madeAt hj⟩, I3.below (by rw [hqw]; exact p5) bb4, ?_, B3.trans (bb4.mono B3.size), sqo, sqw, by omega, by omega, by omega⟩
      exact Nat.lt_of_lt_of_le p5 (by rw [← hqw]; exact bb4.size)
    have k2 := k1.putW N 1
    have e : upd (fun _ => 0) (inp + N) 1 = bk n inp f (tv mp f x) 0 := by
      funext j
      unfold upd bk un
      rw [show inp + n - 1 = inp + N by omega]
    rw [e] at k2
    exact k2
  have z4 : W4.cell? ⟨qw, N, none⟩ = some (.int .i64 0) := a4.cell N (madeAt (by omega))
  have f4 : W4.frozen? ⟨qw, N, none⟩ = false := a4.frozen N
  obtain ⟨W5, hW5⟩ : ∃ W, W4.setCell ⟨qw, N, none⟩ (.int .i64 1) = W := ⟨_, rfl⟩
  rw [hW5] at K0
  clear a4 bb4 I3 B3 a2
  go_wp2
  clear hW4 hW5 hqw z4 f4 mk1 mk2
  go_loopw [9] (fun u wr => ∃ t : Nat, t ≤ n ∧ u = .int .i64 ((n : Int) - 1 - (t : Int)) ∧ Bs w wr qo qw gv inp n (tv mp f x) (bk n inp f (tv mp f x) t)) (fun u _ => (intOf u + 1).toNat)
  case atStart => exact ⟨0, Nat.zero_le _, by go_num, K0⟩
  case round =>
    clear K0
    obtain ⟨t, ht, rfl, K⟩ := hrel
    by_cases htn : t < n
    · obtain ⟨i, hi⟩ : ∃ i : Nat, n - 1 - t = i := ⟨_, rfl⟩
      have hin : i < n := by omega
      have hi2 : (n : Int) - 1 - (t : Int) = (i : Int) := by omega
      have hi3 : (i : Int) < (n : Int) := by omega
      rw [hi2]
      have HT : Hid ((i : Int) - 1 = (n : Int) - 1 - ((t + 1 : Nat) : Int)) := by show _ = _; omega
      obtain ⟨d0, d1, d2⟩ := Step.open (belowRecs h K.b hgw) i hin
      clear hi2
      obtain ⟨D, hD⟩ : ∃ D, bk n inp f (tv mp f x) t = D := ⟨_, rfl⟩
      have hDb : ∀ j, 0 ≤ D j ∧ D j < 12289 := by rw [← hD]; exact bk_in _ _ _ _ _
      rw [hD] at K
      rcases (HO.out.1.2.2 i hin).ways with ⟨e1, e2, A, e3, hA⟩ | ⟨e1, A, B, e2, e3, hA, hB⟩ | ⟨e1, A, B, e2, e3, hA, hB⟩ | ⟨e1, e2, A, e3, hA⟩ | ⟨e1, e2⟩
      · have HB : Hid (bk n inp f (tv mp f x) (t + 1) = upd D A (mp (D A + D (inp + i)))) := by rw [← hD]; exact bk_inp hi e1 e3
        rw [e1] at d0
        rw [e3] at d1
        rw [e2] at d2
        obtain ⟨b0, hb0⟩ : ∃ b : Int, b = 0 := ⟨_, rfl⟩
        rw [← hb0] at d2
        clear hb0
        obtain ⟨V1, hV1, m1, bb1, -⟩ := boxed wr 46 #[.int .i64 1, .int .i64 (A : Int), .int .i64 b0]
        obtain ⟨r1, hr1⟩ : ∃ r, wr.heap.size = r := ⟨_, rfl⟩
        have ho1 : qo < r1 := by rw [← hr1]; exact K.mo.lt
        have hw1 : qw < r1 := by rw [← hr1]; exact K.mw.lt
        rw [hr1] at m1
        replace K := K.below bb1
        obtain ⟨c0, c1, c2, -⟩ := m1.open3
        clear bb1
        have hA' : (A : Int) < (inp : Int) := hA
        have hAi : A < inp := by omega
        obtain ⟨xa, hxa⟩ : ∃ z, D A = z := ⟨_, rfl⟩
        have rxa : 0 ≤ D A ∧ D A < 12289 := hDb _
        rw [hxa] at rxa
        obtain ⟨al, hal⟩ : ∃ z, D (inp + i) = z := ⟨_, rfl⟩
        have ral : 0 ≤ D (inp + i) ∧ D (inp + i) < 12289 := hDb _
        rw [hal] at ral
        rw [hxa, hal] at HB
        have hw2 : wrap64 (xa + al) = xa + al := by unfold wrap64; omega
        obtain ⟨Z, hZ⟩ : ∃ Z, Int.tmod (xa + al) 12289 = Z := ⟨_, rfl⟩
        rw [← tmod_mp (by omega), hZ] at HB
        go_wp2_with fail
        refine wp_region_still_tail 14 hmx (by kernel_rfl) ?_
        change wpStill _ _ V1.drew _ _ _
        simp only [List.take_succ_cons, List.take_zero, List.drop_succ_cons, List.drop_zero]
        obtain ⟨V2, hV2⟩ : ∃ V, V1.drew = V := ⟨_, rfl⟩
        have b6 : Below V1.heap.size V1 V2 := hV2 ▸ (Below.refl _ _).drew
        rw [hV2]
        replace m1 := m1.below b6
        replace K := K.below b6
        clear c0 c1 c2 b6
        obtain ⟨c0, c1, c2, -⟩ := m1.open3
        obtain ⟨k1, k2⟩ := made_cell K.mo hAi
        obtain ⟨k3, -⟩ := made_cell K.mw hin
        rw [hxa] at k1
        simp only [hal] at k3
        repeat still_step
        refine wpStill_nil ?_
        change wpList _ _ _ _ _ V1.drew
        rw [hV2]
        clear hV2
        replace K := K.putO hAi Z
        rw [← HB.out] at K
        obtain ⟨W9, hW9⟩ : ∃ W, V2.setCell ⟨qo, A, none⟩ (.int .i64 Z) = W := ⟨_, rfl⟩
        rw [hW9] at K
        clear k3 hDb rxa ral
        go_wp2
        exact ⟨⟨t + 1, by omega, by rw [HT.out], K⟩, by simp [intOf]; try omega⟩
      · have HB : Hid (∀ D1 : Nat → Int, D1 = upd D (inp + A) (mp (D (inp + A) + D (inp + i))) → bk n inp f (tv mp f x) (t + 1) = upd D1 (inp + B) (mp (D1 (inp + B) + D (inp + i)))) := by intro D1 h1; rw [← hD] at h1 ⊢; exact bk_sum hi e1 e2 e3 D1 h1
        rw [e1] at d0
        rw [e2] at d1
        rw [e3] at d2
        obtain ⟨V1, hV1, m1, bb1, -⟩ := boxed wr 46 #[.int .i64 2, .int .i64 (A : Int), .int .i64 (B : Int)]
        obtain ⟨r1, hr1⟩ : ∃ r, wr.heap.size = r := ⟨_, rfl⟩
        have ho1 : qo < r1 := by rw [← hr1]; exact K.mo.lt
        have hw1 : qw < r1 := by rw [← hr1]; exact K.mw.lt
        rw [hr1] at m1
        replace K := K.below bb1
        obtain ⟨c0, c1, c2, -⟩ := m1.open3
        clear bb1
        have hA' : (A : Int) < (n : Int) := by omega
        have hAn : A < n := by omega
        have hB' : (B : Int) < (n : Int) := by omega
        have hBn : B < n := by omega
        obtain ⟨al, hal⟩ : ∃ z, D (inp + i) = z := ⟨_, rfl⟩
        have ral : 0 ≤ D (inp + i) ∧ D (inp + i) < 12289 := hDb _
        rw [hal] at ral
        obtain ⟨xa, hxa⟩ : ∃ z, D (inp + A) = z := ⟨_, rfl⟩
        have rxa : 0 ≤ D (inp + A) ∧ D (inp + A) < 12289 := hDb _
        rw [hxa] at rxa
        have hwZ : wrap64 (xa + al) = xa + al := by unfold wrap64; omega
        obtain ⟨Z, hZ⟩ : ∃ Z, Int.tmod (xa + al) 12289 = Z := ⟨_, rfl⟩
        have heZ : (xa + al) % 12289 = Z := by rw [← hZ, tmod_mp (by omega)]; rfl
        go_wp2_with fail
        refine wp_region_still_tail 14 hmx (by kernel_rfl) ?_
        change wpStill _ _ V1.drew _ _ _
        simp only [List.take_succ_cons, List.take_zero, List.drop_succ_cons, List.drop_zero]
        obtain ⟨V2, hV2⟩ : ∃ V, V1.drew = V := ⟨_, rfl⟩
        have b6 : Below V1.heap.size V1 V2 := hV2 ▸ (Below.refl _ _).drew
        rw [hV2]
        replace m1 := m1.below b6
        replace K := K.below b6
        clear c0 c1 c2 b6
        obtain ⟨c0, c1, c2, -⟩ := m1.open3
        obtain ⟨k1, k2⟩ := made_cell K.mw hAn
        obtain ⟨k3, -⟩ := made_cell K.mw hin
        simp only [hxa] at k1
        simp only [hal] at k3
        repeat still_step
        refine wpStill_nil ?_
        change wpList _ _ _ _ _ V1.drew
        rw [hV2]
        clear hV2
        replace K := K.putW A Z
        obtain ⟨W8, hW8⟩ : ∃ W, V2.setCell ⟨qw, A, none⟩ (.int .i64 Z) = W := ⟨_, rfl⟩
        rw [hW8] at K
        obtain ⟨D1, hD1⟩ : ∃ D1, upd D (inp + A) Z = D1 := ⟨_, rfl⟩
        have zb : 0 ≤ Z ∧ Z < 12289 := by rw [← hZ, tmod_mp (by omega)]; exact mp_in _
        have hDb1 : ∀ j, 0 ≤ D1 j ∧ D1 j < 12289 := fun j => by rw [← hD1]; unfold upd; split; exact zb; exact hDb j
        have hal1 : D1 (inp + i) = al := by rw [← hD1, upd, if_neg (by omega)]; exact hal
        rw [hD1] at K
        replace m1 : At 46 W8 r1 #[.int .i64 2, .int .i64 (A : Int), .int .i64 (B : Int)] := by rw [← hW8]; exact m1.setOther (by omega) _
        have HB2 := HB.out D1 (by rw [← hD1, hxa, hal, ← tmod_mp (by omega), hZ])
        clear hDb
        have hDb := hDb1
        clear hDb1
        obtain ⟨xb, hxb⟩ : ∃ z, D1 (inp + B) = z := ⟨_, rfl⟩
        have rxb : 0 ≤ D1 (inp + B) ∧ D1 (inp + B) < 12289 := hDb _
        rw [hxb] at rxb
        have hwY : wrap64 (xb + al) = xb + al := by unfold wrap64; omega
        obtain ⟨Y, hY⟩ : ∃ Z, Int.tmod (xb + al) 12289 = Z := ⟨_, rfl⟩
        have heY : (xb + al) % 12289 = Y := by rw [← hY, tmod_mp (by omega)]; rfl
        go_wp2_with fail
        rw [heZ, hW8]
        refine wp_region_still_tail 14 hmx (by kernel_rfl) ?_
        change wpStill _ _ W8.drew _ _ _
        simp only [List.take_succ_cons, List.take_zero, List.drop_succ_cons, List.drop_zero]
        obtain ⟨V3, hV3⟩ : ∃ V, W8.drew = V := ⟨_, rfl⟩
        have b6 : Below W8.heap.size W8 V3 := hV3 ▸ (Below.refl _ _).drew
        rw [hV3]
        replace m1 := m1.below b6
        replace K := K.below b6
        clear c0 c1 c2 b6
        obtain ⟨c0, c1, c2, -⟩ := m1.open3
        obtain ⟨k1, k2⟩ := made_cell K.mw hBn
        obtain ⟨k3, -⟩ := made_cell K.mw hin
        simp only [hxb] at k1
        simp only [hal1] at k3
        repeat still_step
        refine wpStill_nil ?_
        change wpList _ _ _ _ _ W8.drew
        rw [hV3]
        clear hV3
        replace K := K.putW B Y
        obtain ⟨W9, hW9⟩ : ∃ W, V3.setCell ⟨qw, B, none⟩ (.int .i64 Y) = W := ⟨_, rfl⟩
        rw [hW9] at K
        rw [hxb, hal, ← tmod_mp (by omega), hY] at HB2
        rw [← HB2] at K
        clear k3 hDb
        go_wp2
        exact ⟨⟨t + 1, by omega, by rw [HT.out], K⟩, by simp [intOf]; try omega⟩
      · have HB : Hid (∀ D1 : Nat → Int, D1 = upd D (inp + A) (mp (D (inp + A) + D (inp + i) * tv mp f x B)) → bk n inp f (tv mp f x) (t + 1) = upd D1 (inp + B) (mp (D1 (inp + B) + D (inp + i) * tv mp f x A))) := by intro D1 h1; rw [← hD] at h1 ⊢; exact bk_prod hi e1 e2 e3 D1 h1
        rw [e1] at d0
        rw [e2] at d1
        rw [e3] at d2
        obtain ⟨V1, hV1, m1, bb1, -⟩ := boxed wr 46 #[.int .i64 3, .int .i64 (A : Int), .int .i64 (B : Int)]
        obtain ⟨r1, hr1⟩ : ∃ r, wr.heap.size = r := ⟨_, rfl⟩
        have ho1 : qo < r1 := by rw [← hr1]; exact K.mo.lt
        have hw1 : qw < r1 := by rw [← hr1]; exact K.mw.lt
        rw [hr1] at m1
        replace K := K.below bb1
        obtain ⟨c0, c1, c2, -⟩ := m1.open3
        clear bb1
        have hA' : (A : Int) < (n : Int) := by omega
        have hAn : A < n := by omega
        have hB' : (B : Int) < (n : Int) := by omega
        have hBn : B < n := by omega
        obtain ⟨al, hal⟩ : ∃ z, D (inp + i) = z := ⟨_, rfl⟩
        have ral : 0 ≤ D (inp + i) ∧ D (inp + i) < 12289 := hDb _
        rw [hal] at ral
        obtain ⟨vvB, hvvB⟩ : ∃ z, tv mp f x B = z := ⟨_, rfl⟩
        have rvB := tv_in f x B
        rw [hvvB] at rvB
        have rpB := mulC ral rvB
        have hwpB : wrap64 (al * vvB) = al * vvB := by unfold wrap64; omega
        obtain ⟨vvA, hvvA⟩ : ∃ z, tv mp f x A = z := ⟨_, rfl⟩
        have rvA := tv_in f x A
        rw [hvvA] at rvA
        have rpA := mulC ral rvA
        have hwpA : wrap64 (al * vvA) = al * vvA := by unfold wrap64; omega
        obtain ⟨xa, hxa⟩ : ∃ z, D (inp + A) = z := ⟨_, rfl⟩
        have rxa : 0 ≤ D (inp + A) ∧ D (inp + A) < 12289 := hDb _
        rw [hxa] at rxa
        have hwZ : wrap64 (xa + al * vvB) = xa + al * vvB := by unfold wrap64; omega
        obtain ⟨Z, hZ⟩ : ∃ Z, Int.tmod (xa + al * vvB) 12289 = Z := ⟨_, rfl⟩
        have heZ : (xa + al * vvB) % 12289 = Z := by rw [← hZ, tmod_mp (by omega)]; rfl
        go_wp2_with fail
        refine wp_region_still_tail 20 hmx (by kernel_rfl) ?_
        change wpStill _ _ V1.drew _ _ _
        simp only [List.take_succ_cons, List.take_zero, List.drop_succ_cons, List.drop_zero]
        obtain ⟨V2, hV2⟩ : ∃ V, V1.drew = V := ⟨_, rfl⟩
        have b6 : Below V1.heap.size V1 V2 := hV2 ▸ (Below.refl _ _).drew
        rw [hV2]
        replace m1 := m1.below b6
        replace K := K.below b6
        clear c0 c1 c2 b6
        obtain ⟨c0, c1, c2, -⟩ := m1.open3
        obtain ⟨k1, k2⟩ := made_cell K.mw hAn
        obtain ⟨k3, -⟩ := made_cell K.mw hin
        simp only [hxa] at k1
        simp only [hal] at k3
        have k4 := cellAt K.vi (a := B) hBn
        rw [hvvB] at k4
        repeat still_step
        refine wpStill_nil ?_
        change wpList _ _ _ _ _ V1.drew
        rw [hV2]
        clear hV2
        replace K := K.putW A Z
        obtain ⟨W8, hW8⟩ : ∃ W, V2.setCell ⟨qw, A, none⟩ (.int .i64 Z) = W := ⟨_, rfl⟩
        rw [hW8] at K
        obtain ⟨D1, hD1⟩ : ∃ D1, upd D (inp + A) Z = D1 := ⟨_, rfl⟩
        have zb : 0 ≤ Z ∧ Z < 12289 := by rw [← hZ, tmod_mp (by omega)]; exact mp_in _
        have hDb1 : ∀ j, 0 ≤ D1 j ∧ D1 j < 12289 := fun j => by rw [← hD1]; unfold upd; split; exact zb; exact hDb j
        have hal1 : D1 (inp + i) = al := by rw [← hD1, upd, if_neg (by omega)]; exact hal
        rw [hD1] at K
        replace m1 : At 46 W8 r1 #[.int .i64 3, .int .i64 (A : Int), .int .i64 (B : Int)] := by rw [← hW8]; exact m1.setOther (by omega) _
        have HB2 := HB.out D1 (by rw [← hD1, hxa, hal, hvvB, ← tmod_mp (by omega), hZ])
        clear hDb
        have hDb := hDb1
        clear hDb1
        obtain ⟨xb, hxb⟩ : ∃ z, D1 (inp + B) = z := ⟨_, rfl⟩
        have rxb : 0 ≤ D1 (inp + B) ∧ D1 (inp + B) < 12289 := hDb _
        rw [hxb] at rxb
        have hwY : wrap64 (xb + al * vvA) = xb + al * vvA := by unfold wrap64; omega
        obtain ⟨Y, hY⟩ : ∃ Z, Int.tmod (xb + al * vvA) 12289 = Z := ⟨_, rfl⟩
        have heY : (xb + al * vvA) % 12289 = Y := by rw [← hY, tmod_mp (by omega)]; rfl
        go_wp2_with fail
        rw [heZ, hW8]
        refine wp_region_still_tail 20 hmx (by kernel_rfl) ?_
        change wpStill _ _ W8.drew _ _ _
        simp only [List.take_succ_cons, List.take_zero, List.drop_succ_cons, List.drop_zero]
        obtain ⟨V3, hV3⟩ : ∃ V, W8.drew = V := ⟨_, rfl⟩
        have b6 : Below W8.heap.size W8 V3 := hV3 ▸ (Below.refl _ _).drew
        rw [hV3]
        replace m1 := m1.below b6
        replace K := K.below b6
        clear c0 c1 c2 b6
        obtain ⟨c0, c1, c2, -⟩ := m1.open3
        obtain ⟨k1, k2⟩ := made_cell K.mw hBn
        obtain ⟨k3, -⟩ := made_cell K.mw hin
        simp only [hxb] at k1
        simp only [hal1] at k3
        have k4 := cellAt K.vi (a := A) hAn
        rw [hvvA] at k4
        repeat still_step
        refine wpStill_nil ?_
        change wpList _ _ _ _ _ W8.drew
        rw [hV3]
        clear hV3
        replace K := K.putW B Y
        obtain ⟨W9, hW9⟩ : ∃ W, V3.setCell ⟨qw, B, none⟩ (.int .i64 Y) = W := ⟨_, rfl⟩
        rw [hW9] at K
        rw [hxb, hal, hvvA, ← tmod_mp (by omega), hY] at HB2
        rw [← HB2] at K
        clear k3 hDb
        go_wp2
        exact ⟨⟨t + 1, by omega, by rw [HT.out], K⟩, by simp [intOf]; try omega⟩
      · have HB : Hid (bk n inp f (tv mp f x) (t + 1) = upd D (inp + A) (mp (D (inp + A) + 12289 - D (inp + i)))) := by rw [← hD]; exact bk_min hi e1 e3
        rw [e1] at d0
        rw [e3] at d1
        rw [e2] at d2
        obtain ⟨b0, hb0⟩ : ∃ b : Int, b = 0 := ⟨_, rfl⟩
        rw [← hb0] at d2
        clear hb0
        obtain ⟨V1, hV1, m1, bb1, -⟩ := boxed wr 46 #[.int .i64 4, .int .i64 (A : Int), .int .i64 b0]
        obtain ⟨r1, hr1⟩ : ∃ r, wr.heap.size = r := ⟨_, rfl⟩
        have ho1 : qo < r1 := by rw [← hr1]; exact K.mo.lt
        have hw1 : qw < r1 := by rw [← hr1]; exact K.mw.lt
        rw [hr1] at m1
        replace K := K.below bb1
        obtain ⟨c0, c1, c2, -⟩ := m1.open3
        clear bb1
        have hA' : (A : Int) < (n : Int) := by omega
        have hAn : A < n := by omega
        obtain ⟨al, hal⟩ : ∃ z, D (inp + i) = z := ⟨_, rfl⟩
        have ral : 0 ≤ D (inp + i) ∧ D (inp + i) < 12289 := hDb _
        rw [hal] at ral
        obtain ⟨xa, hxa⟩ : ∃ z, D (inp + A) = z := ⟨_, rfl⟩
        have rxa : 0 ≤ D (inp + A) ∧ D (inp + A) < 12289 := hDb _
        rw [hxa] at rxa
        have hw3 : wrap64 (xa + 12289) = xa + 12289 := by unfold wrap64; omega
        have hwZ : wrap64 (xa + 12289 - al) = xa + 12289 - al := by unfold wrap64; omega
        obtain ⟨Z, hZ⟩ : ∃ Z, Int.tmod (xa + 12289 - al) 12289 = Z := ⟨_, rfl⟩
        have heZ : (xa + 12289 - al) % 12289 = Z := by rw [← hZ, tmod_mp (by omega)]; rfl
        go_wp2_with fail
        refine wp_region_still_tail 15 hmx (by kernel_rfl) ?_
        change wpStill _ _ V1.drew _ _ _
        simp only [List.take_succ_cons, List.take_zero, List.drop_succ_cons, List.drop_zero]
        obtain ⟨V2, hV2⟩ : ∃ V, V1.drew = V := ⟨_, rfl⟩
        have b6 : Below V1.heap.size V1 V2 := hV2 ▸ (Below.refl _ _).drew
        rw [hV2]
        replace m1 := m1.below b6
        replace K := K.below b6
        clear c0 c1 c2 b6
        obtain ⟨c0, c1, c2, -⟩ := m1.open3
        obtain ⟨k1, k2⟩ := made_cell K.mw hAn
        obtain ⟨k3, -⟩ := made_cell K.mw hin
        simp only [hxa] at k1
        simp only [hal] at k3
        repeat still_step
        refine wpStill_nil ?_
        change wpList _ _ _ _ _ V1.drew
        rw [hV2]
        clear hV2
        replace K := K.putW A Z
        obtain ⟨W9, hW9⟩ : ∃ W, V2.setCell ⟨qw, A, none⟩ (.int .i64 Z) = W := ⟨_, rfl⟩
        rw [hW9] at K
        rw [hxa, hal, ← tmod_mp (by omega), hZ] at HB
        rw [← HB.out] at K
        clear k3 hDb rxa ral
        go_wp2
        exact ⟨⟨t + 1, by omega, by rw [HT.out], K⟩, by simp [intOf]; try omega⟩
      · have HB : Hid (bk n inp f (tv mp f x) (t + 1) = D) := by rw [← hD]; exact bk_con hi e1
        rw [e1] at d0
        rw [e2] at d2
        obtain ⟨b0, hb0⟩ : ∃ b : Int, b = 0 := ⟨_, rfl⟩
        rw [← hb0] at d2
        clear hb0
        obtain ⟨Zc, hZc⟩ : ∃ Z, f (i * 3 + 1) = Z := ⟨_, rfl⟩
        rw [hZc] at d1
        clear hZc
        obtain ⟨V1, hV1, m1, bb1, -⟩ := boxed wr 46 #[.int .i64 5, .int .i64 Zc, .int .i64 b0]
        obtain ⟨r1, hr1⟩ : ∃ r, wr.heap.size = r := ⟨_, rfl⟩
        have ho1 : qo < r1 := by rw [← hr1]; exact K.mo.lt
        have hw1 : qw < r1 := by rw [← hr1]; exact K.mw.lt
        rw [hr1] at m1
        replace K := K.below bb1
        obtain ⟨c0, c1, c2, -⟩ := m1.open3
        clear bb1
        rw [← HB.out] at K
        clear hDb m1
        go_wp2
        exact ⟨⟨t + 1, by omega, by rw [HT.out], K⟩, by simp [intOf]; try omega⟩
    · obtain rfl : t = n := by omega
      have hA : Arr wr w.heap.size wr.heap.size (.slice (some ⟨qo, 0, none⟩) inp inp) inp (bk t inp f (tv mp f x) t) := .inr ⟨qo, inp, rfl, K.h1, K.mo.lt, Nat.le_refl _, K.mo⟩
      have hneg : (t : Int) - 1 - (t : Int) = -1 := by omega
      rw [hneg]
      have B := K.b
      clear K
      go_wp2
      exact bodyPost_ret (v := .tuple #[.slice (some ⟨qo, 0, none⟩) inp inp, .bool true]) (by simp [results, Try.results18, go_sem]) rfl ⟨_, rfl, hA, B⟩
def SbN (w : World) (e : Ending) (w' : World) : Prop := ∃ v, e = .returned (.tuple #[v, .bool false]) ∧ (∀ F, Arr w' w.heap.size w'.heap.size v 0 F) ∧ Below w.heap.size w w'
set_option maxRecDepth 100000 in
theorem specBack_no {w : World} {g n cap inp c : Nat} {a : Option Addr} {f : Nat → Int} (h : Recs 3 w g n f) (hn : n ≤ 1048576) (hi : inp ≤ 1048576) (no : ¬ TpN n inp f) :
    Calls Try.prog 18 #[.slice (some ⟨g, 0, none⟩) n cap, .slice a inp c] w (SbN w) := by
  have hi' : (inp : Int) ≤ 1048576 := by omega
  have hn' : (n : Int) ≤ 1048576 := by omega
  have hbs : ∀ w, (Instr.buildSlice 23 0 #[]).run Try.prog w = .ok (.slice (some ⟨w.heap.size, 0, none⟩) 0 0) (w.alloc (.cells #[] 2)) := fun _ => by kernel_rfl
  have fin : ∀ w2, Below w.heap.size w w2 → SbN w (.returned (.tuple #[.slice (some ⟨w2.heap.size, 0, none⟩) 0 0, .bool false])) (w2.alloc (.cells #[] 2)) := fun w2 bb => ⟨_, rfl, fun F => arr_none rfl bb, bb.trans ((below_alloc w2 _).mono bb.size)⟩
  by_cases ok : TpOk n (inp : Int) f
  case neg =>
    have T := specTapeOk_any (cap := cap) (inp : Int) h hn false (show (false = true ↔ _) from ⟨fun h => by simp at h, fun h => absurd h ok⟩)
    clear no ok
    go_enter Try.func18, Try.ntmps18
    go_wp2_with (go_at_call 29; refine T.mono ?_; rintro e w2 ⟨rfl, bb⟩)
    exact bodyPost_ret (v := .tuple #[.slice (some ⟨w2.heap.size, 0, none⟩) 0 0, .bool false]) (by simp [results, Try.results18, go_sem]) rfl (fin w2 bb)
  have T := specTapeOk_any (cap := cap) (inp : Int) h hn true (show (true = true ↔ _) from ⟨fun _ => ok, fun _ => rfl⟩)
  obtain rfl : n = 0 := by
    by_cases h0 : n = 0
    · exact h0
    · exact absurd ⟨ok, by omega⟩ no
  clear no ok
  go_enter Try.func18, Try.ntmps18
  go_wp2_with (go_at_call 29; refine T.mono ?_; rintro e w2 ⟨rfl, bb⟩)
  exact bodyPost_ret (v := .tuple #[.slice (some ⟨w2.heap.size, 0, none⟩) 0 0, .bool false]) (by simp [results, Try.results18, go_sem]) rfl (fin w2 bb)
end Go.Proofs.Ytloailicdoknbaa
