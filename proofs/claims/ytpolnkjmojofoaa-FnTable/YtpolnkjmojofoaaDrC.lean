/-
  Operators drawn, walked.
-/
import Derived.Test.YtpolnkjmojofoaaDrB
import Derived.Test.YtpolnkjmojofoaaDrK
namespace Go.Proofs.Ytpolnkjmojofoaa
open Go.RowKit

theorem Made.put {w : World} {g n k : Nat} {f : Nat → Int} (h : Made w g n k f) {i : Nat} (hi : i < k) (hk : k ≤ n) (x : Int) : Made (w.setCell ⟨g, i, none⟩ (.int .i64 x)) g n k (fun j => if j = i then x else f j) := by
  obtain ⟨cur, h1, h2, h3⟩ := h
  refine ⟨_, h1.set i _, by simpa using h2, fun j hj => ?_⟩
  have l0 : i < cur.size := by omega
  by_cases e : j = i
  · subst e
    simp [l0]
  · rw [Array.getElem?_setIfInBounds, if_neg (by omega), h3 j hj]
    simp [e]
theorem Dr.set {w0 w : World} {p g i : Nat} {a : Option Addr} {len cap : Nat} (h : Dr w0 p a len cap w) (hg : w0.heap.size ≤ g) (hp : p < w0.heap.size) (v : Value) : Dr w0 p a len cap (w.setCell ⟨g, i, none⟩ v) := by
  have hs := h.1.size
  have hb : Below w0.heap.size w (w.setCell ⟨g, i, none⟩ v) := (Below.refl _ _).setCell (p := ⟨g, i, none⟩) hg v
  have hk : Kept p w0 (w.setCell ⟨g, i, none⟩ v) := ⟨hb.os.trans h.1.os, hb.tape.trans h.1.tape, hb.output.trans h.1.output, Nat.le_trans hs (by simp [World.setCell]), fun k hk hkp => (hb.block k hk).trans (h.1.block k hk hkp)⟩
  refine ⟨hk, ?_⟩
  obtain ⟨j, x, hj, hh, hr⟩ := h.2
  refine ⟨j, x, hj, (hb.block p hp).trans hh, hr.1, hr.2.imp id ?_⟩
  rintro ⟨b, off, e, hbp, hc⟩
  refine ⟨b, off, e, hbp, fun j hj => ?_⟩
  obtain ⟨n, n0, n1, hn⟩ := hc j hj
  exact ⟨n, n0, n1, (hb.cell (p := ⟨b, off + j, none⟩) (Nat.lt_trans hbp hp)).trans hn⟩
theorem At.kept {t : TypeId} {w w' : World} {p q : Nat} {vs : Array Value} (h : At t w q vs) (hk : Kept p w w') (hne : q ≠ p) : At t w' q vs := (hk.block q h.lt hne).trans h
theorem made_ints {w : World} {g c n : Nat} {f : Nat → Int} (h : Made w g c n f) : Ints w g 0 n f := by
  obtain ⟨cur, h1, h2, h3⟩ := h
  intro i hi
  have := h1.cell i (h3 i hi)
  simpa using this
theorem made_src {w : World} {g c n : Nat} {f : Nat → Int} (h : Made w g c n f) : Src w (some ⟨g, 0, none⟩) n f := .inr ⟨g, 0, rfl, h.lt, made_ints h⟩
/-- An operator of its own memory: where its lists lie. -/
def Pair (w : World) (lo g1 c1 g2 c2 : Nat) (f h : Nat → Int) : Prop :=
  (lo ≤ g1 ∧ lo ≤ g2 ∧ g1 ≠ g2 ∧ c1 = 9 ∧ c2 = 3) ∧ Made w g1 c1 9 f ∧ Made w g2 c2 3 h
theorem Pair.below {w w' : World} {lo g1 c1 g2 c2 : Nat} {f h : Nat → Int} (x : Pair w lo g1 c1 g2 c2 f h) (hb : Below w.heap.size w w') : Pair w' lo g1 c1 g2 c2 f h := ⟨x.1, x.2.1.below hb, x.2.2.below hb⟩
theorem Pair.kept {w w' : World} {p lo g1 c1 g2 c2 : Nat} {f h : Nat → Int} (x : Pair w lo g1 c1 g2 c2 f h) (hk : Kept p w w') (hp : p < lo) : Pair w' lo g1 c1 g2 c2 f h := by
  have := x.1
  exact ⟨x.1, x.2.1.kept hk (by omega), x.2.2.kept hk (by omega)⟩
theorem Pair.set {w : World} {q i lo g1 c1 g2 c2 : Nat} {f h : Nat → Int} (x : Pair w lo g1 c1 g2 c2 f h) (h1 : g1 ≠ q) (h2 : g2 ≠ q) (v : Value) : Pair (w.setCell ⟨q, i, none⟩ v) lo g1 c1 g2 c2 f h := ⟨x.1, x.2.1.setOther h1 v, x.2.2.setOther h2 v⟩
theorem pair_own {w : World} {lo hi lo' g1 g2 : Nat} {f h : Nat → Int} (ho : OpAt w lo hi (.agg #[.slice (some ⟨g1, 0, none⟩) 9 9, .slice (some ⟨g2, 0, none⟩) 3 3]) 9 f 3 h) (hl : lo' ≤ lo) : (lo ≤ g1 ∧ lo ≤ g2) ∧ Pair w lo' g1 9 g2 3 f h := by
  obtain ⟨v1, v2, e, m1, m2, ap⟩ := ho
  rcases m1 with ⟨-, h0⟩ | ⟨x1, c1, rfl, l1, u1, n1, M1⟩
  · simp at h0
  rcases m2 with ⟨-, h0⟩ | ⟨x2, c2, rfl, l2, u2, n2, M2⟩
  · simp at h0
  cases e
  exact ⟨⟨l1, l2⟩, ⟨by omega, by omega, fun e => ap _ rfl (by rw [e]; rfl), rfl, rfl⟩, M1, M2⟩
theorem tab8 {w : World} {q : Nat} {v0 v1 v2 v3 v4 v5 v6 v7 : Int} (h : At 2 w q #[.int .i64 v0, .int .i64 v1, .int .i64 v2, .int .i64 v3, .int .i64 v4, .int .i64 v5, .int .i64 v6, .int .i64 v7]) (z : Nat) (hz : z < 8) : ∃ y : Int, w.cell? ⟨q, z, none⟩ = some (.int .i64 y) := by
  rcases (by omega : z = 0 ∨ z = 1 ∨ z = 2 ∨ z = 3 ∨ z = 4 ∨ z = 5 ∨ z = 6 ∨ z = 7) with rfl | rfl | rfl | rfl | rfl | rfl | rfl | rfl
  · exact ⟨_, h.cell 0 rfl⟩
  · exact ⟨_, h.cell 1 rfl⟩
  · exact ⟨_, h.cell 2 rfl⟩
  · exact ⟨_, h.cell 3 rfl⟩
  · exact ⟨_, h.cell 4 rfl⟩
  · exact ⟨_, h.cell 5 rfl⟩
  · exact ⟨_, h.cell 6 rfl⟩
  · exact ⟨_, h.cell 7 rfl⟩
set_option maxRecDepth 100000 in
set_option maxHeartbeats 1600000 in
theorem draw_dr {w : World} {p : Nat} {a : Option Addr} {len cap : Nat} (hc : Cur w p a len cap) :
    Calls Try.prog 48 #[.pointer (some ⟨p, 0, none⟩)] w fun e w' => ∃ g1 c1 g2 c2 f h, e = .returned (.agg #[.slice (some ⟨g1, 0, none⟩) 9 c1, .slice (some ⟨g2, 0, none⟩) 3 c2]) ∧ Pair w' w.heap.size g1 c1 g2 c2 f h ∧ Dr w p a len cap w' := by
  have hlt := hc.lt
  obtain ⟨W1, hW1, a1, B, z1⟩ := boxed w 33 #[.slice none 0 0, .slice none 0 0]
  have hd : Dr w p a len cap W1 := (Dr.start hc).below B
  go_enter Try.func48, Try.ntmps48
  go_wp2_with fail
  refine (l3One_any W1).mono ?_
  rintro e w1 ⟨g1, g2, rfl, o1, b1⟩
  clear hW1
  have s1 := b1.size
  replace a1 := a1.below b1
  replace hd := hd.below b1
  clear b1 B hc
  obtain ⟨l1, P⟩ := pair_own o1 (lo' := w.heap.size) (by omega)
  clear o1
  obtain ⟨X4, hX4, w4, hY4, a4, b4, y0, y1, y2, y3⟩ := boxed2 w1 (.slice (some ⟨g1, 0, none⟩) 9 9) (.slice (some ⟨g2, 0, none⟩) 3 3)
  have s4 := b4.size
  have lt1 := P.2.1.lt
  have lt2 := P.2.2.lt
  replace a1 := a1.below b4
  replace hd := hd.below b4
  replace P := P.below b4
  clear b4
  have hR0 : Hid (isR oneF (fun _ => 0)) := by show isR _ _; decide
  go_wp2_with fail
  refine (below_dr (Dr.start hd.2) 4 (by omega) (by omega)).mono ?_
  rintro e w5 ⟨x, rfl, x0, xx, hd5⟩
  clear hX4 hY4 y0 y1 y2 y3
  obtain ⟨q, hq⟩ : ∃ q, w1.heap.size = q := ⟨_, rfl⟩
  rw [hq] at a4 ⊢
  obtain ⟨m, rfl⟩ := Int.eq_ofNat_of_zero_le x0
  replace a1 := a1.kept hd5.1 (by omega)
  replace a4 := a4.kept hd5.1 (by omega)
  replace P := P.kept hd5.1 hlt
  replace hd := hd5.from hd.1
  have s5 : w4.heap.size ≤ w5.heap.size := hd5.1.size
  clear hd5
  have hqb : w.heap.size < q := by omega
  have hb0 : q ≠ g1 ∧ q ≠ g2 ∧ w.heap.size ≠ g1 ∧ w.heap.size ≠ g2 := by omega
  clear hq s1 s4 s5 lt1 lt2 l1 z1
  go_wp2_with fail
  go_loopw [4] (fun s wr => ∃ (n g1 c1 g2 c2 : Nat) (f h : Nat → Int), n ≤ 3 ∧ s = .int .i64 n ∧ At 33 wr w.heap.size #[.slice none 0 0, .slice none 0 0] ∧ At 33 wr q #[.slice (some ⟨g1, 0, none⟩) 9 c1, .slice (some ⟨g2, 0, none⟩) 3 c2] ∧ (q ≠ g1 ∧ q ≠ g2 ∧ w.heap.size ≠ g1 ∧ w.heap.size ≠ g2) ∧ Pair wr w.heap.size g1 c1 g2 c2 f h ∧ Hid (isR f h) ∧ Dr w p a len cap wr) (fun s _ => (intOf s).toNat)
  case atStart => exact ⟨m, g1, 9, g2, 3, _, _, by omega, rfl, a1, a4, hb0, P, hR0, hd⟩
  case round =>
    clear a1 a4 P hd hb0 hR0
    obtain ⟨n, g1, c1, g2, c2, f, h, hn, rfl, a1, a4, hb0, P, hR, hd⟩ := hrel
    have hs0 : w.heap.size ≤ wr.heap.size := hd.1.size
    by_cases h0 : 0 < n
    · have h1 : (0 : Int) < n := by omega
      go_wp2_with fail
      refine (some_any wr).mono ?_
      rintro e w6 ⟨G, C, ys, rfl, own, rs, b6⟩
      replace a1 := a1.below b6
      replace a4 := a4.below b6
      replace P := P.below b6
      replace hd := hd.below b6
      have s6 := b6.size
      clear b6
      go_wp2_with fail
      refine (some_any w6).mono ?_
      rintro e w7 ⟨G', C', ys', rfl, -, -, b7⟩
      replace a1 := a1.below b7
      replace a4 := a4.below b7
      replace P := P.below b7
      replace hd := hd.below b7
      replace own := own_below own b7
      replace rs := rs.below b7
      have s7 := b7.size
      clear b7
      go_wp2_with fail
      refine (below_dr (Dr.start hd.2) 16 (by omega) (by omega)).mono ?_
      rintro e w8 ⟨z, rfl, z0, z1, hd8⟩
      have s8 : w7.heap.size ≤ w8.heap.size := hd8.1.size
      replace a1 := a1.kept hd8.1 (by omega)
      replace a4 := a4.kept hd8.1 (by omega)
      replace P := P.kept hd8.1 hlt
      replace own := ownsRow_kept own hd8.1 (by omega)
      replace rs := rs.kept hd8.1 (by omega)
      replace hd := hd8.from hd.1
      clear hd8
      obtain ⟨y, rfl⟩ := Int.eq_ofNat_of_zero_le z0
      have hy : y < 16 := by omega
      obtain ⟨v1, v2, e1, e2, G1, C1, G2, C2, F, H, L, rfl, rfl, -, -, m1, m2, hR'⟩ := rs.2 y hy
      have k0 := own_cell own (by omega) e1
      have k1 := own_cell own (by omega) e2
      clear rs own e1 e2
      have HR' : Hid (isR F H) := hR'
      clear hR'
      obtain ⟨X9, hX9, w9, hY9, a9, b9, y0, y1, y2, y3⟩ := boxed2 w8 (.slice (some ⟨G1, 0, none⟩) 9 C1) (.slice (some ⟨G2, 0, none⟩) 3 C2)
      have s9 := b9.size
      replace a1 := a1.below b9
      replace a4 := a4.below b9
      replace P := P.below b9
      replace hd := hd.below b9
      replace m1 := m1.below b9
      replace m2 := m2.below b9
      clear b9
      obtain ⟨d0, d1, f0, f1⟩ := a4.open2
      obtain ⟨d2, d3, f2, f3⟩ := a9.open2
      go_wp2_with fail
      refine (l3Mul_own c1 c2 C1 C2 (made_ints P.2.1) (made_ints P.2.2) (made_ints m1) (made_ints m2) P.2.1.lt P.2.2.lt m1.lt m2.lt hR.out HR'.out).mono ?_
      rintro e w10 ⟨F1, F3, rfl, oq, b10⟩
      clear d0 d1 d2 d3 f0 f1 f2 f3 hX9 hY9 y0 y1 y2 y3 m1 m2 HR' k0 k1
      have s10 := b10.size
      have lq := a4.lt
      replace a1 := a1.below b10
      replace a4 := a4.below b10
      replace P := P.below b10
      replace hd := hd.below b10
      clear b10 a9
      obtain ⟨lF, PF⟩ := pair_own oq (lo' := w.heap.size) (by omega)
      clear oq
      obtain ⟨M, hM⟩ : ∃ M, mulM f F = M := ⟨_, rfl⟩
      obtain ⟨T, hT⟩ : ∃ T, behV f h H = T := ⟨_, rfl⟩
      rw [hM, hT] at PF
      clear hM hT
      obtain ⟨X11, hX11, w11, hY11, a11, b11, y0, y1, y2, y3⟩ := boxed2 w10 (.slice (some ⟨F1, 0, none⟩) 9 9) (.slice (some ⟨F3, 0, none⟩) 3 3)
      have s11 := b11.size
      replace a1 := a1.below b11
      replace a4 := a4.below b11
      replace P := P.below b11
      replace PF := PF.below b11
      replace hd := hd.below b11
      clear b11
      obtain ⟨d2, d3, f2, f3⟩ := a11.open2
      go_wp2_with fail
      refine (specOk_any 9 3 (made_src PF.2.1) (made_src PF.2.2)).mono ?_
      rintro e w12 ⟨rfl, b12⟩
      clear d2 d3 f2 f3 hX11 hY11 y0 y1 y2 y3
      replace a1 := a1.below b12
      replace a4 := a4.below b12
      replace a11 := a11.below b12
      replace P := P.below b12
      replace PF := PF.below b12
      replace hd := hd.below b12
      clear b12
      have hn1 : ((n - 1 : Nat) : Int) = (n : Int) - 1 := by omega
      by_cases hop : isOp 9 M 3 T
      · simp only [decide_eq_true hop]
        have HO : Hid (isR M T) := hop.2.2
        clear hop hR
        obtain ⟨d0, d1, f0, f1⟩ := a4.open2
        obtain ⟨d2, d3, f2, f3⟩ := a11.open2
        go_wp2
        exact ⟨⟨n - 1, F1, 9, F3, 3, M, T, by omega, by rw [hn1], (a1.setOther (by omega) _).setOther (by omega) _, by simpa using (a4.set 0 (.slice (some ⟨F1, 0, none⟩) 9 9)).set 1 (.slice (some ⟨F3, 0, none⟩) 3 3), by omega, (PF.set (by omega) (by omega) _).set (by omega) (by omega) _, HO, (hd.set (by omega) hlt _).set (by omega) hlt _⟩, by simp [intOf]; omega⟩
      · simp only [decide_eq_false hop]
        clear hop
        go_wp2
        exact ⟨⟨n - 1, g1, c1, g2, c2, f, h, by omega, by rw [hn1], a1, a4, hb0, P, hR, hd⟩, by simp [intOf]; omega⟩
    · have h1 : ¬ (0 : Int) < n := by omega
      clear hR
      go_wp2_with fail
      refine (once_dr (Dr.start hd.2) 3 (by omega) (by omega)).mono ?_
      rintro e w6 ⟨bo, rfl, hd6⟩
      replace a1 := a1.kept hd6.1 (by omega)
      replace a4 := a4.kept hd6.1 (by omega)
      replace P := P.kept hd6.1 hlt
      replace hd := hd6.from hd.1
      clear hd6
      cases bo
      · obtain ⟨d0, d1, f0, f1⟩ := a1.open2
        obtain ⟨d2, d3, f2, f3⟩ := a4.open2
        go_wp2
        have a8 := nil2_at a1 (.slice (some ⟨g1, 0, none⟩) 9 c1) (.slice (some ⟨g2, 0, none⟩) 3 c2)
        obtain ⟨p0, p1, -⟩ := a8.open2
        have P8 := (P.set (q := w.heap.size) (i := 0) (by omega) (by omega) (.slice (some ⟨g1, 0, none⟩) 9 c1)).set (q := w.heap.size) (i := 1) (by omega) (by omega) (.slice (some ⟨g2, 0, none⟩) 3 c2)
        have D8 := (hd.set (g := w.heap.size) (i := 0) (by omega) hlt (.slice (some ⟨g1, 0, none⟩) 9 c1)).set (g := w.heap.size) (i := 1) (by omega) hlt (.slice (some ⟨g2, 0, none⟩) 3 c2)
        exact bodyPost_ret (v := .agg #[.slice (some ⟨g1, 0, none⟩) 9 c1, .slice (some ⟨g2, 0, none⟩) 3 c2]) (by simp [results, Try.results48, go_sem, p0, p1]) rfl ⟨g1, c1, g2, c2, f, h, rfl, P8, D8⟩
      · go_wp2_with fail
        have P0 : ∃ h, Pair w6 w.heap.size g1 c1 g2 c2 f h := ⟨_, P⟩
        clear P
        go_loopw [7] (fun s wr => ∃ (k : Nat), k ≤ 3 ∧ s = .int .i64 k ∧ At 33 wr w.heap.size #[.slice none 0 0, .slice none 0 0] ∧ At 33 wr q #[.slice (some ⟨g1, 0, none⟩) 9 c1, .slice (some ⟨g2, 0, none⟩) 3 c2] ∧ (∃ h, Pair wr w.heap.size g1 c1 g2 c2 f h) ∧ Dr w p a len cap wr) (fun s _ => 3 - (intOf s).toNat)
        case atStart => exact ⟨0, Nat.zero_le _, rfl, a1, a4, P0, hd⟩
        case round =>
          clear a1 a4 P0 hd
          obtain ⟨k, hk, rfl, a1, a4, ⟨h, P⟩, hd⟩ := hrel
          have hs1 : w.heap.size ≤ wr.heap.size := hd.1.size
          by_cases hk3 : k < 3
          · have hk4 : (k : Int) < 3 := by omega
            have hb4 := hb0
            go_wp2_with fail
            obtain ⟨u0, hu0, A1, A4, PP, HD, zu0⟩ : ∃ u0, wr.drew = u0 ∧ At 33 u0 w.heap.size #[.slice none 0 0, .slice none 0 0] ∧ At 33 u0 q #[.slice (some ⟨g1, 0, none⟩) 9 c1, .slice (some ⟨g2, 0, none⟩) 3 c2] ∧ Pair u0 w.heap.size g1 c1 g2 c2 f h ∧ Dr w p a len cap u0 ∧ wr.heap.size ≤ u0.heap.size := ⟨_, rfl, a1, a4, P.below (Below.refl _ _).drew, hd.below (Below.refl _ _).drew, Nat.le_refl _⟩
            clear a1 a4 P hd
            refine wp_region_held_drew (S := One2 q (.slice (some ⟨g1, 0, none⟩) 9 c1) (.slice (some ⟨g2, 0, none⟩) 3 c2)) (by kernel_rfl) (by rw [hu0]; exact one2_mk A4) (fun hHeld => ?_)
            rw [hu0] at hHeld ⊢
            clear hu0
            change wpAnyH _ _ _ _ _ 12 #[false, false, false, false, false, false, false, false, false, false, false, false] _ _
            refine wpAnyH_take (i := 0) (v := .pointer (some ⟨q, 1, none⟩)) rfl (by kernel_rfl) (by kernel_rfl) (by kernel_rfl) (fun _ _ _ h => h) (Or.inl ⟨by kernel_rfl, ?_⟩) hHeld ?_
            · intro w' hSw; go_simp
            try simp only [Act.put, List.setIfInBounds_toArray, List.set_cons_zero]
            refine wpAnyH_take (i := 1) (v := .slice (some ⟨g2, 0, none⟩) 3 c2) rfl (by kernel_rfl) (by kernel_rfl) (by kernel_rfl) (fun _ _ _ h => h) (Or.inl ⟨by kernel_rfl, ?_⟩) hHeld ?_
            · intro w' hSw; obtain ⟨z0, z1⟩ := hSw; go_simp
            try simp only [Act.put, List.setIfInBounds_toArray, List.set_cons_zero, List.set_cons_succ]
            refine wpAnyH_take (i := 2) (v := .int .i64 (k : Int)) rfl (by kernel_rfl) (by kernel_rfl) (by kernel_rfl) (fun _ _ _ h => h) (Or.inl ⟨by kernel_rfl, ?_⟩) hHeld ?_
            · intro w' hSw; go_simp
            try simp only [Act.put, List.setIfInBounds_toArray, List.set_cons_zero, List.set_cons_succ]
            refine wpAnyH_take (i := 3) (v := .pointer (some ⟨p, 0, none⟩)) rfl (by kernel_rfl) (by kernel_rfl) (by kernel_rfl) (fun _ _ _ h => h) (Or.inl ⟨by kernel_rfl, ?_⟩) hHeld ?_
            · intro w' hSw; go_simp
            try simp only [Act.put, List.setIfInBounds_toArray, List.set_cons_zero, List.set_cons_succ]
            refine wpAnyH_take (i := 6) (v := .pointer (some ⟨p, 0, none⟩)) rfl (by kernel_rfl) (by kernel_rfl) (by kernel_rfl) (fun _ _ _ h => h) (Or.inl ⟨by kernel_rfl, ?_⟩) hHeld ?_
            · intro w' hSw; go_simp
            try simp only [Act.put, List.setIfInBounds_toArray, List.set_cons_zero, List.set_cons_succ]
            refine wpAnyH_ready (rs := [4]) (by kernel_rfl) (by simp) ?_
            refine AllReadyH.cons rfl (fun KK hK' => ?_) AllReadyH.nil
            go_simp
            refine (below_dr (Dr.start HD.2) 24 (by omega) (by omega)).mono ?_
            rintro e u1 ⟨z, rfl, z0, z1, hdn⟩
            replace A1 := A1.kept hdn.1 (by omega)
            replace A4 := A4.kept hdn.1 (by omega)
            replace PP := PP.kept hdn.1 hlt
            have zu1 : u0.heap.size ≤ u1.heap.size := hdn.1.size
            replace HD := hdn.from HD.1
            clear hdn
            try go_wp2_with fail
            clear hHeld
            refine hK'.out _ _ (one2_mk A4) (fun hHeld => ?_)
            clear hK' KK
            try simp only [List.setIfInBounds_toArray, List.set_cons_zero, List.set_cons_succ]
            refine wpAnyH_ready (rs := [5, 7]) (by kernel_rfl) (by simp) ?_
            refine AllReadyH.cons rfl (fun KK hK' => ?_) ?_
            · obtain ⟨u2, hb, tb, bb, -⟩ := boxed u1 2 #[.int .i64 0, .int .i64 12, .int .i64 6, .int .i64 8, .int .i64 0, .int .i64 18, .int .i64 16, .int .i64 z]
              go_simp
              try rw [hb]
              clear hb
              replace A1 := A1.below bb
              replace A4 := A4.below bb
              replace PP := PP.below bb
              replace HD := HD.below bb
              have zu2 := bb.size
              clear bb
              obtain ⟨t, ht⟩ : ∃ t, u1.heap.size = t := ⟨_, rfl⟩
              have tt : w.heap.size ≤ t := by omega
              rw [ht] at tb
              try rw [ht]
              clear ht
              clear hHeld
              refine hK'.out _ _ (one2_mk A4) (fun hHeld => ?_)
              clear hK' KK
              try simp only [List.setIfInBounds_toArray, List.set_cons_zero, List.set_cons_succ]
              refine wpAnyH_ready (rs := [7]) (by kernel_rfl) (by simp) ?_
              refine AllReadyH.cons rfl (fun KK hK' => ?_) AllReadyH.nil
              go_simp
              refine (below_dr (Dr.start HD.2) 8 (by omega) (by omega)).mono ?_
              rintro e u3 ⟨y, rfl, y0, y1, hdn⟩
              replace A1 := A1.kept hdn.1 (by omega)
              replace A4 := A4.kept hdn.1 (by omega)
              replace PP := PP.kept hdn.1 hlt
              have ltt := tb.lt
              replace tb := tb.kept hdn.1 (by omega)
              have zu3 : u2.heap.size ≤ u3.heap.size := hdn.1.size
              replace HD := hdn.from HD.1
              clear hdn
              try go_wp2_with fail
              clear hHeld
              refine hK'.out _ _ (one2_mk A4) (fun hHeld => ?_)
              clear hK' KK
              try simp only [List.setIfInBounds_toArray, List.set_cons_zero, List.set_cons_succ]
              obtain ⟨y', rfl⟩ := Int.eq_ofNat_of_zero_le y0
              have hy8 : (y' : Int) < 8 := by omega
              obtain ⟨v, hv⟩ := tab8 tb y' (by omega)
              refine wpAnyH_take (i := 8) (v := .pointer (some ⟨t, y', none⟩)) rfl (by kernel_rfl) (by kernel_rfl) (by kernel_rfl) (fun _ _ _ h => h) (Or.inl ⟨by kernel_rfl, ?_⟩) hHeld ?_
              · intro w' hSw; go_simp
              try simp only [Act.put, List.setIfInBounds_toArray, List.set_cons_zero, List.set_cons_succ]
              refine wpAnyH_ready (rs := [9]) (by kernel_rfl) (by simp) ?_
              refine AllReadyH.cons rfl (fun KK hK' => ?_) AllReadyH.nil
              go_simp
              clear hHeld
              refine hK'.out _ _ (one2_mk A4) (fun hHeld => ?_)
              clear hK' KK
              try simp only [List.setIfInBounds_toArray, List.set_cons_zero, List.set_cons_succ]
              refine wpAnyH_take (i := 10) (v := .pointer (some ⟨g2, k, none⟩)) rfl (by kernel_rfl) (by kernel_rfl) (by kernel_rfl) (fun _ _ _ h => h) (Or.inl ⟨by kernel_rfl, ?_⟩) hHeld ?_
              · intro w' hSw; go_simp
              try simp only [Act.put, List.setIfInBounds_toArray, List.set_cons_zero, List.set_cons_succ]
              refine wpAnyH_ready (rs := [11]) (by kernel_rfl) (by simp) ?_
              refine AllReadyH.cons rfl (fun KK hK' => ?_) AllReadyH.nil
              obtain ⟨⟨l1, l2, ne12, n1, n2⟩, M1, M2⟩ := PP
              have hcell : u3.cell? ⟨g2, k, none⟩ = some (.int .i64 (h k)) ∧ u3.frozen? ⟨g2, k, none⟩ = false := by
                obtain ⟨cur, q1, q2, q3⟩ := M2
                exact ⟨q1.cell k (q3 k hk3), q1.frozen k⟩
              obtain ⟨e1, e2⟩ := hcell
              go_simp
              clear e1 e2 hv
              replace A1 := A1.setOther (p := g2) (i := k) (by omega) (.int .i64 v)
              replace A4 := A4.setOther (p := g2) (i := k) (by omega) (.int .i64 v)
              replace M1 := M1.setOther (q := g2) (i := k) (by omega) (.int .i64 v)
              replace M2 := M2.put hk3 (by omega) v
              replace HD := HD.set (g := g2) (i := k) l2 hlt (.int .i64 v)
              clear hHeld
              refine hK'.out _ _ (one2_mk A4) (fun hHeld => ?_)
              clear hK' KK
              try simp only [List.setIfInBounds_toArray, List.set_cons_zero, List.set_cons_succ]
              clear hHeld
              refine wpAnyH_done (by kernel_rfl) ?_ _
              go_wp2
              exact ⟨⟨k + 1, by omega, by go_num, A1, A4, ⟨_, ⟨l1, l2, ne12, n1, n2⟩, M1, M2⟩, HD⟩, by simp [intOf]; omega⟩
            refine AllReadyH.cons rfl (fun KK hK' => ?_) AllReadyH.nil
            go_simp
            refine (below_dr (Dr.start HD.2) 8 (by omega) (by omega)).mono ?_
            rintro e u2 ⟨y, rfl, y0, y1, hdn⟩
            replace A1 := A1.kept hdn.1 (by omega)
            replace A4 := A4.kept hdn.1 (by omega)
            replace PP := PP.kept hdn.1 hlt
            have zu2 : u1.heap.size ≤ u2.heap.size := hdn.1.size
            replace HD := hdn.from HD.1
            clear hdn
            try go_wp2_with fail
            clear hHeld
            refine hK'.out _ _ (one2_mk A4) (fun hHeld => ?_)
            clear hK' KK
            try simp only [List.setIfInBounds_toArray, List.set_cons_zero, List.set_cons_succ]
            refine wpAnyH_ready (rs := [5]) (by kernel_rfl) (by simp) ?_
            refine AllReadyH.cons rfl (fun KK hK' => ?_) AllReadyH.nil
            obtain ⟨u3, hb, tb, bb, -⟩ := boxed u2 2 #[.int .i64 0, .int .i64 12, .int .i64 6, .int .i64 8, .int .i64 0, .int .i64 18, .int .i64 16, .int .i64 z]
            go_simp
            try rw [hb]
            clear hb
            replace A1 := A1.below bb
            replace A4 := A4.below bb
            replace PP := PP.below bb
            replace HD := HD.below bb
            have zu3 := bb.size
            clear bb
            obtain ⟨t, ht⟩ : ∃ t, u2.heap.size = t := ⟨_, rfl⟩
            have tt : w.heap.size ≤ t := by omega
            rw [ht] at tb
            try rw [ht]
            clear ht
            clear hHeld
            refine hK'.out _ _ (one2_mk A4) (fun hHeld => ?_)
            clear hK' KK
            try simp only [List.setIfInBounds_toArray, List.set_cons_zero, List.set_cons_succ]
            obtain ⟨y', rfl⟩ := Int.eq_ofNat_of_zero_le y0
            have hy8 : (y' : Int) < 8 := by omega
            obtain ⟨v, hv⟩ := tab8 tb y' (by omega)
            refine wpAnyH_take (i := 8) (v := .pointer (some ⟨t, y', none⟩)) rfl (by kernel_rfl) (by kernel_rfl) (by kernel_rfl) (fun _ _ _ h => h) (Or.inl ⟨by kernel_rfl, ?_⟩) hHeld ?_
            · intro w' hSw; go_simp
            try simp only [Act.put, List.setIfInBounds_toArray, List.set_cons_zero, List.set_cons_succ]
            refine wpAnyH_ready (rs := [9]) (by kernel_rfl) (by simp) ?_
            refine AllReadyH.cons rfl (fun KK hK' => ?_) AllReadyH.nil
            go_simp
            clear hHeld
            refine hK'.out _ _ (one2_mk A4) (fun hHeld => ?_)
            clear hK' KK
            try simp only [List.setIfInBounds_toArray, List.set_cons_zero, List.set_cons_succ]
            refine wpAnyH_take (i := 10) (v := .pointer (some ⟨g2, k, none⟩)) rfl (by kernel_rfl) (by kernel_rfl) (by kernel_rfl) (fun _ _ _ h => h) (Or.inl ⟨by kernel_rfl, ?_⟩) hHeld ?_
            · intro w' hSw; go_simp
            try simp only [Act.put, List.setIfInBounds_toArray, List.set_cons_zero, List.set_cons_succ]
            refine wpAnyH_ready (rs := [11]) (by kernel_rfl) (by simp) ?_
            refine AllReadyH.cons rfl (fun KK hK' => ?_) AllReadyH.nil
            obtain ⟨⟨l1, l2, ne12, n1, n2⟩, M1, M2⟩ := PP
            have hcell : u3.cell? ⟨g2, k, none⟩ = some (.int .i64 (h k)) ∧ u3.frozen? ⟨g2, k, none⟩ = false := by
              obtain ⟨cur, q1, q2, q3⟩ := M2
              exact ⟨q1.cell k (q3 k hk3), q1.frozen k⟩
            obtain ⟨e1, e2⟩ := hcell
            go_simp
            clear e1 e2 hv
            replace A1 := A1.setOther (p := g2) (i := k) (by omega) (.int .i64 v)
            replace A4 := A4.setOther (p := g2) (i := k) (by omega) (.int .i64 v)
            replace M1 := M1.setOther (q := g2) (i := k) (by omega) (.int .i64 v)
            replace M2 := M2.put hk3 (by omega) v
            replace HD := HD.set (g := g2) (i := k) l2 hlt (.int .i64 v)
            clear hHeld
            refine hK'.out _ _ (one2_mk A4) (fun hHeld => ?_)
            clear hK' KK
            try simp only [List.setIfInBounds_toArray, List.set_cons_zero, List.set_cons_succ]
            clear hHeld
            refine wpAnyH_done (by kernel_rfl) ?_ _
            go_wp2
            exact ⟨⟨k + 1, by omega, by go_num, A1, A4, ⟨_, ⟨l1, l2, ne12, n1, n2⟩, M1, M2⟩, HD⟩, by simp [intOf]; omega⟩
          · have hk4 : ¬ (k : Int) < 3 := by omega
            obtain ⟨d0, d1, f0, f1⟩ := a1.open2
            obtain ⟨d2, d3, f2, f3⟩ := a4.open2
            go_wp2
            have a8 := nil2_at a1 (.slice (some ⟨g1, 0, none⟩) 9 c1) (.slice (some ⟨g2, 0, none⟩) 3 c2)
            obtain ⟨p0, p1, -⟩ := a8.open2
            have P8 := (P.set (q := w.heap.size) (i := 0) (by omega) (by omega) (.slice (some ⟨g1, 0, none⟩) 9 c1)).set (q := w.heap.size) (i := 1) (by omega) (by omega) (.slice (some ⟨g2, 0, none⟩) 3 c2)
            have D8 := (hd.set (g := w.heap.size) (i := 0) (by omega) hlt (.slice (some ⟨g1, 0, none⟩) 9 c1)).set (g := w.heap.size) (i := 1) (by omega) hlt (.slice (some ⟨g2, 0, none⟩) 3 c2)
            exact bodyPost_ret (v := .agg #[.slice (some ⟨g1, 0, none⟩) 9 c1, .slice (some ⟨g2, 0, none⟩) 3 c2]) (by simp [results, Try.results48, go_sem, p0, p1]) rfl ⟨g1, c1, g2, c2, rfl, ⟨f, h, P8⟩, D8⟩
end Go.Proofs.Ytpolnkjmojofoaa
