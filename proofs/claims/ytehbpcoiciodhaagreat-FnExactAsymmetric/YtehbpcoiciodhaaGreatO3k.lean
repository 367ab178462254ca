/-
  Asymmetric, by the program and by the specification: walked.
-/
import Derived.Test.YtehbpcoiciodhaaGreatO3h
import Derived.Test.YtehbpcoiciodhaaGreatQPoint
import Derived.Test.YtehbpcoiciodhaaGreatMT
namespace Go.Proofs.YtehbpcoiciodhaaGreat
open Go.RowKit Go.Lib

/-- What both tell. -/
def AsyR (w : World) (n : Nat) (A : Nat → OpD) (x y z : Int) (e : Ending) (w' : World) : Prop :=
  (∃ q0 q1 q2 b, e = .returned (.tuple #[pV q0 q1 q2, .bool b]) ∧ (((isG n A ∧ inP x y z) ∧ b = true ∧ ∃ m F, OrbI (orbP A x y z) n m F ∧ 0 < m ∧ (q0, q1, q2) = F 0) ∨ (¬ (isG n A ∧ inP x y z) ∧ b = false ∧ q0 = 0 ∧ q1 = 0 ∧ q2 = 0))) ∧ Below w.heap.size w w'
theorem orb_pos {P F : Nat → T3} {n m : Nat} (h : OrbI P n m F) (hn : 0 < n) : 0 < m := by
  obtain ⟨t, ht, -⟩ := h.has 0 hn
  omega
theorem isG_pos {n : Nat} {A : Nat → OpD} (h : isG n A) : 0 < n := by
  obtain ⟨i, hi, -⟩ := h.2.2.2.1
  omega
set_option maxRecDepth 100000 in
set_option maxHeartbeats 3000000 in
theorem specAsy_any {w : World} {g n c : Nat} {A : Nat → OpD} (x y z : Int) (hL : OpsL w g n A) (hn : n ≤ 1048576) :
    Calls Tryz.prog 17 #[.slice (some ⟨g, 0, none⟩) n c, pV x y z] w (AsyR w n A x y z) := by
  obtain ⟨W1, hW1, W2, hW2, A1, R1, B1⟩ : ∃ W1, w.alloc (.cells #[.int .i64 x, .int .i64 y, .int .i64 z] 30) = W1 ∧ ∃ W2, W1.alloc (.cells #[.int .i64 0, .int .i64 0, .int .i64 0] 30) = W2 ∧ At 30 W2 w.heap.size #[.int .i64 x, .int .i64 y, .int .i64 z] ∧ At 30 W2 (w.heap.size + 1) #[.int .i64 0, .int .i64 0, .int .i64 0] ∧ Below w.heap.size w W2 := by
    obtain ⟨W, hW, b0, b1, bW, -⟩ := bx2 w 30 30 #[.int .i64 x, .int .i64 y, .int .i64 z] #[.int .i64 0, .int .i64 0, .int .i64 0]
    exact ⟨_, rfl, W, hW, b0, b1, bW⟩
  obtain ⟨q1, hq1⟩ : ∃ q, w.heap.size = q := ⟨_, rfl⟩
  obtain ⟨q2, hq2⟩ : ∃ q, q1 + 1 = q := ⟨_, rfl⟩
  have hz1 : W1.heap.size = q2 := by rw [← hW1, ← hq2, ← hq1]; simp
  rw [hq1] at A1 R1
  rw [hq2] at R1
  have hlo : w.heap.size ≤ q2 := by omega
  have HL := hid_of (hL.below B1)
  clear hL
  unfold pV
  go_enter Tryz.func17, Tryz.ntmps17
  go_wp2_with fail
  refine (groupOk_any HL.out hn).mono ?_
  rintro e w2 ⟨⟨r, rfl, hr⟩, b2⟩
  have HL2 := hid_of (HL.out.below b2)
  have A2 := A1.below b2
  have R2 := R1.below b2
  have HB := hid_of (B1.trans (b2.mono B1.size))
  have HR := hid_of hr
  clear HL A1 R1 B1 b2 hr hW1 hW2 hq1 hq2 hz1
  cases r
  · have HNO : Hid (¬ (isG n A ∧ inP x y z)) := fun h => absurd (HR.out.2 h.1) (by decide)
    have a7 := put3c_at R2 (.int .i64 0) (.int .i64 0) (.int .i64 0)
    obtain ⟨y0, y1, y2, t0, t1, t2⟩ := R2.open3
    have HB3 := hid_of (((HB.out.setCell (p := ⟨q2, 0, none⟩) hlo (.int .i64 0)).setCell (p := ⟨q2, 1, none⟩) hlo (.int .i64 0)).setCell (p := ⟨q2, 2, none⟩) hlo (.int .i64 0))
    clear HR HL2 HB A2 R2
    go_wp2
    obtain ⟨p0, p1, p2, -⟩ := a7.open3
    refine bodyPost_ret (v := .tuple #[pV 0 0 0, .bool false]) (by simp [results, Tryz.results17, go_sem, p0, p1, p2, pV]) rfl ⟨⟨0, 0, 0, false, rfl, .inr ⟨HNO.out, rfl, rfl, rfl, rfl⟩⟩, HB3.out⟩
  have HG := hid_of (HR.out.1 rfl)
  obtain ⟨d0, d1, d2, -⟩ := A2.open3
  clear HR
  go_wp2_with fail
  refine (l5Point_any x y z _).mono ?_
  rintro e w3 ⟨rfl, b3⟩
  have HL3 := hid_of (HL2.out.below b3)
  have A3 := A2.below b3
  have R3 := R2.below b3
  have HB3 := hid_of (HB.out.trans (b3.mono HB.out.size))
  clear HL2 A2 R2 HB b3 d0 d1 d2
  by_cases hp : inP x y z
  rotate_left
  · rw [decide_eq_false hp]
    have HNO : Hid (¬ (isG n A ∧ inP x y z)) := fun h => hp h.2
    have a7 := put3c_at R3 (.int .i64 0) (.int .i64 0) (.int .i64 0)
    obtain ⟨y0, y1, y2, t0, t1, t2⟩ := R3.open3
    have HB4 := hid_of (((HB3.out.setCell (p := ⟨q2, 0, none⟩) hlo (.int .i64 0)).setCell (p := ⟨q2, 1, none⟩) hlo (.int .i64 0)).setCell (p := ⟨q2, 2, none⟩) hlo (.int .i64 0))
    clear HL3 HB3 A3 R3 hp
    go_wp2
    obtain ⟨p0, p1, p2, -⟩ := a7.open3
    refine bodyPost_ret (v := .tuple #[pV 0 0 0, .bool false]) (by simp [results, Tryz.results17, go_sem, p0, p1, p2, pV]) rfl ⟨⟨0, 0, 0, false, rfl, .inr ⟨HNO.out, rfl, rfl, rfl, rfl⟩⟩, HB4.out⟩
  rw [decide_eq_true hp]
  have HP := hid_of hp
  clear hp
  obtain ⟨d0, d1, d2, -⟩ := A3.open3
  have CO := l5Orbit_any (c := c) HL3.out HG.out.1 HG.out.2.1 HP.out
  unfold pV at CO
  go_wp2_with fail
  refine CO.mono ?_
  rintro e w4 ⟨⟨v, m, F, rfl, G4, HI⟩, b4⟩
  have HB4 := hid_of (HB3.out.trans (b4.mono HB3.out.size))
  have hm := orb_pos HI (isG_pos HG.out)
  have hm' : (0 : Int) < (m : Int) := by omega
  have HI5 := hid_of HI
  have R4 := R3.below b4
  obtain ⟨g4, c4, cu4, rfl, hl4, a4, -, -, -, hH4⟩ := G4.open
  obtain ⟨f0, f1, f2, hF⟩ : ∃ f0 f1 f2, F 0 = (f0, f1, f2) := ⟨_, _, _, rfl⟩
  have CE := h3_cells a4 (hH4 0 hm)
  rw [hF] at CE
  obtain ⟨x0, x1, x2⟩ := CE
  rw [Nat.zero_mul] at x0 x1 x2
  rw [Nat.zero_add] at x1 x2
  have HF := hid_of hF
  have a7 := put3c_at R4 (.int .i64 f0) (.int .i64 f1) (.int .i64 f2)
  obtain ⟨y0, y1, y2, t0, t1, t2⟩ := R4.open3
  have HB5 := hid_of (((HB4.out.setCell (p := ⟨q2, 0, none⟩) hlo (.int .i64 f0)).setCell (p := ⟨q2, 1, none⟩) hlo (.int .i64 f1)).setCell (p := ⟨q2, 2, none⟩) hlo (.int .i64 f2))
  clear CO b4 G4 HI HL3 HB3 A3 R3 R4 HB4 d0 d1 d2 hF hH4 a4 hm
  go_wp2
  obtain ⟨p0, p1, p2, -⟩ := a7.open3
  refine bodyPost_ret (v := .tuple #[pV f0 f1 f2, .bool true]) (by simp [results, Tryz.results17, go_sem, p0, p1, p2, pV]) rfl ⟨⟨f0, f1, f2, true, rfl, .inl ⟨⟨HG.out, HP.out⟩, rfl, m, F, HI5.out, by omega, HF.out.symm⟩⟩, HB5.out⟩
set_option maxRecDepth 100000 in
set_option maxHeartbeats 3000000 in
theorem implAsy_any {w : World} {g n c : Nat} {A : Nat → OpD} (x y z : Int) (hL : OpsL w g n A) (hn : n ≤ 1048576) :
    Calls Tryz.prog 18 #[.slice (some ⟨g, 0, none⟩) n c, pV x y z] w (AsyR w n A x y z) := by
  obtain ⟨W1, hW1, W2, hW2, A1, R1, B1⟩ : ∃ W1, w.alloc (.cells #[.int .i64 x, .int .i64 y, .int .i64 z] 30) = W1 ∧ ∃ W2, W1.alloc (.cells #[.int .i64 0, .int .i64 0, .int .i64 0] 30) = W2 ∧ At 30 W2 w.heap.size #[.int .i64 x, .int .i64 y, .int .i64 z] ∧ At 30 W2 (w.heap.size + 1) #[.int .i64 0, .int .i64 0, .int .i64 0] ∧ Below w.heap.size w W2 := by
    obtain ⟨W, hW, b0, b1, bW, -⟩ := bx2 w 30 30 #[.int .i64 x, .int .i64 y, .int .i64 z] #[.int .i64 0, .int .i64 0, .int .i64 0]
    exact ⟨_, rfl, W, hW, b0, b1, bW⟩
  obtain ⟨q1, hq1⟩ : ∃ q, w.heap.size = q := ⟨_, rfl⟩
  obtain ⟨q2, hq2⟩ : ∃ q, q1 + 1 = q := ⟨_, rfl⟩
  have hz1 : W1.heap.size = q2 := by rw [← hW1, ← hq2, ← hq1]; simp
  rw [hq1] at A1 R1
  rw [hq2] at R1
  have hlo : w.heap.size ≤ q2 := by omega
  have HL := hid_of (hL.below B1)
  obtain ⟨d0, d1, d2, -⟩ := A1.open3
  have CO := implOrbit_any (c := c) x y z HL.out hn
  clear hL
  unfold pV at CO ⊢
  go_enter Tryz.func18, Tryz.ntmps18
  go_wp2_with fail
  refine CO.mono ?_
  rintro e w4 ⟨⟨v, m, F, rfl, G4, HI⟩, b4⟩
  have HB4 := hid_of (B1.trans (b4.mono B1.size))
  have R4 := R1.below b4
  obtain ⟨g4, c4, cu4, rfl, hl4, a4, -, -, -, hH4⟩ := G4.open
  have HH := hid_of HI
  clear HL A1 R1 B1 b4 CO hW1 hW2 hq1 hq2 hz1 d0 d1 d2 HI G4
  rcases Nat.eq_zero_or_pos m with h0 | hm
  · subst h0
    have HNO : Hid (¬ (isG n A ∧ inP x y z)) := fun h => by
      rcases HH.out with ⟨-, hI⟩ | ⟨h', -⟩
      · have := orb_pos hI (isG_pos h.1); omega
      · exact h' h
    have a7 := put3c_at R4 (.int .i64 0) (.int .i64 0) (.int .i64 0)
    obtain ⟨y0, y1, y2, t0, t1, t2⟩ := R4.open3
    have HB5 := hid_of (((HB4.out.setCell (p := ⟨q2, 0, none⟩) hlo (.int .i64 0)).setCell (p := ⟨q2, 1, none⟩) hlo (.int .i64 0)).setCell (p := ⟨q2, 2, none⟩) hlo (.int .i64 0))
    clear HH HB4 R4 hH4 a4
    go_wp2
    obtain ⟨p0, p1, p2, -⟩ := a7.open3
    refine bodyPost_ret (v := .tuple #[pV 0 0 0, .bool false]) (by simp [results, Tryz.results18, go_sem, p0, p1, p2, pV]) rfl ⟨⟨0, 0, 0, false, rfl, .inr ⟨HNO.out, rfl, rfl, rfl, rfl⟩⟩, HB5.out⟩
  have hm' : (0 : Int) < (m : Int) := by omega
  have hme : ((m : Int) == 0) = false := by
    have : ¬ (m : Int) = 0 := by omega
    simpa using this
  obtain ⟨f0, f1, f2, hF⟩ : ∃ f0 f1 f2, F 0 = (f0, f1, f2) := ⟨_, _, _, rfl⟩
  have CE := h3_cells a4 (hH4 0 hm)
  rw [hF] at CE
  obtain ⟨x0, x1, x2⟩ := CE
  rw [Nat.zero_mul] at x0 x1 x2
  rw [Nat.zero_add] at x1 x2
  have HF := hid_of hF
  have HY : Hid ((isG n A ∧ inP x y z) ∧ OrbI (orbP A x y z) n m F) := by
    rcases HH.out with h | ⟨-, h⟩
    · exact h
    · omega
  have a7 := put3c_at R4 (.int .i64 f0) (.int .i64 f1) (.int .i64 f2)
  obtain ⟨y0, y1, y2, t0, t1, t2⟩ := R4.open3
  have HB5 := hid_of (((HB4.out.setCell (p := ⟨q2, 0, none⟩) hlo (.int .i64 f0)).setCell (p := ⟨q2, 1, none⟩) hlo (.int .i64 f1)).setCell (p := ⟨q2, 2, none⟩) hlo (.int .i64 f2))
  clear HH HB4 R4 hH4 a4 hF hm
  go_wp2
  obtain ⟨p0, p1, p2, -⟩ := a7.open3
  refine bodyPost_ret (v := .tuple #[pV f0 f1 f2, .bool true]) (by simp [results, Tryz.results18, go_sem, p0, p1, p2, pV]) rfl ⟨⟨f0, f1, f2, true, rfl, .inl ⟨HY.out.1, rfl, m, F, HY.out.2, by omega, HF.out.symm⟩⟩, HB5.out⟩
end Go.Proofs.YtehbpcoiciodhaaGreat
