/-
  Lists of Point of one's own: held against each other, marked, the marks held: walked.
-/
import Derived.Test.YtpolnkjmojofoaaGreatNE
import Derived.Test.YtpolnkjmojofoaaGreatO3h
import Derived.Test.YtpolnkjmojofoaaGreatMT
namespace Go.Proofs.YtpolnkjmojofoaaGreat
open Go.RowKit

end Go.Proofs.YtpolnkjmojofoaaGreat
/-
  Asymmetric, by the program and by the specification: walked.
-/
namespace Go.Proofs.YtpolnkjmojofoaaGreat
open Go.RowKit Go.Lib

/-- What both tell. -/
def AsyR (w : World) (n : Nat) (A : Nat → OpD) (x y z : Int) (e : Ending) (w' : World) : Prop :=
  (∃ q0 q1 q2 b, e = .returned (.tuple #[pV q0 q1 q2, .bool b]) ∧ (((isG n A ∧ inP x y z) ∧ b = true ∧ ∃ m F, OrbI (orbP A x y z) n m F ∧ 0 < m ∧ (q0, q1, q2) = F 0) ∨ (¬ (isG n A ∧ inP x y z) ∧ b = false ∧ q0 = 0 ∧ q1 = 0 ∧ q2 = 0))) ∧ Below w.heap.size w w'
theorem orb_pos {P F : Nat → T3} {n m : Nat} (h : OrbI P n m F) (hn : 0 < n) : 0 < m := by
  obtain ⟨t, ht, -⟩ := h.has 0 hn
  omega
theorem isG_pos {n : Nat} {A : Nat → OpD} (h : isG n A) : 0 < n := by
  obtain ⟨i, hi, -⟩ := h.2.2.2.1
  omega
set_option maxRecDepth 100000 in
set_option maxHeartbeats 3000000 in
theorem implAsy_any {w : World} {g n c : Nat} {A : Nat → OpD} (x y z : Int) (hL : OpsL w g n A) (hn : n ≤ 1048576) :
    Calls Tryz.prog 25 #[.slice (some ⟨g, 0, none⟩) n c, pV x y z] w (AsyR w n A x y z) := by
  obtain ⟨W1, hW1, W2, hW2, A1, R1, B1⟩ : ∃ W1, w.alloc (.cells #[.int .i64 x, .int .i64 y, .int .i64 z] 46) = W1 ∧ ∃ W2, W1.alloc (.cells #[.int .i64 0, .int .i64 0, .int .i64 0] 46) = W2 ∧ At 46 W2 w.heap.size #[.int .i64 x, .int .i64 y, .int .i64 z] ∧ At 46 W2 (w.heap.size + 1) #[.int .i64 0, .int .i64 0, .int .i64 0] ∧ Below w.heap.size w W2 := by
    obtain ⟨W, hW, b0, b1, bW, -⟩ := bx2 w 46 46 #[.int .i64 x, .int .i64 y, .int .i64 z] #[.int .i64 0, .int .i64 0, .int .i64 0]
    exact ⟨_, rfl, W, hW, b0, b1, bW⟩
  obtain ⟨q1, hq1⟩ : ∃ q, w.heap.size = q := ⟨_, rfl⟩
  obtain ⟨q2, hq2⟩ : ∃ q, q1 + 1 = q := ⟨_, rfl⟩
  have hz1 : W1.heap.size = q2 := by rw [← hW1, ← hq2, ← hq1]; simp
  rw [hq1] at A1 R1
  rw [hq2] at R1
  have hlo : w.heap.size ≤ q2 := by omega
  have HL := hid_of (hL.below B1)
  obtain ⟨d0, d1, d2, -⟩ := A1.open3
  have CO := implOrbit_any (c := c) x y z HL.out hn
  clear hL
  unfold pV at CO ⊢
  go_enter Tryz.func25, Tryz.ntmps25
  go_wp2_with fail
  refine CO.mono ?_
  rintro e w4 ⟨⟨v, m, F, rfl, G4, HI⟩, b4⟩
  have HB4 := hid_of (B1.trans (b4.mono B1.size))
  have R4 := R1.below b4
  obtain ⟨g4, c4, cu4, rfl, hl4, a4, -, -, -, hH4⟩ := G4.open
  have HH := hid_of HI
  clear HL A1 R1 B1 b4 CO hW1 hW2 hq1 hq2 hz1 d0 d1 d2 HI G4
  rcases Nat.eq_zero_or_pos m with h0 | hm
  · subst h0
    have HNO : Hid (¬ (isG n A ∧ inP x y z)) := fun h => by
      rcases HH.out with ⟨-, hI⟩ | ⟨h', -⟩
      · have := orb_pos hI (isG_pos h.1); omega
      · exact h' h
    have a7 := put3c_at R4 (.int .i64 0) (.int .i64 0) (.int .i64 0)
    obtain ⟨y0, y1, y2, t0, t1, t2⟩ := R4.open3
    have HB5 := hid_of (((HB4.out.setCell (p := ⟨q2, 0, none⟩) hlo (.int .i64 0)).setCell (p := ⟨q2, 1, none⟩) hlo (.int .i64 0)).setCell (p := ⟨q2, 2, none⟩) hlo (.int .i64 0))
    clear HH HB4 R4 hH4 a4
    go_wp2
    obtain ⟨p0, p1, p2, -⟩ := a7.open3
    refine bodyPost_ret (v := .tuple #[pV 0 0 0, .bool false]) (by simp [results, Tryz.results25, go_sem, p0, p1, p2, pV]) rfl ⟨⟨0, 0, 0, false, rfl, .inr ⟨HNO.out, rfl, rfl, rfl, rfl⟩⟩, HB5.out⟩
  have hm' : (0 : Int) < (m : Int) := by omega
  have hme : ((m : Int) == 0) = false := by
    have : ¬ (m : Int) = 0 := by omega
    simpa using this
  obtain ⟨f0, f1, f2, hF⟩ : ∃ f0 f1 f2, F 0 = (f0, f1, f2) := ⟨_, _, _, rfl⟩
  have CE := h3_cells a4 (hH4 0 hm)
  rw [hF] at CE
  obtain ⟨x0, x1, x2⟩ := CE
  rw [Nat.zero_mul] at x0 x1 x2
  rw [Nat.zero_add] at x1 x2
  have HF := hid_of hF
  have HY : Hid ((isG n A ∧ inP x y z) ∧ OrbI (orbP A x y z) n m F) := by
    rcases HH.out with h | ⟨-, h⟩
    · exact h
    · omega
  have a7 := put3c_at R4 (.int .i64 f0) (.int .i64 f1) (.int .i64 f2)
  obtain ⟨y0, y1, y2, t0, t1, t2⟩ := R4.open3
  have HB5 := hid_of (((HB4.out.setCell (p := ⟨q2, 0, none⟩) hlo (.int .i64 f0)).setCell (p := ⟨q2, 1, none⟩) hlo (.int .i64 f1)).setCell (p := ⟨q2, 2, none⟩) hlo (.int .i64 f2))
  clear HH HB4 R4 hH4 a4 hF hm
  go_wp2
  obtain ⟨p0, p1, p2, -⟩ := a7.open3
  refine bodyPost_ret (v := .tuple #[pV f0 f1 f2, .bool true]) (by simp [results, Tryz.results25, go_sem, p0, p1, p2, pV]) rfl ⟨⟨f0, f1, f2, true, rfl, .inl ⟨HY.out.1, rfl, m, F, HY.out.2, by omega, HF.out.symm⟩⟩, HB5.out⟩
end Go.Proofs.YtpolnkjmojofoaaGreat
