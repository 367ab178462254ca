/-
  The frames by the specification, with their numbers: walked.
-/
import Derived.Test.YtgjhbkpocbihbaaB18a
import Derived.Test.YtgjhbkpocbihbaaE9d
namespace Go.Proofs.Ytgjhbkpocbihbaa
open Go.RowKit

theorem Made.putAt {w : World} {g n : Nat} {f : Nat → Int} (h : Made w g n n f) {i : Nat} (hi : i < n) (x : Int) : Made (w.setCell ⟨g, i, none⟩ (.int .i64 x)) g n n (fun j => if j = i then x else f j) := by
  obtain ⟨cur, h1, h2, h3⟩ := h
  refine ⟨_, h1.set i _, by simpa using h2, fun j hj => ?_⟩
  rw [Array.getElem?_setIfInBounds]
  by_cases e : i = j
  · subst e; rw [if_pos rfl, if_pos (by omega)]; simp
  · have e2 : ¬ j = i := fun h => e h.symm
    rw [if_neg e, h3 j hj]; simp [e2]
theorem Made.otherAt {w : World} {g n q i : Nat} {f : Nat → Int} (h : Made w g n n f) (hq : g ≠ q) (v : Value) : Made (w.setCell ⟨q, i, none⟩ v) g n n f := by
  obtain ⟨cur, h1, h2⟩ := h
  exact ⟨cur, h1.setOther hq v, h2⟩
theorem Made.cellAt {w : World} {g n i : Nat} {f : Nat → Int} (h : Made w g n n f) (hi : i < n) : ∃ x : Int, w.cell? ⟨g, i, none⟩ = some (.int .i64 x) ∧ w.frozen? ⟨g, i, none⟩ = false := by
  obtain ⟨cur, h1, h2, h3⟩ := h
  exact ⟨f i, h1.cell i (h3 i hi), h1.frozen i⟩
/-- The frames among the first n stand in the list. -/
def FrI (n m : Nat) (A : Nat → OpD) : Prop := (∀ j, j < m → ∃ i, i < n ∧ vl i = true ∧ A j = fr i) ∧ ∀ i, i < n → vl i = true → ∃ j, j < m ∧ A j = fr i
theorem FrI.skip {n m : Nat} {A : Nat → OpD} (h : FrI n m A) (hv : vl n = false) : FrI (n + 1) m A :=
  ⟨fun j hj => by obtain ⟨i, hi, r⟩ := h.1 j hj; exact ⟨i, by omega, r⟩, fun i hi hvi => by
    by_cases e : i = n
    · rw [e, hv] at hvi; cases hvi
    · exact h.2 i (by omega) hvi⟩
theorem FrI.add {n m c : Nat} {A : Nat → OpD} (h : FrI n m A) (hv : vl n = true) (hc : c ≤ m) : FrI (n + 1) (m + 1) (ins c A (fr n)) := by
  refine ⟨fun j hj => ?_, fun i hi hvi => ?_⟩
  · rcases Nat.lt_trichotomy j c with e | e | e
    · rw [ins_lo e]; obtain ⟨i, hi, r⟩ := h.1 j (by omega); exact ⟨i, by omega, r⟩
    · rw [e, ins_at]; exact ⟨n, by omega, hv, rfl⟩
    · rw [ins_hi e]; obtain ⟨i, hi, r⟩ := h.1 (j - 1) (by omega); exact ⟨i, by omega, r⟩
  · by_cases e : i = n
    · subst e; exact ⟨c, by omega, ins_at c A (fr i)⟩
    · obtain ⟨j, hj, r⟩ := h.2 i (by omega) hvi
      by_cases e2 : j < c
      · exact ⟨j, by omega, by rw [ins_lo e2]; exact r⟩
      · exact ⟨j + 1, by omega, by rw [ins_hi (show c < j + 1 by omega), Nat.add_sub_cancel]; exact r⟩
/-- What is told of frames. -/
def FrmP (w : World) (e : Ending) (w' : World) : Prop := ∃ g m c X Y A, e = .returned (.slice (some ⟨g, 0, none⟩) m c) ∧ OpsP w' w.heap.size (.slice (some ⟨g, 0, none⟩) m c) m X Y A ∧ m ≤ 512 ∧ FrI 512 m A ∧ Below w.heap.size w w'
set_option maxRecDepth 100000 in
set_option maxHeartbeats 6400000 in
theorem frames_any (w : World) : Calls Try.prog 11 #[] w (FrmP w) := by
  have hbs : ∀ w, (Instr.buildSlice 25 0 #[]).run Try.prog w = .ok (.slice (some ⟨w.heap.size, 0, none⟩) 0 0) (w.alloc (.cells #[] 36)) := fun _ => by kernel_rfl
  have hb3 : ∀ w, (Instr.buildSlice 29 3 #[(0, .int .i64 0), (1, .int .i64 0), (2, .int .i64 0)]).run Try.prog w = .ok (.slice (some ⟨w.heap.size, 0, none⟩) 3 3) (w.alloc (.cells #[.int .i64 0, .int .i64 0, .int .i64 0] 2)) := fun _ => by kernel_rfl
  have hmk : ∀ w, (Instr.makeSlice 29 (.int .i64 9) (.int .i64 9)).run Try.prog w = .ok (.slice (some ⟨w.heap.size, 0, none⟩) 9 9) (w.alloc (.cells #[.int .i64 0, .int .i64 0, .int .i64 0, .int .i64 0, .int .i64 0, .int .i64 0, .int .i64 0, .int .i64 0, .int .i64 0] 2)) := fun _ => by kernel_rfl
  obtain ⟨V, hV, a1, B1, -⟩ := boxed w 36 #[]
  obtain ⟨g0, hg0⟩ : ∃ q, w.heap.size = q := ⟨_, rfl⟩
  have O1 : Hid (∃ X Y A, OpsP V w.heap.size (.slice (some ⟨g0, 0, none⟩) 0 0) 0 X Y A ∧ FrI 0 0 A) := by
    rw [← hg0]
    exact ⟨fun _ => undef, fun _ => undef, fun _ => ⟨9, fun _ => 0, 3, fun _ => 0⟩, ⟨⟨rfl, .inr ⟨w.heap.size, 0, #[], rfl, Nat.le_refl _, a1, Nat.le_refl _, Nat.zero_le _, rfl, rfl⟩⟩, ne_nil _ _ _, fun i hi => by omega, fun i hi => by omega, fun i hi => by omega⟩, fun j hj => by omega, fun i hi => by omega⟩
  have HB1 : Hid (Below w.heap.size w V) := B1
  clear a1 B1
  go_enter Try.func11, Try.ntmps11
  go_wp2
  clear hV hg0
  go_loopw [1, 2] (fun v s wr => ∃ (i m : Nat), i ≤ 512 ∧ s = .int .i64 (i : Int) ∧ m ≤ i ∧ Hid (∃ X Y A, OpsP wr w.heap.size v m X Y A ∧ FrI i m A) ∧ Hid (Below w.heap.size w wr)) (fun _ s _ => 512 - (intOf s).toNat)
  case atStart => exact ⟨0, 0, by omega, rfl, Nat.le_refl _, O1, HB1⟩
  case round =>
    clear O1 HB1
    obtain ⟨i, m, hi, rfl, hmi, O, HB⟩ := hrel
    by_cases hlt : i < 512
    rotate_left
    · have hlt' : ¬ (i : Int) < 512 := by omega
      obtain rfl : i = 512 := by omega
      obtain ⟨X, Y, A, P, FI⟩ := O.out
      obtain ⟨g, c, rfl, -, -⟩ := P.opsL
      have N : Hid (FrmP w (.returned (.slice (some ⟨g, 0, none⟩) m c)) wr) := ⟨g, m, c, X, Y, A, rfl, P, by omega, FI, HB.out⟩
      clear P O HB FI
      go_wp2
      go_ret
      exact N.out
    have hlt' : (i : Int) < 512 := by omega
    obtain ⟨x, hx⟩ : ∃ x, i % 8 = x := ⟨_, rfl⟩
    obtain ⟨i8, hi8⟩ : ∃ i8, i / 8 = i8 := ⟨_, rfl⟩
    obtain ⟨y, hy⟩ : ∃ y, i8 % 8 = y := ⟨_, rfl⟩
    obtain ⟨z, hz⟩ : ∃ z, i / 64 = z := ⟨_, rfl⟩
    obtain ⟨a, ha⟩ : ∃ a, x / 2 = a := ⟨_, rfl⟩
    obtain ⟨b, hb⟩ : ∃ b, y / 2 = b := ⟨_, rfl⟩
    obtain ⟨c, hc⟩ : ∃ c, z / 2 = c := ⟨_, rfl⟩
    have e1 : (i : Int) % 8 = (x : Int) := by omega
    have e1' : Int.tmod (i : Int) 8 = (x : Int) := by rw [Int.tmod_eq_emod_of_nonneg (by omega)]; omega
    have e2 : (i8 : Int) % 8 = (y : Int) := by omega
    have e2' : Int.tmod (i8 : Int) 8 = (y : Int) := by rw [Int.tmod_eq_emod_of_nonneg (by omega)]; omega
    have e0 : (i : Int) / 8 = (i8 : Int) := by omega
    have e0' : Int.tdiv (i : Int) 8 = (i8 : Int) := by rw [Int.tdiv_eq_ediv_of_nonneg (by omega)]; omega
    have e3 : (i : Int) / 64 = (z : Int) := by omega
    have e3' : Int.tdiv (i : Int) 64 = (z : Int) := by rw [Int.tdiv_eq_ediv_of_nonneg (by omega)]; omega
    have e4 : (x : Int) / 2 = (a : Int) := by omega
    have e4' : Int.tdiv (x : Int) 2 = (a : Int) := by rw [Int.tdiv_eq_ediv_of_nonneg (by omega)]; omega
    have e5 : (y : Int) / 2 = (b : Int) := by omega
    have e5' : Int.tdiv (y : Int) 2 = (b : Int) := by rw [Int.tdiv_eq_ediv_of_nonneg (by omega)]; omega
    have e6 : (z : Int) / 2 = (c : Int) := by omega
    have e6' : Int.tdiv (z : Int) 2 = (c : Int) := by rw [Int.tdiv_eq_ediv_of_nonneg (by omega)]; omega
    have HV : Hid (vl i = decide (a ≤ 2 ∧ b ≤ 2 ∧ c ≤ 2 ∧ a ≠ b ∧ a ≠ c ∧ b ≠ c)) := by
      unfold vl
      rw [hx, hi8, hy, hz, ha, hb, hc]
      trivial
    have HXS : Hid (i % 8 = x ∧ i / 8 % 8 = y ∧ i / 64 = z ∧ x / 2 = a ∧ y / 2 = b ∧ z / 2 = c) := ⟨hx, by rw [hi8]; exact hy, hz, ha, hb, hc⟩
    have b8 : (i8 : Int) ≤ 64 := by omega
    have SK : Hid (¬ (a ≤ 2 ∧ b ≤ 2 ∧ c ≤ 2 ∧ a ≠ b ∧ a ≠ c ∧ b ≠ c) → Hid (∃ X Y A, OpsP wr w.heap.size u1 m X Y A ∧ FrI (i + 1) m A)) := fun hn => by
      obtain ⟨X, Y, A, P, FI⟩ := O.out
      exact ⟨X, Y, A, P, FI.skip (by rw [HV.out]; exact decide_eq_false hn)⟩
    clear hx hy hz ha hb hc hi8
    by_cases c1 : (2 : Int) < (a : Int)
    · have ON := SK.out (by omega)
      go_wp2
      exact ⟨⟨i + 1, m, by omega, by go_num, by omega, ON.out, HB⟩, by simp [intOf]; omega⟩
    by_cases c2 : (2 : Int) < (b : Int)
    · have ON := SK.out (by omega)
      go_wp2
      exact ⟨⟨i + 1, m, by omega, by go_num, by omega, ON.out, HB⟩, by simp [intOf]; omega⟩
    by_cases c3 : (2 : Int) < (c : Int)
    · have ON := SK.out (by omega)
      go_wp2
      exact ⟨⟨i + 1, m, by omega, by go_num, by omega, ON.out, HB⟩, by simp [intOf]; omega⟩
    by_cases c4 : a = b
    · have h4 : ((a : Int) == (b : Int)) = true := by simp; omega
      have ON := SK.out (by omega)
      go_wp2
      exact ⟨⟨i + 1, m, by omega, by go_num, by omega, ON.out, HB⟩, by simp [intOf]; omega⟩
    have h4 : ((a : Int) == (b : Int)) = false := by simp; omega
    by_cases c5 : a = c
    · have h5 : ((a : Int) == (c : Int)) = true := by simp; omega
      have ON := SK.out (by omega)
      go_wp2
      exact ⟨⟨i + 1, m, by omega, by go_num, by omega, ON.out, HB⟩, by simp [intOf]; omega⟩
    have h5 : ((a : Int) == (c : Int)) = false := by simp; omega
    by_cases c6 : b = c
    · have h6 : ((b : Int) == (c : Int)) = true := by simp; omega
      have ON := SK.out (by omega)
      go_wp2
      exact ⟨⟨i + 1, m, by omega, by go_num, by omega, ON.out, HB⟩, by simp [intOf]; omega⟩
    have h6 : ((b : Int) == (c : Int)) = false := by simp; omega
    have HVT : Hid (vl i = true) := by rw [HV.out]; exact decide_eq_true ⟨by omega, by omega, by omega, c4, c5, c6⟩
    clear SK HV
    obtain ⟨X, Y, A, P, FI⟩ := O.out
    have HFI := hid_of FI
    obtain ⟨g, cc, rfl, hlo, -⟩ := P.opsL
    obtain ⟨V9, hV9, a9, bb9, -⟩ := boxed wr 2 #[.int .i64 0, .int .i64 0, .int .i64 0, .int .i64 0, .int .i64 0, .int .i64 0, .int .i64 0, .int .i64 0, .int .i64 0]
    obtain ⟨g9, hg9⟩ : ∃ q, wr.heap.size = q := ⟨_, rfl⟩
    have HG9 : Hid (wr.heap.size = g9) := hg9
    rw [hg9] at a9
    obtain ⟨V3, hV3, a3, bb3, -⟩ := boxed V9 2 #[.int .i64 0, .int .i64 0, .int .i64 0]
    obtain ⟨g3, hg3⟩ : ∃ q, V9.heap.size = q := ⟨_, rfl⟩
    have l93 : g9 < g3 := by rw [← hg3]; exact a9.lt
    rw [hg3] at a3
    obtain ⟨V6, hV6, a6, bb6, -⟩ := boxed V3 36 #[.slice (some ⟨g9, 0, none⟩) 9 9, .slice (some ⟨g3, 0, none⟩) 3 3]
    obtain ⟨q6, hq6⟩ : ∃ q, V3.heap.size = q := ⟨_, rfl⟩
    have l36 : g3 < q6 := by rw [← hq6]; exact a3.lt
    rw [hq6] at a6
    have M00 : Made V9 g9 9 9 (fun _ => 0) := ⟨_, a9, rfl, fun i hi => by
      rcases (by omega : i = 0 ∨ i = 1 ∨ i = 2 ∨ i = 3 ∨ i = 4 ∨ i = 5 ∨ i = 6 ∨ i = 7 ∨ i = 8) with rfl | rfl | rfl | rfl | rfl | rfl | rfl | rfl | rfl <;> rfl⟩
    have M0 : Made V6 g9 9 9 (fun _ => 0) := (M00.below bb3).below bb6
    have T00 : Made V3 g3 3 3 (fun _ => 0) := ⟨_, a3, rfl, fun i hi => by
      rcases (by omega : i = 0 ∨ i = 1 ∨ i = 2) with rfl | rfl | rfl <;> rfl⟩
    have T0 : Made V6 g3 3 3 (fun _ => 0) := T00.below bb6
    have BB : Below wr.heap.size wr V6 := (bb9.trans (bb3.mono bb9.size)).trans (bb6.mono (bb9.trans (bb3.mono bb9.size)).size)
    obtain ⟨x1, hx1⟩ : ∃ x1, x % 2 = x1 := ⟨_, rfl⟩
    obtain ⟨y1, hy1⟩ : ∃ y1, y % 2 = y1 := ⟨_, rfl⟩
    obtain ⟨z1, hz1⟩ : ∃ z1, z % 2 = z1 := ⟨_, rfl⟩
    have m1 : (x : Int) % 2 = (x1 : Int) := by omega
    have m1' : Int.tmod (x : Int) 2 = (x1 : Int) := by rw [Int.tmod_eq_emod_of_nonneg (by omega)]; omega
    have m2 : (y : Int) % 2 = (y1 : Int) := by omega
    have m2' : Int.tmod (y : Int) 2 = (y1 : Int) := by rw [Int.tmod_eq_emod_of_nonneg (by omega)]; omega
    have m3 : (z : Int) % 2 = (z1 : Int) := by omega
    have m3' : Int.tmod (z : Int) 2 = (z1 : Int) := by rw [Int.tmod_eq_emod_of_nonneg (by omega)]; omega
    obtain ⟨b3, hb3⟩ : ∃ b3, 3 + b = b3 := ⟨_, rfl⟩
    obtain ⟨c6', hc6⟩ : ∃ c6', 6 + c = c6' := ⟨_, rfl⟩
    have q1 : (3 : Int) + (b : Int) = (b3 : Int) := by omega
    have q2 : (6 : Int) + (c : Int) = (c6' : Int) := by omega
    have q3 : (b3 : Int) < 9 := by omega
    have q4 : (c6' : Int) < 9 := by omega
    have n3 : b3 < 9 := by omega
    have n4 : c6' < 9 := by omega
    have HFM : Hid ((fun j => if j = c6' then 1 - 2 * (z1 : Int) else if j = b3 then 1 - 2 * (y1 : Int) else if j = a then 1 - 2 * (x1 : Int) else 0) = frM i) := by
      obtain ⟨g1, g2, g3, g4, g5, g6⟩ := HXS.out
      funext j
      unfold frM
      rw [g1, g2, g3, g4, g5, g6, hx1, hy1, hz1, hb3, hc6]
    clear hb3 hc6
    obtain ⟨u1, k1, f1⟩ := M0.cellAt (i := a) (by omega)
    have M1 := M0.putAt (i := a) (by omega) (1 - 2 * (x1 : Int))
    have A1 := a6.setOther (p := g9) (i := a) (by omega) (.int .i64 (1 - 2 * (x1 : Int)))
    have T1 := T0.otherAt (q := g9) (i := a) (by omega) (.int .i64 (1 - 2 * (x1 : Int)))
    have B7 := BB.setCell (p := ⟨g9, a, none⟩) (by show wr.heap.size ≤ g9; omega) (.int .i64 (1 - 2 * (x1 : Int)))
    obtain ⟨W7, hW7⟩ : ∃ W, V6.setCell ⟨g9, a, none⟩ (.int .i64 (1 - 2 * (x1 : Int))) = W := ⟨_, rfl⟩
    rw [hW7] at M1 A1 T1 B7
    obtain ⟨u2, k2, f2⟩ := M1.cellAt (i := b3) (by omega)
    have M2 := M1.putAt (i := b3) (by omega) (1 - 2 * (y1 : Int))
    have A2 := A1.setOther (p := g9) (i := b3) (by omega) (.int .i64 (1 - 2 * (y1 : Int)))
    have T2 := T1.otherAt (q := g9) (i := b3) (by omega) (.int .i64 (1 - 2 * (y1 : Int)))
    have B8 := B7.setCell (p := ⟨g9, b3, none⟩) (by show wr.heap.size ≤ g9; omega) (.int .i64 (1 - 2 * (y1 : Int)))
    obtain ⟨W8, hW8⟩ : ∃ W, W7.setCell ⟨g9, b3, none⟩ (.int .i64 (1 - 2 * (y1 : Int))) = W := ⟨_, rfl⟩
    rw [hW8] at M2 A2 T2 B8
    obtain ⟨u3, k3, f3⟩ := M2.cellAt (i := c6') (by omega)
    have M3 := M2.putAt (i := c6') (by omega) (1 - 2 * (z1 : Int))
    have A3 := A2.setOther (p := g9) (i := c6') (by omega) (.int .i64 (1 - 2 * (z1 : Int)))
    have T3 := T2.otherAt (q := g9) (i := c6') (by omega) (.int .i64 (1 - 2 * (z1 : Int)))
    have B9 := B8.setCell (p := ⟨g9, c6', none⟩) (by show wr.heap.size ≤ g9; omega) (.int .i64 (1 - 2 * (z1 : Int)))
    obtain ⟨W9, hW9⟩ : ∃ W, W8.setCell ⟨g9, c6', none⟩ (.int .i64 (1 - 2 * (z1 : Int))) = W := ⟨_, rfl⟩
    rw [hW9] at M3 A3 T3 B9
    obtain ⟨d0, d1, -⟩ := a6.open2
    obtain ⟨d2, d3, -⟩ := A1.open2
    obtain ⟨d4, d5, -⟩ := A2.open2
    obtain ⟨d6, d7, -⟩ := A3.open2
    have Mf : Made W9 g9 9 9 (frM i) := by rw [← HFM.out]; exact M3
    have Th := T3
    have hwr : w.heap.size ≤ wr.heap.size := HB.out.size
    have HB9 : Hid (Below w.heap.size w W9) := HB.out.trans (B9.mono HB.out.size)
    have own9 := P.below B9
    have R1 : Arr W9 w.heap.size W9.heap.size (.slice (some ⟨g9, 0, none⟩) 9 9) 9 (frM i) := arr_of_made Mf (Nat.le_refl _) (by omega)
    have R2 : Arr W9 w.heap.size W9.heap.size (.slice (some ⟨g3, 0, none⟩) 3 3) 3 (fun _ => 0) := arr_of_made Th (Nat.le_refl _) (by omega)
    have hm' : m ≤ 511 := by omega
    clear O P HB FI HFM HXS a9 a3 a6 bb9 bb3 bb6 M00 T00 M0 T0 M1 M2 M3 T1 T2 T3 A1 A2 A3 BB B7 B8 Mf Th hx1 hy1 hz1
    go_wp2_with fail
    refine (l4Put_any (o := fr i) own9 HB9.out.size R1 R2 ⟨rfl, rfl⟩ (by omega)).mono ?_
    rintro e w10 ⟨v10, cI, rfl, P8⟩
    have OF : Hid (∃ X Y A, OpsP w10 w.heap.size v10 (m + 1) X Y A ∧ FrI (i + 1) (m + 1) A) := ⟨_, _, _, P8.ops, HFI.out.add HVT.out P8.le⟩
    have BF : Hid (Below w.heap.size w w10) := HB9.out.grown P8.grown HB9.out.size (fun q hq => by
      simp only [Value.ownBlock, Option.some.injEq] at hq
      omega)
    clear P8 own9 R1 R2 HB9 B9
    go_wp2
    exact ⟨⟨i + 1, m + 1, by omega, by go_num, by omega, OF, BF⟩, by simp [intOf]; omega⟩
end Go.Proofs.Ytgjhbkpocbihbaa
