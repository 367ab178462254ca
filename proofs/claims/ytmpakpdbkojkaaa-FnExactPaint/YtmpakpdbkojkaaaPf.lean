/-
  Atoms painted on a map: what both tell; lists of atoms of one's own, marked.
-/
import Derived.Test.YtmpakpdbkojkaaaPe
import Derived.Test.YtmpakpdbkojkaaaEc
namespace Go.Proofs.Ytmpakpdbkojkaaa
open Go.RowKit

set_option maxRecDepth 100000 in
theorem specPaint_no {w : World} {g cnt c : Nat} {f : Nat → Int} (n : Int) (hq : Quads w g cnt f) (hc : cnt ≤ 1048576) (hno : ¬ (side n ∧ AOk cnt f)) :
    Calls Try.prog 20 #[.slice (some ⟨g, 0, none⟩) cnt c, .int .i64 n] w fun e w' => ∃ m, e = .returned m ∧ MapAt w' w.heap.size w'.heap.size m 0 0 (fun _ => 0) ∧ Below w.heap.size w w' := by
  obtain ⟨W, hW, b0, bW, -⟩ := boxed w 41 #[.int .i64 0, .slice none 0 0]
  by_cases hn : side n
  · have hside := decide_eq_true hn
    have ha : ¬ AOk cnt f := fun h => hno ⟨hn, h⟩
    go_enter Try.func20, Try.ntmps20
    go_wp2_with fail
    refine (side_any _ _).mono ?_
    rintro e w1 ⟨rfl, rfl⟩
    rw [hside]
    go_wp2_with fail
    refine (specAtoms_any (hq.below bW) hc false (by simp [ha])).mono ?_
    rintro e w1 ⟨rfl, b1⟩
    replace b0 := b0.below b1
    replace bW := bW.trans (b1.mono bW.size)
    clear b1 hW hside
    obtain ⟨d0, d1, f0, f1⟩ := b0.open2
    go_wp2
    obtain ⟨y0, y1, -⟩ := (put2_at b0 (.int .i64 0) (.slice none 0 0)).open2
    exact bodyPost_ret (v := mV 0 (.slice none 0 0)) (by simp [results, Try.results20, go_sem, y0, y1]) rfl ⟨_, rfl, ⟨_, rfl, .inl ⟨rfl, rfl⟩⟩, (bW.setCell (Nat.le_refl _) _).setCell (Nat.le_refl _) _⟩
  · have hside := decide_eq_false hn
    go_enter Try.func20, Try.ntmps20
    go_wp2_with fail
    refine (side_any _ _).mono ?_
    rintro e w1 ⟨rfl, rfl⟩
    rw [hside]
    clear hW
    obtain ⟨d0, d1, f0, f1⟩ := b0.open2
    go_wp2
    obtain ⟨y0, y1, -⟩ := (put2_at b0 (.int .i64 0) (.slice none 0 0)).open2
    exact bodyPost_ret (v := mV 0 (.slice none 0 0)) (by simp [results, Try.results20, go_sem, y0, y1]) rfl ⟨_, rfl, ⟨_, rfl, .inl ⟨rfl, rfl⟩⟩, (bW.setCell (Nat.le_refl _) _).setCell (Nat.le_refl _) _⟩
set_option maxRecDepth 100000 in
theorem implPaint_no {w : World} {g cnt c : Nat} {f : Nat → Int} (n : Int) (hq : Quads w g cnt f) (hc : cnt ≤ 1048576) (hn64 : -9223372036854775808 ≤ n ∧ n ≤ 9223372036854775807) (hno : ¬ (side n ∧ AOk cnt f)) :
    Calls Try.prog 22 #[.slice (some ⟨g, 0, none⟩) cnt c, .int .i64 n] w fun e w' => ∃ m, e = .returned m ∧ MapAt w' w.heap.size w'.heap.size m 0 0 (fun _ => 0) ∧ Below w.heap.size w w' := by
  obtain ⟨W, hW, b0, bW, -⟩ := boxed w 41 #[.int .i64 0, .slice none 0 0]
  by_cases hn : side n
  · have hside := decide_eq_true hn
    have ha : ¬ AOk cnt f := fun h => hno ⟨hn, h⟩
    go_enter Try.func22, Try.ntmps22
    go_wp2_with fail
    refine (cyclic_any _ _ hn64).mono ?_
    rintro e w1 ⟨rfl, rfl⟩
    rw [hside]
    go_wp2_with fail
    refine (implAtoms_any (hq.below bW) hc false (by simp [ha])).mono ?_
    rintro e w1 ⟨rfl, b1⟩
    replace b0 := b0.below b1
    replace bW := bW.trans (b1.mono bW.size)
    clear b1 hW hside
    obtain ⟨d0, d1, f0, f1⟩ := b0.open2
    go_wp2
    obtain ⟨y0, y1, -⟩ := (put2_at b0 (.int .i64 0) (.slice none 0 0)).open2
    exact bodyPost_ret (v := mV 0 (.slice none 0 0)) (by simp [results, Try.results22, go_sem, y0, y1]) rfl ⟨_, rfl, ⟨_, rfl, .inl ⟨rfl, rfl⟩⟩, (bW.setCell (Nat.le_refl _) _).setCell (Nat.le_refl _) _⟩
  · have hside := decide_eq_false hn
    go_enter Try.func22, Try.ntmps22
    go_wp2_with fail
    refine (cyclic_any _ _ hn64).mono ?_
    rintro e w1 ⟨rfl, rfl⟩
    rw [hside]
    clear hW
    obtain ⟨d0, d1, f0, f1⟩ := b0.open2
    go_wp2
    obtain ⟨y0, y1, -⟩ := (put2_at b0 (.int .i64 0) (.slice none 0 0)).open2
    exact bodyPost_ret (v := mV 0 (.slice none 0 0)) (by simp [results, Try.results22, go_sem, y0, y1]) rfl ⟨_, rfl, ⟨_, rfl, .inl ⟨rfl, rfl⟩⟩, (bW.setCell (Nat.le_refl _) _).setCell (Nat.le_refl _) _⟩
/-- What both paint. -/
theorem paint_some {cnt : Nat} {f : Nat → Int} (n : Int) (hc : cnt ≤ 1048576) (hn64 : -9223372036854775808 ≤ n ∧ n ≤ 9223372036854775807) : ∃ (N : Int) (L : Nat) (F : Nat → Int), L ≤ 1728 ∧
    (∀ (w : World) (g c : Nat), Quads w g cnt f → Calls Try.prog 20 #[.slice (some ⟨g, 0, none⟩) cnt c, .int .i64 n] w fun e w' => ∃ m, e = .returned m ∧ MapAt w' w.heap.size w'.heap.size m N L F ∧ Below w.heap.size w w') ∧
    (∀ (w : World) (g c : Nat), Quads w g cnt f → Calls Try.prog 22 #[.slice (some ⟨g, 0, none⟩) cnt c, .int .i64 n] w fun e w' => ∃ m, e = .returned m ∧ MapAt w' w.heap.size w'.heap.size m N L F ∧ Below w.heap.size w w') := by
  by_cases h : side n ∧ AOk cnt f
  · obtain ⟨hn, ha⟩ := h
    by_cases hf : ∀ i, i < cnt → fits3 n f i
    · refine ⟨n, cube n, pf n f cnt, (cube_is hn).2.2, fun w g c Q => (specPaint_any n Q hn ha).mono ?_, fun w g c Q => (implPaint_any n Q hn ha).mono ?_⟩
      all_goals
        rintro e w' ⟨m, e1, (⟨-, h⟩ | ⟨h, -⟩), b⟩
        · exact ⟨m, e1, h, b⟩
        · exact absurd hf h
    · refine ⟨0, 0, fun _ => 0, by omega, fun w g c Q => (specPaint_any n Q hn ha).mono ?_, fun w g c Q => (implPaint_any n Q hn ha).mono ?_⟩
      all_goals
        rintro e w' ⟨m, e1, (⟨h, -⟩ | ⟨-, h⟩), b⟩
        · exact absurd h hf
        · exact ⟨m, e1, h, b⟩
  · exact ⟨0, 0, fun _ => 0, by omega, fun w g c Q => specPaint_no n Q hc h, fun w g c Q => implPaint_no n Q hc hn64 h⟩
theorem toAtomS_own {w : World} {a : Option Addr} {n cap : Nat} {f : Nat → Int} (hS : Src w a (n * 4) f) (hn : n ≤ 1048576) :
    Calls Try.prog 21 #[.slice a n cap] w fun e w' => ∃ g, e = .returned (.slice (some ⟨g, 0, none⟩) n n) ∧ w.heap.size ≤ g ∧ Laid4 w' g n n f ∧ Below w.heap.size w w' := by
  have hn' : (n : Int) ≤ 1048576 := by omega
  obtain ⟨C, hC, hmk⟩ := make_atoms n hn
  obtain ⟨W1, hW1, a1, B1, -⟩ := boxed w 81 C
  have L1 : Laid4 W1 w.heap.size n 0 f := ⟨C, a1, hC, fun i hi => by omega⟩
  go_enter Try.func21, Try.ntmps21
  go_wp2
  clear hmk hW1 a1
  go_loopw [4] (fun s wr => ∃ k : Nat, k ≤ n ∧ s = .int .i64 k ∧ Laid4 wr w.heap.size n k f ∧ Below w.heap.size w wr) (fun s _ => n - (intOf s).toNat)
  case atStart => exact ⟨0, Nat.zero_le _, rfl, L1, B1⟩
  case round =>
    clear L1 B1
    obtain ⟨k, hk, rfl, L, B⟩ := hrel
    by_cases hlt : k < n
    · have hlt' : (k : Int) < (n : Int) := by omega
      rcases hS.below B with h0 | ⟨g, off, rfl, hg, rr⟩
      · omega
      obtain ⟨c0, c1, c2, c3⟩ := rr.open4 k hlt
      clear rr
      go_wp2_with fail
      refine (toAtom_any _ _ _ _ _).mono ?_
      rintro e w3 ⟨rfl, b3⟩
      have L3 := L.below b3
      have B3 := B.trans (b3.mono B.size)
      clear c0 c1 c2 c3 L B b3
      obtain ⟨d0, f0⟩ := L3.cells (j := k * 4) (by omega)
      obtain ⟨d1, f1⟩ := L3.cells (j := k * 4 + 1) (by omega)
      obtain ⟨d2, f2⟩ := L3.cells (j := k * 4 + 2) (by omega)
      obtain ⟨d3, f3⟩ := L3.cells (j := k * 4 + 3) (by omega)
      have HL : Hid (Laid4 ((((w3.setCell ⟨w.heap.size, k * 4, none⟩ (.int .i64 (f (k * 4)))).setCell ⟨w.heap.size, k * 4 + 1, none⟩ (.int .i64 (f (k * 4 + 1)))).setCell ⟨w.heap.size, k * 4 + 2, none⟩ (.int .i64 (f (k * 4 + 2)))).setCell ⟨w.heap.size, k * 4 + 3, none⟩ (.int .i64 (f (k * 4 + 3)))) w.heap.size n (k + 1) f) := L3.put.resolve_right (by omega)
      clear L3
      go_wp2
      refine ⟨⟨k + 1, by omega, by go_num, HL.out, (((B3.setCell (Nat.le_refl w.heap.size) _).setCell (Nat.le_refl w.heap.size) _).setCell (Nat.le_refl w.heap.size) _).setCell (Nat.le_refl w.heap.size) _⟩, by simp [intOf]; omega⟩
    · have hlt' : ¬ (k : Int) < (n : Int) := by omega
      obtain rfl : k = n := by omega
      have HO : Hid (Laid4 wr w.heap.size k k f) := L
      clear L
      go_wp2
      go_ret
      exact ⟨_, rfl, Nat.le_refl _, HO.out, B⟩
theorem Laid4.set0 {w : World} {g n : Nat} {f : Nat → Int} (h : Laid4 w g n 0 f) (j : Nat) (v : Value) : Laid4 (w.setCell ⟨g, j, none⟩ v) g n 0 f := by
  obtain ⟨cur, h1, h2, h3⟩ := h
  exact ⟨_, h1.set j v, by simpa using h2, fun i hi => by omega⟩
theorem markAtomS_any {w : World} {g n c : Nat} {f : Nat → Int} (h : Laid4 w g n n f) (hn : n ≤ 1048576) :
    Calls Try.prog 24 #[.slice (some ⟨g, 0, none⟩) n c, .int .i64 1] w fun e w' => ∃ r : Int, e = .returned (.int .i64 r) ∧ 0 ≤ r ∧ Turn g (g + 1) w w' := by
  have hn' : (n : Int) ≤ 1048576 := by omega
  have h0 : Laid4 w g n 0 f := by
    obtain ⟨cur, h1, h2, h3⟩ := h
    exact ⟨cur, h1, h2, fun i hi => by omega⟩
  clear h
  go_enter Try.func24, Try.ntmps24
  go_wp2_with fail
  go_loopw [1, 5] (fun s t wr => ∃ k : Nat, k ≤ n ∧ s = .int .i64 ((1 + 4 * k : Nat) : Int) ∧ t = .int .i64 k ∧ Laid4 wr g n 0 f ∧ Kept g w wr) (fun _ t _ => n - (intOf t).toNat)
  case atStart => exact ⟨0, Nat.zero_le _, rfl, rfl, h0, Kept.refl _ _⟩
  case round =>
    clear h0
    obtain ⟨k, hk, rfl, rfl, L, K⟩ := hrel
    by_cases hlt : k < n
    · have hlt' : (k : Int) < (n : Int) := by omega
      obtain ⟨X, hX⟩ : ∃ X : Int, ((1 + 4 * k : Nat) : Int) = X := ⟨_, rfl⟩
      have hX1 : 0 ≤ X ∧ X ≤ 20000000 := by omega
      rw [hX]
      obtain ⟨d0, f0⟩ := L.cells (j := k * 4) (by omega)
      obtain ⟨d1, f1⟩ := L.cells (j := k * 4 + 1) (by omega)
      obtain ⟨d2, f2⟩ := L.cells (j := k * 4 + 2) (by omega)
      obtain ⟨d3, f3⟩ := L.cells (j := k * 4 + 3) (by omega)
      have HL : Hid (Laid4 wr g n 0 f) := L
      clear L
      go_wp2
      exact ⟨⟨k + 1, by omega, by rw [show X + 1 + 1 + 1 + 1 = ((1 + 4 * (k + 1) : Nat) : Int) by omega], by go_num, (((HL.out.set0 _ _).set0 _ _).set0 _ _).set0 _ _, (((K.set _).set _).set _).set _⟩, by simp [intOf]; omega⟩
    · have hlt' : ¬ (k : Int) < (n : Int) := by omega
      go_wp2
      go_ret
      exact ⟨_, rfl, by omega, ⟨K.os, K.tape, K.output, K.size, fun k hk hd => K.block k hk (by omega)⟩⟩
end Go.Proofs.Ytmpakpdbkojkaaa
