/-
  The frames by the specification: a list of operators, walked.
-/
import Derived.Test.YtpolnkjmojofoaaGreatNL
import Derived.Test.YtpolnkjmojofoaaGreatNV
import Derived.Test.YtpolnkjmojofoaaGreatMR
import Derived.BigRegion
namespace Go.Proofs.YtpolnkjmojofoaaGreat
open Go.RowKit

/-- A list of one's own, of any numbers. -/
def Lz (w : World) (g n : Nat) : Prop := ∃ cur : Array Value, At 2 w g cur ∧ cur.size = n ∧ ∀ i, i < n → ∃ x : Int, cur[i]? = some (.int .i64 x)
theorem Lz.lt {w : World} {g n : Nat} (h : Lz w g n) : g < w.heap.size := by
  obtain ⟨cur, h1, -⟩ := h
  exact h1.lt
theorem Lz.below {w w' : World} {g n : Nat} (h : Lz w g n) (hb : Below w.heap.size w w') : Lz w' g n := by
  obtain ⟨cur, h1, h2⟩ := h
  exact ⟨cur, h1.below hb, h2⟩
theorem Lz.open {w : World} {g n i : Nat} (h : Lz w g n) (hi : i < n) : ∃ x : Int, w.cell? ⟨g, i, none⟩ = some (.int .i64 x) ∧ w.frozen? ⟨g, i, none⟩ = false := by
  obtain ⟨cur, h1, h2, h3⟩ := h
  obtain ⟨x, hx⟩ := h3 i hi
  exact ⟨x, h1.cell i hx, h1.frozen i⟩
theorem Lz.set {w : World} {g n i : Nat} (h : Lz w g n) (hi : i < n) (x : Int) : Lz (w.setCell ⟨g, i, none⟩ (.int .i64 x)) g n := by
  obtain ⟨cur, h1, h2, h3⟩ := h
  refine ⟨_, h1.set i _, by simpa using h2, fun j hj => ?_⟩
  rw [Array.getElem?_setIfInBounds]
  by_cases e : i = j
  · subst e; rw [if_pos rfl, if_pos (by omega)]; exact ⟨x, rfl⟩
  · rw [if_neg e]; exact h3 j hj
theorem Lz.other {w : World} {g n q i : Nat} (h : Lz w g n) (hq : g ≠ q) (v : Value) : Lz (w.setCell ⟨q, i, none⟩ v) g n := by
  obtain ⟨cur, h1, h2⟩ := h
  exact ⟨cur, h1.setOther hq v, h2⟩
theorem Lz.made {w : World} {g n : Nat} (h : Lz w g n) : ∃ f, Made w g n n f := by
  obtain ⟨cur, h1, h2, h3⟩ := h
  have H : ∀ i, ∃ x : Int, i < n → cur[i]? = some (.int .i64 x) := fun i => by
    by_cases hi : i < n
    · obtain ⟨x, hx⟩ := h3 i hi
      exact ⟨x, fun _ => hx⟩
    · exact ⟨0, fun h => absurd h hi⟩
  exact ⟨fun i => Classical.choose (H i), cur, h1, h2, fun i hi => Classical.choose_spec (H i) hi⟩
/-- What is told of frames. -/
def FrmP (w : World) (e : Ending) (w' : World) : Prop := ∃ g m c X Y A, e = .returned (.slice (some ⟨g, 0, none⟩) m c) ∧ OpsP w' w.heap.size (.slice (some ⟨g, 0, none⟩) m c) m X Y A ∧ (1 ≤ m ∧ m ≤ 512) ∧ Below w.heap.size w w'
set_option maxRecDepth 100000 in
set_option maxHeartbeats 6400000 in
theorem frames_any (w : World) : Calls Tryz.prog 41 #[] w (FrmP w) := by
  have hbs : ∀ w, (Instr.buildSlice 24 0 #[]).run Tryz.prog w = .ok (.slice (some ⟨w.heap.size, 0, none⟩) 0 0) (w.alloc (.cells #[] 31)) := fun _ => by kernel_rfl
  have hb3 : ∀ w, (Instr.buildSlice 29 3 #[(0, .int .i64 0), (1, .int .i64 0), (2, .int .i64 0)]).run Tryz.prog w = .ok (.slice (some ⟨w.heap.size, 0, none⟩) 3 3) (w.alloc (.cells #[.int .i64 0, .int .i64 0, .int .i64 0] 2)) := fun _ => by kernel_rfl
  have hmk : ∀ w, (Instr.makeSlice 29 (.int .i64 9) (.int .i64 9)).run Tryz.prog w = .ok (.slice (some ⟨w.heap.size, 0, none⟩) 9 9) (w.alloc (.cells #[.int .i64 0, .int .i64 0, .int .i64 0, .int .i64 0, .int .i64 0, .int .i64 0, .int .i64 0, .int .i64 0, .int .i64 0] 2)) := fun _ => by kernel_rfl
  obtain ⟨V, hV, a1, B1, -⟩ := boxed w 31 #[]
  obtain ⟨g0, hg0⟩ : ∃ q, w.heap.size = q := ⟨_, rfl⟩
  have O1 : Hid (∃ X Y A, OpsP V w.heap.size (.slice (some ⟨g0, 0, none⟩) 0 0) 0 X Y A) := by
    rw [← hg0]
    exact ⟨fun _ => undef, fun _ => undef, fun _ => ⟨9, fun _ => 0, 3, fun _ => 0⟩, ⟨⟨rfl, .inr ⟨w.heap.size, 0, #[], rfl, Nat.le_refl _, a1, Nat.le_refl _, Nat.zero_le _, rfl, rfl⟩⟩, ne_nil _ _ _, fun i hi => by omega, fun i hi => by omega, fun i hi => by omega⟩⟩
  have HB1 : Hid (Below w.heap.size w V) := B1
  clear a1 B1
  go_enter Tryz.func41, Tryz.ntmps41
  go_wp2
  clear hV hg0
  go_loopw [1, 2] (fun v s wr => ∃ (i m : Nat), i ≤ 512 ∧ s = .int .i64 (i : Int) ∧ m ≤ i ∧ (20 < i → 1 ≤ m) ∧ Hid (∃ X Y A, OpsP wr w.heap.size v m X Y A) ∧ Hid (Below w.heap.size w wr)) (fun _ s _ => 512 - (intOf s).toNat)
  case atStart => exact ⟨0, 0, by omega, rfl, Nat.le_refl _, by omega, O1, HB1⟩
  case round =>
    clear O1 HB1
    obtain ⟨i, m, hi, rfl, hmi, hm20, O, HB⟩ := hrel
    by_cases hlt : i < 512
    rotate_left
    · have hlt' : ¬ (i : Int) < 512 := by omega
      obtain ⟨X, Y, A, P⟩ := O.out
      obtain ⟨g, c, rfl, -, -⟩ := P.opsL
      have N : Hid (FrmP w (.returned (.slice (some ⟨g, 0, none⟩) m c)) wr) := ⟨g, m, c, X, Y, A, rfl, P, ⟨by omega, by omega⟩, HB.out⟩
      clear P O HB
      go_wp2
      go_ret
      exact N.out
    have hlt' : (i : Int) < 512 := by omega
    obtain ⟨x, hx⟩ : ∃ x, i % 8 = x := ⟨_, rfl⟩
    obtain ⟨i8, hi8⟩ : ∃ i8, i / 8 = i8 := ⟨_, rfl⟩
    obtain ⟨y, hy⟩ : ∃ y, i8 % 8 = y := ⟨_, rfl⟩
    obtain ⟨z, hz⟩ : ∃ z, i / 64 = z := ⟨_, rfl⟩
    obtain ⟨a, ha⟩ : ∃ a, x / 2 = a := ⟨_, rfl⟩
    obtain ⟨b, hb⟩ : ∃ b, y / 2 = b := ⟨_, rfl⟩
    obtain ⟨c, hc⟩ : ∃ c, z / 2 = c := ⟨_, rfl⟩
    have e1 : (i : Int) % 8 = (x : Int) := by omega
    have e1' : Int.tmod (i : Int) 8 = (x : Int) := by rw [Int.tmod_eq_emod_of_nonneg (by omega)]; omega
    have e2 : (i8 : Int) % 8 = (y : Int) := by omega
    have e2' : Int.tmod (i8 : Int) 8 = (y : Int) := by rw [Int.tmod_eq_emod_of_nonneg (by omega)]; omega
    have e0 : (i : Int) / 8 = (i8 : Int) := by omega
    have e0' : Int.tdiv (i : Int) 8 = (i8 : Int) := by rw [Int.tdiv_eq_ediv_of_nonneg (by omega)]; omega
    have e3 : (i : Int) / 64 = (z : Int) := by omega
    have e3' : Int.tdiv (i : Int) 64 = (z : Int) := by rw [Int.tdiv_eq_ediv_of_nonneg (by omega)]; omega
    have e4 : (x : Int) / 2 = (a : Int) := by omega
    have e4' : Int.tdiv (x : Int) 2 = (a : Int) := by rw [Int.tdiv_eq_ediv_of_nonneg (by omega)]; omega
    have e5 : (y : Int) / 2 = (b : Int) := by omega
    have e5' : Int.tdiv (y : Int) 2 = (b : Int) := by rw [Int.tdiv_eq_ediv_of_nonneg (by omega)]; omega
    have e6 : (z : Int) / 2 = (c : Int) := by omega
    have e6' : Int.tdiv (z : Int) 2 = (c : Int) := by rw [Int.tdiv_eq_ediv_of_nonneg (by omega)]; omega
    have H20 : Hid (i = 20 → a = 2 ∧ b = 1 ∧ c = 0) := fun h => by omega
    have b8 : (i8 : Int) ≤ 64 := by omega
    clear hx hy hz ha hb hc hi8
    by_cases c1 : (2 : Int) < (a : Int)
    · go_wp2
      exact ⟨⟨i + 1, m, by omega, by go_num, by omega, fun h => by have := H20.out; omega, O, HB⟩, by simp [intOf]; omega⟩
    by_cases c2 : (2 : Int) < (b : Int)
    · go_wp2
      exact ⟨⟨i + 1, m, by omega, by go_num, by omega, fun h => by have := H20.out; omega, O, HB⟩, by simp [intOf]; omega⟩
    by_cases c3 : (2 : Int) < (c : Int)
    · go_wp2
      exact ⟨⟨i + 1, m, by omega, by go_num, by omega, fun h => by have := H20.out; omega, O, HB⟩, by simp [intOf]; omega⟩
    by_cases c4 : a = b
    · have h4 : ((a : Int) == (b : Int)) = true := by simp; omega
      go_wp2
      exact ⟨⟨i + 1, m, by omega, by go_num, by omega, fun h => by have := H20.out; omega, O, HB⟩, by simp [intOf]; omega⟩
    have h4 : ((a : Int) == (b : Int)) = false := by simp; omega
    by_cases c5 : a = c
    · have h5 : ((a : Int) == (c : Int)) = true := by simp; omega
      go_wp2
      exact ⟨⟨i + 1, m, by omega, by go_num, by omega, fun h => by have := H20.out; omega, O, HB⟩, by simp [intOf]; omega⟩
    have h5 : ((a : Int) == (c : Int)) = false := by simp; omega
    by_cases c6 : b = c
    · have h6 : ((b : Int) == (c : Int)) = true := by simp; omega
      go_wp2
      exact ⟨⟨i + 1, m, by omega, by go_num, by omega, fun h => by have := H20.out; omega, O, HB⟩, by simp [intOf]; omega⟩
    have h6 : ((b : Int) == (c : Int)) = false := by simp; omega
    clear H20
    obtain ⟨X, Y, A, P⟩ := O.out
    obtain ⟨g, cc, rfl, hlo, -⟩ := P.opsL
    obtain ⟨V9, hV9, a9, bb9, -⟩ := boxed wr 2 #[.int .i64 0, .int .i64 0, .int .i64 0, .int .i64 0, .int .i64 0, .int .i64 0, .int .i64 0, .int .i64 0, .int .i64 0]
    obtain ⟨g9, hg9⟩ : ∃ q, wr.heap.size = q := ⟨_, rfl⟩
    have HG9 : Hid (wr.heap.size = g9) := hg9
    rw [hg9] at a9
    obtain ⟨V3, hV3, a3, bb3, -⟩ := boxed V9 2 #[.int .i64 0, .int .i64 0, .int .i64 0]
    obtain ⟨g3, hg3⟩ : ∃ q, V9.heap.size = q := ⟨_, rfl⟩
    have l93 : g9 < g3 := by rw [← hg3]; exact a9.lt
    rw [hg3] at a3
    obtain ⟨V6, hV6, a6, bb6, -⟩ := boxed V3 31 #[.slice (some ⟨g9, 0, none⟩) 9 9, .slice (some ⟨g3, 0, none⟩) 3 3]
    obtain ⟨q6, hq6⟩ : ∃ q, V3.heap.size = q := ⟨_, rfl⟩
    have l36 : g3 < q6 := by rw [← hq6]; exact a3.lt
    rw [hq6] at a6
    have M00 : Lz V9 g9 9 := ⟨_, a9, rfl, fun i hi => by
      rcases (by omega : i = 0 ∨ i = 1 ∨ i = 2 ∨ i = 3 ∨ i = 4 ∨ i = 5 ∨ i = 6 ∨ i = 7 ∨ i = 8) with rfl | rfl | rfl | rfl | rfl | rfl | rfl | rfl | rfl <;> exact ⟨0, rfl⟩⟩
    have M0 : Lz V6 g9 9 := (M00.below bb3).below bb6
    have T00 : Lz V3 g3 3 := ⟨_, a3, rfl, fun i hi => by
      rcases (by omega : i = 0 ∨ i = 1 ∨ i = 2) with rfl | rfl | rfl <;> exact ⟨0, rfl⟩⟩
    have T0 : Lz V6 g3 3 := T00.below bb6
    have BB : Below wr.heap.size wr V6 := (bb9.trans (bb3.mono bb9.size)).trans (bb6.mono (bb9.trans (bb3.mono bb9.size)).size)
    obtain ⟨x1, hx1⟩ : ∃ x1, x % 2 = x1 := ⟨_, rfl⟩
    obtain ⟨y1, hy1⟩ : ∃ y1, y % 2 = y1 := ⟨_, rfl⟩
    obtain ⟨z1, hz1⟩ : ∃ z1, z % 2 = z1 := ⟨_, rfl⟩
    have m1 : (x : Int) % 2 = (x1 : Int) := by omega
    have m1' : Int.tmod (x : Int) 2 = (x1 : Int) := by rw [Int.tmod_eq_emod_of_nonneg (by omega)]; omega
    have m2 : (y : Int) % 2 = (y1 : Int) := by omega
    have m2' : Int.tmod (y : Int) 2 = (y1 : Int) := by rw [Int.tmod_eq_emod_of_nonneg (by omega)]; omega
    have m3 : (z : Int) % 2 = (z1 : Int) := by omega
    have m3' : Int.tmod (z : Int) 2 = (z1 : Int) := by rw [Int.tmod_eq_emod_of_nonneg (by omega)]; omega
    obtain ⟨b3, hb3⟩ : ∃ b3, 3 + b = b3 := ⟨_, rfl⟩
    obtain ⟨c6', hc6⟩ : ∃ c6', 6 + c = c6' := ⟨_, rfl⟩
    have q1 : (3 : Int) + (b : Int) = (b3 : Int) := by omega
    have q2 : (6 : Int) + (c : Int) = (c6' : Int) := by omega
    have q3 : (b3 : Int) < 9 := by omega
    have q4 : (c6' : Int) < 9 := by omega
    have n3 : b3 < 9 := by omega
    have n4 : c6' < 9 := by omega
    clear hb3 hc6
    obtain ⟨u1, k1, f1⟩ := M0.open (i := a) (by omega)
    have M1 := M0.set (i := a) (by omega) (1 - 2 * (x1 : Int))
    have A1 := a6.setOther (p := g9) (i := a) (by omega) (.int .i64 (1 - 2 * (x1 : Int)))
    have T1 := T0.other (q := g9) (i := a) (by omega) (.int .i64 (1 - 2 * (x1 : Int)))
    have B7 := BB.setCell (p := ⟨g9, a, none⟩) (by show wr.heap.size ≤ g9; omega) (.int .i64 (1 - 2 * (x1 : Int)))
    obtain ⟨W7, hW7⟩ : ∃ W, V6.setCell ⟨g9, a, none⟩ (.int .i64 (1 - 2 * (x1 : Int))) = W := ⟨_, rfl⟩
    rw [hW7] at M1 A1 T1 B7
    obtain ⟨u2, k2, f2⟩ := M1.open (i := b3) (by omega)
    have M2 := M1.set (i := b3) (by omega) (1 - 2 * (y1 : Int))
    have A2 := A1.setOther (p := g9) (i := b3) (by omega) (.int .i64 (1 - 2 * (y1 : Int)))
    have T2 := T1.other (q := g9) (i := b3) (by omega) (.int .i64 (1 - 2 * (y1 : Int)))
    have B8 := B7.setCell (p := ⟨g9, b3, none⟩) (by show wr.heap.size ≤ g9; omega) (.int .i64 (1 - 2 * (y1 : Int)))
    obtain ⟨W8, hW8⟩ : ∃ W, W7.setCell ⟨g9, b3, none⟩ (.int .i64 (1 - 2 * (y1 : Int))) = W := ⟨_, rfl⟩
    rw [hW8] at M2 A2 T2 B8
    obtain ⟨u3, k3, f3⟩ := M2.open (i := c6') (by omega)
    have M3 := M2.set (i := c6') (by omega) (1 - 2 * (z1 : Int))
    have A3 := A2.setOther (p := g9) (i := c6') (by omega) (.int .i64 (1 - 2 * (z1 : Int)))
    have T3 := T2.other (q := g9) (i := c6') (by omega) (.int .i64 (1 - 2 * (z1 : Int)))
    have B9 := B8.setCell (p := ⟨g9, c6', none⟩) (by show wr.heap.size ≤ g9; omega) (.int .i64 (1 - 2 * (z1 : Int)))
    obtain ⟨W9, hW9⟩ : ∃ W, W8.setCell ⟨g9, c6', none⟩ (.int .i64 (1 - 2 * (z1 : Int))) = W := ⟨_, rfl⟩
    rw [hW9] at M3 A3 T3 B9
    obtain ⟨d0, d1, -⟩ := a6.open2
    obtain ⟨d2, d3, -⟩ := A1.open2
    obtain ⟨d4, d5, -⟩ := A2.open2
    obtain ⟨d6, d7, -⟩ := A3.open2
    obtain ⟨f, Mf⟩ := M3.made
    obtain ⟨h, Th⟩ := T3.made
    have hwr : w.heap.size ≤ wr.heap.size := HB.out.size
    have HB9 : Hid (Below w.heap.size w W9) := HB.out.trans (B9.mono HB.out.size)
    have own9 := P.below B9
    have R1 : Arr W9 w.heap.size W9.heap.size (.slice (some ⟨g9, 0, none⟩) 9 9) 9 f := arr_of_made Mf (Nat.le_refl _) (by omega)
    have R2 : Arr W9 w.heap.size W9.heap.size (.slice (some ⟨g3, 0, none⟩) 3 3) 3 h := arr_of_made Th (Nat.le_refl _) (by omega)
    have hm' : m ≤ 511 := by omega
    clear O P HB a9 a3 a6 bb9 bb3 bb6 M00 T00 M0 T0 M1 M2 M3 T1 T2 T3 A1 A2 A3 BB B7 B8 Mf Th hx1 hy1 hz1
    go_wp2_with fail
    refine (l4Put_any (o := ⟨9, f, 3, h⟩) own9 HB9.out.size R1 R2 ⟨rfl, rfl⟩ (by omega)).mono ?_
    rintro e w10 ⟨v10, cI, rfl, P8⟩
    have OF : Hid (∃ X Y A, OpsP w10 w.heap.size v10 (m + 1) X Y A) := ⟨_, _, _, P8.ops⟩
    have BF : Hid (Below w.heap.size w w10) := HB9.out.grown P8.grown HB9.out.size (fun q hq => by
      simp only [Value.ownBlock, Option.some.injEq] at hq
      omega)
    clear P8 own9 R1 R2 HB9 B9
    go_wp2
    exact ⟨⟨i + 1, m + 1, by omega, by go_num, by omega, fun _ => by omega, OF, BF⟩, by simp [intOf]; omega⟩
end Go.Proofs.YtpolnkjmojofoaaGreat
/-
  A group and an operator drawn to turn it: walked.
-/
namespace Go.Proofs.YtpolnkjmojofoaaGreat
open Go.RowKit

theorem At.keptP {t : TypeId} {w w' : World} {p q : Nat} {vs : Array Value} (h : At t w q vs) (hk : Kept p w w') (hq : q ≠ p) : At t w' q vs := (hk.block q h.lt hq).trans h

/-- A group and an operator handed out. -/
def TurG (w : World) (e : Ending) (w' : World) : Prop :=
  ∃ (g n c : Nat) (A : Nat → OpD) (a b : Option Addr) (c1 c2 : Nat) (o : OpD), e = .returned (.tuple #[.slice (some ⟨g, 0, none⟩) n c, .agg #[.slice a o.n c1, .slice b o.k c2]]) ∧ n ≤ 193 ∧ OpsL w' g n A ∧ (∀ i, i < n → (A i).n ≤ 9 ∧ (A i).k ≤ 9) ∧ Src w' a o.n o.f ∧ Src w' b o.k o.h ∧ (o.n ≤ 9 ∧ o.k ≤ 9) ∧ Below w.heap.size w w'
theorem nil2_atX {t : TypeId} {w : World} {q : Nat} {u0 u1 : Value} (h : At t w q #[u0, u1]) (v0 v1 : Value) : At t ((w.setCell ⟨q, 0, none⟩ v0).setCell ⟨q, 1, none⟩ v1) q #[v0, v1] := by
  simpa using (h.set 0 v0).set 1 v1
theorem Upon.trans2 {lo q : Nat} {w w' : World} (h : Upon lo w w') (hq : w.heap.size ≤ q) (u v : Value) : Upon lo w ((w'.setCell ⟨q, 0, none⟩ u).setCell ⟨q, 1, none⟩ v) := ⟨by simpa [World.setCell] using h.1, fun b h1 h2 => (Below.heap_setCell _ _ _ _ (by show b ≠ q; omega)).trans ((Below.heap_setCell _ _ _ _ (by show b ≠ q; omega)).trans (h.2 b h1 h2))⟩
set_option maxRecDepth 100000 in
set_option maxHeartbeats 3000000 in
theorem drawTurned_any {w : World} {a : Option Addr} {len cap : Nat} (hr : Row w w.heap.size a len) :
    Calls Tryz.prog 15 #[.slice a len cap] w (TurG w) := by
  obtain ⟨V, hV, b3, bb, -⟩ := boxed w 31 #[.slice none 0 0, .slice none 0 0]
  obtain ⟨q3, hq3⟩ : ∃ q, w.heap.size = q := ⟨_, rfl⟩
  have HQ : Hid (w.heap.size = q3) := hq3
  have HBB : Hid (Below w.heap.size w V) := bb
  rw [hq3] at b3
  have hr2 : Row V V.heap.size a len := hr.wide bb (Nat.le_refl _) bb.size
  clear hr bb
  go_enter Tryz.func15, Tryz.ntmps15
  go_wp2_with fail
  refine (new_any hr2).mono ?_
  rintro e w2 ⟨rfl, b2, hc⟩
  have hlt := b3.lt
  replace b3 := b3.below b2
  have HB2 : Hid (Below w.heap.size w w2) := HBB.out.trans (b2.mono HBB.out.size)
  obtain ⟨p, hp⟩ : ∃ q, V.heap.size = q := ⟨_, rfl⟩
  have HPP : Hid (w.heap.size ≤ p) := hp ▸ HBB.out.size
  rw [hp] at hc hlt ⊢
  have hpl : p < w2.heap.size := hc.lt
  clear hr2 b2 hV hq3 hp HBB
  go_wp2_with fail
  refine (draw4Any_dr hc).mono ?_
  rintro e w3 ⟨g, n, c, A, rfl, hn, L, D, K, Z⟩
  have hK : Hid (∀ w'', Upon w2.heap.size w3 w'' → OpsL w'' g n A) := K
  have HZ := hid_of Z
  have b3' := b3.keptP D.1 (by omega)
  have HB3 : Hid (Below w.heap.size w w3) := HB2.out.trans (D.1.below (N := w.heap.size) HPP.out HB2.out.size)
  have hc3 := D.2
  have hs3 : w2.heap.size ≤ w3.heap.size := D.1.size
  clear hc K b3 HB2 L D Z
  go_wp2_with fail
  refine (drawAny_dr hc3).mono ?_
  rintro e w4 ⟨o4, rfl, AO, D4⟩
  obtain ⟨x1, n1, y1, x2, n2, y2, f5, h5, rfl, s1, s2, hz1, hz2⟩ := AO
  have b4 := b3'.keptP D4.1 (by omega)
  have HB4 : Hid (Below w.heap.size w w4) := HB3.out.trans (D4.1.below (N := w.heap.size) HPP.out HB3.out.size)
  have HU4 : Hid (Upon w2.heap.size w3 w4) := Upon.of_kept D4.1 hpl
  have hs4 : w3.heap.size ≤ w4.heap.size := D4.1.size
  have hc4 := D4.2
  clear hc3 b3' HB3 D4
  obtain ⟨V6, hV6, b6, bb, -⟩ := boxed w4 31 #[.slice x1 n1 y1, .slice x2 n2 y2]
  obtain ⟨q6, hq6⟩ : ∃ q, w4.heap.size = q := ⟨_, rfl⟩
  have HQ6 : Hid (w4.heap.size = q6) := hq6
  rw [hq6] at b6
  have hlt6 := b6.lt
  have HU6 : Hid (Upon w2.heap.size w3 V6) := HU4.out.trans (Upon.below bb)
  have HB6 : Hid (Below w.heap.size w V6) := HB4.out.trans (bb.mono HB4.out.size)
  have hc6 := hc4.kept bb
  replace b4 := b4.below bb
  have S1 : Hid (∀ W', Upon w3.heap.size V6 W' → Src W' x1 n1 f5 ∧ Src W' x2 n2 h5) := fun W' hu => ⟨s1.upon ((Upon.below bb).trans hu), s2.upon ((Upon.below bb).trans hu)⟩
  clear HU4 HB4 hc4 bb s1 s2
  go_wp2_with fail
  refine (once_dr (Dr.start hc6) 2 (by omega) (by omega)).mono ?_
  rintro e w7 ⟨b7, rfl, D7⟩
  have b47 := b4.keptP D7.1 (by omega)
  have b67 := b6.keptP D7.1 (by omega)
  have HU7 : Hid (Upon w2.heap.size w3 w7) := HU6.out.trans (Upon.of_kept D7.1 hpl)
  have HB7 : Hid (Below w.heap.size w w7) := HB6.out.trans (D7.1.below (N := w.heap.size) HPP.out HB6.out.size)
  have S7 : Hid (∀ W', Upon w3.heap.size w7 W' → Src W' x1 n1 f5 ∧ Src W' x2 n2 h5) := fun W' hu => S1.out W' ((Upon.of_kept D7.1 (by omega)).trans hu)
  have hc7 := D7.2
  have hs7 : V6.heap.size ≤ w7.heap.size := D7.1.size
  clear hV6 hq6 HU6 HB6 hc6 b4 b6 S1 D7
  cases b7
  · skip
    obtain ⟨t0, t1, g0, g1⟩ := b47.open2
    obtain ⟨d0, d1, -⟩ := b67.open2
    have a9 := nil2_atX b47 (.slice x1 n1 y1) (.slice x2 n2 y2)
    obtain ⟨p0, p1, -⟩ := a9.open2
    have HUz : Hid (Upon w2.heap.size w3 ((w7.setCell ⟨q3, 0, none⟩ (.slice x1 n1 y1)).setCell ⟨q3, 1, none⟩ (.slice x2 n2 y2)).drew) := ((HU7.out.trans (Upon.set (by omega) _)).trans (Upon.set (by omega) _)).trans (Upon.below (Below.refl _ _).drew)
    have HBz : Hid (Below w.heap.size w ((w7.setCell ⟨q3, 0, none⟩ (.slice x1 n1 y1)).setCell ⟨q3, 1, none⟩ (.slice x2 n2 y2)).drew) := ((HB7.out.setCell (p := ⟨q3, 0, none⟩) (by show w.heap.size ≤ q3; rw [HQ.out]; exact Nat.le_refl _) _).setCell (p := ⟨q3, 1, none⟩) (by show w.heap.size ≤ q3; rw [HQ.out]; exact Nat.le_refl _) _).drew
    have HSz := hid_of (S7.out ((w7.setCell ⟨q3, 0, none⟩ (.slice x1 n1 y1)).setCell ⟨q3, 1, none⟩ (.slice x2 n2 y2)).drew (((Upon.set (by have := HQ6.out; omega) _).trans (Upon.set (by have := HQ6.out; omega) _)).trans (Upon.below (Below.refl _ _).drew)))
    have NN : Hid (TurG w (.returned (.tuple #[.slice (some ⟨g, 0, none⟩) n c, .agg #[.slice x1 n1 y1, .slice x2 n2 y2]])) ((w7.setCell ⟨q3, 0, none⟩ (.slice x1 n1 y1)).setCell ⟨q3, 1, none⟩ (.slice x2 n2 y2)).drew) := ⟨g, n, c, A, x1, x2, y1, y2, ⟨n1, f5, n2, h5⟩, rfl, hn, hK.out _ HUz.out, HZ.out, HSz.out.1, HSz.out.2, ⟨by show n1 ≤ 9; omega, by show n2 ≤ 9; omega⟩, HBz.out⟩
    clear HUz HBz HSz
    go_wp2_with fail
    go_region
    go_wp2
    refine bodyPost_ret (v := .tuple #[.slice (some ⟨g, 0, none⟩) n c, .agg #[.slice x1 n1 y1, .slice x2 n2 y2]]) (by simp [results, Tryz.results15, go_sem, p0, p1]) rfl NN.out
  · go_wp2_with fail
    refine (frames_any _).mono ?_
    rintro e w8 ⟨g8, m8, c8, X8, Y8, A8, rfl, P8, ⟨hm1, hm2⟩, b8⟩
    have b48 := b47.below b8
    have b68 := b67.below b8
    have HU8 : Hid (Upon w2.heap.size w3 w8) := HU7.out.trans (Upon.below b8)
    have HB8 : Hid (Below w.heap.size w w8) := HB7.out.trans (b8.mono HB7.out.size)
    have hc8 := hc7.kept b8
    have hs8 := b8.size
    clear b47 b67 HU7 HB7 hc7 b8 S7
    go_wp2_with fail
    refine (below_dr (Dr.start hc8) (m8 : Int) (by omega) (by omega)).mono ?_
    rintro e w9 ⟨jj, rfl, hj0, hj1, D9⟩
    obtain ⟨j, rfl⟩ : ∃ j : Nat, jj = (j : Int) := ⟨jj.toNat, by omega⟩
    have b49 := b48.keptP D9.1 (by omega)
    have b69 := b68.keptP D9.1 (by have := HQ6.out; omega)
    have HU9 : Hid (Upon w2.heap.size w3 w9) := HU8.out.trans (Upon.of_kept D9.1 hpl)
    have HB9 : Hid (Below w.heap.size w w9) := HB8.out.trans (D9.1.below (N := w.heap.size) HPP.out HB8.out.size)
    have P9 := P8.cur D9.1 (by have := HQ6.out; omega)
    have hs9 : w8.heap.size ≤ w9.heap.size := D9.1.size
    clear b48 b68 HU8 HB8 hc8 P8 D9
    obtain ⟨_, _, cur, es, hg8, a8, hcur⟩ := P9.open
    cases es
    obtain ⟨k0, k1⟩ := hcur j (by omega)
    obtain ⟨z1, l1, e1, -⟩ := (P9.xs j (by omega)).src
    obtain ⟨z2, l2, e2, -⟩ := (P9.ys j (by omega)).src
    rw [e1] at k0
    rw [e2] at k1
    have r0 := a8.cell _ k0
    have r1 := a8.cell _ k1
    have xs := P9.xs j (by omega)
    have ys := P9.ys j (by omega)
    rw [e1] at xs
    rw [e2] at ys
    obtain ⟨d0, d1, f0, f1⟩ := b69.open2
    have b6A := nil2_atX b69 (.slice z1 9 l1) (.slice z2 3 l2)
    have b4A := (b49.setOther (p := q6) (i := 0) (by have := HQ6.out; omega) (.slice z1 9 l1)).setOther (p := q6) (i := 1) (by have := HQ6.out; omega) (.slice z2 3 l2)
    have hqq : w7.heap.size ≤ w9.heap.size := by omega
    have HUA : Hid (Upon w2.heap.size w3 ((w9.setCell ⟨q6, 0, none⟩ (.slice z1 9 l1)).setCell ⟨q6, 1, none⟩ (.slice z2 3 l2))) := HU9.out.trans2 (by rw [← HQ6.out]; exact hs4) _ _
    have HBA : Hid (Below w.heap.size w ((w9.setCell ⟨q6, 0, none⟩ (.slice z1 9 l1)).setCell ⟨q6, 1, none⟩ (.slice z2 3 l2))) := (HB9.out.setCell (p := ⟨q6, 0, none⟩) (by show w.heap.size ≤ q6; have := HQ6.out; have := HPP.out; omega) _).setCell (p := ⟨q6, 1, none⟩) (by show w.heap.size ≤ q6; have := HQ6.out; have := HPP.out; omega) _
    have SA : Hid (∀ W', Upon w7.heap.size ((w9.setCell ⟨q6, 0, none⟩ (.slice z1 9 l1)).setCell ⟨q6, 1, none⟩ (.slice z2 3 l2)) W' → Src W' z1 9 (A8 j).f ∧ Src W' z2 3 (A8 j).h) := fun W' hu => by
      have hu9 : Upon w7.heap.size w9 W' := ((Upon.set (by omega) _).trans (Upon.set (by omega) _)).trans hu
      obtain ⟨u1, u2, e3, t3⟩ := arr_upon xs hu9
      obtain ⟨u3, u4, e4, t4⟩ := arr_upon ys hu9
      cases e3
      cases e4
      exact ⟨t3, t4⟩
    clear HU9 HB9 P9 hcur a8 k0 k1 e1 e2 xs ys b49 b69
    go_upto_region 7 with (fail)
    obtain ⟨WA, hWA⟩ : ∃ W, (w9.setCell ⟨q6, 0, none⟩ (.slice z1 9 l1)).setCell ⟨q6, 1, none⟩ (.slice z2 3 l2) = W := ⟨_, rfl⟩
    rw [hWA] at b6A b4A HUA HBA SA ⊢
    clear d0 d1 f0 f1 r0 r1 hWA
    obtain ⟨t0, t1, g0, g1⟩ := b4A.open2
    obtain ⟨d0, d1, -⟩ := b6A.open2
    have a9 := nil2_atX b4A (.slice z1 9 l1) (.slice z2 3 l2)
    obtain ⟨p0, p1, -⟩ := a9.open2
    have HUz : Hid (Upon w2.heap.size w3 ((WA.setCell ⟨q3, 0, none⟩ (.slice z1 9 l1)).setCell ⟨q3, 1, none⟩ (.slice z2 3 l2)).drew) := ((HUA.out.trans (Upon.set (by omega) _)).trans (Upon.set (by omega) _)).trans (Upon.below (Below.refl _ _).drew)
    have HBz : Hid (Below w.heap.size w ((WA.setCell ⟨q3, 0, none⟩ (.slice z1 9 l1)).setCell ⟨q3, 1, none⟩ (.slice z2 3 l2)).drew) := ((HBA.out.setCell (p := ⟨q3, 0, none⟩) (by show w.heap.size ≤ q3; rw [HQ.out]; exact Nat.le_refl _) _).setCell (p := ⟨q3, 1, none⟩) (by show w.heap.size ≤ q3; rw [HQ.out]; exact Nat.le_refl _) _).drew
    have HSz := hid_of (SA.out ((WA.setCell ⟨q3, 0, none⟩ (.slice z1 9 l1)).setCell ⟨q3, 1, none⟩ (.slice z2 3 l2)).drew (((Upon.set (by have := HQ6.out; omega) _).trans (Upon.set (by have := HQ6.out; omega) _)).trans (Upon.below (Below.refl _ _).drew)))
    have NN : Hid (TurG w (.returned (.tuple #[.slice (some ⟨g, 0, none⟩) n c, .agg #[.slice z1 9 l1, .slice z2 3 l2]])) ((WA.setCell ⟨q3, 0, none⟩ (.slice z1 9 l1)).setCell ⟨q3, 1, none⟩ (.slice z2 3 l2)).drew) := ⟨g, n, c, A, z1, z2, l1, l2, ⟨9, (A8 j).f, 3, (A8 j).h⟩, rfl, hn, hK.out _ HUz.out, HZ.out, HSz.out.1, HSz.out.2, ⟨by show 9 ≤ 9; omega, by show 3 ≤ 9; omega⟩, HBz.out⟩
    clear HUz HBz HSz
    go_wp2_with fail
    go_region
    go_wp2
    refine bodyPost_ret (v := .tuple #[.slice (some ⟨g, 0, none⟩) n c, .agg #[.slice z1 9 l1, .slice z2 3 l2]]) (by simp [results, Tryz.results15, go_sem, p0, p1]) rfl NN.out
end Go.Proofs.YtpolnkjmojofoaaGreat
