/-
  Shows, by the program, of what is no shape; and whole.
-/
import Derived.Test.YtealbihplfpgeaaKp
namespace Go.Proofs.Ytealbihplfpgeaa
open Go.RowKit Go.Shelf Go.Sort Go.Lib

set_option maxRecDepth 100000 in
theorem countNone (a b e : Int) (g c : Nat) (w : World) : Calls Try.prog 34 #[fV a b e, .slice (some ⟨g, 0, none⟩) 0 c] w fun r w' => r = .returned (.int .i64 0) ∧ Below w.heap.size w w' := by
  obtain ⟨W, hW, A0, B0, -⟩ := boxed w 35 #[.int .i64 a, .int .i64 b, .int .i64 e]
  go_enter Try.func34, Try.ntmps34
  go_wp2
  go_loopw [5, 10] (fun s5 s wr => s5 = .int .i64 0 ∧ s = .int .i64 0 ∧ Below w.heap.size w wr) (fun _ _ _ => 0)
  case atStart => exact ⟨rfl, rfl, B0⟩
  case round =>
    obtain ⟨rfl, rfl, B⟩ := hrel
    go_wp2
    go_ret
    exact ⟨rfl, B⟩
set_option maxRecDepth 100000 in
theorem implCorners_no {w : World} {g n c : Nat} {f : Nat → Int} (S : ¬ SOk n f) (h : Trips w g n f) (hc : n ≤ c) (hn : n ≤ 1048576) :
    Calls Try.prog 13 #[.slice (some ⟨g, 0, none⟩) n c] w fun e w' => ∃ g', e = .returned (.slice (some ⟨g', 0, none⟩) 0 0) ∧ Gat w w' w.heap.size 33 3 (.slice (some ⟨g', 0, none⟩) 0 0) 0 [] := by
  have hbs : ∀ w, (Instr.buildSlice 30 0 #[]).run Try.prog w = .ok (.slice (some ⟨w.heap.size, 0, none⟩) 0 0) (w.alloc (.cells #[] 33)) := fun _ => by kernel_rfl
  go_enter Try.func13, Try.ntmps13
  go_wp2_with fail
  refine (implShape_any h hc hn false ⟨fun h => Bool.noConfusion h, fun h => absurd h S⟩).mono ?_
  rintro e w1 ⟨rfl, b1⟩
  obtain ⟨V, hV, A0, B, -⟩ := boxed w1 33 #[]
  have R : Gat w1 V w1.heap.size 33 3 (.slice (some ⟨w1.heap.size, 0, none⟩) 0 0) 0 [] := Gat.start A0 B
  have R' : Gat w V w.heap.size 33 3 (.slice (some ⟨w1.heap.size, 0, none⟩) 0 0) 0 [] := by
    refine ⟨?_, R.nn, b1.trans (R.b.mono b1.size), Nat.le_refl _, Nat.le_trans b1.size R.b.size⟩
    refine ⟨R.own.1, ?_⟩
    rcases R.own.2 with z | ⟨g, c, cur, e, hb, r⟩
    · exact .inl z
    · exact .inr ⟨g, c, cur, e, Nat.le_trans b1.size hb, r⟩
  go_wp2
  exact bodyPost_ret (v := .slice (some ⟨w1.heap.size, 0, none⟩) 0 0) (by simp [results, Try.results13, go_sem]) rfl ⟨_, rfl, R'⟩
set_option maxRecDepth 100000 in
set_option maxHeartbeats 4000000 in
theorem implShows_no {w : World} {g n c : Nat} {f : Nat → Int} (S : ¬ SOk n f) (h : Trips w g n f) (hc : n ≤ c) (hn : n ≤ 1048576) :
    Calls Try.prog 11 #[.slice (some ⟨g, 0, none⟩) n c] w fun e w' => ∃ v, e = .returned v ∧ Gat w w' w.heap.size 2 1 v 0 [] := by
  have hn' : (n : Int) ≤ 1048576 := by omega
  obtain ⟨V, hV, A0, B, -⟩ := boxed w 2 #[]
  have R : Gat w V w.heap.size 2 1 (.slice (some ⟨w.heap.size, 0, none⟩) 0 0) 0 [] := Gat.start A0 B
  have hbs : ∀ w, (Instr.buildSlice 27 0 #[]).run Try.prog w = .ok (.slice (some ⟨w.heap.size, 0, none⟩) 0 0) (w.alloc (.cells #[] 2)) := fun _ => by kernel_rfl
  go_enter Try.func11, Try.ntmps11
  go_wp2_with fail
  refine (implCorners_no S (h.below B) hc hn).mono ?_
  rintro e w1 ⟨gk, rfl, G1⟩
  replace R := R.below G1.b
  have CK : C3 w1 gk 0 #[] := by
    have q := (Gat.c3 (f := f) (l := []) G1).1
    exact q
  clear G1 hV A0 B
  go_wp2
  go_loopw [3, 12] (fun s t wr => s = .slice (some ⟨w.heap.size, 0, none⟩) 0 0 ∧ ∃ k : Nat, k ≤ n ∧ t = .int .i64 (k : Int) ∧ Gat w wr w.heap.size 2 1 (.slice (some ⟨w.heap.size, 0, none⟩) 0 0) 0 [] ∧ C3 wr gk 0 #[]) (fun _ t _ => n - (intOf t).toNat)
  case atStart => exact ⟨rfl, 0, Nat.zero_le _, rfl, R, CK⟩
  case round =>
    clear R CK
    obtain ⟨rfl, k, hk', rfl, R, CK⟩ := hrel
    by_cases hk : k < n
    · have hklt : (k : Int) < (n : Int) := by omega
      have L := h.below R.b
      have lg := L.1
      have c0 := L.2 (k * 3) (by omega)
      have c1 := L.2 (k * 3 + 1) (by omega)
      have c2 := L.2 (k * 3 + 2) (by omega)
      obtain ⟨x0, e0⟩ : ∃ z, f (k * 3) = z := ⟨_, rfl⟩
      obtain ⟨x1, e1⟩ : ∃ z, f (k * 3 + 1) = z := ⟨_, rfl⟩
      obtain ⟨x2, e2⟩ : ∃ z, f (k * 3 + 2) = z := ⟨_, rfl⟩
      rw [e0] at c0
      rw [e1] at c1
      rw [e2] at c2
      clear e0 e1 e2 L
      obtain ⟨V0, hV0, Q0, q2, s0⟩ := boxed wr 35 #[.int .i64 0, .int .i64 0, .int .i64 0]
      obtain ⟨z0, z1, z2, z3, z4, z5⟩ := Q0.open3
      obtain ⟨V, hV⟩ : ∃ V, ((V0.setCell ⟨wr.heap.size, 0, none⟩ (.int .i64 x0)).setCell ⟨wr.heap.size, 1, none⟩ (.int .i64 x1)).setCell ⟨wr.heap.size, 2, none⟩ (.int .i64 x2) = V := ⟨_, rfl⟩
      have A1 : At 35 V wr.heap.size #[.int .i64 x0, .int .i64 x1, .int .i64 x2] := by rw [← hV]; exact put3c Q0 _ _ _
      have B2 : Below wr.heap.size wr V := by rw [← hV]; exact below_put3c q2 (Nat.le_refl _) _ _ _
      replace R := R.below B2
      replace CK := CK.below B2
      obtain ⟨r0, r1, r2, -⟩ := A1.open3
      have CO := countNone x0 x1 x2 gk 0 V
      clear Q0 q2 s0 B2 A1
      go_wp2_with fail
      refine CO.mono ?_
      rintro e w2 ⟨rfl, b2⟩
      replace R := R.below b2
      replace CK := CK.below b2
      clear b2 hV0 hV z0 z1 z2 z3 z4 z5 r0 r1 r2 c0 c1 c2 CO
      go_wp2
      exact ⟨⟨rfl, k + 1, by omega, by go_num, R, CK⟩, by simp [intOf]; omega⟩
    · have hklt : ¬ (k : Int) < (n : Int) := by omega
      obtain rfl : k = n := by omega
      go_wp2
      exact bodyPost_ret (v := .slice (some ⟨w.heap.size, 0, none⟩) 0 0) (by simp [results, Try.results11, go_sem]) rfl ⟨_, rfl, R⟩
end Go.Proofs.Ytealbihplfpgeaa
