/-
  The frames' group by the program: walked.
-/
import Derived.Test.YtgjhbkpocbihbaaB18a
import Derived.Test.YtgjhbkpocbihbaaMN
namespace Go.Proofs.Ytgjhbkpocbihbaa
open Go.RowKit

theorem openL {t : TypeId} {w : World} {q : Nat} {v0 v1 v2 v3 v4 v5 v6 v7 v8 v9 v10 v11 : Value} (h : At t w q #[v0, v1, v2, v3, v4, v5, v6, v7, v8, v9, v10, v11]) : w.cell? ⟨q, 0, none⟩ = some v0 ∧ w.cell? ⟨q, 1, none⟩ = some v1 ∧ w.cell? ⟨q, 2, none⟩ = some v2 ∧ w.cell? ⟨q, 3, none⟩ = some v3 ∧ w.cell? ⟨q, 4, none⟩ = some v4 ∧ w.cell? ⟨q, 5, none⟩ = some v5 ∧ w.cell? ⟨q, 6, none⟩ = some v6 ∧ w.cell? ⟨q, 7, none⟩ = some v7 ∧ w.cell? ⟨q, 8, none⟩ = some v8 ∧ w.cell? ⟨q, 9, none⟩ = some v9 ∧ w.cell? ⟨q, 10, none⟩ = some v10 ∧ w.cell? ⟨q, 11, none⟩ = some v11 :=
  ⟨h.cell 0 rfl, h.cell 1 rfl, h.cell 2 rfl, h.cell 3 rfl, h.cell 4 rfl, h.cell 5 rfl, h.cell 6 rfl, h.cell 7 rfl, h.cell 8 rfl, h.cell 9 rfl, h.cell 10 rfl, h.cell 11 rfl⟩
/-- How frameGroup ends. -/
def FgE (w : World) (e : Ending) (w' : World) : Prop :=
  (∃ (v : Value) (m : Nat) (ix : Nat → Nat), e = .returned v ∧ Oprs w' w.heap.size v m (fun j => frK (ix j)) ∧ m ≤ 192 ∧ (∀ j, j < m → ix j ∈ vlF) ∧ ∀ i, i ∈ vlF → ∃ j, j < m ∧ ix j = i) ∧ Below w.heap.size w w'
theorem Oprs.congrV {w : World} {base n : Nat} {v : Value} {F G : Nat → Nat → Int} (h : Oprs w base v n F) (e : ∀ i, i < n → kV (F i) = kV (G i)) : Oprs w base v n G := by
  have : kCells F n = kCells G n := kCells_congr (fun i hi j hj => lexC_zero.1 (kV_inj.1 (e i hi)) j hj)
  refine ⟨?_, h.2⟩
  rw [← this]
  exact h.1
set_option maxRecDepth 100000 in
set_option maxHeartbeats 2000000 in
theorem frameGroup_any (w : World) : Calls Try.prog 16 #[] w fun e w' => FgE w e w' := by
  have hbs : ∀ w, (Instr.buildSlice 38 3 #[(0, .agg #[.int .i64 (-1), .int .i64 0, .int .i64 0, .int .i64 0, .int .i64 1, .int .i64 0, .int .i64 0, .int .i64 0, .int .i64 1, .int .i64 0, .int .i64 0, .int .i64 0]), (1, .agg #[.int .i64 0, .int .i64 1, .int .i64 0, .int .i64 1, .int .i64 0, .int .i64 0, .int .i64 0, .int .i64 0, .int .i64 1, .int .i64 0, .int .i64 0, .int .i64 0]), (2, .agg #[.int .i64 0, .int .i64 0, .int .i64 1, .int .i64 1, .int .i64 0, .int .i64 0, .int .i64 0, .int .i64 1, .int .i64 0, .int .i64 0, .int .i64 0, .int .i64 0])]).run Try.prog w = .ok (.slice (some ⟨w.heap.size, 0, none⟩) 3 3) (w.alloc (.cells #[.int .i64 (-1), .int .i64 0, .int .i64 0, .int .i64 0, .int .i64 1, .int .i64 0, .int .i64 0, .int .i64 0, .int .i64 1, .int .i64 0, .int .i64 0, .int .i64 0, .int .i64 0, .int .i64 1, .int .i64 0, .int .i64 1, .int .i64 0, .int .i64 0, .int .i64 0, .int .i64 0, .int .i64 1, .int .i64 0, .int .i64 0, .int .i64 0, .int .i64 0, .int .i64 0, .int .i64 1, .int .i64 1, .int .i64 0, .int .i64 0, .int .i64 0, .int .i64 1, .int .i64 0, .int .i64 0, .int .i64 0, .int .i64 0] 46)) := fun _ => by kernel_rfl
  obtain ⟨W1, hW1, a1, b1, s1⟩ := boxed w 46 #[.int .i64 (-1), .int .i64 0, .int .i64 0, .int .i64 0, .int .i64 1, .int .i64 0, .int .i64 0, .int .i64 0, .int .i64 1, .int .i64 0, .int .i64 0, .int .i64 0]
  obtain ⟨q1, hq1⟩ : ∃ q, w.heap.size = q := ⟨_, rfl⟩
  obtain ⟨W2, hW2, a2, b2, s2⟩ := boxed W1 46 #[.int .i64 0, .int .i64 1, .int .i64 0, .int .i64 1, .int .i64 0, .int .i64 0, .int .i64 0, .int .i64 0, .int .i64 1, .int .i64 0, .int .i64 0, .int .i64 0]
  obtain ⟨q2, hq2⟩ : ∃ q, W1.heap.size = q := ⟨_, rfl⟩
  obtain ⟨W3, hW3, a3, b3, s3⟩ := boxed W2 46 #[.int .i64 0, .int .i64 0, .int .i64 1, .int .i64 1, .int .i64 0, .int .i64 0, .int .i64 0, .int .i64 1, .int .i64 0, .int .i64 0, .int .i64 0, .int .i64 0]
  obtain ⟨q3, hq3⟩ : ∃ q, W2.heap.size = q := ⟨_, rfl⟩
  obtain ⟨W4, hW4, a4, b4, -⟩ := boxed W3 46 #[.int .i64 (-1), .int .i64 0, .int .i64 0, .int .i64 0, .int .i64 1, .int .i64 0, .int .i64 0, .int .i64 0, .int .i64 1, .int .i64 0, .int .i64 0, .int .i64 0, .int .i64 0, .int .i64 1, .int .i64 0, .int .i64 1, .int .i64 0, .int .i64 0, .int .i64 0, .int .i64 0, .int .i64 1, .int .i64 0, .int .i64 0, .int .i64 0, .int .i64 0, .int .i64 0, .int .i64 1, .int .i64 1, .int .i64 0, .int .i64 0, .int .i64 0, .int .i64 1, .int .i64 0, .int .i64 0, .int .i64 0, .int .i64 0]
  obtain ⟨q4, hq4⟩ : ∃ q, W3.heap.size = q := ⟨_, rfl⟩
  have B3 := (b1.trans (b2.mono b1.size)).trans (b3.mono (b1.trans (b2.mono b1.size)).size)
  have B4 := B3.trans (b4.mono B3.size)
  have hb : w.heap.size ≤ q4 := by rw [← hq4]; exact B3.size
  rw [hq4] at a4
  have OP : Hid (Oprs W4 w.heap.size (.slice (some ⟨q4, 0, none⟩) 3 3) 3 gnK) := ⟨⟨rfl, .inr ⟨q4, 3, _, rfl, hb, a4, Nat.le_refl _, by unfold maxLen; omega, rfl, rfl⟩⟩, ne_nil _ _ _⟩
  rw [hq1] at a1
  rw [hq2] at a2
  rw [hq3] at a3
  have A1 := a1.below b2
  have A1' := A1.below b3
  have A2 := a2.below b3
  obtain ⟨c0, c1, c2, c3, c4, c5, c6, c7, c8, c9, c10, c11⟩ := openL A1'
  obtain ⟨d0, d1, d2, d3, d4, d5, d6, d7, d8, d9, d10, d11⟩ := openL A2
  obtain ⟨e0, e1, e2, e3, e4, e5, e6, e7, e8, e9, e10, e11⟩ := openL a3
  have HB4 := hid_of B4
  have HW1 := hid_of hW1
  have HW2 := hid_of hW2
  have HW3 := hid_of hW3
  have HW4 := hid_of hW4
  have HQ4 : Hid (w.heap.size + 1 + 1 + 1 = q4) := hid_of (by omega)
  clear a1 a2 a3 a4 A1 A1' A2 b1 b2 b3 b4 B3 B4 hb c0 c1 c2 c3 c4 c5 c6 c7 c8 c9 c10 c11 d0 d1 d2 d3 d4 d5 d6 d7 d8 d9 d10 d11 e0 e1 e2 e3 e4 e5 e6 e7 e8 e9 e10 e11 hW1 hW2 hW3 hW4 hq1 hq2 hq3 hq4 s1 s2 s3
  go_enter Try.func16, Try.ntmps16
  go_wp2_with fail
  rw [HW1.out, HW2.out, HW3.out, HW4.out, HQ4.out]
  refine (closureOf_any OP.out gn_R (by omega)).mono ?_
  rintro e w5 ⟨hres, b5⟩
  have B5 := HB4.out.trans (b5.mono HB4.out.size)
  rcases hres with ⟨v, m, G, L, ks, rfl, hO, hm, hnd, hp, hs, hM⟩ | ⟨v, G, rfl, hO, hN⟩
  rotate_left
  · exact absurd (NoG.bad gn_R hN) fr_notBad
  have FI : Hid (FgE w (.returned v) w5) := by
    have H : ∀ j, ∃ i, j < m → i ∈ vlF ∧ kV (G j) = kV (frK i) := fun j => by
      by_cases hj : j < m
      · have h1 : kV (G j) ∈ ks.map kV := hp.mem_iff.1 (List.mem_map_of_mem (List.mem_map.2 ⟨j, List.mem_range.2 hj, rfl⟩))
        obtain ⟨x, hx, ex⟩ := List.mem_map.1 h1
        obtain ⟨i, hi, e⟩ := reachL_fr (Reach.left gn_R hM.of (hM.grows.reach x hx))
        exact ⟨i, fun _ => ⟨hi, ex.symm.trans e⟩⟩
      · exact ⟨0, fun h => absurd h hj⟩
    have hC := fun j hj => Classical.choose_spec (H j) hj
    refine ⟨⟨v, m, fun j => Classical.choose (H j), rfl, (oprs_base hO HB4.out.size).congrV (fun i hi => (hC i hi).2), by rw [hm]; exact hM.grows.few, fun j hj => (hC j hj).1, fun i hi => ?_⟩, B5⟩
    have h1 : kV (frK i) ∈ ((List.range m).map G).map kV := hp.mem_iff.2 (hM.hasL (fr_reach hi))
    obtain ⟨x, hx, ex⟩ := List.mem_map.1 h1
    obtain ⟨j, hj, rfl⟩ := List.mem_map.1 hx
    have hj' := List.mem_range.1 hj
    exact ⟨j, hj', fr_inj _ (hC j hj').1 _ hi (kV_eqb ((hC j hj').2.symm.trans ex))⟩
  clear hO hm hnd hp hs hM b5 OP HW1 HW2 HW3 HW4 HQ4 B5
  go_wp2
  go_ret
  exact FI.out
end Go.Proofs.Ytgjhbkpocbihbaa
