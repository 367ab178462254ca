/-
  Points: the program's and the specification's.
-/
import Derived.Test.YtiocneailhplkaaGreatMC
import Derived.Test.YtiocneailhplkaaGreatMD
import Derived.BigRegion
namespace Go.Proofs.YtiocneailhplkaaGreat
open Go.RowKit
def pV (x y z : Int) : Value := .agg #[.int .i64 x, .int .i64 y, .int .i64 z]
/-- A point of the cell. -/
def inP (x y z : Int) : Prop := (0 ≤ x ∧ x ≤ 23) ∧ (0 ≤ y ∧ y ≤ 23) ∧ (0 ≤ z ∧ z ≤ 23)
instance (x y z : Int) : Decidable (inP x y z) := by unfold inP; infer_instance
/-- What deed tells: the closure, its operator in a block of its own. -/
def dV (q : Nat) : Value := .func (.func 78) #[] #[.pointer (some ⟨q, 0, none⟩)]
theorem deed_any (f h : Nat → Int) (w : World) : Calls Tryz.prog 61 #[.agg (opA f h)] w fun e w' => e = .returned (dV w.heap.size) ∧ At 90 w' w.heap.size (opA f h) ∧ w'.heap.size = w.heap.size + 1 ∧ Below w.heap.size w w' := by
  obtain ⟨W, hW, b0, bW, z⟩ := boxed w 90 (opA f h)
  unfold opA at hW ⊢
  go_enter Tryz.func61, Tryz.ntmps61
  go_wp2
  go_ret
  exact ⟨rfl, b0, z, bW⟩
end Go.Proofs.YtiocneailhplkaaGreat
/-
  An operator's deed at a point: the closure walked.
-/
namespace Go.Proofs.YtiocneailhplkaaGreat
open Go.RowKit
/-- A point's numbers, one by one. -/
def p3 (x y z : Int) : Nat → Int
  | 0 => x
  | 1 => y
  | _ => z
/-- Where an operator takes a point. -/
def actV (f h p : Nat → Int) : Nat → Int := fun i => (movV f p i + h i) % 24
def apart (f h p : Nat → Int) (i : Nat) : Nat → Int := fun k => if k < i then actV f h p k else movV f p k
theorem apart0 (f h p : Nat → Int) : vA (apart f h p 0) = vA (movV f p) := by simp [vA, apart]
theorem apart3 (f h p : Nat → Int) : vA (apart f h p 3) = vA (actV f h p) := by simp [vA, apart]
theorem set_apart (f h p : Nat → Int) (i : Nat) (hi : i < 3) : (vA (apart f h p i)).setIfInBounds i (.int .i64 (actV f h p i)) = vA (apart f h p (i + 1)) := by
  obtain rfl | rfl | rfl : i = 0 ∨ i = 1 ∨ i = 2 := by omega
  all_goals simp [vA, apart]
theorem opA_shiftQ (f h : Nat → Int) (n : Nat) (hn : n < 3) : (opA f h)[9 + n]? = some (.int .i64 (h n)) := by
  rw [opA_get f h _ (by omega), if_neg (by omega), Nat.add_sub_cancel_left]
theorem p3_in {x y z : Int} (hp : inP x y z) : ∀ i, i < 3 → 0 ≤ p3 x y z i ∧ p3 x y z i < 24 := by
  obtain ⟨hx, hy, hz⟩ := hp
  intro i hi
  obtain rfl | rfl | rfl : i = 0 ∨ i = 1 ∨ i = 2 := by omega
  · show 0 ≤ x ∧ x < 24; omega
  · show 0 ≤ y ∧ y < 24; omega
  · show 0 ≤ z ∧ z < 24; omega
set_option maxRecDepth 100000 in
theorem deed1_any {f h : Nat → Int} (hR : isR f h) {x y z : Int} (hp : inP x y z) {w : World} {q : Nat} (ha : At 90 w q (opA f h)) :
    Calls Tryz.prog 78 #[pV x y z, .pointer (some ⟨q, 0, none⟩)] w fun e w' => e = .returned (.agg (vA (actV f h (p3 x y z)))) ∧ Below w.heap.size w w' := by
  have hq : q < w.heap.size := ha.lt
  obtain ⟨hf, hh, -⟩ := hR
  have hk := p3_in hp
  obtain ⟨W1, hW1, a1, bW1, z1⟩ := boxed w 54 #[.int .i64 x, .int .i64 y, .int .i64 z]
  obtain ⟨W2, hW2, a2, bW2, z2⟩ := boxed W1 54 (vA fun _ => 0)
  rw [z1] at a2 bW2 z2
  replace ha := (ha.below bW1).belowN bW2 (by omega)
  replace a1 := a1.belowN bW2 (by omega)
  replace bW1 := bW1.trans (bW2.mono (by omega))
  clear bW2
  obtain ⟨c0, c1, c2, -⟩ := a1.open3
  obtain ⟨⟨d0, d1, d2, d3, d4, d5, d6, d7, d8⟩, d9, d10, d11⟩ := ha.open12
  have hm := fun w => moves_any hf hk w
  unfold pV
  unfold vA at hW2
  unfold matA vA at hm
  simp only [p3] at hm
  go_enter Tryz.func78, Tryz.ntmps78
  go_wp2_with (go_at_call 79; refine (hm _).mono ?_; rintro e w3 ⟨rfl, b⟩)
  clear c0 c1 c2 d0 d1 d2 d3 d4 d5 d6 d7 d8 d9 d10 d11 hm
  obtain ⟨W4, hW4, a4, bW4, z4⟩ := boxed w3 66 (vA (movV f (p3 x y z)))
  replace ha := (ha.below b).below bW4
  replace a2 := (a2.below b).below bW4
  have t3 : w.heap.size + 1 + 1 ≤ w3.heap.size := by have := b.size; omega
  replace bW1 := (bW1.trans (b.mono (by omega))).trans (bW4.mono (by omega))
  unfold vA at hW4
  rw [hW4]
  rw [← apart0 f h] at a4
  obtain ⟨g, hg⟩ : ∃ g, w3.heap.size = g := ⟨_, rfl⟩
  rw [hg] at a4 t3 ⊢
  clear hW4 hW1 hW2 z1 z2 z4 b bW4 hg a1
  go_loopw [16] (fun s wr => ∃ i : Nat, i ≤ 3 ∧ s = .int .i64 i ∧ At 90 wr q (opA f h) ∧ At 54 wr (w.heap.size + 1) (vA fun _ => 0) ∧ At 66 wr g (vA (apart f h (p3 x y z) i)) ∧ Below w.heap.size w wr) (fun s _ => 3 - (intOf s).toNat)
  case atStart => exact ⟨0, Nat.zero_le _, rfl, ha, a2, a4, bW1⟩
  case round =>
    clear ha a2 a4 bW1
    obtain ⟨i, hi, rfl, a2, a4, a5, bW⟩ := hrel
    by_cases hlt : i < 3
    · have hlt' : (i : Int) < 3 := by omega
      have cA := a5.cell i (vA_get _ _ hlt)
      have cB := a2.cell (9 + i) (opA_shiftQ _ _ _ hlt)
      have fA := a5.frozen i
      have e1 : apart f h (p3 x y z) i i = movV f (p3 x y z) i := by simp [apart]
      rw [e1] at cA
      have bA := vsum_bound hf hk i hlt 3 (by omega)
      have bA' : -69 ≤ movV f (p3 x y z) i ∧ movV f (p3 x y z) i ≤ 69 := by unfold movV; omega
      have bB := hh i hlt
      have e2 : Hid ((movV f (p3 x y z) i + h i) % 24 = actV f h (p3 x y z) i) := rfl
      clear e1 bA
      generalize movV f (p3 x y z) i = A at *
      generalize h i = B at *
      have w6 : IntKind.i64.wrap (A + B) = A + B := IntWalk.i64_in _ (by omega)
      go_wp2
      go_region_with (go_at_call 80; refine (modulo_any _ _ ?_).mono ?_; omega; rintro e w2 ⟨rfl, rfl⟩)
      all_goals
        go_wp2
        go_roundw
        case rel =>
          refine ⟨i + 1, by omega, by go_num, ?_, ?_, ?_, ?_⟩
          · exact a2.setOther (by omega) _
          · exact a4.setOther (by omega) _
          · have := a5.set i (.int .i64 ((A + B) % 24))
            rw [e2.out, set_apart f h _ _ hlt] at this
            rw [e2.out]
            exact this
          · exact (bW.setCell (p := ⟨g, i, none⟩) (by show w.heap.size ≤ g; omega) _).drew
        case measure => simp [intOf]; omega
    · have hlt' : ¬ (i : Int) < 3 := by omega
      obtain rfl : i = 3 := by omega
      rw [apart3] at a5
      obtain ⟨r0, r1, r2, -⟩ := At.open3 a5
      obtain ⟨c0, c1, c2, e0, e1, e2⟩ := At.open3 a4
      go_wp2
      have hF : At 54 _ _ (vA (actV f h (p3 x y z))) := put3e_at a4 (.int .i64 (actV f h (p3 x y z) 0)) (.int .i64 (actV f h (p3 x y z) 1)) (.int .i64 (actV f h (p3 x y z) 2))
      obtain ⟨q0, q1, q2, -⟩ := At.open3 hF
      exact bodyPost_ret (v := .agg (vA (actV f h (p3 x y z)))) (by simp [results, Tryz.results78, go_sem, q0, q1, q2]; rfl) rfl ⟨rfl, put3e_below bW (by omega) _ _ _⟩
end Go.Proofs.YtiocneailhplkaaGreat
