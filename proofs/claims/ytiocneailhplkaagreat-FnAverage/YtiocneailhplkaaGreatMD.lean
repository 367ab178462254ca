/-
  Products of matrices, and of matrices and vectors, by the program, walked.
-/
import Derived.Test.YtiocneailhplkaaGreatOpD
import Derived.BigRegion
import Derived.Test.YtiocneailhplkaaGreatMC
namespace Go.Proofs.YtiocneailhplkaaGreat
open Go.RowKit

/-- The first k terms of the product's number i. -/
def psum (f g : Nat → Int) (i : Nat) : Nat → Int
  | 0 => 0
  | k + 1 => psum f g i k + f (3 * (i / 3) + k) * g (3 * k + i % 3)
/-- What has been made of the product. -/
def tpart (f g : Nat → Int) (i k : Nat) : Nat → Int := fun x => if x < i then psum f g x 3 else if x = i then psum f g i k else 0
def mulM (f g : Nat → Int) : Nat → Int := fun x => psum f g x 3
theorem set_tpart (f g : Nat → Int) (i k : Nat) (hi : i < 9) : (matA (tpart f g i k)).setIfInBounds i (.int .i64 (psum f g i (k + 1))) = matA (tpart f g i (k + 1)) := by
  rcases (by omega : i = 0 ∨ i = 1 ∨ i = 2 ∨ i = 3 ∨ i = 4 ∨ i = 5 ∨ i = 6 ∨ i = 7 ∨ i = 8) with rfl | rfl | rfl | rfl | rfl | rfl | rfl | rfl | rfl <;> simp [matA, tpart]
theorem tpart_next (f g : Nat → Int) (i : Nat) : tpart f g i 3 = tpart f g (i + 1) 0 := by
  funext x
  unfold tpart
  by_cases h1 : x < i
  · rw [if_pos h1, if_pos (by omega)]
  · by_cases h2 : x = i
    · subst h2; rw [if_neg h1, if_pos rfl, if_pos (by omega)]
    · rw [if_neg h1, if_neg h2, if_neg (by omega)]
      split <;> rfl
theorem tpart0 (f g : Nat → Int) : matA (tpart f g 0 0) = matA fun _ => 0 := by simp [matA, tpart, psum]
theorem tpart9 (f g : Nat → Int) : matA (tpart f g 9 0) = matA (mulM f g) := by simp [matA, tpart, mulM]
theorem psum_bound {f g : Nat → Int} (hf : ∀ i, i < 9 → -1 ≤ f i ∧ f i ≤ 1) (hg : ∀ i, i < 9 → -1 ≤ g i ∧ g i ≤ 1) (i : Nat) (hi : i < 9) (k : Nat) (hk : k ≤ 3) : -k ≤ psum f g i k ∧ psum f g i k ≤ k := by
  induction k with
  | zero => simp [psum]
  | succ k ih =>
    have := ih (by omega)
    have h1 := mul_bound (hf (3 * (i / 3) + k) (by omega)) (hg (3 * k + i % 3) (by omega))
    simp only [psum]
    omega
set_option maxRecDepth 100000 in
set_option maxHeartbeats 1600000 in
theorem times_any {f g : Nat → Int} (hf : ∀ i, i < 9 → -1 ≤ f i ∧ f i ≤ 1) (hg : ∀ i, i < 9 → -1 ≤ g i ∧ g i ≤ 1) (w : World) :
    Calls Tryz.prog 104 #[.agg (matA f), .agg (matA g)] w fun e w' => e = .returned (.agg (matA (mulM f g))) ∧ Below w.heap.size w w' := by
  obtain ⟨W1, hW1, a1, bW1, z1⟩ := boxed w 88 (matA f)
  obtain ⟨W2, hW2, a2, bW2, z2⟩ := boxed W1 88 (matA g)
  obtain ⟨W3, hW3, a3, bW3, z3⟩ := boxed W2 88 (matA fun _ => 0)
  obtain ⟨W4, hW4, a4, bW4, z4⟩ := boxed W3 88 (matA fun _ => 0)
  rw [z1] at a2 bW2 z2
  rw [z2] at a3 bW3 z3
  rw [z3] at a4 bW4 z4
  replace a1 := ((a1.belowN bW2 (by omega)).belowN bW3 (by omega)).belowN bW4 (by omega)
  replace a2 := (a2.belowN bW3 (by omega)).belowN bW4 (by omega)
  replace a3 := a3.belowN bW4 (by omega)
  have bW : Below w.heap.size w W4 := ((bW1.trans (bW2.mono (by omega))).trans (bW3.mono (by omega))).trans (bW4.mono (by omega))
  clear bW1 bW2 bW3 bW4
  rw [← tpart0 f g] at a4
  unfold matA at hW1 hW2 hW3 hW4 ⊢
  go_enter Tryz.func104, Tryz.ntmps104
  go_wp2
  clear hW1 hW2 hW3 hW4
  go_loopw [8] (fun s wr => ∃ i : Nat, i ≤ 9 ∧ s = .int .i64 i ∧ At 88 wr w.heap.size (matA f) ∧ At 88 wr (w.heap.size + 1) (matA g) ∧ At 88 wr (w.heap.size + 1 + 1) (matA fun _ => 0) ∧ At 88 wr (w.heap.size + 1 + 1 + 1) (matA (tpart f g i 0)) ∧ Below w.heap.size w wr) (fun s _ => 9 - (intOf s).toNat)
  case atStart => exact ⟨0, Nat.zero_le _, rfl, a1, a2, a3, a4, bW⟩
  case round =>
    clear a1 a2 a3 a4 bW z1 z2 z3 z4
    obtain ⟨i, hi, rfl, a1, a2, a3, a4, bW⟩ := hrel
    by_cases hlt : i < 9
    · have hlt' : (i : Int) < 9 := by omega
      go_wp2
      go_loopw [11] (fun s wr => ∃ j : Nat, j ≤ 3 ∧ s = .int .i64 j ∧ At 88 wr w.heap.size (matA f) ∧ At 88 wr (w.heap.size + 1) (matA g) ∧ At 88 wr (w.heap.size + 1 + 1) (matA fun _ => 0) ∧ At 88 wr (w.heap.size + 1 + 1 + 1) (matA (tpart f g i j)) ∧ Below w.heap.size w wr) (fun s _ => 3 - (intOf s).toNat)
      case atStart => exact ⟨0, Nat.zero_le _, rfl, a1, a2, a3, a4, bW⟩
      case round =>
        clear a1 a2 a3 a4 bW
        obtain ⟨j, hj, rfl, a1, a2, a3, a4, bW⟩ := hrel
        by_cases hlj : j < 3
        · have hlj' : (j : Int) < 3 := by omega
          have bC := psum_bound hf hg i hlt j hj
          have e2 : Hid (psum f g i j + f (3 * (i / 3) + j) * g (3 * j + i % 3) = psum f g i (j + 1)) := rfl
          obtain ⟨p, hp⟩ : ∃ p, 3 * (i / 3) + j = p := ⟨_, rfl⟩
          obtain ⟨q, hq⟩ : ∃ q, 3 * j + i % 3 = q := ⟨_, rfl⟩
          have p9 : p < 9 := by omega
          have q9 : q < 9 := by omega
          have p9' : (p : Int) < 9 := by omega
          have q9' : (q : Int) < 9 := by omega
          obtain ⟨r, hr⟩ : ∃ r, i % 3 = r := ⟨_, rfl⟩
          have hT : (i : Int).tmod 3 = (r : Int) := by rw [Int.tmod_eq_emod_of_nonneg (by omega)]; omega
          have hT1 : (r : Int) < 3 := by omega
          have hT2 : (r : Int) ≤ i := by omega
          have hI : (i : Int) - (r : Int) + (j : Int) = (p : Int) := by omega
          have hJ : 3 * (j : Int) + (r : Int) = (q : Int) := by omega
          rw [hp, hq] at e2
          have cA := a1.cell p (matA_get f _ p9)
          have cB := a2.cell q (matA_get g _ q9)
          have cC := a4.cell i (matA_get _ _ hlt)
          have fC := a4.frozen i
          have bA := hf p p9
          have bB := hg q q9
          have m1 := mul_bound bA bB
          have e1 : tpart f g i j i = psum f g i j := by simp [tpart]
          rw [e1] at cC
          clear e1 hp hq
          generalize f p = A at *
          generalize g q = B at *
          generalize psum f g i j = C at *
          have w1 : IntKind.i64.wrap ((i : Int) - (r : Int)) = (i : Int) - (r : Int) := IntWalk.i64_in _ (by omega)
          have w2 : IntKind.i64.wrap (p : Int) = (p : Int) := IntWalk.i64_in _ (by omega)
          have w3 : IntKind.i64.wrap (3 * (j : Int)) = 3 * (j : Int) := IntWalk.i64_in _ (by omega)
          have w4 : IntKind.i64.wrap (q : Int) = (q : Int) := IntWalk.i64_in _ (by omega)
          have w5 : IntKind.i64.wrap (A * B) = A * B := IntWalk.i64_in _ (by omega)
          have w6 : IntKind.i64.wrap (C + A * B) = C + A * B := IntWalk.i64_in _ (by omega)
          go_wp2
          go_region
          all_goals
            go_wp2
            go_roundw
            case rel =>
              refine ⟨j + 1, by omega, by go_num, ?_, ?_, ?_, ?_, ?_⟩
              · exact a1.setOther (by omega) _
              · exact a2.setOther (by omega) _
              · exact a3.setOther (by omega) _
              · have := a4.set i (.int .i64 (C + A * B))
                rw [e2.out, set_tpart f g _ _ hlt] at this
                rw [e2.out]
                exact this
              · exact (bW.setCell (p := ⟨w.heap.size + 1 + 1 + 1, i, none⟩) (by show w.heap.size ≤ w.heap.size + 1 + 1 + 1; omega) _).drew
            case measure => simp [intOf]; omega
        · have hlj' : ¬ (j : Int) < 3 := by omega
          obtain rfl : j = 3 := by omega
          rw [tpart_next] at a4
          go_wp2
          exact ⟨⟨i + 1, by omega, by go_num, a1, a2, a3, a4, bW⟩, by simp [intOf]; omega⟩
    · have hlt' : ¬ (i : Int) < 9 := by omega
      obtain rfl : i = 9 := by omega
      rw [tpart9] at a4
      obtain ⟨⟨r0, r1, r2, r3, r4, r5, r6, r7, r8⟩, -⟩ := a4.open9
      obtain ⟨⟨c0, c1, c2, c3, c4, c5, c6, c7, c8⟩, e0, e1, e2, e3, e4, e5, e6, e7, e8⟩ := a3.open9
      go_wp2
      have hF := put9_at a3 (mulM f g)
      obtain ⟨⟨q0, q1, q2, q3, q4, q5, q6, q7, q8⟩, -⟩ := hF.open9
      exact bodyPost_ret (v := .agg (matA (mulM f g))) (by simp [results, Tryz.results104, go_sem, q0, q1, q2, q3, q4, q5, q6, q7, q8]; rfl) rfl ⟨rfl, put9_below bW (by omega) (mulM f g)⟩
/-- A vector as a value. -/
def vA (h : Nat → Int) : Array Value := #[.int .i64 (h 0), .int .i64 (h 1), .int .i64 (h 2)]
theorem vA_get (h : Nat → Int) (k : Nat) (hk : k < 3) : (vA h)[k]? = some (.int .i64 (h k)) := by
  rcases (by omega : k = 0 ∨ k = 1 ∨ k = 2) with rfl | rfl | rfl <;> rfl
theorem vzero : vA (fun _ => 0) = #[.int .i64 0, .int .i64 0, .int .i64 0] := rfl
/-- The first k terms of number a of where a matrix takes a vector. -/
def vsum (f h : Nat → Int) (a : Nat) : Nat → Int
  | 0 => 0
  | k + 1 => vsum f h a k + f (3 * a + k) * h k
def vpart (f h : Nat → Int) (i : Nat) : Nat → Int := fun a => if a < i / 3 then vsum f h a 3 else if a = i / 3 then vsum f h a (i % 3) else 0
def movV (f h : Nat → Int) : Nat → Int := fun a => vsum f h a 3
theorem set_vpart (f h : Nat → Int) (i : Nat) (hi : i < 9) : (vA (vpart f h i)).setIfInBounds (i / 3) (.int .i64 (vsum f h (i / 3) (i % 3 + 1))) = vA (vpart f h (i + 1)) := by
  rcases (by omega : i = 0 ∨ i = 1 ∨ i = 2 ∨ i = 3 ∨ i = 4 ∨ i = 5 ∨ i = 6 ∨ i = 7 ∨ i = 8) with rfl | rfl | rfl | rfl | rfl | rfl | rfl | rfl | rfl <;> simp [vA, vpart, vsum]
theorem vpart0 (f h : Nat → Int) : vA (vpart f h 0) = vA fun _ => 0 := by simp [vA, vpart, vsum]
theorem vpart9 (f h : Nat → Int) : vA (vpart f h 9) = vA (movV f h) := by simp [vA, vpart, movV]
theorem vsum_bound {f h : Nat → Int} (hf : ∀ i, i < 9 → -1 ≤ f i ∧ f i ≤ 1) (hh : ∀ i, i < 3 → 0 ≤ h i ∧ h i < 24) (a : Nat) (ha : a < 3) (k : Nat) (hk : k ≤ 3) : -(23 * k) ≤ vsum f h a k ∧ vsum f h a k ≤ 23 * k := by
  induction k with
  | zero => simp [vsum]
  | succ k ih =>
    have := ih (by omega)
    have h1 := mul_bound (N := 23) (hf (3 * a + k) (by omega)) (show -23 ≤ h k ∧ h k ≤ 23 by have := hh k (by omega); omega)
    simp only [vsum]
    omega
set_option maxRecDepth 100000 in
set_option maxHeartbeats 1600000 in
theorem moves_any {f h : Nat → Int} (hf : ∀ i, i < 9 → -1 ≤ f i ∧ f i ≤ 1) (hh : ∀ i, i < 3 → 0 ≤ h i ∧ h i < 24) (w : World) :
    Calls Tryz.prog 79 #[.agg (matA f), .agg (vA h)] w fun e w' => e = .returned (.agg (vA (movV f h))) ∧ Below w.heap.size w w' := by
  obtain ⟨W1, hW1, a1, bW1, z1⟩ := boxed w 88 (matA f)
  obtain ⟨W2, hW2, a2, bW2, z2⟩ := boxed W1 66 (vA h)
  obtain ⟨W3, hW3, a3, bW3, z3⟩ := boxed W2 66 (vA fun _ => 0)
  obtain ⟨W4, hW4, a4, bW4, z4⟩ := boxed W3 66 (vA fun _ => 0)
  rw [z1] at a2 bW2 z2
  rw [z2] at a3 bW3 z3
  rw [z3] at a4 bW4 z4
  replace a1 := ((a1.belowN bW2 (by omega)).belowN bW3 (by omega)).belowN bW4 (by omega)
  replace a2 := (a2.belowN bW3 (by omega)).belowN bW4 (by omega)
  replace a3 := a3.belowN bW4 (by omega)
  have bW : Below w.heap.size w W4 := ((bW1.trans (bW2.mono (by omega))).trans (bW3.mono (by omega))).trans (bW4.mono (by omega))
  clear bW1 bW2 bW3 bW4
  rw [← vpart0 f h] at a4
  unfold matA at hW1 ⊢
  unfold vA at hW2 hW3 hW4 ⊢
  go_enter Tryz.func79, Tryz.ntmps79
  go_wp2
  clear hW1 hW2 hW3 hW4
  go_loopw [7] (fun s wr => ∃ i : Nat, i ≤ 9 ∧ s = .int .i64 i ∧ At 88 wr w.heap.size (matA f) ∧ At 66 wr (w.heap.size + 1) (vA h) ∧ At 66 wr (w.heap.size + 1 + 1) (vA fun _ => 0) ∧ At 66 wr (w.heap.size + 1 + 1 + 1) (vA (vpart f h i)) ∧ Below w.heap.size w wr) (fun s _ => 9 - (intOf s).toNat)
  case atStart => exact ⟨0, Nat.zero_le _, rfl, a1, a2, a3, a4, bW⟩
  case round =>
    clear a1 a2 a3 a4 bW z1 z2 z3 z4
    obtain ⟨i, hi, rfl, a1, a2, a3, a4, bW⟩ := hrel
    by_cases hlt : i < 9
    · have hlt' : (i : Int) < 9 := by omega
      have e3 := set_vpart f h i hlt
      have e1 : vpart f h i (i / 3) = vsum f h (i / 3) (i % 3) := by simp [vpart]
      have e2 : Hid (vsum f h (i / 3) (i % 3) + f i * h (i % 3) = vsum f h (i / 3) (i % 3 + 1)) := by
        show vsum f h (i / 3) (i % 3) + f i * h (i % 3) = vsum f h (i / 3) (i % 3) + f (3 * (i / 3) + i % 3) * h (i % 3)
        rw [Nat.div_add_mod]
      have bC := vsum_bound hf hh (i / 3) (by omega) (i % 3) (by omega)
      obtain ⟨d, hd⟩ : ∃ d, i / 3 = d := ⟨_, rfl⟩
      obtain ⟨r, hr⟩ : ∃ r, i % 3 = r := ⟨_, rfl⟩
      rw [hd, hr] at e3 e1 e2 bC
      have hd3 : d < 3 := by omega
      have hr3 : r < 3 := by omega
      have hd3' : (d : Int) < 3 := by omega
      have hr3' : (r : Int) < 3 := by omega
      have hT : (i : Int).tmod 3 = (r : Int) := by rw [Int.tmod_eq_emod_of_nonneg (by omega)]; omega
      have hD : (i : Int).tdiv 3 = (d : Int) := by rw [Int.tdiv_eq_ediv_of_nonneg (by omega)]; omega
      have wD : IntKind.i64.wrap (d : Int) = (d : Int) := IntWalk.i64_in _ (by omega)
      have cA := a1.cell i (matA_get f _ hlt)
      have cB := a2.cell r (vA_get h _ hr3)
      have cC := a4.cell d (vA_get _ _ hd3)
      have fC := a4.frozen d
      rw [e1] at cC
      have bA := hf i hlt
      have bB := hh r hr3
      have m1 := mul_bound (N := 23) bA (show -23 ≤ h r ∧ h r ≤ 23 by omega)
      have bC' : -69 ≤ vsum f h d r ∧ vsum f h d r ≤ 69 := by omega
      have E3 : Hid ((vA (vpart f h i)).setIfInBounds d (.int .i64 (vsum f h d (r + 1))) = vA (vpart f h (i + 1))) := e3
      clear e1 hd hr e3 bC
      generalize f i = A at *
      generalize h r = B at *
      generalize vsum f h d r = C at *
      have w5 : IntKind.i64.wrap (A * B) = A * B := IntWalk.i64_in _ (by omega)
      have w6 : IntKind.i64.wrap (C + A * B) = C + A * B := IntWalk.i64_in _ (by omega)
      go_wp2
      go_region
      all_goals
        go_wp2
        go_roundw
        case rel =>
          refine ⟨i + 1, by omega, by go_num, ?_, ?_, ?_, ?_, ?_⟩
          · exact a1.setOther (by omega) _
          · exact a2.setOther (by omega) _
          · exact a3.setOther (by omega) _
          · have := a4.set d (.int .i64 (C + A * B))
            rw [e2.out, E3.out] at this
            rw [e2.out]
            exact this
          · exact (bW.setCell (p := ⟨w.heap.size + 1 + 1 + 1, d, none⟩) (by show w.heap.size ≤ w.heap.size + 1 + 1 + 1; omega) _).drew
        case measure => simp [intOf]; omega
    · have hlt' : ¬ (i : Int) < 9 := by omega
      obtain rfl : i = 9 := by omega
      rw [vpart9] at a4
      obtain ⟨r0, r1, r2, -⟩ := At.open3 a4
      obtain ⟨c0, c1, c2, e0, e1, e2⟩ := At.open3 a3
      go_wp2
      have hF : At 66 _ _ (vA (movV f h)) := put3e_at a3 (.int .i64 (movV f h 0)) (.int .i64 (movV f h 1)) (.int .i64 (movV f h 2))
      obtain ⟨q0, q1, q2, -⟩ := At.open3 hF
      exact bodyPost_ret (v := .agg (vA (movV f h))) (by simp [results, Tryz.results79, go_sem, q0, q1, q2]; rfl) rfl ⟨rfl, put3e_below bW (by omega) _ _ _⟩
end Go.Proofs.YtiocneailhplkaaGreat
/-
  Operators told in new memory by the program, walked.
-/
namespace Go.Proofs.YtiocneailhplkaaGreat
open Go.RowKit

theorem At.ints9 {w : World} {q : Nat} {f h : Nat → Int} (a : At 90 w q (opA f h)) : Ints w q 0 9 f := by
  intro i hi
  rw [Nat.zero_add]
  have := opA_get f h i (by omega)
  rw [if_pos hi] at this
  exact a.cell i this
theorem At.ints3 {w : World} {q : Nat} {f h : Nat → Int} (a : At 90 w q (opA f h)) : Ints w q 9 3 h := by
  intro i hi
  have := opA_get f h (9 + i) (by omega)
  rw [if_neg (by omega), Nat.add_sub_cancel_left] at this
  exact a.cell (9 + i) this
theorem arr_of_made {w : World} {lo g c n : Nat} {f : Nat → Int} (h : Made w g c n f) (hc : n ≤ c) (hl : lo ≤ g) (hm : c ≤ maxLen := by unfold maxLen; omega) : Arr w lo w.heap.size (.slice (some ⟨g, 0, none⟩) n c) n f := .inr ⟨g, c, rfl, hl, h.lt, ⟨hc, hm⟩, h⟩
theorem Made.below {w w' : World} {g n k : Nat} {f : Nat → Int} (h : Made w g n k f) (hb : Below w.heap.size w w') : Made w' g n k f := by
  obtain ⟨cur, h1, h2⟩ := h
  exact ⟨cur, h1.below hb, h2⟩
theorem Arr.setOther {w : World} {lo hi q i : Nat} {v : Value} {n : Nat} {f : Nat → Int} (h : Arr w lo hi v n f) (hq : q < lo) (x : Value) : Arr (w.setCell ⟨q, i, none⟩ x) lo hi v n f := by
  refine h.imp id ?_
  rintro ⟨g, c, rfl, hl, hh, hc, m⟩
  exact ⟨g, c, rfl, hl, hh, hc, m.setOther (by omega) x⟩
end Go.Proofs.YtiocneailhplkaaGreat
