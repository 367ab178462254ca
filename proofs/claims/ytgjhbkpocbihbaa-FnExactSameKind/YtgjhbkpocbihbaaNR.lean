/-
  A group turned by an operator: its mathematics; lists of operators in memory of their own, read alone. No function of the program.
-/
import Derived.Test.YtgjhbkpocbihbaaNQ
import Derived.Test.YtgjhbkpocbihbaaE9r
import Derived.Test.YtgjhbkpocbihbaaNI
import Derived.Test.YtgjhbkpocbihbaaE6c
import Derived.Test.YtgjhbkpocbihbaaML
import Derived.Test.YtgjhbkpocbihbaaOpJ
namespace Go.Proofs.Ytgjhbkpocbihbaa
open Go.RowKit

/-- The way back. -/
def backD (o : OpD) : OpD := ⟨9, backM o.f, 3, backV o.f o.h⟩
/-- The operator, one of the group, and the way back. -/
def wholeD (o : OpD) (A : Nat → OpD) (i : Nat) : OpD := mulD (mulD o (A i)) (backD o)
/-- All goes well. -/
def TurOk (n : Nat) (A : Nat → OpD) (o : OpD) : Prop := isG n A ∧ o.ok ∧ (backD o).ok ∧ ∀ i, i < n → (mulD o (A i)).ok ∧ (wholeD o A i).ok
/-- What has been put in. -/
structure TurI (A : Nat → OpD) (o : OpD) (i : Nat) (E : Nat → OpD) : Prop where
  so : ∀ t, t + 1 < i → ¬ 0 < lexC 12 (E t).key (E (t + 1)).key
  pe : ((List.range i).map (fun t => kV (E t).key)).Perm ((List.range i).map (fun t => kV (wholeD o A t).key))
  ok : ∀ t, t < i → (E t).ok
  all : ∀ t, t < i → (mulD o (A t)).ok ∧ (wholeD o A t).ok
theorem TurI.start (A : Nat → OpD) (o : OpD) (E : Nat → OpD) : TurI A o 0 E := ⟨fun t ht => by omega, List.Perm.refl _, fun t ht => by omega, fun t ht => by omega⟩
theorem TurI.add {A : Nat → OpD} {o : OpD} {i c : Nat} {E : Nat → OpD} (h : TurI A o i E) (h1 : (mulD o (A i)).ok) (h2 : (wholeD o A i).ok) (hc : c ≤ i) (hov : ∀ t, c ≤ t → t < i → 0 < lexC 12 (E t).key (wholeD o A i).key) (hun : c = 0 ∨ ¬ 0 < lexC 12 (E (c - 1)).key (wholeD o A i).key) : TurI A o (i + 1) (ins c E (wholeD o A i)) := by
  refine ⟨fun t ht => ?_, ?_, fun t ht => ?_, fun t ht => ?_⟩
  · rcases Nat.lt_trichotomy (t + 1) c with e | e | e
    · rw [ins_lo (by omega), ins_lo e]; exact h.so t (by omega)
    · rw [ins_lo (show t < c by omega), e, ins_at]
      rcases hun with e' | e'
      · omega
      · rwa [show c - 1 = t by omega] at e'
    · rw [ins_hi e]
      by_cases e' : t = c
      · rw [e', ins_at, show c + 1 - 1 = c by omega]
        have := lexC_pos.1 (hov c (Nat.le_refl _) (by omega))
        omega
      · rw [ins_hi (show c < t by omega)]
        have := h.so (t - 1) (by omega)
        rwa [show t - 1 + 1 = t + 1 - 1 by omega] at this
  · have e1 : (List.range (i + 1)).map (fun t => kV (ins c E (wholeD o A i) t).key) = (List.range (i + 1)).map (ins c (fun t => kV (E t).key) (kV (wholeD o A i).key)) := by
      refine List.map_congr_left (fun t _ => ?_)
      unfold ins
      split
      · rfl
      · split <;> rfl
    rw [e1]
    refine (ins_perm _ _ hc).trans ?_
    rw [List.range_succ, List.map_append, List.map_cons, List.map_nil]
    exact (h.pe.cons _).trans (List.perm_append_singleton _ _).symm
  · rcases Nat.lt_trichotomy t c with e | e | e
    · rw [ins_lo e]; exact h.ok t (by omega)
    · subst e; rw [ins_at]; exact h2
    · rw [ins_hi e]; exact h.ok _ (by omega)
  · by_cases e : t = i
    · subst e; exact ⟨h1, h2⟩
    · exact h.all t (by omega)
/-- What the specification's Turned tells. -/
def TurS (n : Nat) (A : Nat → OpD) (o : OpD) (m : Nat) (H : Nat → OpD) (b : Bool) : Prop :=
  (b = true ∧ m = n ∧ n ≤ 192 ∧ TurOk n A o ∧ TurI A o n H) ∨ (b = false ∧ m = 0 ∧ ¬ TurOk n A o)
/-- What the program's Turned tells. -/
def TurT (n : Nat) (A : Nat → OpD) (o : OpD) (m : Nat) (G : Nat → Nat → Int) (b : Bool) : Prop :=
  (b = true ∧ m = n ∧ TurOk n A o ∧ (((List.range n).map G).map kV).Perm ((List.range n).map (fun t => kV (wholeD o A t).key)) ∧ ∀ i j, i < j → j < n → ¬ lexC 12 (G j) (G i) < 0) ∨ (b = false ∧ m = 0 ∧ ¬ TurOk n A o)
theorem TurI.le {A : Nat → OpD} {o : OpD} {n : Nat} {E : Nat → OpD} (h : TurI A o n E) : ∀ i j, i < j → j < n → ¬ lexC 12 (E j).key (E i).key < 0 := by
  have tr : ∀ x y z : Nat → Int, ¬ lexC 12 y x < 0 → ¬ lexC 12 z y < 0 → ¬ lexC 12 z x < 0 := fun x y z h1 h2 h3 => by
    rcases lexC_range 12 x y with e | e | e
    · have hxy : lexC 12 x y < 0 := by omega
      exact h2 (lexC_trans h3 hxy)
    · rw [lexC_eq (f' := z) (h' := y) (fun _ _ => rfl) (lexC_zero.1 e)] at h3
      exact h2 h3
    · exact h1 (lexC_pos.1 (by omega))
  intro i j hij hj
  induction j with
  | zero => omega
  | succ j ih =>
    have h0 : ¬ lexC 12 (E (j + 1)).key (E j).key < 0 := fun e => h.so j hj (lexC_pos.2 e)
    by_cases e : i = j
    · rw [e]; exact h0
    · exact tr _ _ _ (ih (by omega) (by omega)) h0
/-- The program and the specification tell the same. -/
theorem tur_same {n m m' : Nat} {A H : Nat → OpD} {o : OpD} {G : Nat → Nat → Int} {b b' : Bool} (h1 : TurT n A o m G b) (h2 : TurS n A o m' H b') : b = b' ∧ m = m' ∧ ∀ i, i < m → kV (G i) = kV (H i).key := by
  rcases h1 with ⟨rfl, rfl, hok, hp, hs⟩ | ⟨rfl, rfl, hno⟩
  · rcases h2 with ⟨rfl, rfl, -, -, hI⟩ | ⟨rfl, -, hno⟩
    · refine ⟨rfl, rfl, ?_⟩
      have hperm : (((List.range m').map G).map kV).Perm ((List.range m').map (fun t => kV (H t).key)) := hp.trans hI.pe.symm
      have heq : ((List.range m').map G).map kV = (List.range m').map (fun t => kV (H t).key) := by
        refine List.Perm.eq_of_pairwise (le := leV) ?_ ?_ ?_ hperm
        · intro a b ha hb h1 h2
          obtain ⟨x, y, rfl, rfl, h⟩ := h1
          rw [leV_iff] at h2
          refine kV_inj.2 ?_
          rcases lexC_range 12 x y with e | e | e
          · exact absurd (by omega : lexC 12 x y < 0) h2
          · exact e
          · exact absurd (lexC_pos.1 (by omega : 0 < lexC 12 x y)) h
        · rw [List.pairwise_iff_getElem]
          intro i j hi hj hij
          simp only [List.getElem_map, List.getElem_range]
          simp at hj
          exact leV_iff.2 (hs i j hij hj)
        · rw [List.pairwise_iff_getElem]
          intro i j hi hj hij
          simp only [List.getElem_map, List.getElem_range]
          simp at hj
          exact leV_iff.2 (hI.le i j hij hj)
      intro i hi
      have : (((List.range m').map G).map kV)[i]'(by simp; omega) = ((List.range m').map (fun t => kV (H t).key))[i]'(by simp; omega) := by simp only [heq]
      simpa only [List.getElem_map, List.getElem_range] using this
    · exact absurd hok hno
  · rcases h2 with ⟨rfl, -, -, hok, -⟩ | ⟨rfl, rfl, -⟩
    · exact absurd hok hno
    · exact ⟨rfl, rfl, fun i hi => by omega⟩
end Go.Proofs.Ytgjhbkpocbihbaa
/-
  Products whose first operator need not be right, by the program: walked.
-/
namespace Go.Proofs.Ytgjhbkpocbihbaa
open Go.RowKit

theorem psum_bound3 {f g : Nat → Int} (hf : ∀ i, i < 9 → -3 ≤ f i ∧ f i ≤ 3) (hg : ∀ i, i < 9 → -1 ≤ g i ∧ g i ≤ 1) (i : Nat) (hi : i < 9) (k : Nat) (hk : k ≤ 3) : -(3 * k) ≤ psum f g i k ∧ psum f g i k ≤ 3 * k := by
  induction k with
  | zero => simp [psum]
  | succ k ih =>
    have := ih (by omega)
    have h1 := mul_bound (hf (3 * (i / 3) + k) (by omega)) (hg (3 * k + i % 3) (by omega))
    simp only [psum]
    omega
set_option maxRecDepth 100000 in
set_option maxHeartbeats 1600000 in
theorem times3_any {f g : Nat → Int} (hf : ∀ i, i < 9 → -3 ≤ f i ∧ f i ≤ 3) (hg : ∀ i, i < 9 → -1 ≤ g i ∧ g i ≤ 1) (w : World) :
    Calls Try.prog 54 #[.agg (matA f), .agg (matA g)] w fun e w' => e = .returned (.agg (matA (mulM f g))) ∧ Below w.heap.size w w' := by
  obtain ⟨W1, hW1, a1, bW1, z1⟩ := boxed w 42 (matA f)
  obtain ⟨W2, hW2, a2, bW2, z2⟩ := boxed W1 42 (matA g)
  obtain ⟨W3, hW3, a3, bW3, z3⟩ := boxed W2 42 (matA fun _ => 0)
  obtain ⟨W4, hW4, a4, bW4, z4⟩ := boxed W3 42 (matA fun _ => 0)
  rw [z1] at a2 bW2 z2
  rw [z2] at a3 bW3 z3
  rw [z3] at a4 bW4 z4
  replace a1 := ((a1.belowN bW2 (by omega)).belowN bW3 (by omega)).belowN bW4 (by omega)
  replace a2 := (a2.belowN bW3 (by omega)).belowN bW4 (by omega)
  replace a3 := a3.belowN bW4 (by omega)
  have bW : Below w.heap.size w W4 := ((bW1.trans (bW2.mono (by omega))).trans (bW3.mono (by omega))).trans (bW4.mono (by omega))
  clear bW1 bW2 bW3 bW4
  rw [← tpart0 f g] at a4
  unfold matA at hW1 hW2 hW3 hW4 ⊢
  go_enter Try.func54, Try.ntmps54
  go_wp2
  clear hW1 hW2 hW3 hW4
  go_loopw [8] (fun s wr => ∃ i : Nat, i ≤ 9 ∧ s = .int .i64 i ∧ At 42 wr w.heap.size (matA f) ∧ At 42 wr (w.heap.size + 1) (matA g) ∧ At 42 wr (w.heap.size + 1 + 1) (matA fun _ => 0) ∧ At 42 wr (w.heap.size + 1 + 1 + 1) (matA (tpart f g i 0)) ∧ Below w.heap.size w wr) (fun s _ => 9 - (intOf s).toNat)
  case atStart => exact ⟨0, Nat.zero_le _, rfl, a1, a2, a3, a4, bW⟩
  case round =>
    clear a1 a2 a3 a4 bW z1 z2 z3 z4
    obtain ⟨i, hi, rfl, a1, a2, a3, a4, bW⟩ := hrel
    by_cases hlt : i < 9
    · have hlt' : (i : Int) < 9 := by omega
      go_wp2
      go_loopw [11] (fun s wr => ∃ j : Nat, j ≤ 3 ∧ s = .int .i64 j ∧ At 42 wr w.heap.size (matA f) ∧ At 42 wr (w.heap.size + 1) (matA g) ∧ At 42 wr (w.heap.size + 1 + 1) (matA fun _ => 0) ∧ At 42 wr (w.heap.size + 1 + 1 + 1) (matA (tpart f g i j)) ∧ Below w.heap.size w wr) (fun s _ => 3 - (intOf s).toNat)
      case atStart => exact ⟨0, Nat.zero_le _, rfl, a1, a2, a3, a4, bW⟩
      case round =>
        clear a1 a2 a3 a4 bW
        obtain ⟨j, hj, rfl, a1, a2, a3, a4, bW⟩ := hrel
        by_cases hlj : j < 3
        · have hlj' : (j : Int) < 3 := by omega
          have bC := psum_bound3 hf hg i hlt j hj
          have e2 : Hid (psum f g i j + f (3 * (i / 3) + j) * g (3 * j + i % 3) = psum f g i (j + 1)) := rfl
          obtain ⟨p, hp⟩ : ∃ p, 3 * (i / 3) + j = p := ⟨_, rfl⟩
          obtain ⟨q, hq⟩ : ∃ q, 3 * j + i % 3 = q := ⟨_, rfl⟩
          have p9 : p < 9 := by omega
          have q9 : q < 9 := by omega
          have p9' : (p : Int) < 9 := by omega
          have q9' : (q : Int) < 9 := by omega
          obtain ⟨r, hr⟩ : ∃ r, i % 3 = r := ⟨_, rfl⟩
          have hT : (i : Int).tmod 3 = (r : Int) := by rw [Int.tmod_eq_emod_of_nonneg (by omega)]; omega
          have hT1 : (r : Int) < 3 := by omega
          have hT2 : (r : Int) ≤ i := by omega
          have hI : (i : Int) - (r : Int) + (j : Int) = (p : Int) := by omega
          have hJ : 3 * (j : Int) + (r : Int) = (q : Int) := by omega
          rw [hp, hq] at e2
          have cA := a1.cell p (matA_get f _ p9)
          have cB := a2.cell q (matA_get g _ q9)
          have cC := a4.cell i (matA_get _ _ hlt)
          have fC := a4.frozen i
          have bA := hf p p9
          have bB := hg q q9
          have m1 := mul_bound bA bB
          have e1 : tpart f g i j i = psum f g i j := by simp [tpart]
          rw [e1] at cC
          clear e1 hp hq
          generalize f p = A at *
          generalize g q = B at *
          generalize psum f g i j = C at *
          have w1 : IntKind.i64.wrap ((i : Int) - (r : Int)) = (i : Int) - (r : Int) := IntWalk.i64_in _ (by omega)
          have w2 : IntKind.i64.wrap (p : Int) = (p : Int) := IntWalk.i64_in _ (by omega)
          have w3 : IntKind.i64.wrap (3 * (j : Int)) = 3 * (j : Int) := IntWalk.i64_in _ (by omega)
          have w4 : IntKind.i64.wrap (q : Int) = (q : Int) := IntWalk.i64_in _ (by omega)
          have w5 : IntKind.i64.wrap (A * B) = A * B := IntWalk.i64_in _ (by omega)
          have w6 : IntKind.i64.wrap (C + A * B) = C + A * B := IntWalk.i64_in _ (by omega)
          go_wp2
          go_region
          all_goals
            go_wp2
            go_roundw
            case rel =>
              refine ⟨j + 1, by omega, by go_num, ?_, ?_, ?_, ?_, ?_⟩
              · exact a1.setOther (by omega) _
              · exact a2.setOther (by omega) _
              · exact a3.setOther (by omega) _
              · have := a4.set i (.int .i64 (C + A * B))
                rw [e2.out, set_tpart f g _ _ hlt] at this
                rw [e2.out]
                exact this
              · exact (bW.setCell (p := ⟨w.heap.size + 1 + 1 + 1, i, none⟩) (by show w.heap.size ≤ w.heap.size + 1 + 1 + 1; omega) _).drew
            case measure => simp [intOf]; omega
        · have hlj' : ¬ (j : Int) < 3 := by omega
          obtain rfl : j = 3 := by omega
          rw [tpart_next] at a4
          go_wp2
          exact ⟨⟨i + 1, by omega, by go_num, a1, a2, a3, a4, bW⟩, by simp [intOf]; omega⟩
    · have hlt' : ¬ (i : Int) < 9 := by omega
      obtain rfl : i = 9 := by omega
      rw [tpart9] at a4
      obtain ⟨⟨r0, r1, r2, r3, r4, r5, r6, r7, r8⟩, -⟩ := a4.open9
      obtain ⟨⟨c0, c1, c2, c3, c4, c5, c6, c7, c8⟩, e0, e1, e2, e3, e4, e5, e6, e7, e8⟩ := a3.open9
      go_wp2
      have hF := put9_at a3 (mulM f g)
      obtain ⟨⟨q0, q1, q2, q3, q4, q5, q6, q7, q8⟩, -⟩ := hF.open9
      exact bodyPost_ret (v := .agg (matA (mulM f g))) (by simp [results, Try.results54, go_sem, q0, q1, q2, q3, q4, q5, q6, q7, q8]; rfl) rfl ⟨rfl, put9_below bW (by omega) (mulM f g)⟩
theorem vsum_bound3 {f h : Nat → Int} (hf : ∀ i, i < 9 → -3 ≤ f i ∧ f i ≤ 3) (hh : ∀ i, i < 3 → 0 ≤ h i ∧ h i < 24) (a : Nat) (ha : a < 3) (k : Nat) (hk : k ≤ 3) : -(69 * k) ≤ vsum f h a k ∧ vsum f h a k ≤ 69 * k := by
  induction k with
  | zero => simp [vsum]
  | succ k ih =>
    have := ih (by omega)
    have h1 := mul_bound (N := 23) (hf (3 * a + k) (by omega)) (show -23 ≤ h k ∧ h k ≤ 23 by have := hh k (by omega); omega)
    simp only [vsum]
    omega
set_option maxRecDepth 100000 in
set_option maxHeartbeats 1600000 in
theorem moves3_any {f h : Nat → Int} (hf : ∀ i, i < 9 → -3 ≤ f i ∧ f i ≤ 3) (hh : ∀ i, i < 3 → 0 ≤ h i ∧ h i < 24) (w : World) :
    Calls Try.prog 50 #[.agg (matA f), .agg (vA h)] w fun e w' => e = .returned (.agg (vA (movV f h))) ∧ Below w.heap.size w w' := by
  obtain ⟨W1, hW1, a1, bW1, z1⟩ := boxed w 42 (matA f)
  obtain ⟨W2, hW2, a2, bW2, z2⟩ := boxed W1 44 (vA h)
  obtain ⟨W3, hW3, a3, bW3, z3⟩ := boxed W2 44 (vA fun _ => 0)
  obtain ⟨W4, hW4, a4, bW4, z4⟩ := boxed W3 44 (vA fun _ => 0)
  rw [z1] at a2 bW2 z2
  rw [z2] at a3 bW3 z3
  rw [z3] at a4 bW4 z4
  replace a1 := ((a1.belowN bW2 (by omega)).belowN bW3 (by omega)).belowN bW4 (by omega)
  replace a2 := (a2.belowN bW3 (by omega)).belowN bW4 (by omega)
  replace a3 := a3.belowN bW4 (by omega)
  have bW : Below w.heap.size w W4 := ((bW1.trans (bW2.mono (by omega))).trans (bW3.mono (by omega))).trans (bW4.mono (by omega))
  clear bW1 bW2 bW3 bW4
  rw [← vpart0 f h] at a4
  unfold matA at hW1 ⊢
  unfold vA at hW2 hW3 hW4 ⊢
  go_enter Try.func50, Try.ntmps50
  go_wp2
  clear hW1 hW2 hW3 hW4
  go_loopw [7] (fun s wr => ∃ i : Nat, i ≤ 9 ∧ s = .int .i64 i ∧ At 42 wr w.heap.size (matA f) ∧ At 44 wr (w.heap.size + 1) (vA h) ∧ At 44 wr (w.heap.size + 1 + 1) (vA fun _ => 0) ∧ At 44 wr (w.heap.size + 1 + 1 + 1) (vA (vpart f h i)) ∧ Below w.heap.size w wr) (fun s _ => 9 - (intOf s).toNat)
  case atStart => exact ⟨0, Nat.zero_le _, rfl, a1, a2, a3, a4, bW⟩
  case round =>
    clear a1 a2 a3 a4 bW z1 z2 z3 z4
    obtain ⟨i, hi, rfl, a1, a2, a3, a4, bW⟩ := hrel
    by_cases hlt : i < 9
    · have hlt' : (i : Int) < 9 := by omega
      have e3 := set_vpart f h i hlt
      have e1 : vpart f h i (i / 3) = vsum f h (i / 3) (i % 3) := by simp [vpart]
      have e2 : Hid (vsum f h (i / 3) (i % 3) + f i * h (i % 3) = vsum f h (i / 3) (i % 3 + 1)) := by
        show vsum f h (i / 3) (i % 3) + f i * h (i % 3) = vsum f h (i / 3) (i % 3) + f (3 * (i / 3) + i % 3) * h (i % 3)
        rw [Nat.div_add_mod]
      have bC := vsum_bound3 hf hh (i / 3) (by omega) (i % 3) (by omega)
      obtain ⟨d, hd⟩ : ∃ d, i / 3 = d := ⟨_, rfl⟩
      obtain ⟨r, hr⟩ : ∃ r, i % 3 = r := ⟨_, rfl⟩
      rw [hd, hr] at e3 e1 e2 bC
      have hd3 : d < 3 := by omega
      have hr3 : r < 3 := by omega
      have hd3' : (d : Int) < 3 := by omega
      have hr3' : (r : Int) < 3 := by omega
      have hT : (i : Int).tmod 3 = (r : Int) := by rw [Int.tmod_eq_emod_of_nonneg (by omega)]; omega
      have hD : (i : Int).tdiv 3 = (d : Int) := by rw [Int.tdiv_eq_ediv_of_nonneg (by omega)]; omega
      have wD : IntKind.i64.wrap (d : Int) = (d : Int) := IntWalk.i64_in _ (by omega)
      have cA := a1.cell i (matA_get f _ hlt)
      have cB := a2.cell r (vA_get h _ hr3)
      have cC := a4.cell d (vA_get _ _ hd3)
      have fC := a4.frozen d
      rw [e1] at cC
      have bA := hf i hlt
      have bB := hh r hr3
      have m1 := mul_bound (N := 23) bA (show -23 ≤ h r ∧ h r ≤ 23 by omega)
      have bC' : -207 ≤ vsum f h d r ∧ vsum f h d r ≤ 207 := by omega
      have E3 : Hid ((vA (vpart f h i)).setIfInBounds d (.int .i64 (vsum f h d (r + 1))) = vA (vpart f h (i + 1))) := e3
      clear e1 hd hr e3 bC
      generalize f i = A at *
      generalize h r = B at *
      generalize vsum f h d r = C at *
      have w5 : IntKind.i64.wrap (A * B) = A * B := IntWalk.i64_in _ (by omega)
      have w6 : IntKind.i64.wrap (C + A * B) = C + A * B := IntWalk.i64_in _ (by omega)
      go_wp2
      go_region
      all_goals
        go_wp2
        go_roundw
        case rel =>
          refine ⟨i + 1, by omega, by go_num, ?_, ?_, ?_, ?_, ?_⟩
          · exact a1.setOther (by omega) _
          · exact a2.setOther (by omega) _
          · exact a3.setOther (by omega) _
          · have := a4.set d (.int .i64 (C + A * B))
            rw [e2.out, E3.out] at this
            rw [e2.out]
            exact this
          · exact (bW.setCell (p := ⟨w.heap.size + 1 + 1 + 1, d, none⟩) (by show w.heap.size ≤ w.heap.size + 1 + 1 + 1; omega) _).drew
        case measure => simp [intOf]; omega
    · have hlt' : ¬ (i : Int) < 9 := by omega
      obtain rfl : i = 9 := by omega
      rw [vpart9] at a4
      obtain ⟨r0, r1, r2, -⟩ := At.open3 a4
      obtain ⟨c0, c1, c2, e0, e1, e2⟩ := At.open3 a3
      go_wp2
      have hF : At 44 _ _ (vA (movV f h)) := put3e_at a3 (.int .i64 (movV f h 0)) (.int .i64 (movV f h 1)) (.int .i64 (movV f h 2))
      obtain ⟨q0, q1, q2, -⟩ := At.open3 hF
      exact bodyPost_ret (v := .agg (vA (movV f h))) (by simp [results, Try.results50, go_sem, q0, q1, q2]; rfl) rfl ⟨rfl, put3e_below bW (by omega) _ _ _⟩
set_option maxRecDepth 100000 in
set_option maxHeartbeats 1600000 in
theorem behind3_any {f h g k : Nat → Int} (hf : ∀ i, i < 9 → -3 ≤ f i ∧ f i ≤ 3) (hh : ∀ i, i < 3 → 0 ≤ h i ∧ h i < 24) (hG : isR g k) (w : World) :
    Calls Try.prog 34 #[.agg (opA f h), .agg (opA g k)] w fun e w' => e = .returned (.agg (opA (mulM f g) (behV f h k))) ∧ Below w.heap.size w w' := by
  obtain ⟨W1, hW1, a1, bW1, -⟩ := boxed w 46 (opA f h)
  obtain ⟨W2, hW2, a2, bW2, -⟩ := boxed W1 46 (opA g k)
  obtain ⟨W3, hW3, a3, bW3, -⟩ := boxed W2 46 (opA (fun _ => 0) (fun _ => 0))
  rw [zero12] at hW3
  have s1 := a1.lt
  have s2 := a2.lt
  have s3 := a3.lt
  replace a1 := (a1.below bW2).below bW3
  replace a2 := a2.below bW3
  replace bW1 := (bW1.trans (bW2.mono bW1.size)).trans (bW3.mono (by omega))
  have hg := hG.1
  have hk := hG.2.1
  clear hG bW2 bW3
  unfold opA at hW1 hW2 ⊢
  go_enter Try.func34, Try.ntmps34
  go_wp2
  clear hW1 hW2 hW3
  go_cut [5] from 6 (fun s5 wc => BehAt w W2.heap.size W3.heap.size f h g k s5 wc)
  case first =>
    obtain ⟨w0, hw0, A2, A3, A4, B0, t⟩ : ∃ w0, W3.drew = w0 ∧ At 46 w0 w.heap.size (opA f h) ∧ At 46 w0 W1.heap.size (opA g k) ∧ At 46 w0 W2.heap.size (opA (fun _ => 0) (fun _ => 0)) ∧ Below w.heap.size w w0 ∧ W3.heap.size ≤ w0.heap.size := ⟨_, rfl, a1, a2, a3, bW1.drew, Nat.le_refl _⟩
    refine wp_region_held_drew (S := SB w.heap.size f W1.heap.size g k) (by kernel_rfl) (by rw [hw0]; exact sb_mk A2 A3) (fun hHeld => ?_)
    rw [hw0] at hHeld ⊢
    clear hw0 a1 a2 a3 bW1
    change wpAnyH _ _ _ _ _ 13 #[false, false, false, false, false, false, false, false, false, false, false, false, false] _ _
    refine wpAnyH_take (i := 0) (v := .pointer (some ⟨w.heap.size, 0, none⟩)) rfl (by kernel_rfl) (by kernel_rfl) (by kernel_rfl) (fun _ _ _ h => h) (Or.inl ⟨by kernel_rfl, ?_⟩) hHeld ?_
    · intro w' hSw; go_simp
    try simp only [Act.put]
    refine wpAnyH_take (i := 1) (v := .agg (matL f).toArray) rfl (by kernel_rfl) (by kernel_rfl) (by kernel_rfl) (fun _ _ _ h => h) (yieldsIf_load_mid (by rfl) _ _ rfl _ _ rfl (matL f) _ (fun w' h => h.1) Try.underlying42 rfl (size53 f)) hHeld ?_
    try simp only [Act.put]
    refine wpAnyH_take (i := 2) (v := .pointer (some ⟨W1.heap.size, 0, none⟩)) rfl (by kernel_rfl) (by kernel_rfl) (by kernel_rfl) (fun _ _ _ h => h) (Or.inl ⟨by kernel_rfl, ?_⟩) hHeld ?_
    · intro w' hSw; go_simp
    try simp only [Act.put]
    refine wpAnyH_take (i := 3) (v := .agg (matL g).toArray) rfl (by kernel_rfl) (by kernel_rfl) (by kernel_rfl) (fun _ _ _ h => h) (yieldsIf_load_mid (by rfl) _ _ rfl _ _ rfl (matL g) _ (fun w' h => h.2.1) Try.underlying42 rfl (size53 g)) hHeld ?_
    try simp only [Act.put]
    refine wpAnyH_take (i := 5) (v := .pointer (some ⟨w.heap.size, 0, none⟩)) rfl (by kernel_rfl) (by kernel_rfl) (by kernel_rfl) (fun _ _ _ h => h) (Or.inl ⟨by kernel_rfl, ?_⟩) hHeld ?_
    · intro w' hSw; go_simp
    try simp only [Act.put]
    refine wpAnyH_take (i := 6) (v := .agg (matL f).toArray) rfl (by kernel_rfl) (by kernel_rfl) (by kernel_rfl) (fun _ _ _ h => h) (yieldsIf_load_mid (by rfl) _ _ rfl _ _ rfl (matL f) _ (fun w' h => h.1) Try.underlying42 rfl (size53 f)) hHeld ?_
    try simp only [Act.put]
    refine wpAnyH_take (i := 7) (v := .pointer (some ⟨W1.heap.size, 9, none⟩)) rfl (by kernel_rfl) (by kernel_rfl) (by kernel_rfl) (fun _ _ _ h => h) (Or.inl ⟨by kernel_rfl, ?_⟩) hHeld ?_
    · intro w' hSw; go_simp
    try simp only [Act.put]
    refine wpAnyH_take (i := 8) (v := .agg (vecL k).toArray) rfl (by kernel_rfl) (by kernel_rfl) (by kernel_rfl) (fun _ _ _ h => h) (yieldsIf_load_mid (by rfl) _ _ rfl _ _ rfl (vecL k) _ (fun w' h => h.2.2) Try.underlying44 rfl (size55 k)) hHeld ?_
    try simp only [Act.put]
    refine wpAnyH_ready (rs := [4, 11]) (by kernel_rfl) (by simp) ?_
    refine AllReadyH.cons rfl (fun K hK => ?_) ?_
    · go_simp
      refine (times3_any hf hg _).mono ?_
      rintro e w1 ⟨rfl, b⟩
      unfold matA
      replace A2 := A2.below b
      replace A3 := A3.below b
      replace A4 := A4.below b
      have t0 := b.size
      replace B0 := B0.trans (b.mono B0.size)
      clear b
      try go_wp2_with fail
      clear hHeld
      refine hK.out _ _ (sb_mk A2 A3) (fun hHeld => ?_)
      clear hK K
      try simp only [List.setIfInBounds_toArray, List.set_cons_zero, List.set_cons_succ]
      refine wpAnyH_ready (rs := [9, 11]) (by kernel_rfl) (by simp) ?_
      refine AllReadyH.cons rfl (fun K hK => ?_) ?_
      · go_simp
        refine (moves3_any hf hk _).mono ?_
        rintro e w2 ⟨rfl, b⟩
        unfold vA
        replace A2 := A2.below b
        replace A3 := A3.below b
        replace A4 := A4.below b
        have t1 := b.size
        replace B0 := B0.trans (b.mono B0.size)
        clear b
        try go_wp2_with fail
        clear hHeld
        refine hK.out _ _ (sb_mk A2 A3) (fun hHeld => ?_)
        clear hK K
        try simp only [List.setIfInBounds_toArray, List.set_cons_zero, List.set_cons_succ]
        refine wpAnyH_take (i := 10) (v := .agg (opA (mulM f g) (movV f k))) rfl (by kernel_rfl) (by kernel_rfl) (by kernel_rfl) (fun _ _ _ h => h) (Or.inl ⟨by kernel_rfl, ?_⟩) hHeld ?_
        · intro w' hSw; go_simp; rfl
        try simp only [Act.put]
        refine wpAnyH_ready (rs := [11]) (by kernel_rfl) (by simp) ?_
        refine AllReadyH.cons rfl (fun K hK => ?_) AllReadyH.nil
        go_simp
        obtain ⟨w3, h6, A5, b, z6⟩ := boxed w2 46 (opA (fun _ => 0) (fun _ => 0))
        rw [zero12] at h6
        rw [h6]
        clear h6
        replace A2 := A2.below b
        replace A3 := A3.below b
        replace A4 := A4.below b
        replace B0 := B0.trans (b.mono B0.size)
        obtain ⟨q, hq⟩ : ∃ q, w2.heap.size = q := ⟨_, rfl⟩
        have q1 : W3.heap.size ≤ q := by omega
        rw [hq] at A5
        try rw [hq]
        clear b
        have t2 : w2.heap.size ≤ w3.heap.size := by omega
        clear hHeld
        refine hK.out _ _ (sb_mk A2 A3) (fun hHeld => ?_)
        clear hK K
        try simp only [List.setIfInBounds_toArray, List.set_cons_zero, List.set_cons_succ]
        refine wpAnyH_ready (rs := [12]) (by kernel_rfl) (by simp) ?_
        refine AllReadyH.cons rfl (fun K hK => ?_) AllReadyH.nil
        obtain ⟨⟨x0, x1, x2, x3, x4, x5, x6, x7, x8⟩, x9, x10, x11⟩ := A5.open12
        obtain ⟨y0, y1, y2, y3, y4, y5, y6, y7, y8, y9, y10, y11⟩ := A5.fro12
        unfold opA
        go_simp
        clear x0 x1 x2 x3 x4 x5 x6 x7 x8 x9 x10 x11 y0 y1 y2 y3 y4 y5 y6 y7 y8 y9 y10 y11 hHeld
        obtain ⟨X1, hX1⟩ : ∃ X1, put12 w3 q (mulM f g) (movV f k) = X1 := ⟨_, rfl⟩
        have C5 : At 46 X1 q (opA (mulM f g) (movV f k)) := hX1 ▸ put12_at A5 _ _
        have C2 : At 46 X1 w.heap.size (opA f h) := hX1 ▸ put12_other A2 (by omega) _ _
        have C3 : At 46 X1 W1.heap.size (opA g k) := hX1 ▸ put12_other A3 (by omega) _ _
        have C4 : At 46 X1 W2.heap.size (opA (fun _ => 0) (fun _ => 0)) := hX1 ▸ put12_other A4 (by omega) _ _
        have CB : Below w.heap.size w X1 := hX1 ▸ put12_below B0 (by omega) _ _
        unfold put12 at hX1
        rw [hX1]
        refine hK.out _ _ (sb_mk C2 C3) (fun hHeld => ?_)
        clear hK K A2 A3 A4 A5 B0 hX1 hHeld
        try simp only [List.setIfInBounds_toArray, List.set_cons_zero, List.set_cons_succ]
        refine wpAnyH_done (by kernel_rfl) ?_ _
        go_wp2_with fail
        go_meet
        case rel => exact ⟨q, rfl, q1, C5, C2, C4, CB⟩
      refine AllReadyH.cons rfl (fun K hK => ?_) AllReadyH.nil
      go_simp
      obtain ⟨w2, h6, A5, b, z6⟩ := boxed w1 46 (opA (fun _ => 0) (fun _ => 0))
      rw [zero12] at h6
      rw [h6]
      clear h6
      replace A2 := A2.below b
      replace A3 := A3.below b
      replace A4 := A4.below b
      replace B0 := B0.trans (b.mono B0.size)
      obtain ⟨q, hq⟩ : ∃ q, w1.heap.size = q := ⟨_, rfl⟩
      have q1 : W3.heap.size ≤ q := by omega
      rw [hq] at A5
      try rw [hq]
      clear b
      have t1 : w1.heap.size ≤ w2.heap.size := by omega
      clear hHeld
      refine hK.out _ _ (sb_mk A2 A3) (fun hHeld => ?_)
      clear hK K
      try simp only [List.setIfInBounds_toArray, List.set_cons_zero, List.set_cons_succ]
      refine wpAnyH_ready (rs := [9]) (by kernel_rfl) (by simp) ?_
      refine AllReadyH.cons rfl (fun K hK => ?_) AllReadyH.nil
      go_simp
      refine (moves3_any hf hk _).mono ?_
      rintro e w3 ⟨rfl, b⟩
      unfold vA
      replace A2 := A2.below b
      replace A3 := A3.below b
      replace A4 := A4.below b
      replace A5 := A5.below b
      have t2 := b.size
      replace B0 := B0.trans (b.mono B0.size)
      clear b
      try go_wp2_with fail
      clear hHeld
      refine hK.out _ _ (sb_mk A2 A3) (fun hHeld => ?_)
      clear hK K
      try simp only [List.setIfInBounds_toArray, List.set_cons_zero, List.set_cons_succ]
      refine wpAnyH_take (i := 10) (v := .agg (opA (mulM f g) (movV f k))) rfl (by kernel_rfl) (by kernel_rfl) (by kernel_rfl) (fun _ _ _ h => h) (Or.inl ⟨by kernel_rfl, ?_⟩) hHeld ?_
      · intro w' hSw; go_simp; rfl
      try simp only [Act.put]
      refine wpAnyH_ready (rs := [12]) (by kernel_rfl) (by simp) ?_
      refine AllReadyH.cons rfl (fun K hK => ?_) AllReadyH.nil
      obtain ⟨⟨x0, x1, x2, x3, x4, x5, x6, x7, x8⟩, x9, x10, x11⟩ := A5.open12
      obtain ⟨y0, y1, y2, y3, y4, y5, y6, y7, y8, y9, y10, y11⟩ := A5.fro12
      unfold opA
      go_simp
      clear x0 x1 x2 x3 x4 x5 x6 x7 x8 x9 x10 x11 y0 y1 y2 y3 y4 y5 y6 y7 y8 y9 y10 y11 hHeld
      obtain ⟨X1, hX1⟩ : ∃ X1, put12 w3 q (mulM f g) (movV f k) = X1 := ⟨_, rfl⟩
      have C5 : At 46 X1 q (opA (mulM f g) (movV f k)) := hX1 ▸ put12_at A5 _ _
      have C2 : At 46 X1 w.heap.size (opA f h) := hX1 ▸ put12_other A2 (by omega) _ _
      have C3 : At 46 X1 W1.heap.size (opA g k) := hX1 ▸ put12_other A3 (by omega) _ _
      have C4 : At 46 X1 W2.heap.size (opA (fun _ => 0) (fun _ => 0)) := hX1 ▸ put12_other A4 (by omega) _ _
      have CB : Below w.heap.size w X1 := hX1 ▸ put12_below B0 (by omega) _ _
      unfold put12 at hX1
      rw [hX1]
      refine hK.out _ _ (sb_mk C2 C3) (fun hHeld => ?_)
      clear hK K A2 A3 A4 A5 B0 hX1 hHeld
      try simp only [List.setIfInBounds_toArray, List.set_cons_zero, List.set_cons_succ]
      refine wpAnyH_done (by kernel_rfl) ?_ _
      go_wp2_with fail
      go_meet
      case rel => exact ⟨q, rfl, q1, C5, C2, C4, CB⟩
    refine AllReadyH.cons rfl (fun K hK => ?_) AllReadyH.nil
    go_simp
    obtain ⟨w1, h6, A5, b, z6⟩ := boxed w0 46 (opA (fun _ => 0) (fun _ => 0))
    rw [zero12] at h6
    rw [h6]
    clear h6
    replace A2 := A2.below b
    replace A3 := A3.below b
    replace A4 := A4.below b
    replace B0 := B0.trans (b.mono B0.size)
    obtain ⟨q, hq⟩ : ∃ q, w0.heap.size = q := ⟨_, rfl⟩
    have q1 : W3.heap.size ≤ q := by omega
    rw [hq] at A5
    try rw [hq]
    clear b
    have t0 : w0.heap.size ≤ w1.heap.size := by omega
    clear hHeld
    refine hK.out _ _ (sb_mk A2 A3) (fun hHeld => ?_)
    clear hK K
    try simp only [List.setIfInBounds_toArray, List.set_cons_zero, List.set_cons_succ]
    refine wpAnyH_ready (rs := [4]) (by kernel_rfl) (by simp) ?_
    refine AllReadyH.cons rfl (fun K hK => ?_) AllReadyH.nil
    go_simp
    refine (times3_any hf hg _).mono ?_
    rintro e w2 ⟨rfl, b⟩
    unfold matA
    replace A2 := A2.below b
    replace A3 := A3.below b
    replace A4 := A4.below b
    replace A5 := A5.below b
    have t1 := b.size
    replace B0 := B0.trans (b.mono B0.size)
    clear b
    try go_wp2_with fail
    clear hHeld
    refine hK.out _ _ (sb_mk A2 A3) (fun hHeld => ?_)
    clear hK K
    try simp only [List.setIfInBounds_toArray, List.set_cons_zero, List.set_cons_succ]
    refine wpAnyH_ready (rs := [9]) (by kernel_rfl) (by simp) ?_
    refine AllReadyH.cons rfl (fun K hK => ?_) AllReadyH.nil
    go_simp
    refine (moves3_any hf hk _).mono ?_
    rintro e w3 ⟨rfl, b⟩
    unfold vA
    replace A2 := A2.below b
    replace A3 := A3.below b
    replace A4 := A4.below b
    replace A5 := A5.below b
    have t2 := b.size
    replace B0 := B0.trans (b.mono B0.size)
    clear b
    try go_wp2_with fail
    clear hHeld
    refine hK.out _ _ (sb_mk A2 A3) (fun hHeld => ?_)
    clear hK K
    try simp only [List.setIfInBounds_toArray, List.set_cons_zero, List.set_cons_succ]
    refine wpAnyH_take (i := 10) (v := .agg (opA (mulM f g) (movV f k))) rfl (by kernel_rfl) (by kernel_rfl) (by kernel_rfl) (fun _ _ _ h => h) (Or.inl ⟨by kernel_rfl, ?_⟩) hHeld ?_
    · intro w' hSw; go_simp; rfl
    try simp only [Act.put]
    refine wpAnyH_ready (rs := [12]) (by kernel_rfl) (by simp) ?_
    refine AllReadyH.cons rfl (fun K hK => ?_) AllReadyH.nil
    obtain ⟨⟨x0, x1, x2, x3, x4, x5, x6, x7, x8⟩, x9, x10, x11⟩ := A5.open12
    obtain ⟨y0, y1, y2, y3, y4, y5, y6, y7, y8, y9, y10, y11⟩ := A5.fro12
    unfold opA
    go_simp
    clear x0 x1 x2 x3 x4 x5 x6 x7 x8 x9 x10 x11 y0 y1 y2 y3 y4 y5 y6 y7 y8 y9 y10 y11 hHeld
    obtain ⟨X1, hX1⟩ : ∃ X1, put12 w3 q (mulM f g) (movV f k) = X1 := ⟨_, rfl⟩
    have C5 : At 46 X1 q (opA (mulM f g) (movV f k)) := hX1 ▸ put12_at A5 _ _
    have C2 : At 46 X1 w.heap.size (opA f h) := hX1 ▸ put12_other A2 (by omega) _ _
    have C3 : At 46 X1 W1.heap.size (opA g k) := hX1 ▸ put12_other A3 (by omega) _ _
    have C4 : At 46 X1 W2.heap.size (opA (fun _ => 0) (fun _ => 0)) := hX1 ▸ put12_other A4 (by omega) _ _
    have CB : Below w.heap.size w X1 := hX1 ▸ put12_below B0 (by omega) _ _
    unfold put12 at hX1
    rw [hX1]
    refine hK.out _ _ (sb_mk C2 C3) (fun hHeld => ?_)
    clear hK K A2 A3 A4 A5 B0 hX1 hHeld
    try simp only [List.setIfInBounds_toArray, List.set_cons_zero, List.set_cons_succ]
    refine wpAnyH_done (by kernel_rfl) ?_ _
    go_wp2_with fail
    go_meet
    case rel => exact ⟨q, rfl, q1, C5, C2, C4, CB⟩
  case rest =>
    clear a1 a2 a3 bW1
    obtain ⟨q, rfl, hq, C5, C2, C4, CB⟩ := hcut
    rw [← bpart0 f h k] at C5
    go_wp2
    go_loopw [18] (fun s wr => ∃ i : Nat, i ≤ 3 ∧ s = .int .i64 i ∧ At 46 wr w.heap.size (opA f h) ∧ At 46 wr W2.heap.size (opA (fun _ => 0) (fun _ => 0)) ∧ At 46 wr q (opA (mulM f g) (bpart f h k i)) ∧ Below w.heap.size w wr) (fun s _ => 3 - (intOf s).toNat)
    case atStart => exact ⟨0, Nat.zero_le _, rfl, C2, C4, C5, CB⟩
    case round =>
      clear C2 C4 C5 CB
      obtain ⟨i, hi, rfl, a2, a4, a5, bW⟩ := hrel
      by_cases hlt : i < 3
      · have hlt' : (i : Int) < 3 := by omega
        have cA := a5.cell (9 + i) (opA_shift _ _ _ hlt)
        have cB := a2.cell (9 + i) (opA_shift _ _ _ hlt)
        have fA := a5.frozen (9 + i)
        have e1 : bpart f h k i i = movV f k i := by simp [bpart]
        rw [e1] at cA
        have bA := vsum_bound3 hf hk i hlt 3 (by omega)
        have bA' : -207 ≤ movV f k i ∧ movV f k i ≤ 207 := by unfold movV; omega
        have bB := hh i hlt
        have e2 : Hid ((movV f k i + h i) % 24 = behV f h k i) := rfl
        clear e1 bA
        generalize movV f k i = A at *
        generalize h i = B at *
        have w6 : IntKind.i64.wrap (A + B) = A + B := IntWalk.i64_in _ (by omega)
        go_wp2
        go_region_with (go_at_call 51; refine (modulo_any _ _ ?_).mono ?_; omega; rintro e w2 ⟨rfl, rfl⟩)
        all_goals
          go_wp2
          go_roundw
          case rel =>
            refine ⟨i + 1, by omega, by go_num, ?_, ?_, ?_, ?_⟩
            · exact a2.setOther (by omega) _
            · exact a4.setOther (by omega) _
            · have := a5.set (9 + i) (.int .i64 ((A + B) % 24))
              rw [e2.out, set_bpart _ f h k _ hlt] at this
              rw [e2.out]
              exact this
            · exact (bW.setCell (p := ⟨q, 9 + i, none⟩) (by show w.heap.size ≤ q; omega) _).drew
          case measure => simp [intOf]; omega
      · have hlt' : ¬ (i : Int) < 3 := by omega
        obtain rfl : i = 3 := by omega
        rw [bpart3] at a5
        obtain ⟨⟨c0, c1, c2, c3, c4, c5, c6, c7, c8⟩, c9, c10, c11⟩ := a5.open12
        obtain ⟨⟨d0, d1, d2, d3, d4, d5, d6, d7, d8⟩, d9, d10, d11⟩ := a4.open12
        obtain ⟨y0, y1, y2, y3, y4, y5, y6, y7, y8, y9, y10, y11⟩ := a4.fro12
        go_wp2
        have hF := put12_at a4 (mulM f g) (behV f h k)
        obtain ⟨⟨p0, p1, p2, p3, p4, p5, p6, p7, p8⟩, p9, p10, p11⟩ := hF.open12
        exact bodyPost_ret (v := .agg (opA (mulM f g) (behV f h k))) (by simp [results, Try.results34, go_sem, p0, p1, p2, p3, p4, p5, p6, p7, p8, p9, p10, p11]; rfl) rfl ⟨rfl, put12_below bW (by omega) _ _⟩
end Go.Proofs.Ytgjhbkpocbihbaa
