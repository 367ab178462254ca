/-
  Ways back of operators by the specification, walked.
-/
import Derived.Test.YtgjhbkpocbihbaaML
import Derived.Test.YtgjhbkpocbihbaaME
import Derived.Test.YtgjhbkpocbihbaaNP
import Derived.Deep.AppendLies
namespace Go.Proofs.Ytgjhbkpocbihbaa
open Go.RowKit

/-- The way back is told. -/
def backOk (n : Nat) (f : Nat → Int) (k : Nat) (h : Nat → Int) : Prop := isOp n f k h ∧ isR (backM f) (backV f h)
instance (n : Nat) (f : Nat → Int) (k : Nat) (h : Nat → Int) : Decidable (backOk n f k h) := by unfold backOk; infer_instance
theorem Kept.thenBelow {p : Nat} {w0 w w' : World} (h : Kept p w0 w) (hb : Below w0.heap.size w w') : Kept p w0 w' :=
  ⟨hb.os.trans h.os, hb.tape.trans h.tape, hb.output.trans h.output, Nat.le_trans h.size hb.size, fun k hk hp => (hb.block k hk).trans (h.block k hk hp)⟩
theorem ownBlock_geQ {w : World} {base : Nat} {e : TypeId} {size : Nat} {v : Value} {n : Nat} {xs : List Value} (h : w.ownsRow base e size v n xs) {j : Nat} (hj : v.ownBlock = some j) : base ≤ j := by
  rcases h.2 with ⟨rfl, _⟩ | ⟨g, cap, cur, rfl, hb, _⟩
  · cases hj
  · cases hj; exact hb
theorem Kept.grown {p : Nat} {w0 w w' : World} {v : Value} {n : Nat} {xs : List Value} (h : Kept p w0 w) (hg : w.grownBy w' v.ownBlock) (ho : w.ownsRow w0.heap.size 2 1 v n xs) : Kept p w0 w' :=
  ⟨hg.os.trans h.os, hg.tape.trans h.tape, hg.output.trans h.output, Nat.le_trans h.size hg.size, fun k hk hp => (hg.block k (Nat.lt_of_lt_of_le hk h.size) (fun e => by have := ownBlock_geQ ho e.symm; omega)).trans (h.block k hk hp)⟩
theorem own_belowQ {w w' : World} {B : Nat} {e : TypeId} {k : Nat} {v : Value} {n : Nat} {xs : List Value} (h : w.ownsRow B e k v n xs) (hb : Below w.heap.size w w') : w'.ownsRow B e k v n xs := by
  refine ⟨h.1, h.2.imp id ?_⟩
  rintro ⟨g, cap, cur, rfl, h1, h2, h3⟩
  exact ⟨g, cap, cur, rfl, h1, (hb.block g (Array.getElem?_eq_some_iff.1 h2).1).trans h2, h3⟩
theorem At.keptQ {t : TypeId} {w w' : World} {q p : Nat} {vs : Array Value} (h : At t w q vs) (hk : Kept p w w') (hp : q ≠ p) : At t w' q vs := (hk.block q h.lt hp).trans h
/-- What lies in memory while the way back's T is made. -/
structure BackSt (w : World) (f h : Nat → Int) (v1 v2 : Value) (q gm cm g3 n2 i : Nat) (wr : World) : Prop where
  d1 : At 36 wr w.heap.size #[v1, v2]
  d2 : At 36 wr n2 #[.slice none 0 0, .slice none 0 0]
  d6 : At 36 wr q #[.slice (some ⟨gm, 0, none⟩) 9 cm, .slice (some ⟨g3, 0, none⟩) 3 3]
  m9 : Made wr gm cm 9 (backM f)
  m3 : At 2 wr g3 (vA (vpart2 f h i))
  below : Below w.heap.size w wr
  apart : w.heap.size < n2 ∧ n2 < g3 ∧ g3 < q ∧ q < gm ∧ 9 ≤ cm
theorem BackSt.drew {w : World} {f h : Nat → Int} {v1 v2 : Value} {q gm cm g3 n2 i : Nat} {wr : World} (s : BackSt w f h v1 v2 q gm cm g3 n2 i wr) : BackSt w f h v1 v2 q gm cm g3 n2 i wr.drew :=
  ⟨s.d1, s.d2, s.d6, s.m9, s.m3, s.below.drew, s.apart⟩
theorem set_vpart2v (f h : Nat → Int) (n : Nat) (hn : n < 3) : (vA (vpart2 f h n)).setIfInBounds n (.int .i64 (backV f h n)) = vA (vpart2 f h (n + 1)) := by
  rcases (by omega : n = 0 ∨ n = 1 ∨ n = 2) with rfl | rfl | rfl <;> simp [vA, vpart2]
theorem vpart23v (f h : Nat → Int) : vA (vpart2 f h 3) = vA (backV f h) := by simp [vA, vpart2]
theorem BackSt.step {w : World} {f h : Nat → Int} {v1 v2 : Value} {q gm cm g3 n2 i : Nat} {wr : World} (s : BackSt w f h v1 v2 q gm cm g3 n2 i wr) (hi : i < 3) : BackSt w f h v1 v2 q gm cm g3 n2 (i + 1) (wr.setCell ⟨g3, i, none⟩ (.int .i64 (backV f h i))) := by
  have := s.apart
  exact ⟨s.d1.setOther (by omega) _, s.d2.setOther (by omega) _, s.d6.setOther (by omega) _, s.m9.setOther (by omega) _, set_vpart2v f h i hi ▸ s.m3.set i _, s.below.setCell (by show w.heap.size ≤ g3; omega) _, this⟩
/-- What the region reads. -/
def S13 (q1 : Nat) (tv : Value) (q : Nat) (mv nv : Value) (gm x y z : Nat) (A0 A1 A2 : Int) (b2 o2 : Nat) (T0 T1 T2 : Int) (w' : World) : Prop :=
  w'.cell? ⟨q1, 1, none⟩ = some tv ∧ w'.cell? ⟨q, 0, none⟩ = some mv ∧ w'.cell? ⟨q, 1, none⟩ = some nv ∧ w'.cell? ⟨gm, x, none⟩ = some (.int .i64 A0) ∧ w'.cell? ⟨gm, y, none⟩ = some (.int .i64 A1) ∧ w'.cell? ⟨gm, z, none⟩ = some (.int .i64 A2) ∧ w'.cell? ⟨b2, o2, none⟩ = some (.int .i64 T0) ∧ w'.cell? ⟨b2, o2 + 1, none⟩ = some (.int .i64 T1) ∧ w'.cell? ⟨b2, o2 + 2, none⟩ = some (.int .i64 T2)
theorem cell_far {w : World} {b o p i : Nat} {v u : Value} (h : w.cell? ⟨b, o, none⟩ = some v) (hb : b ≠ p) : (w.setCell ⟨p, i, none⟩ u).cell? ⟨b, o, none⟩ = some v := (World.cell?_of_block (w := w) (Below.heap_setCell _ _ _ _ hb)).trans h
theorem S13.set {q1 : Nat} {tv : Value} {q : Nat} {mv nv : Value} {gm x y z : Nat} {A0 A1 A2 : Int} {b2 o2 : Nat} {T0 T1 T2 : Int} {w' : World} (h : S13 q1 tv q mv nv gm x y z A0 A1 A2 b2 o2 T0 T1 T2 w') {p i : Nat} (h1 : q1 ≠ p) (h2 : q ≠ p) (h3 : gm ≠ p) (h4 : b2 ≠ p) (u : Value) : S13 q1 tv q mv nv gm x y z A0 A1 A2 b2 o2 T0 T1 T2 (w'.setCell ⟨p, i, none⟩ u) := by
  obtain ⟨s1, s2, s3, s4, s5, s6, s7, s8, s9⟩ := h
  exact ⟨cell_far s1 h1, cell_far s2 h2, cell_far s3 h2, cell_far s4 h3, cell_far s5 h3, cell_far s6 h3, cell_far s7 h4, cell_far s8 h4, cell_far s9 h4⟩
theorem backV_at (f h : Nat → Int) (i x y z : Nat) (hx : x = 3 * i) (hy : y = 3 * i + 1) (hz : z = 3 * i + 2) : -(backM f x * h 0 + backM f y * h 1 + backM f z * h 2) % 24 = backV f h i := by
  subst hx hy hz
  show _ = (-(0 + backM f (3 * i + 0) * h 0 + backM f (3 * i + 1) * h 1 + backM f (3 * i + 2) * h 2)) % 24
  rw [Int.zero_add]
  rfl
set_option maxRecDepth 100000 in
set_option maxHeartbeats 1600000 in
theorem specBack_ok {w : World} {b1 o1 b2 o2 : Nat} {f h : Nat → Int} (c1 c2 : Nat) (hs : Ints w b1 o1 9 f) (ht : Ints w b2 o2 3 h) (l1 : b1 < w.heap.size) (l2 : b2 < w.heap.size) (hR : isR f h) :
    Calls Try.prog 27 #[.agg #[.slice (some ⟨b1, o1, none⟩) 9 c1, .slice (some ⟨b2, o2, none⟩) 3 c2]] w fun e w' => ∃ o, e = .returned (.tuple #[o, .bool (decide (isR (backM f) (backV f h)))]) ∧ Told w' w.heap.size w'.heap.size o (decide (isR (backM f) (backV f h))) (backM f) (backV f h) ∧ Below w.heap.size w w' := by
  obtain ⟨RR, hRR⟩ : ∃ R, decide (isR (backM f) (backV f h)) = R := ⟨_, rfl⟩
  rw [hRR]
  have HR : Hid (decide (isR (backM f) (backV f h)) = RR) := hRR
  clear hRR
  obtain ⟨W1, hW1, a1, B, -⟩ := boxed w 36 #[.slice (some ⟨b1, o1, none⟩) 9 c1, .slice (some ⟨b2, o2, none⟩) 3 c2]
  obtain ⟨W2, hW2, a2, B2, -⟩ := boxed W1 36 #[.slice none 0 0, .slice none 0 0]
  have s1 := a1.lt
  have s2 := a2.lt
  replace a1 := a1.below B2
  replace B := B.trans (B2.mono B.size)
  have hf := hR.1
  have hh := hR.2.1
  have hf3 : ∀ i, i < 9 → -1000 ≤ f i ∧ f i ≤ 1000 := fun i hi => by have := hf i hi; omega
  have hd : -1 ≤ det3 f ∧ det3 f ≤ 1 := by rcases hR.2.2 with e | e <;> omega
  have hM : ∀ i, i < 9 → -2 ≤ backM f i ∧ backM f i ≤ 2 := fun i _ => backM_bound hR i
  have hA := adj_bound2 hf
  have HB : Hid (∀ i, adj f i * det3 f = backM f i) := fun _ => rfl
  obtain ⟨i0, hi0, hz0, hz1, hz2⟩ := info_parts Try.info2
  obtain ⟨c0', c1', -⟩ := a1.open2
  go_enter Try.func27, Try.ntmps27
  go_wp2_with fail
  refine (specOk_any c1 c2 (.inr ⟨b1, o1, rfl, Nat.lt_of_lt_of_le l1 B.size, hs.below l1 B⟩) (.inr ⟨b2, o2, rfl, Nat.lt_of_lt_of_le l2 B.size, ht.below l2 B⟩)).mono ?_
  rintro e w3 ⟨rfl, b3⟩
  rw [decide_eq_true (show isOp 9 f 3 h from ⟨rfl, rfl, hR⟩)]
  replace a1 := a1.below b3
  replace a2 := a2.below b3
  replace B := B.trans (b3.mono B.size)
  have s3 := b3.size
  clear c0' c1' b3 hW1 hW2 B2 hR
  obtain ⟨c0', c1', -⟩ := a1.open2
  go_wp2_with fail
  refine (specDet0_any (hs.below l1 B) hf3).mono ?_
  rintro e w4 ⟨rfl, b4⟩
  replace a1 := a1.below b4
  replace a2 := a2.below b4
  replace B := B.trans (b4.mono B.size)
  have s4 := b4.size
  clear c0' c1' b4
  obtain ⟨D, hD⟩ : ∃ D, det3 f = D := ⟨_, rfl⟩
  rw [hD] at hd HB ⊢
  clear hD
  obtain ⟨c0', c1', -⟩ := a1.open2
  go_wp2_with fail
  refine (specAdj_any (hs.below l1 B) hf3).mono ?_
  rintro e w5 ⟨ga, rfl, hga, oa, b5⟩
  replace a1 := a1.below b5
  replace a2 := a2.below b5
  replace B := B.trans (b5.mono B.size)
  have s5 := b5.size
  have ha := oa.lt
  clear c0' c1' b5
  have hmk := make3
  obtain ⟨W6, hW6, a3, b6, -⟩ := boxed w5 2 (vA fun _ => 0)
  unfold vA at hmk hW6
  replace a1 := a1.below b6
  replace a2 := a2.below b6
  replace oa := oa.below b6
  replace B := B.trans (b6.mono B.size)
  have s6 := a3.lt
  obtain ⟨X7, hX7, Wb, hWb, a6, b7, x0, x1, y0, y1⟩ := boxed2 W6 (.slice none 0 0) (.slice (some ⟨w5.heap.size, 0, none⟩) 3 3)
  replace a1 := a1.below b7
  replace a2 := a2.below b7
  replace a3 := a3.below b7
  replace oa := oa.below b7
  replace B := B.trans (b7.mono B.size)
  have s7 := a6.lt
  clear b6 b7
  go_wp2
  clear hmk hW6 hX7 hWb x0 x1 y0 y1
  obtain ⟨g3, hg3⟩ : ∃ g3, w5.heap.size = g3 := ⟨_, rfl⟩
  obtain ⟨q, hq⟩ : ∃ q, W6.heap.size = q := ⟨_, rfl⟩
  rw [hg3] at a3 a6 s5 s6 ⊢
  rw [hq] at a6 s6 s7 ⊢
  have hap : w.heap.size < W1.heap.size ∧ W1.heap.size < ga ∧ ga < g3 ∧ g3 < q ∧ q < Wb.heap.size := by omega
  clear hg3 hq
  have o6 : Wb.ownsRow Wb.heap.size 2 1 (.slice none 0 0) 0 (iCells (backM f) 0) := ⟨rfl, .inl ⟨rfl, rfl⟩⟩
  go_loopw [7] (fun s wr => ∃ (i : Nat) (va : Option Addr) (vc : Nat), i ≤ 9 ∧ s = .int .i64 i ∧ At 36 wr q #[.slice va i vc, .slice (some ⟨g3, 0, none⟩) 3 3] ∧ wr.ownsRow Wb.heap.size 2 1 (.slice va i vc) i (iCells (backM f) i) ∧ Kept q Wb wr) (fun s _ => 9 - (intOf s).toNat)
  case atStart => exact ⟨0, none, 0, Nat.zero_le _, rfl, a6, o6, Kept.refl _ _⟩
  case round =>
    clear a6 o6
    obtain ⟨i, va, vc, hi, rfl, a6, o6, hK⟩ := hrel
    by_cases hlt : i < 9
    · have hlt' : (i : Int) < 9 := by omega
      have cA : wr.cell? ⟨ga, i, none⟩ = some (.int .i64 (adj f i)) := by
        obtain ⟨cur, h1, h2, h3⟩ := oa
        exact (h1.keptQ hK (by omega)).cell i (h3 i hlt)
      have bA := hA i
      have m1 := mul_bound bA hd
      have w1 : IntKind.i64.wrap (adj f i * D) = adj f i * D := IntWalk.i64_in _ (by omega)
      have hKs := hK.size
      go_wp2
      obtain ⟨u0, hu0, A6, K0, O0, cA0⟩ : ∃ u0, wr.drew = u0 ∧ At 36 u0 q #[.slice va i vc, .slice (some ⟨g3, 0, none⟩) 3 3] ∧ Kept q Wb u0 ∧ u0.ownsRow Wb.heap.size 2 1 (.slice va i vc) i (iCells (backM f) i) ∧ u0.cell? ⟨ga, i, none⟩ = some (.int .i64 (adj f i)) := ⟨_, rfl, a6, hK.drewN (n := 1), o6, cA⟩
      refine wp_region_held_drew (S := fun w' => w'.cell? ⟨ga, i, none⟩ = some (.int .i64 (adj f i))) (by kernel_rfl) (by rw [hu0]; exact cA0) (fun hHeld => ?_)
      rw [hu0] at hHeld ⊢
      clear hu0 a6 hK o6 cA
      change wpAnyH _ _ _ _ _ 12 #[false, false, false, false, false, false, false, false, false, false, false, false] _ _
      refine wpAnyH_take (i := 0) (v := .pointer (some ⟨q, 0, none⟩)) rfl (by kernel_rfl) (by kernel_rfl) (by kernel_rfl) (fun _ _ _ h => h) (Or.inl ⟨by kernel_rfl, ?_⟩) hHeld ?_
      · intro w' hSw; go_simp
      try simp only [Act.put, List.setIfInBounds_toArray, List.set_cons_zero]
      refine wpAnyH_take (i := 2) (v := .slice (some ⟨ga, 0, none⟩) 9 9) rfl (by kernel_rfl) (by kernel_rfl) (by kernel_rfl) (fun _ _ _ h => h) (Or.inl ⟨by kernel_rfl, ?_⟩) hHeld ?_
      · intro w' hSw; go_simp
      try simp only [Act.put, List.setIfInBounds_toArray, List.set_cons_zero, List.set_cons_succ]
      refine wpAnyH_take (i := 3) (v := .int .i64 (i : Int)) rfl (by kernel_rfl) (by kernel_rfl) (by kernel_rfl) (fun _ _ _ h => h) (Or.inl ⟨by kernel_rfl, ?_⟩) hHeld ?_
      · intro w' hSw; go_simp
      try simp only [Act.put, List.setIfInBounds_toArray, List.set_cons_zero, List.set_cons_succ]
      refine wpAnyH_take (i := 4) (v := .pointer (some ⟨ga, i, none⟩)) rfl (by kernel_rfl) (by kernel_rfl) (by kernel_rfl) (fun _ _ _ h => h) (Or.inl ⟨by kernel_rfl, ?_⟩) hHeld ?_
      · intro w' hSw; go_simp
      try simp only [Act.put, List.setIfInBounds_toArray, List.set_cons_zero, List.set_cons_succ]
      refine wpAnyH_take (i := 5) (v := .int .i64 (adj f i)) rfl (by kernel_rfl) (by kernel_rfl) (by kernel_rfl) (fun _ _ _ h => h) (Or.inl ⟨by kernel_rfl, ?_⟩) hHeld ?_
      · intro w' hSw; go_simp
      try simp only [Act.put, List.setIfInBounds_toArray, List.set_cons_zero, List.set_cons_succ]
      refine wpAnyH_take (i := 6) (v := .int .i64 D) rfl (by kernel_rfl) (by kernel_rfl) (by kernel_rfl) (fun _ _ _ h => h) (Or.inl ⟨by kernel_rfl, ?_⟩) hHeld ?_
      · intro w' hSw; go_simp
      try simp only [Act.put, List.setIfInBounds_toArray, List.set_cons_zero, List.set_cons_succ]
      refine wpAnyH_take (i := 7) (v := .int .i64 (adj f i * D)) rfl (by kernel_rfl) (by kernel_rfl) (by kernel_rfl) (fun _ _ _ h => h) (Or.inl ⟨by kernel_rfl, ?_⟩) hHeld ?_
      · intro w' hSw; go_simp
      try simp only [Act.put, List.setIfInBounds_toArray, List.set_cons_zero, List.set_cons_succ]
      refine wpAnyH_ready (rs := [1, 8]) (by kernel_rfl) (by simp) ?_
      refine AllReadyH.cons rfl (fun K hK => ?_) ?_
      · have x0 := A6.open2.1
        go_simp
        clear x0 hHeld
        refine hK.out _ _ (cA0) (fun hHeld => ?_)
        clear hK K
        try simp only [List.setIfInBounds_toArray, List.set_cons_zero, List.set_cons_succ]
        refine wpAnyH_ready (rs := [8]) (by kernel_rfl) (by simp) ?_
        refine AllReadyH.cons rfl (fun K hK => ?_) AllReadyH.nil
        go_simp
        obtain ⟨u1, h1, N1, b1, z1⟩ := boxed u0 2 #[.int .i64 (adj f i * D)]
        rw [h1]
        clear h1 z1
        have zz := K0.size
        have K1 := K0.thenBelow (b1.mono K0.size)
        have O1 := own_belowQ O0 b1
        replace A6 := A6.below b1
        have cA1 : u1.cell? ⟨ga, i, none⟩ = some (.int .i64 (adj f i)) := (b1.cell (p := ⟨ga, i, none⟩) (lt_of_cell cA0)).trans cA0
        have zb := b1.size
        clear hHeld b1
        refine hK.out _ _ cA1 (fun hHeld => ?_)
        clear hK K
        try simp only [List.setIfInBounds_toArray, List.set_cons_zero, List.set_cons_succ]
        refine wpAnyH_ready (rs := [9]) (by kernel_rfl) (by simp) ?_
        refine AllReadyH.cons rfl (fun K hK => ?_) AllReadyH.nil
        refine step_append_lies _ (by rfl) _ _ _ (by rfl) Wb.heap.size 2 i0 _ 1 8 Try.underlying29 hi0 hz0 hz1 hz2 rfl (by omega) (.slice va i vc) i (iCells (backM f) i) (by rfl) O1 ⟨u0.heap.size, 0, none⟩ 1 1 [.int .i64 (adj f i * D)] (by rfl) rfl (World.news_of_block (cs := #[.int .i64 (adj f i * D)]) (t := 2) (fr := (0, 0)) N1) (by simp [Value.oneCell']) (by omega) (by unfold maxLen; omega) (by omega) (by omega) u1.heap.size rfl ?_
        intro g cap u2 hown2 hgrow2 hat2 hlt2
        have K2 := K1.grown hgrow2 O1
        have hne : ∀ k, (Value.slice va i vc).ownBlock = some k → Wb.heap.size ≤ k := fun k hk => ownBlock_geQ O1 hk
        have A62 : At 36 u2 q #[.slice va i vc, .slice (some ⟨g3, 0, none⟩) 3 3] := (hgrow2.block q A6.lt (fun e => by have := hne q e.symm; omega)).trans A6
        have cA2 : u2.cell? ⟨ga, i, none⟩ = some (.int .i64 (adj f i)) := (hgrow2.cell_far ⟨ga, i, none⟩ (lt_of_cell cA1) (fun e => by have := hne ga e.symm; omega)).trans cA1
        clear hHeld
        refine hK.out _ _ cA2 (fun hHeld => ?_)
        clear hK K
        try simp only [Act.put, List.setIfInBounds_toArray, List.set_cons_zero, List.set_cons_succ]
        refine wpAnyH_take (i := 10) (v := .pointer (some ⟨q, 0, none⟩)) rfl (by kernel_rfl) (by kernel_rfl) (by kernel_rfl) (fun _ _ _ h => h) (Or.inl ⟨by kernel_rfl, ?_⟩) hHeld ?_
        · intro w' hSw; go_simp
        try simp only [Act.put, List.setIfInBounds_toArray, List.set_cons_zero, List.set_cons_succ]
        refine wpAnyH_ready (rs := [11]) (by kernel_rfl) (by simp) ?_
        refine AllReadyH.cons rfl (fun K hK => ?_) AllReadyH.nil
        obtain ⟨x0, x1, y0, y1⟩ := A62.open2
        go_simp
        clear x0 x1 y0 y1 hHeld
        have A63 : At 36 (u2.setCell ⟨q, 0, none⟩ (.slice (some ⟨g, 0, none⟩) (i + 1) cap)) q #[.slice (some ⟨g, 0, none⟩) (i + 1) cap, .slice (some ⟨g3, 0, none⟩) 3 3] := by simpa using A62.set 0 (.slice (some ⟨g, 0, none⟩) (i + 1) cap)
        have cA3 : (u2.setCell ⟨q, 0, none⟩ (.slice (some ⟨g, 0, none⟩) (i + 1) cap)).cell? ⟨ga, i, none⟩ = some (.int .i64 (adj f i)) := (World.cell?_of_block (w := u2) (Below.heap_setCell _ _ _ _ (show ga ≠ q by omega))).trans cA2
        refine hK.out _ _ cA3 (fun hHeld => ?_)
        clear hK K hHeld
        try simp only [List.setIfInBounds_toArray, List.set_cons_zero, List.set_cons_succ]
        refine wpAnyH_done (by kernel_rfl) ?_ _
        have O3 : (u2.setCell ⟨q, 0, none⟩ (.slice (some ⟨g, 0, none⟩) (i + 1) cap)).ownsRow Wb.heap.size 2 1 (.slice (some ⟨g, 0, none⟩) (i + 1) cap) (i + 1) (iCells (backM f) (i + 1)) := by
          rw [show iCells (backM f) (i + 1) = iCells (backM f) i ++ [.int .i64 (adj f i * D)] from by rw [HB.out]; rfl]
          exact ownsRow_setCell_below hown2 (show q < Wb.heap.size by omega) _
        have K3 := K2.set (i := 0) (.slice (some ⟨g, 0, none⟩) (i + 1) cap)
        clear A6 A62 cA0 cA1 cA2 cA3 K0 K1 K2 O0 O1 hown2 hgrow2 hat2 N1
        go_wp2
        go_roundw
        case rel => exact ⟨i + 1, _, _, by omega, by go_num, A63, O3, K3⟩
        case measure => simp [intOf]; omega
      refine AllReadyH.cons rfl (fun K hK => ?_) AllReadyH.nil
      go_simp
      obtain ⟨u1, h1, N1, b1, z1⟩ := boxed u0 2 #[.int .i64 (adj f i * D)]
      rw [h1]
      clear h1 z1
      have zz := K0.size
      have K1 := K0.thenBelow (b1.mono K0.size)
      have O1 := own_belowQ O0 b1
      replace A6 := A6.below b1
      have cA1 : u1.cell? ⟨ga, i, none⟩ = some (.int .i64 (adj f i)) := (b1.cell (p := ⟨ga, i, none⟩) (lt_of_cell cA0)).trans cA0
      have zb := b1.size
      clear hHeld b1
      refine hK.out _ _ cA1 (fun hHeld => ?_)
      clear hK K
      try simp only [List.setIfInBounds_toArray, List.set_cons_zero, List.set_cons_succ]
      refine wpAnyH_ready (rs := [1]) (by kernel_rfl) (by simp) ?_
      refine AllReadyH.cons rfl (fun K hK => ?_) AllReadyH.nil
      have x0 := A6.open2.1
      go_simp
      clear x0 hHeld
      refine hK.out _ _ (cA1) (fun hHeld => ?_)
      clear hK K
      try simp only [List.setIfInBounds_toArray, List.set_cons_zero, List.set_cons_succ]
      refine wpAnyH_ready (rs := [9]) (by kernel_rfl) (by simp) ?_
      refine AllReadyH.cons rfl (fun K hK => ?_) AllReadyH.nil
      refine step_append_lies _ (by rfl) _ _ _ (by rfl) Wb.heap.size 2 i0 _ 1 8 Try.underlying29 hi0 hz0 hz1 hz2 rfl (by omega) (.slice va i vc) i (iCells (backM f) i) (by rfl) O1 ⟨u0.heap.size, 0, none⟩ 1 1 [.int .i64 (adj f i * D)] (by rfl) rfl (World.news_of_block (cs := #[.int .i64 (adj f i * D)]) (t := 2) (fr := (0, 0)) N1) (by simp [Value.oneCell']) (by omega) (by unfold maxLen; omega) (by omega) (by omega) u1.heap.size rfl ?_
      intro g cap u2 hown2 hgrow2 hat2 hlt2
      have K2 := K1.grown hgrow2 O1
      have hne : ∀ k, (Value.slice va i vc).ownBlock = some k → Wb.heap.size ≤ k := fun k hk => ownBlock_geQ O1 hk
      have A62 : At 36 u2 q #[.slice va i vc, .slice (some ⟨g3, 0, none⟩) 3 3] := (hgrow2.block q A6.lt (fun e => by have := hne q e.symm; omega)).trans A6
      have cA2 : u2.cell? ⟨ga, i, none⟩ = some (.int .i64 (adj f i)) := (hgrow2.cell_far ⟨ga, i, none⟩ (lt_of_cell cA1) (fun e => by have := hne ga e.symm; omega)).trans cA1
      clear hHeld
      refine hK.out _ _ cA2 (fun hHeld => ?_)
      clear hK K
      try simp only [Act.put, List.setIfInBounds_toArray, List.set_cons_zero, List.set_cons_succ]
      refine wpAnyH_take (i := 10) (v := .pointer (some ⟨q, 0, none⟩)) rfl (by kernel_rfl) (by kernel_rfl) (by kernel_rfl) (fun _ _ _ h => h) (Or.inl ⟨by kernel_rfl, ?_⟩) hHeld ?_
      · intro w' hSw; go_simp
      try simp only [Act.put, List.setIfInBounds_toArray, List.set_cons_zero, List.set_cons_succ]
      refine wpAnyH_ready (rs := [11]) (by kernel_rfl) (by simp) ?_
      refine AllReadyH.cons rfl (fun K hK => ?_) AllReadyH.nil
      obtain ⟨x0, x1, y0, y1⟩ := A62.open2
      go_simp
      clear x0 x1 y0 y1 hHeld
      have A63 : At 36 (u2.setCell ⟨q, 0, none⟩ (.slice (some ⟨g, 0, none⟩) (i + 1) cap)) q #[.slice (some ⟨g, 0, none⟩) (i + 1) cap, .slice (some ⟨g3, 0, none⟩) 3 3] := by simpa using A62.set 0 (.slice (some ⟨g, 0, none⟩) (i + 1) cap)
      have cA3 : (u2.setCell ⟨q, 0, none⟩ (.slice (some ⟨g, 0, none⟩) (i + 1) cap)).cell? ⟨ga, i, none⟩ = some (.int .i64 (adj f i)) := (World.cell?_of_block (w := u2) (Below.heap_setCell _ _ _ _ (show ga ≠ q by omega))).trans cA2
      refine hK.out _ _ cA3 (fun hHeld => ?_)
      clear hK K hHeld
      try simp only [List.setIfInBounds_toArray, List.set_cons_zero, List.set_cons_succ]
      refine wpAnyH_done (by kernel_rfl) ?_ _
      have O3 : (u2.setCell ⟨q, 0, none⟩ (.slice (some ⟨g, 0, none⟩) (i + 1) cap)).ownsRow Wb.heap.size 2 1 (.slice (some ⟨g, 0, none⟩) (i + 1) cap) (i + 1) (iCells (backM f) (i + 1)) := by
        rw [show iCells (backM f) (i + 1) = iCells (backM f) i ++ [.int .i64 (adj f i * D)] from by rw [HB.out]; rfl]
        exact ownsRow_setCell_below hown2 (show q < Wb.heap.size by omega) _
      have K3 := K2.set (i := 0) (.slice (some ⟨g, 0, none⟩) (i + 1) cap)
      clear A6 A62 cA0 cA1 cA2 cA3 K0 K1 K2 O0 O1 hown2 hgrow2 hat2 N1
      go_wp2
      go_roundw
      case rel => exact ⟨i + 1, _, _, by omega, by go_num, A63, O3, K3⟩
      case measure => simp [intOf]; omega
    · have hlt' : ¬ (i : Int) < 9 := by omega
      obtain rfl : i = 9 := by omega
      have hne : Value.slice va 9 vc ≠ .slice none 0 0 := fun h => by simp at h
      obtain ⟨gm, cm, e9, hgm, hcm, m9⟩ := made_of o6 hne
      simp only [Value.slice.injEq] at e9
      obtain ⟨rfl, -, rfl⟩ := e9
      have S : BackSt w f h (.slice (some ⟨b1, o1, none⟩) 9 c1) (.slice (some ⟨b2, o2, none⟩) 3 c2) q gm vc g3 W1.heap.size 0 wr := by
        have h3 := a3.keptQ hK (by omega)
        rw [← vpart20 f h] at h3
        exact ⟨a1.keptQ hK (by omega), a2.keptQ hK (by omega), a6, m9, h3, B.trans (hK.below (by omega) (by omega)), by omega⟩
      clear a1 a2 a3 a6 B oa o6 hK m9 hne
      go_wp2
      go_loopw [8] (fun s wr => ∃ i : Nat, i ≤ 3 ∧ s = .int .i64 i ∧ BackSt w f h (.slice (some ⟨b1, o1, none⟩) 9 c1) (.slice (some ⟨b2, o2, none⟩) 3 c2) q gm vc g3 W1.heap.size i wr) (fun s _ => 3 - (intOf s).toNat)
      case atStart => exact ⟨0, Nat.zero_le _, rfl, S⟩
      case round =>
        clear S
        obtain ⟨i, hi, rfl, S⟩ := hrel
        by_cases hlt : i < 3
        · have hlt' : (i : Int) < 3 := by omega
          obtain ⟨x, hx⟩ : ∃ x, x = 3 * i := ⟨_, rfl⟩
          obtain ⟨y, hy⟩ : ∃ y, y = 3 * i + 1 := ⟨_, rfl⟩
          obtain ⟨z, hz⟩ : ∃ z, z = 3 * i + 2 := ⟨_, rfl⟩
          have e2 := backV_at f h i x y z hx hy hz
          have E2 : Hid (-(backM f x * h 0 + backM f y * h 1 + backM f z * h 2) % 24 = backV f h i) := e2
          clear e2
          have x9 : x < 9 := by omega
          have y9 : y < 9 := by omega
          have z9 : z < 9 := by omega
          have x9' : (x : Int) < 9 := by omega
          have y9' : (y : Int) < 9 := by omega
          have z9' : (z : Int) < 9 := by omega
          have hX : 3 * (i : Int) = (x : Int) := by omega
          have hY : (x : Int) + 1 = (y : Int) := by omega
          have hZ : (x : Int) + 2 = (z : Int) := by omega
          have cA : ∀ j, j < 9 → wr.cell? ⟨gm, j, none⟩ = some (.int .i64 (backM f j)) := by
            obtain ⟨cur, h1, h2, h3⟩ := S.m9
            exact fun j hj => h1.cell j (h3 j hj)
          have cA0 := cA x x9
          have cA1 := cA y y9
          have cA2 := cA z z9
          obtain ⟨t0, t1, t2⟩ := (ht.below l2 S.below).open3
          have bA0 := hM x x9
          have bA1 := hM y y9
          have bA2 := hM z z9
          have bT0 := hh 0 (by omega)
          have bT1 := hh 1 (by omega)
          have bT2 := hh 2 (by omega)
          have p0 := mul_bound (N := 23) bA0 (show -23 ≤ h 0 ∧ h 0 ≤ 23 by omega)
          have p1 := mul_bound (N := 23) bA1 (show -23 ≤ h 1 ∧ h 1 ≤ 23 by omega)
          have p2 := mul_bound (N := 23) bA2 (show -23 ≤ h 2 ∧ h 2 ≤ 23 by omega)
          have cT0 : wr.cell? ⟨b2, o2, none⟩ = some (.int .i64 (h 0)) := t0
          have cT1 : wr.cell? ⟨b2, o2 + 1, none⟩ = some (.int .i64 (h 1)) := t1
          have cT2 : wr.cell? ⟨b2, o2 + 2, none⟩ = some (.int .i64 (h 2)) := t2
          clear hx hy hz cA t0 t1 t2
          obtain ⟨A0, hA0⟩ : ∃ A, backM f x = A := ⟨_, rfl⟩
          obtain ⟨A1, hA1⟩ : ∃ A, backM f y = A := ⟨_, rfl⟩
          obtain ⟨A2, hA2⟩ : ∃ A, backM f z = A := ⟨_, rfl⟩
          obtain ⟨T0, hT0⟩ : ∃ A, h 0 = A := ⟨_, rfl⟩
          obtain ⟨T1, hT1⟩ : ∃ A, h 1 = A := ⟨_, rfl⟩
          obtain ⟨T2, hT2⟩ : ∃ A, h 2 = A := ⟨_, rfl⟩
          rw [hA0] at cA0 bA0 p0 E2
          rw [hA1] at cA1 bA1 p1 E2
          rw [hA2] at cA2 bA2 p2 E2
          rw [hT0] at cT0 bT0 p0 E2
          rw [hT1] at cT1 bT1 p1 E2
          rw [hT2] at cT2 bT2 p2 E2
          have e2 := E2
          clear hA0 hA1 hA2 hT0 hT1 hT2 E2
          have w0 : IntKind.i64.wrap (x : Int) = (x : Int) := IntWalk.i64_in _ (by omega)
          have w1 : IntKind.i64.wrap (y : Int) = (y : Int) := IntWalk.i64_in _ (by omega)
          have w2 : IntKind.i64.wrap (z : Int) = (z : Int) := IntWalk.i64_in _ (by omega)
          have w3 : IntKind.i64.wrap (A0 * T0) = A0 * T0 := IntWalk.i64_in _ (by omega)
          have w4 : IntKind.i64.wrap (A1 * T1) = A1 * T1 := IntWalk.i64_in _ (by omega)
          have w5 : IntKind.i64.wrap (A2 * T2) = A2 * T2 := IntWalk.i64_in _ (by omega)
          have w6 : IntKind.i64.wrap (A0 * T0 + A1 * T1) = A0 * T0 + A1 * T1 := IntWalk.i64_in _ (by omega)
          have w7 : IntKind.i64.wrap (A0 * T0 + A1 * T1 + A2 * T2) = A0 * T0 + A1 * T1 + A2 * T2 := IntWalk.i64_in _ (by omega)
          have w8 : IntKind.i64.wrap (-(A0 * T0 + A1 * T1 + A2 * T2)) = -(A0 * T0 + A1 * T1 + A2 * T2) := IntWalk.i64_in _ (by omega)
          go_wp2
          obtain ⟨u0, hu0, S0, Hc⟩ : ∃ u0, wr.drew = u0 ∧ BackSt w f h (.slice (some ⟨b1, o1, none⟩) 9 c1) (.slice (some ⟨b2, o2, none⟩) 3 c2) q gm vc g3 W1.heap.size i u0 ∧ S13 w.heap.size (.slice (some ⟨b2, o2, none⟩) 3 c2) q (.slice (some ⟨gm, 0, none⟩) 9 vc) (.slice (some ⟨g3, 0, none⟩) 3 3) gm x y z A0 A1 A2 b2 o2 T0 T1 T2 u0 := ⟨_, rfl, S.drew, ⟨S.d1.open2.2.1, S.d6.open2.1, S.d6.open2.2.1, cA0, cA1, cA2, cT0, cT1, cT2⟩⟩
          refine wp_region_held_drew (S := S13 w.heap.size (.slice (some ⟨b2, o2, none⟩) 3 c2) q (.slice (some ⟨gm, 0, none⟩) 9 vc) (.slice (some ⟨g3, 0, none⟩) 3 3) gm x y z A0 A1 A2 b2 o2 T0 T1 T2) (by kernel_rfl) (by rw [hu0]; exact Hc) (fun hHeld => ?_)
          rw [hu0] at hHeld ⊢
          clear hu0
          change wpAnyH _ _ _ _ _ 44 #[false, false, false, false, false, false, false, false, false, false, false, false, false, false, false, false, false, false, false, false, false, false, false, false, false, false, false, false, false, false, false, false, false, false, false, false, false, false, false, false, false, false, false, false] _ _
          refine wpAnyH_take (i := 0) (v := .pointer (some ⟨q, 1, none⟩)) rfl (by kernel_rfl) (by kernel_rfl) (by kernel_rfl) (fun _ _ _ h => h) (Or.inl ⟨by kernel_rfl, ?_⟩) hHeld ?_
          · intro w' hSw; go_simp
          try simp only [Act.put, List.setIfInBounds_toArray, List.set_cons_zero]
          refine wpAnyH_take (i := 1) (v := .slice (some ⟨g3, 0, none⟩) 3 3) rfl (by kernel_rfl) (by kernel_rfl) (by kernel_rfl) (fun _ _ _ h => h) (Or.inl ⟨by kernel_rfl, ?_⟩) hHeld ?_
          · intro w' hSw; obtain ⟨s1, s2, s3, s4, s5, s6, s7, s8, s9⟩ := hSw; go_simp
          try simp only [Act.put, List.setIfInBounds_toArray, List.set_cons_zero, List.set_cons_succ]
          refine wpAnyH_take (i := 2) (v := .int .i64 (i : Int)) rfl (by kernel_rfl) (by kernel_rfl) (by kernel_rfl) (fun _ _ _ h => h) (Or.inl ⟨by kernel_rfl, ?_⟩) hHeld ?_
          · intro w' hSw; go_simp
          try simp only [Act.put, List.setIfInBounds_toArray, List.set_cons_zero, List.set_cons_succ]
          refine wpAnyH_take (i := 3) (v := .pointer (some ⟨q, 0, none⟩)) rfl (by kernel_rfl) (by kernel_rfl) (by kernel_rfl) (fun _ _ _ h => h) (Or.inl ⟨by kernel_rfl, ?_⟩) hHeld ?_
          · intro w' hSw; go_simp
          try simp only [Act.put, List.setIfInBounds_toArray, List.set_cons_zero, List.set_cons_succ]
          refine wpAnyH_take (i := 4) (v := .slice (some ⟨gm, 0, none⟩) 9 vc) rfl (by kernel_rfl) (by kernel_rfl) (by kernel_rfl) (fun _ _ _ h => h) (Or.inl ⟨by kernel_rfl, ?_⟩) hHeld ?_
          · intro w' hSw; obtain ⟨s1, s2, s3, s4, s5, s6, s7, s8, s9⟩ := hSw; go_simp
          try simp only [Act.put, List.setIfInBounds_toArray, List.set_cons_zero, List.set_cons_succ]
          refine wpAnyH_take (i := 5) (v := .int .i64 (i : Int)) rfl (by kernel_rfl) (by kernel_rfl) (by kernel_rfl) (fun _ _ _ h => h) (Or.inl ⟨by kernel_rfl, ?_⟩) hHeld ?_
          · intro w' hSw; go_simp
          try simp only [Act.put, List.setIfInBounds_toArray, List.set_cons_zero, List.set_cons_succ]
          refine wpAnyH_take (i := 6) (v := .int .i64 (x : Int)) rfl (by kernel_rfl) (by kernel_rfl) (by kernel_rfl) (fun _ _ _ h => h) (Or.inl ⟨by kernel_rfl, ?_⟩) hHeld ?_
          · intro w' hSw; go_simp
          try simp only [Act.put, List.setIfInBounds_toArray, List.set_cons_zero, List.set_cons_succ]
          refine wpAnyH_take (i := 7) (v := .pointer (some ⟨gm, x, none⟩)) rfl (by kernel_rfl) (by kernel_rfl) (by kernel_rfl) (fun _ _ _ h => h) (Or.inl ⟨by kernel_rfl, ?_⟩) hHeld ?_
          · intro w' hSw; go_simp
          try simp only [Act.put, List.setIfInBounds_toArray, List.set_cons_zero, List.set_cons_succ]
          refine wpAnyH_take (i := 8) (v := .int .i64 (A0)) rfl (by kernel_rfl) (by kernel_rfl) (by kernel_rfl) (fun _ _ _ h => h) (Or.inl ⟨by kernel_rfl, ?_⟩) hHeld ?_
          · intro w' hSw; obtain ⟨s1, s2, s3, s4, s5, s6, s7, s8, s9⟩ := hSw; go_simp
          try simp only [Act.put, List.setIfInBounds_toArray, List.set_cons_zero, List.set_cons_succ]
          refine wpAnyH_take (i := 9) (v := .pointer (some ⟨w.heap.size, 1, none⟩)) rfl (by kernel_rfl) (by kernel_rfl) (by kernel_rfl) (fun _ _ _ h => h) (Or.inl ⟨by kernel_rfl, ?_⟩) hHeld ?_
          · intro w' hSw; go_simp
          try simp only [Act.put, List.setIfInBounds_toArray, List.set_cons_zero, List.set_cons_succ]
          refine wpAnyH_take (i := 10) (v := .slice (some ⟨b2, o2, none⟩) 3 c2) rfl (by kernel_rfl) (by kernel_rfl) (by kernel_rfl) (fun _ _ _ h => h) (Or.inl ⟨by kernel_rfl, ?_⟩) hHeld ?_
          · intro w' hSw; obtain ⟨s1, s2, s3, s4, s5, s6, s7, s8, s9⟩ := hSw; go_simp
          try simp only [Act.put, List.setIfInBounds_toArray, List.set_cons_zero, List.set_cons_succ]
          refine wpAnyH_take (i := 11) (v := .pointer (some ⟨b2, o2, none⟩)) rfl (by kernel_rfl) (by kernel_rfl) (by kernel_rfl) (fun _ _ _ h => h) (Or.inl ⟨by kernel_rfl, ?_⟩) hHeld ?_
          · intro w' hSw; go_simp
          try simp only [Act.put, List.setIfInBounds_toArray, List.set_cons_zero, List.set_cons_succ]
          refine wpAnyH_take (i := 12) (v := .int .i64 (T0)) rfl (by kernel_rfl) (by kernel_rfl) (by kernel_rfl) (fun _ _ _ h => h) (Or.inl ⟨by kernel_rfl, ?_⟩) hHeld ?_
          · intro w' hSw; obtain ⟨s1, s2, s3, s4, s5, s6, s7, s8, s9⟩ := hSw; go_simp
          try simp only [Act.put, List.setIfInBounds_toArray, List.set_cons_zero, List.set_cons_succ]
          refine wpAnyH_take (i := 13) (v := .int .i64 (A0 * T0)) rfl (by kernel_rfl) (by kernel_rfl) (by kernel_rfl) (fun _ _ _ h => h) (Or.inl ⟨by kernel_rfl, ?_⟩) hHeld ?_
          · intro w' hSw; go_simp
          try simp only [Act.put, List.setIfInBounds_toArray, List.set_cons_zero, List.set_cons_succ]
          refine wpAnyH_take (i := 14) (v := .pointer (some ⟨q, 0, none⟩)) rfl (by kernel_rfl) (by kernel_rfl) (by kernel_rfl) (fun _ _ _ h => h) (Or.inl ⟨by kernel_rfl, ?_⟩) hHeld ?_
          · intro w' hSw; go_simp
          try simp only [Act.put, List.setIfInBounds_toArray, List.set_cons_zero, List.set_cons_succ]
          refine wpAnyH_take (i := 15) (v := .slice (some ⟨gm, 0, none⟩) 9 vc) rfl (by kernel_rfl) (by kernel_rfl) (by kernel_rfl) (fun _ _ _ h => h) (Or.inl ⟨by kernel_rfl, ?_⟩) hHeld ?_
          · intro w' hSw; obtain ⟨s1, s2, s3, s4, s5, s6, s7, s8, s9⟩ := hSw; go_simp
          try simp only [Act.put, List.setIfInBounds_toArray, List.set_cons_zero, List.set_cons_succ]
          refine wpAnyH_take (i := 16) (v := .int .i64 (i : Int)) rfl (by kernel_rfl) (by kernel_rfl) (by kernel_rfl) (fun _ _ _ h => h) (Or.inl ⟨by kernel_rfl, ?_⟩) hHeld ?_
          · intro w' hSw; go_simp
          try simp only [Act.put, List.setIfInBounds_toArray, List.set_cons_zero, List.set_cons_succ]
          refine wpAnyH_take (i := 17) (v := .int .i64 (x : Int)) rfl (by kernel_rfl) (by kernel_rfl) (by kernel_rfl) (fun _ _ _ h => h) (Or.inl ⟨by kernel_rfl, ?_⟩) hHeld ?_
          · intro w' hSw; go_simp
          try simp only [Act.put, List.setIfInBounds_toArray, List.set_cons_zero, List.set_cons_succ]
          refine wpAnyH_take (i := 18) (v := .int .i64 (y : Int)) rfl (by kernel_rfl) (by kernel_rfl) (by kernel_rfl) (fun _ _ _ h => h) (Or.inl ⟨by kernel_rfl, ?_⟩) hHeld ?_
          · intro w' hSw; go_simp
          try simp only [Act.put, List.setIfInBounds_toArray, List.set_cons_zero, List.set_cons_succ]
          refine wpAnyH_take (i := 19) (v := .pointer (some ⟨gm, y, none⟩)) rfl (by kernel_rfl) (by kernel_rfl) (by kernel_rfl) (fun _ _ _ h => h) (Or.inl ⟨by kernel_rfl, ?_⟩) hHeld ?_
          · intro w' hSw; go_simp
          try simp only [Act.put, List.setIfInBounds_toArray, List.set_cons_zero, List.set_cons_succ]
          refine wpAnyH_take (i := 20) (v := .int .i64 (A1)) rfl (by kernel_rfl) (by kernel_rfl) (by kernel_rfl) (fun _ _ _ h => h) (Or.inl ⟨by kernel_rfl, ?_⟩) hHeld ?_
          · intro w' hSw; obtain ⟨s1, s2, s3, s4, s5, s6, s7, s8, s9⟩ := hSw; go_simp
          try simp only [Act.put, List.setIfInBounds_toArray, List.set_cons_zero, List.set_cons_succ]
          refine wpAnyH_take (i := 21) (v := .pointer (some ⟨w.heap.size, 1, none⟩)) rfl (by kernel_rfl) (by kernel_rfl) (by kernel_rfl) (fun _ _ _ h => h) (Or.inl ⟨by kernel_rfl, ?_⟩) hHeld ?_
          · intro w' hSw; go_simp
          try simp only [Act.put, List.setIfInBounds_toArray, List.set_cons_zero, List.set_cons_succ]
          refine wpAnyH_take (i := 22) (v := .slice (some ⟨b2, o2, none⟩) 3 c2) rfl (by kernel_rfl) (by kernel_rfl) (by kernel_rfl) (fun _ _ _ h => h) (Or.inl ⟨by kernel_rfl, ?_⟩) hHeld ?_
          · intro w' hSw; obtain ⟨s1, s2, s3, s4, s5, s6, s7, s8, s9⟩ := hSw; go_simp
          try simp only [Act.put, List.setIfInBounds_toArray, List.set_cons_zero, List.set_cons_succ]
          refine wpAnyH_take (i := 23) (v := .pointer (some ⟨b2, o2 + 1, none⟩)) rfl (by kernel_rfl) (by kernel_rfl) (by kernel_rfl) (fun _ _ _ h => h) (Or.inl ⟨by kernel_rfl, ?_⟩) hHeld ?_
          · intro w' hSw; go_simp
          try simp only [Act.put, List.setIfInBounds_toArray, List.set_cons_zero, List.set_cons_succ]
          refine wpAnyH_take (i := 24) (v := .int .i64 (T1)) rfl (by kernel_rfl) (by kernel_rfl) (by kernel_rfl) (fun _ _ _ h => h) (Or.inl ⟨by kernel_rfl, ?_⟩) hHeld ?_
          · intro w' hSw; obtain ⟨s1, s2, s3, s4, s5, s6, s7, s8, s9⟩ := hSw; go_simp
          try simp only [Act.put, List.setIfInBounds_toArray, List.set_cons_zero, List.set_cons_succ]
          refine wpAnyH_take (i := 25) (v := .int .i64 (A1 * T1)) rfl (by kernel_rfl) (by kernel_rfl) (by kernel_rfl) (fun _ _ _ h => h) (Or.inl ⟨by kernel_rfl, ?_⟩) hHeld ?_
          · intro w' hSw; go_simp
          try simp only [Act.put, List.setIfInBounds_toArray, List.set_cons_zero, List.set_cons_succ]
          refine wpAnyH_take (i := 26) (v := .int .i64 (A0 * T0 + A1 * T1)) rfl (by kernel_rfl) (by kernel_rfl) (by kernel_rfl) (fun _ _ _ h => h) (Or.inl ⟨by kernel_rfl, ?_⟩) hHeld ?_
          · intro w' hSw; go_simp
          try simp only [Act.put, List.setIfInBounds_toArray, List.set_cons_zero, List.set_cons_succ]
          refine wpAnyH_take (i := 27) (v := .pointer (some ⟨q, 0, none⟩)) rfl (by kernel_rfl) (by kernel_rfl) (by kernel_rfl) (fun _ _ _ h => h) (Or.inl ⟨by kernel_rfl, ?_⟩) hHeld ?_
          · intro w' hSw; go_simp
          try simp only [Act.put, List.setIfInBounds_toArray, List.set_cons_zero, List.set_cons_succ]
          refine wpAnyH_take (i := 28) (v := .slice (some ⟨gm, 0, none⟩) 9 vc) rfl (by kernel_rfl) (by kernel_rfl) (by kernel_rfl) (fun _ _ _ h => h) (Or.inl ⟨by kernel_rfl, ?_⟩) hHeld ?_
          · intro w' hSw; obtain ⟨s1, s2, s3, s4, s5, s6, s7, s8, s9⟩ := hSw; go_simp
          try simp only [Act.put, List.setIfInBounds_toArray, List.set_cons_zero, List.set_cons_succ]
          refine wpAnyH_take (i := 29) (v := .int .i64 (i : Int)) rfl (by kernel_rfl) (by kernel_rfl) (by kernel_rfl) (fun _ _ _ h => h) (Or.inl ⟨by kernel_rfl, ?_⟩) hHeld ?_
          · intro w' hSw; go_simp
          try simp only [Act.put, List.setIfInBounds_toArray, List.set_cons_zero, List.set_cons_succ]
          refine wpAnyH_take (i := 30) (v := .int .i64 (x : Int)) rfl (by kernel_rfl) (by kernel_rfl) (by kernel_rfl) (fun _ _ _ h => h) (Or.inl ⟨by kernel_rfl, ?_⟩) hHeld ?_
          · intro w' hSw; go_simp
          try simp only [Act.put, List.setIfInBounds_toArray, List.set_cons_zero, List.set_cons_succ]
          refine wpAnyH_take (i := 31) (v := .int .i64 (z : Int)) rfl (by kernel_rfl) (by kernel_rfl) (by kernel_rfl) (fun _ _ _ h => h) (Or.inl ⟨by kernel_rfl, ?_⟩) hHeld ?_
          · intro w' hSw; go_simp
          try simp only [Act.put, List.setIfInBounds_toArray, List.set_cons_zero, List.set_cons_succ]
          refine wpAnyH_take (i := 32) (v := .pointer (some ⟨gm, z, none⟩)) rfl (by kernel_rfl) (by kernel_rfl) (by kernel_rfl) (fun _ _ _ h => h) (Or.inl ⟨by kernel_rfl, ?_⟩) hHeld ?_
          · intro w' hSw; go_simp
          try simp only [Act.put, List.setIfInBounds_toArray, List.set_cons_zero, List.set_cons_succ]
          refine wpAnyH_take (i := 33) (v := .int .i64 (A2)) rfl (by kernel_rfl) (by kernel_rfl) (by kernel_rfl) (fun _ _ _ h => h) (Or.inl ⟨by kernel_rfl, ?_⟩) hHeld ?_
          · intro w' hSw; obtain ⟨s1, s2, s3, s4, s5, s6, s7, s8, s9⟩ := hSw; go_simp
          try simp only [Act.put, List.setIfInBounds_toArray, List.set_cons_zero, List.set_cons_succ]
          refine wpAnyH_take (i := 34) (v := .pointer (some ⟨w.heap.size, 1, none⟩)) rfl (by kernel_rfl) (by kernel_rfl) (by kernel_rfl) (fun _ _ _ h => h) (Or.inl ⟨by kernel_rfl, ?_⟩) hHeld ?_
          · intro w' hSw; go_simp
          try simp only [Act.put, List.setIfInBounds_toArray, List.set_cons_zero, List.set_cons_succ]
          refine wpAnyH_take (i := 35) (v := .slice (some ⟨b2, o2, none⟩) 3 c2) rfl (by kernel_rfl) (by kernel_rfl) (by kernel_rfl) (fun _ _ _ h => h) (Or.inl ⟨by kernel_rfl, ?_⟩) hHeld ?_
          · intro w' hSw; obtain ⟨s1, s2, s3, s4, s5, s6, s7, s8, s9⟩ := hSw; go_simp
          try simp only [Act.put, List.setIfInBounds_toArray, List.set_cons_zero, List.set_cons_succ]
          refine wpAnyH_take (i := 36) (v := .pointer (some ⟨b2, o2 + 2, none⟩)) rfl (by kernel_rfl) (by kernel_rfl) (by kernel_rfl) (fun _ _ _ h => h) (Or.inl ⟨by kernel_rfl, ?_⟩) hHeld ?_
          · intro w' hSw; go_simp
          try simp only [Act.put, List.setIfInBounds_toArray, List.set_cons_zero, List.set_cons_succ]
          refine wpAnyH_take (i := 37) (v := .int .i64 (T2)) rfl (by kernel_rfl) (by kernel_rfl) (by kernel_rfl) (fun _ _ _ h => h) (Or.inl ⟨by kernel_rfl, ?_⟩) hHeld ?_
          · intro w' hSw; obtain ⟨s1, s2, s3, s4, s5, s6, s7, s8, s9⟩ := hSw; go_simp
          try simp only [Act.put, List.setIfInBounds_toArray, List.set_cons_zero, List.set_cons_succ]
          refine wpAnyH_take (i := 38) (v := .int .i64 (A2 * T2)) rfl (by kernel_rfl) (by kernel_rfl) (by kernel_rfl) (fun _ _ _ h => h) (Or.inl ⟨by kernel_rfl, ?_⟩) hHeld ?_
          · intro w' hSw; go_simp
          try simp only [Act.put, List.setIfInBounds_toArray, List.set_cons_zero, List.set_cons_succ]
          refine wpAnyH_take (i := 39) (v := .int .i64 (A0 * T0 + A1 * T1 + A2 * T2)) rfl (by kernel_rfl) (by kernel_rfl) (by kernel_rfl) (fun _ _ _ h => h) (Or.inl ⟨by kernel_rfl, ?_⟩) hHeld ?_
          · intro w' hSw; go_simp
          try simp only [Act.put, List.setIfInBounds_toArray, List.set_cons_zero, List.set_cons_succ]
          refine wpAnyH_take (i := 40) (v := .int .i64 (-(A0 * T0 + A1 * T1 + A2 * T2))) rfl (by kernel_rfl) (by kernel_rfl) (by kernel_rfl) (fun _ _ _ h => h) (Or.inl ⟨by kernel_rfl, ?_⟩) hHeld ?_
          · intro w' hSw; go_simp
          try simp only [Act.put, List.setIfInBounds_toArray, List.set_cons_zero, List.set_cons_succ]
          refine wpAnyH_ready (rs := [41]) (by kernel_rfl) (by simp) ?_
          refine AllReadyH.cons rfl (fun K hK => ?_) AllReadyH.nil
          go_simp
          refine (l1Mod_any _ _ (by omega)).mono ?_
          rintro e w2 ⟨rfl, rfl⟩
          try go_wp2_with fail
          have hH := hHeld
          clear hHeld
          refine hK.out _ _ hH (fun hHeld => ?_)
          clear hK K hH
          try simp only [List.setIfInBounds_toArray, List.set_cons_zero, List.set_cons_succ]
          refine wpAnyH_take (i := 42) (v := .pointer (some ⟨g3, i, none⟩)) rfl (by kernel_rfl) (by kernel_rfl) (by kernel_rfl) (fun _ _ _ h => h) (Or.inl ⟨by kernel_rfl, ?_⟩) hHeld ?_
          · intro w' hSw; go_simp
          try simp only [Act.put, List.setIfInBounds_toArray, List.set_cons_zero, List.set_cons_succ]
          refine wpAnyH_ready (rs := [43]) (by kernel_rfl) (by simp) ?_
          refine AllReadyH.cons rfl (fun K hK => ?_) AllReadyH.nil
          have cC := S0.m3.cell i (vA_get _ _ hlt)
          have fC := S0.m3.frozen i
          go_simp
          clear cC fC
          have S1 := S0.step hlt
          rw [← e2.out] at S1
          have hap2 := S0.apart
          have hH := S13.set hHeld (p := g3) (i := i) (by omega) (by omega) (by omega) (by omega) (.int .i64 (-(A0 * T0 + A1 * T1 + A2 * T2) % 24))
          clear hHeld
          refine hK.out _ _ hH (fun hHeld => ?_)
          clear hK K hHeld hH
          try simp only [List.setIfInBounds_toArray, List.set_cons_zero, List.set_cons_succ]
          refine wpAnyH_done (by kernel_rfl) ?_ _
          go_wp2
          go_roundw
          case rel => exact ⟨i + 1, by omega, by go_num, S1⟩
          case measure => simp [intOf]; omega
        · have hlt' : ¬ (i : Int) < 3 := by omega
          obtain rfl : i = 3 := by omega
          have hap2 := S.apart
          have m9 := S.m9
          have m3 := made3 (vpart23v f h ▸ S.m3)
          have a6 := S.d6
          have a2 := S.d2
          have B := S.below
          have h9 := m9.lt
          have h3 := m3.lt
          have hwr := a6.lt
          obtain ⟨ow, hlo⟩ : ∃ lo, lo = w.heap.size := ⟨_, rfl⟩
          have ho : OpAt wr (W1.heap.size + 1) wr.heap.size (.agg #[.slice (some ⟨gm, 0, none⟩) 9 vc, .slice (some ⟨g3, 0, none⟩) 3 3]) 9 (backM f) 3 (backV f h) := by
            refine ⟨_, _, rfl, arr_of_made m9 hap2.2.2.2.2 (by omega), arr_of_made m3 (Nat.le_refl _) (by omega), ?_⟩
            intro y h1 h2
            cases h1
            cases h2
            omega
          obtain ⟨z1, z2⟩ : Src wr (some ⟨gm, 0, none⟩) 9 (backM f) ∧ Src wr (some ⟨g3, 0, none⟩) 3 (backV f h) := by
            refine ⟨.inr ⟨gm, 0, rfl, h9, ?_⟩, .inr ⟨g3, 0, rfl, h3, m3.row⟩⟩
            obtain ⟨cur, q1, q2, q3⟩ := m9
            intro j hj
            rw [Nat.zero_add]
            exact q1.cell j (q3 j hj)
          clear S m9 m3
          obtain ⟨c0', c1', -⟩ := a6.open2
          go_wp2_with fail
          refine (specOk_any vc 3 z1 z2).mono ?_
          rintro e w8 ⟨rfl, b8⟩
          replace a6 := a6.below b8
          replace a2 := a2.below b8
          replace ho := ho.below b8
          replace B := B.trans (b8.mono B.size)
          have s8 := b8.size
          clear c0' c1' b8 z1 z2
          obtain ⟨d0, d1, f0, f1⟩ := a2.open2
          by_cases hR : isR (backM f) (backV f h)
          · rw [decide_eq_true (show isOp 9 (backM f) 3 (backV f h) from ⟨rfl, rfl, hR⟩)]
            have eR : RR = true := HR.out.symm.trans (decide_eq_true hR)
            subst eR
            obtain ⟨c0', c1', -⟩ := a6.open2
            go_wp2
            have a8 := nil2_at a2 (.slice (some ⟨gm, 0, none⟩) 9 vc) (.slice (some ⟨g3, 0, none⟩) 3 3)
            obtain ⟨p0, p1, -⟩ := a8.open2
            have ho := (ho.store (q := W1.heap.size) (by omega) (.slice (some ⟨gm, 0, none⟩) 9 vc) (.slice (some ⟨g3, 0, none⟩) 3 3)).wide (show w.heap.size ≤ W1.heap.size + 1 by omega) (show wr.heap.size ≤ ((w8.setCell ⟨W1.heap.size, 0, none⟩ (.slice (some ⟨gm, 0, none⟩) 9 vc)).setCell ⟨W1.heap.size, 1, none⟩ (.slice (some ⟨g3, 0, none⟩) 3 3)).heap.size by rw [size_set2]; omega)
            exact bodyPost_ret (v := .tuple #[.agg #[.slice (some ⟨gm, 0, none⟩) 9 vc, .slice (some ⟨g3, 0, none⟩) 3 3], .bool true]) (by simp [results, Try.results27, go_sem, p0, p1]) rfl ⟨_, rfl, ho, (B.setCell (show w.heap.size ≤ W1.heap.size by omega) _).setCell (show w.heap.size ≤ W1.heap.size by omega) _⟩
          · rw [decide_eq_false (show ¬ isOp 9 (backM f) 3 (backV f h) from fun x => hR x.2.2)]
            have eR : RR = false := HR.out.symm.trans (decide_eq_false hR)
            subst eR
            go_wp2
            have a8 := nil2_at a2 (.slice none 0 0) (.slice none 0 0)
            obtain ⟨p0, p1, -⟩ := a8.open2
            exact bodyPost_ret (v := .tuple #[.agg #[.slice none 0 0, .slice none 0 0], .bool false]) (by simp [results, Try.results27, go_sem, p0, p1]) rfl ⟨_, rfl, told_none _ _ _ _ _, (B.setCell (show w.heap.size ≤ W1.heap.size by omega) _).setCell (show w.heap.size ≤ W1.heap.size by omega) _⟩
end Go.Proofs.Ytgjhbkpocbihbaa
/-
  Ways back of operators by the specification, whatever is handed in, walked.
-/
namespace Go.Proofs.Ytgjhbkpocbihbaa
open Go.RowKit

theorem specBack_any {w : World} {a b : Option Addr} {n k : Nat} {f h : Nat → Int} (cap cap' : Nat) (hs : Src w a n f) (ht : Src w b k h) :
    Calls Try.prog 27 #[.agg #[.slice a n cap, .slice b k cap']] w fun e w' => ∃ o, e = .returned (.tuple #[o, .bool (decide (backOk n f k h))]) ∧ Told w' w.heap.size w'.heap.size o (decide (backOk n f k h)) (backM f) (backV f h) ∧ Below w.heap.size w w' := by
  by_cases h1 : isOp n f k h
  · have e1 : decide (backOk n f k h) = decide (isR (backM f) (backV f h)) := by
      rw [Bool.eq_iff_iff]
      simp only [decide_eq_true_eq]
      exact ⟨fun x => x.2, fun x => ⟨h1, x⟩⟩
    rw [e1]
    obtain ⟨rfl, rfl, r1⟩ := h1
    rcases hs with h0 | ⟨b1, o1, rfl, l1, i1⟩
    · omega
    rcases ht with h0 | ⟨b2, o2, rfl, l2, i2⟩
    · omega
    exact specBack_ok cap cap' i1 i2 l1 l2 r1
  · rw [decide_eq_false (fun x : backOk n f k h => h1 x.1)]
    obtain ⟨W1, hW1, a1, bW1, -⟩ := boxed w 36 #[.slice a n cap, .slice b k cap']
    obtain ⟨W2, hW2, a3, bW3, -⟩ := boxed W1 36 #[.slice none 0 0, .slice none 0 0]
    have s1 := a1.lt
    replace a1 := a1.below bW3
    replace bW1 := bW1.trans (bW3.mono bW1.size)
    obtain ⟨c0, c1, -⟩ := a1.open2
    go_enter Try.func27, Try.ntmps27
    go_wp2_with fail
    refine (specOk_any cap cap' (hs.below bW1) (ht.below bW1)).mono ?_
    rintro e w4 ⟨rfl, b4⟩
    rw [decide_eq_false h1]
    replace a3 := a3.below b4
    replace bW1 := bW1.trans (b4.mono bW1.size)
    clear c0 c1 b4 hW1 hW2
    obtain ⟨d0, d1, f0, f1⟩ := a3.open2
    go_wp2
    have a8 := nil2_at a3 (.slice none 0 0) (.slice none 0 0)
    obtain ⟨p0, p1, -⟩ := a8.open2
    exact bodyPost_ret (v := .tuple #[.agg #[.slice none 0 0, .slice none 0 0], .bool false]) (by simp [results, Try.results27, go_sem, p0, p1]) rfl ⟨_, rfl, told_none _ _ _ _ _, (bW1.setCell (show w.heap.size ≤ W1.heap.size by omega) _).setCell (show w.heap.size ≤ W1.heap.size by omega) _⟩
end Go.Proofs.Ytgjhbkpocbihbaa
