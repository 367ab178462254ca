/-
  An operator told in new memory. Walked.
-/
import Derived.Test.YtfmbljmcdidocaaGreatMO
import Derived.Test.YtfmbljmcdidocaaGreatMC
import Derived.Test.YtfmbljmcdidocaaGreatGr
namespace Go.Proofs.YtfmbljmcdidocaaGreat
open Go.RowKit

theorem opA_ints {w : World} {q : Nat} {f h : Nat → Int} {t : TypeId} (a : At t w q (opA f h)) : Ints w q 0 9 f ∧ Ints w q 9 3 h := by
  refine ⟨fun i hi => ?_, fun i hi => ?_⟩
  · have := a.cell i (opA_get f h i (by omega))
    rw [if_pos hi] at this
    simpa using this
  · have := a.cell (9 + i) (opA_get f h (9 + i) (by omega))
    rw [if_neg (by omega), show 9 + i - 9 = i by omega] at this
    exact this
set_option maxRecDepth 100000 in
set_option maxHeartbeats 1600000 in
theorem opNew_any (f h : Nat → Int) (w : World) : Calls Tryz.prog 50 #[.agg (opA f h)] w fun e w' => ∃ v1 v2, e = .returned (.agg #[v1, v2]) ∧ Arr w' w.heap.size w'.heap.size v1 9 f ∧ Arr w' w.heap.size w'.heap.size v2 3 h ∧ Apart v1 v2 ∧ Below w.heap.size w w' := by
  obtain ⟨W1, hW1, a1, B1, -⟩ := boxed w 62 (opA f h)
  obtain ⟨W2, hW2, a2, B2, -⟩ := boxed W1 31 #[.slice none 0 0, .slice none 0 0]
  replace a1 := a1.below B2
  have B : Below w.heap.size w W2 := B1.trans (B2.mono B1.size)
  have hqq : w.heap.size ≤ W1.heap.size := B1.size
  clear B1 B2
  unfold opA at hW1 ⊢
  go_enter Tryz.func50, Tryz.ntmps50
  go_wp2_with fail
  clear hW1 hW2
  obtain ⟨q1, hq1⟩ : ∃ q, w.heap.size = q := ⟨_, rfl⟩
  obtain ⟨q2, hq2⟩ : ∃ q, W1.heap.size = q := ⟨_, rfl⟩
  rw [hq1] at a1 ⊢
  rw [hq2] at a2 ⊢
  obtain ⟨u0, hu0, bb⟩ : ∃ u0, W2.drew = u0 ∧ Below W2.heap.size W2 u0 := ⟨_, rfl, (Below.refl _ _).drew⟩
  replace a1 := a1.below bb
  replace a2 := a2.below bb
  have B0 := B.trans (bb.mono B.size)
  clear bb B
  refine wp_region_held_drew (S := fun _ => True) (by kernel_rfl) trivial (fun hHeld => ?_)
  rw [hu0]
  clear hu0
  change wpAnyH _ _ _ _ _ 8 #[false, false, false, false, false, false, false, false] _ _
  refine wpAnyH_take (i := 0) (v := .pointer (some ⟨q1, 0, none⟩)) rfl (by kernel_rfl) (by kernel_rfl) (by kernel_rfl) (fun _ _ _ h => h) (Or.inl ⟨by kernel_rfl, ?_⟩) hHeld ?_
  · intro w' hSw; go_simp
  try simp only [Act.put, List.setIfInBounds_toArray, List.set_cons_zero]
  refine wpAnyH_take (i := 1) (v := .slice (some ⟨q1, 0, none⟩) 9 9) rfl (by kernel_rfl) (by kernel_rfl) (by kernel_rfl) (fun _ _ _ h => h) (Or.inl ⟨by kernel_rfl, ?_⟩) hHeld ?_
  · intro w' hSw; go_simp
  try simp only [Act.put, List.setIfInBounds_toArray, List.set_cons_zero, List.set_cons_succ]
  refine wpAnyH_take (i := 3) (v := .pointer (some ⟨q1, 9, none⟩)) rfl (by kernel_rfl) (by kernel_rfl) (by kernel_rfl) (fun _ _ _ h => h) (Or.inl ⟨by kernel_rfl, ?_⟩) hHeld ?_
  · intro w' hSw; go_simp
  try simp only [Act.put, List.setIfInBounds_toArray, List.set_cons_zero, List.set_cons_succ]
  refine wpAnyH_take (i := 4) (v := .slice (some ⟨q1, 9, none⟩) 3 3) rfl (by kernel_rfl) (by kernel_rfl) (by kernel_rfl) (fun _ _ _ h => h) (Or.inl ⟨by kernel_rfl, ?_⟩) hHeld ?_
  · intro w' hSw; go_simp
  try simp only [Act.put, List.setIfInBounds_toArray, List.set_cons_zero, List.set_cons_succ]
  refine wpAnyH_ready (rs := [2]) (by kernel_rfl) (by simp) ?_
  refine AllReadyH.cons rfl (fun KK hK' => ?_) AllReadyH.nil
  go_simp
  refine (clone_any (f := f) (opA_ints a1).1 a1.lt (by omega)).mono ?_
  rintro e u1 ⟨g1, c1, rfl, hg1, hc1, m1, b1⟩
  have m1lt := m1.lt
  have a0 := a2
  replace a1 := a1.below b1
  replace a2 := a2.below b1
  have B1 := B0.trans (b1.mono B0.size)
  try go_wp2_with fail
  clear hHeld
  refine hK'.out _ _ (trivial) (fun hHeld => ?_)
  clear hK' KK
  try simp only [List.setIfInBounds_toArray, List.set_cons_zero, List.set_cons_succ]
  refine wpAnyH_ready (rs := [5]) (by kernel_rfl) (by simp) ?_
  refine AllReadyH.cons rfl (fun KK hK' => ?_) AllReadyH.nil
  go_simp
  refine (clone_any (f := h) (opA_ints a1).2 a1.lt (by omega)).mono ?_
  rintro e u2 ⟨g2, c2, rfl, hg2, hc2, m2, b2⟩
  replace a2 := a2.below b2
  replace m1 := m1.below b2
  have B2 := B1.trans (b2.mono B1.size)
  try go_wp2_with fail
  clear hHeld
  refine hK'.out _ _ (trivial) (fun hHeld => ?_)
  clear hK' KK
  try simp only [List.setIfInBounds_toArray, List.set_cons_zero, List.set_cons_succ]
  refine wpAnyH_take (i := 6) (v := .agg #[.slice (some ⟨g1, 0, none⟩) 9 c1, .slice (some ⟨g2, 0, none⟩) 3 c2]) rfl (by kernel_rfl) (by kernel_rfl) (by kernel_rfl) (fun _ _ _ h => h) (Or.inl ⟨by kernel_rfl, ?_⟩) hHeld ?_
  · intro w' hSw; go_simp
  try simp only [Act.put, List.setIfInBounds_toArray, List.set_cons_zero, List.set_cons_succ]
  refine wpAnyH_ready (rs := [7]) (by kernel_rfl) (by simp) ?_
  refine AllReadyH.cons rfl (fun KK hK' => ?_) AllReadyH.nil
  obtain ⟨k0, k1, k2, k3⟩ := a2.open2
  go_simp
  have s2 := (a2.set 0 (.slice (some ⟨g1, 0, none⟩) 9 c1)).set 1 (.slice (some ⟨g2, 0, none⟩) 3 c2)
  clear hHeld
  refine hK'.out _ _ (trivial) (fun hHeld => ?_)
  clear hK' KK
  try simp only [List.setIfInBounds_toArray, List.set_cons_zero, List.set_cons_succ]
  clear hHeld
  refine wpAnyH_done (by kernel_rfl) ?_ _
  obtain ⟨u3, hu3⟩ : ∃ u, (u2.setCell ⟨q2, 0, none⟩ (.slice (some ⟨g1, 0, none⟩) 9 c1)).setCell ⟨q2, 1, none⟩ (.slice (some ⟨g2, 0, none⟩) 3 c2) = u := ⟨_, rfl⟩
  have hq2l : q2 < u0.heap.size := a0.lt
  have hb1 := b1.size
  have hm1 : Made u3 g1 c1 9 f := by
    rw [← hu3]
    obtain ⟨cur, t1, t2⟩ := m1
    exact ⟨cur, (t1.setOther (by omega) _).setOther (by omega) _, t2⟩
  have hm2 : Made u3 g2 c2 3 h := by
    rw [← hu3]
    obtain ⟨cur, t1, t2⟩ := m2
    exact ⟨cur, (t1.setOther (by omega) _).setOther (by omega) _, t2⟩
  have hw : q1 ≤ q2 := by rw [← hq1, ← hq2]; exact hqq
  have B3 : Below w.heap.size w u3 := by
    rw [← hu3]
    exact (B2.setCell (p := ⟨q2, 0, none⟩) (by show _ ≤ q2; omega) _).setCell (p := ⟨q2, 1, none⟩) (by show _ ≤ q2; omega) _
  have s3 : At 31 u3 q2 #[.slice (some ⟨g1, 0, none⟩) 9 c1, .slice (some ⟨g2, 0, none⟩) 3 c2] := by rw [← hu3]; exact s2
  have hl1 := hm1.lt
  have hl2 := hm2.lt
  have hg1b : g1 < u1.heap.size := m1lt
  rw [hu3]
  clear hu3 s2 a2 k0 k1 k2 k3 a1
  obtain ⟨k0, k1, -⟩ := s3.open2
  go_wp2
  refine bodyPost_ret (v := .agg #[.slice (some ⟨g1, 0, none⟩) 9 c1, .slice (some ⟨g2, 0, none⟩) 3 c2]) (by simp [results, Tryz.results50, go_sem, k0, k1]) rfl ⟨_, _, rfl, .inr ⟨g1, c1, rfl, by omega, hl1, hc1, hm1⟩, .inr ⟨g2, c2, rfl, by omega, hl2, hc2, hm2⟩, fun k e1 e2 => ?_, B3⟩
  simp only [Value.ownBlock, Option.some.injEq] at e1 e2
  omega
end Go.Proofs.YtfmbljmcdidocaaGreat
/-
  A list of operators told in new memory. Walked.
-/
namespace Go.Proofs.YtfmbljmcdidocaaGreat
open Go.RowKit

/-- The cells of the first n. -/
def pc (X Y : Nat → Value) : Nat → List Value
  | 0 => []
  | n + 1 => pc X Y n ++ [X n, Y n]
theorem pc_len (X Y : Nat → Value) (n : Nat) : (pc X Y n).length = n * 2 := by
  induction n with
  | zero => rfl
  | succ n ih => simp [pc, ih]; omega
theorem pc_get (X Y : Nat → Value) {n i : Nat} (hi : i < n) : (pc X Y n)[i * 2]? = some (X i) ∧ (pc X Y n)[i * 2 + 1]? = some (Y i) := by
  induction n with
  | zero => omega
  | succ n ih =>
    have hl := pc_len X Y n
    unfold pc
    by_cases e : i = n
    · subst e
      rw [List.getElem?_append_right (by omega), List.getElem?_append_right (by omega), hl, show i * 2 - i * 2 = 0 by omega, show i * 2 + 1 - i * 2 = 1 by omega]
      exact ⟨rfl, rfl⟩
    · rw [List.getElem?_append_left (by omega), List.getElem?_append_left (by omega)]
      exact ih (by omega)
theorem pc_congr {X X' Y Y' : Nat → Value} {n : Nat} (h : ∀ i, i < n → X i = X' i ∧ Y i = Y' i) : pc X Y n = pc X' Y' n := by
  induction n with
  | zero => rfl
  | succ n ih => unfold pc; rw [ih (fun i hi => h i (by omega)), (h n (by omega)).1, (h n (by omega)).2]
/-- A list of operators that grows, in memory of its own. -/
structure OpsG (w : World) (lo : Nat) (v : Value) (n : Nat) (X Y : Nat → Value) (A : Nat → OpD) : Prop where
  row : w.ownsRow lo 31 2 v n (pc X Y n)
  nn : v ≠ .slice none 0 0
  xs : ∀ i, i < n → Arr w lo w.heap.size (X i) (A i).n (A i).f
  ys : ∀ i, i < n → Arr w lo w.heap.size (Y i) (A i).k (A i).h
  dj : AllApart n X Y
theorem OpsG.opsA {w : World} {lo n : Nat} {v : Value} {X Y : Nat → Value} {A : Nat → OpD} (h : OpsG w lo v n X Y A) : ∃ g c, v = .slice (some ⟨g, 0, none⟩) n c ∧ OpsA w lo w.heap.size g n X Y A := by
  rcases h.row.2 with ⟨h1, _⟩ | ⟨g, c, cur, e, hb, hh, h3, h4, h5, h6⟩
  · exact absurd h1 h.nn
  · refine ⟨g, c, e, ⟨hb, (Array.getElem?_eq_some_iff.1 hh).1, cur, hh, fun i hi => ?_⟩, h.xs, h.ys, h.dj⟩
    obtain ⟨p1, p2⟩ := pc_get X Y hi
    rw [← h6, List.getElem?_take] at p1 p2
    constructor
    · split at p1
      · simpa using p1
      · cases p1
    · split at p2
      · simpa using p2
      · cases p2
theorem OpsG.below {w w' : World} {lo n : Nat} {v : Value} {X Y : Nat → Value} {A : Nat → OpD} (h : OpsG w lo v n X Y A) (hb : Below w.heap.size w w') : OpsG w' lo v n X Y A :=
  ⟨own_below h.row hb, h.nn, fun i hi => ((h.xs i hi).below hb).wide (Nat.le_refl _) hb.size, fun i hi => ((h.ys i hi).below hb).wide (Nat.le_refl _) hb.size, h.dj⟩
theorem OpsG.ne {w : World} {lo n m : Nat} {v u : Value} {X Y : Nat → Value} {A : Nat → OpD} {f : Nat → Int} {lo' hi' : Nat} (h : OpsG w lo v n X Y A) (r : Arr w lo' hi' u m f) : ∀ k, u.ownBlock = some k → v.ownBlock ≠ some k := by
  intro k e1 e2
  obtain ⟨g, c, rfl, H⟩ := h.opsA
  obtain ⟨-, -, cur, h3, -⟩ := H.blk
  simp only [Value.ownBlock, Option.some.injEq] at e2
  subst e2
  exact arr_ne_block r h3 e1
theorem arr_grown {w w' : World} {lo hi : Nat} {v : Value} {n : Nat} {f : Nat → Int} {row : Option Nat} (h : Arr w lo hi v n f) (hg : w.grownBy w' row) (hne : ∀ k, v.ownBlock = some k → row ≠ some k) : Arr w' lo hi v n f := by
  rcases h with h | ⟨g', c, rfl, h1, h2, h3, cur', h4, h5⟩
  · exact .inl h
  · exact .inr ⟨g', c, rfl, h1, h2, h3, cur', (hg.block g' h4.lt (fun e => hne g' rfl e.symm)).trans h4, h5⟩
/-- One more. -/
theorem OpsG.next {wr w3 w4 : World} {lo n : Nat} {v v4 v1 v2 : Value} {X Y : Nat → Value} {A : Nat → OpD} (h : OpsG wr lo v n X Y A) (hlo : lo ≤ wr.heap.size) (b3 : Below wr.heap.size wr w3) (r1 : Arr w3 wr.heap.size w3.heap.size v1 (A n).n (A n).f) (r2 : Arr w3 wr.heap.size w3.heap.size v2 (A n).k (A n).h) (ap : Apart v1 v2)
    (hg : w3.grownBy w4 v.ownBlock) (hrow : w4.ownsRow lo 31 2 v4 (n + 1) (pc X Y n ++ [v1, v2])) (hne : v4 ≠ .slice none 0 0) : ∃ X' Y', OpsG w4 lo v4 (n + 1) X' Y' A := by
  have H3 := h.below b3
  have ax : ∀ i, i < n → ∀ {u : Value} {m : Nat} {f : Nat → Int}, Arr w3 wr.heap.size w3.heap.size u m f → Apart (X i) u ∧ Apart (Y i) u := fun i hi _ _ _ r => ⟨(h.xs i hi).apart r (.inl (Nat.le_refl _)), (h.ys i hi).apart r (.inl (Nat.le_refl _))⟩
  have up : ∀ {u : Value} {m : Nat} {f : Nat → Int} {l : Nat}, lo ≤ l → Arr w3 l w3.heap.size u m f → Arr w4 lo w4.heap.size u m f := fun hl r => (arr_grown r hg (H3.ne r)).wide hl hg.size
  refine ⟨fun i => if i = n then v1 else X i, fun i => if i = n then v2 else Y i, ?_, hne, fun i hi => ?_, fun i hi => ?_, ⟨fun i j hi hj hij => ?_, fun i j hi hj => ?_⟩⟩
  · have : pc (fun i => if i = n then v1 else X i) (fun i => if i = n then v2 else Y i) (n + 1) = pc X Y n ++ [v1, v2] := by
      show pc _ _ n ++ [_, _] = _
      rw [pc_congr (X' := X) (Y' := Y) (fun i hi => by simp [show i ≠ n by omega])]
      simp
    rw [this]; exact hrow
  · by_cases e : i = n
    · subst e; simp only [if_true]; exact up hlo r1
    · simp only [if_neg e]; exact up (Nat.le_refl _) (H3.xs i (by omega))
  · by_cases e : i = n
    · subst e; simp only [if_true]; exact up hlo r2
    · simp only [if_neg e]; exact up (Nat.le_refl _) (H3.ys i (by omega))
  · by_cases e : i = n
    · by_cases e' : j = n
      · omega
      · simp only [if_pos e, if_neg e']; exact ⟨(ax j (by omega) r1).1.symm, (ax j (by omega) r2).2.symm⟩
    · by_cases e' : j = n
      · simp only [if_pos e', if_neg e]; exact ⟨(ax i (by omega) r1).1, (ax i (by omega) r2).2⟩
      · simp only [if_neg e', if_neg e]; exact h.dj.1 i j (by omega) (by omega) hij
  · by_cases e : i = n
    · by_cases e' : j = n
      · simp only [if_pos e, if_pos e']; exact ap
      · simp only [if_pos e, if_neg e']; exact (ax j (by omega) r1).2.symm
    · by_cases e' : j = n
      · simp only [if_pos e', if_neg e]; exact (ax i (by omega) r2).1
      · simp only [if_neg e', if_neg e]; exact h.dj.2 i j (by omega) (by omega)
/-- An operator of the program's, as it is told. -/
def opD (k : Nat → Int) : OpD := ⟨9, k, 3, kh k⟩
set_option maxRecDepth 100000 in
set_option maxHeartbeats 1600000 in
theorem toldOps_any {w : World} {base g n c : Nat} {F : Nat → Nat → Int} (hF : Oprs w base (.slice (some ⟨g, 0, none⟩) n c) n F) (hn : n ≤ 1000) :
    Calls Tryz.prog 29 #[.slice (some ⟨g, 0, none⟩) n c] w fun e w' => (∃ g' c' X Y, e = .returned (.slice (some ⟨g', 0, none⟩) n c') ∧ OpsA w' w.heap.size w'.heap.size g' n X Y (fun i => opD (F i))) ∧ Below w.heap.size w w' := by
  have hn' : (n : Int) ≤ 1000 := by omega
  have hbs : ∀ w, (Instr.buildSlice 24 0 #[]).run Tryz.prog w = .ok (.slice (some ⟨w.heap.size, 0, none⟩) 0 0) (w.alloc (.cells #[] 31)) := fun _ => by kernel_rfl
  obtain ⟨i0, hi0, hz0, hz1, hz2⟩ := info_parts Tryz.info31
  obtain ⟨W1, hW1, a1, B1, -⟩ := boxed w 31 #[]
  have o1 : Hid (OpsG W1 w.heap.size (.slice (some ⟨w.heap.size, 0, none⟩) 0 0) 0 (fun _ => undef) (fun _ => undef) (fun i => opD (F i))) := ⟨⟨rfl, .inr ⟨w.heap.size, 0, #[], rfl, Nat.le_refl _, a1, Nat.le_refl _, Nat.zero_le _, rfl, rfl⟩⟩, ne_nil _ _ _, fun i hi => by omega, fun i hi => by omega, fun i j hi => by omega, fun i j hi => by omega⟩
  clear a1
  go_enter Tryz.func29, Tryz.ntmps29
  go_wp2
  clear hW1
  go_loopw [3, 9] (fun v s wr => ∃ (k : Nat) (X Y : Nat → Value), k ≤ n ∧ s = .int .i64 k ∧ Hid (OpsG wr w.heap.size v k X Y (fun i => opD (F i))) ∧ Below w.heap.size w wr) (fun _ s _ => n - (intOf s).toNat)
  case atStart => exact ⟨0, _, _, Nat.zero_le _, rfl, o1, B1⟩
  case round =>
    clear o1 B1
    obtain ⟨k, X, Y, hk, rfl, own, B⟩ := hrel
    by_cases hlt : k < n
    · have hlt' : (k : Int) < (n : Int) := by omega
      have hF1 := hF.below B
      obtain ⟨e0, e1, e2, e3, e4, e5, e6, e7, e8, e9, e10, e11⟩ := hF1.open k hlt
      obtain ⟨W2, hW2, a2, b2, -⟩ := boxed wr 62 (kc (F k)).toArray
      obtain ⟨p2, hp2⟩ : ∃ p, wr.heap.size = p := ⟨_, rfl⟩
      rw [hp2] at a2
      obtain ⟨f0, f1, f2, f3, f4, f5, f6, f7, f8, f9, f10, f11⟩ := At.openk (x := F k) a2
      have own2 : Hid (OpsG W2 w.heap.size u3 k X Y (fun i => opD (F i))) := own.out.below b2
      have B2 := B.trans (b2.mono B.size)
      clear own B b2
      unfold kc at hW2
      go_wp2_with fail
      refine (opNew_any (F k) (kh (F k)) W2).mono ?_
      rintro e w3 ⟨v1, v2, rfl, r1, r2, ap, b3⟩
      clear e0 e1 e2 e3 e4 e5 e6 e7 e8 e9 e10 e11 f0 f1 f2 f3 f4 f5 f6 f7 f8 f9 f10 f11 hW2
      have B3 := B2.trans (b3.mono B2.size)
      obtain ⟨x1, d1, rfl, -⟩ := r1.src
      obtain ⟨x2, d2, rfl, -⟩ := r2.src
      obtain ⟨W4, hW4, a4, b4, -⟩ := boxed w3 31 #[.slice x1 9 d1, .slice x2 3 d2]
      obtain ⟨p4, hp4⟩ : ∃ p, w3.heap.size = p := ⟨_, rfl⟩
      rw [hp4] at a4
      have b34 : Below W2.heap.size W2 W4 := b3.trans (b4.mono b3.size)
      have r1' : Hid (Arr W4 W2.heap.size W4.heap.size (.slice x1 9 d1) 9 (F k)) := (r1.below b4).wide (Nat.le_refl _) b4.size
      have r2' : Hid (Arr W4 W2.heap.size W4.heap.size (.slice x2 3 d2) 3 (kh (F k))) := (r2.below b4).wide (Nat.le_refl _) b4.size
      have row4 : Hid (W4.ownsRow w.heap.size 31 2 u3 k (pc X Y k)) := own_below own2.out.row b34
      have B4 := B3.trans (b4.mono B3.size)
      have hm1 : k + 1 ≤ maxLen := by unfold maxLen; omega
      have hm2 : (k + 1) * 48 ≤ 140737488355328 := by omega
      have hnw : ∀ j u, ([.slice x1 9 d1, .slice x2 3 d2] : List Value)[j]? = some u → W4.cell? ((⟨p4, 0, none⟩ : Addr).add j) = some u := by
        intro j u hu
        have h2 := a4.cell j (v := u) (by simpa using hu)
        by_cases e : j = 0
        · subst e; simpa [Addr.add] using h2
        · simpa [Addr.add, e] using h2
      clear r1 r2 b3 b4 B3
      go_wp2_with (at_builtin; refine Hid.out (?_ : Hid _))
      refine (?_ : wpList _ _ _ _ _ _)
      refine wpList_append_own_at _ rfl _ _ _ rfl w.heap.size 31 i0 _ 2 48 Tryz.underlying24 hi0 hz0 hz1 hz2 rfl (by omega) u3 k (pc X Y k) rfl row4.out ⟨p4, 0, none⟩ 1 1 [.slice x1 9 d1, .slice x2 3 d2] rfl rfl hnw (by intro u hu; simp at hu; rcases hu with rfl | rfl <;> rfl) hm1 hm2 B4.size ?_
      intro v5 w5 hown5 hgrow5 hne5 _
      obtain ⟨X', Y', HG⟩ := own2.out.next (A := fun i => opD (F i)) B2.size b34 r1'.out r2'.out ap hgrow5 hown5 (fun e => by have := (hne5.1 e).2; omega)
      have HG' : Hid (OpsG w5 w.heap.size v5 (k + 1) X' Y' (fun i => opD (F i))) := HG
      have B5 : Below w.heap.size w w5 := B4.grown hgrow5 B4.size (fun x hx => ownBlock_ge row4.out hx)
      clear HG hown5 hgrow5 hne5 own2 row4 r1' r2' b34 B4 B2 hnw a4 hW4 hm1 hm2 ap
      go_wp2
      exact ⟨⟨k + 1, X', Y', by omega, by go_num, HG', B5⟩, by simp [intOf]; omega⟩
    · obtain rfl : k = n := by omega
      have hlt' : ¬ (k : Int) < (k : Int) := by omega
      obtain ⟨g', c', rfl, H⟩ := own.out.opsA
      have H' : Hid (OpsA wr w.heap.size wr.heap.size g' k X Y (fun i => opD (F i))) := H
      clear H own
      go_wp2
      go_ret
      exact ⟨⟨g', ⟨c', rfl⟩, X, Y, H'.out⟩, B⟩
end Go.Proofs.YtfmbljmcdidocaaGreat
