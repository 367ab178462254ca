/-
  The law FnBasis, walked.
-/
import Derived.Test.YtjlmiadmobbibaaCh9
import Derived.Test.YtjlmiadmobbibaaCi9
import Derived.Test.YtjlmiadmobbibaaCj9
import Derived.Test.YtjlmiadmobbibaaBp
namespace Go.Proofs.Ytjlmiadmobbibaa
open Go.RowKit

theorem newsL {w : World} {g m : Nat} {l : List Int} (hl : l.length = m * 3) (h : Trips w g m (fun i => l.getD i 0)) : ∀ j u, (lCells l)[j]? = some u → w.cell? ((⟨g, 0, none⟩ : Addr).add j) = some u := by
  intro j u hu
  have hj : j < l.length := by
    have := (List.getElem?_eq_some_iff.1 hu).1
    simpa [lCells] using this
  have h1 := h.2 j (by omega)
  have h2 : (lCells l)[j]? = some (.int .i64 (l.getD j 0)) := by simp [lCells, hj]
  rw [h2] at hu
  injection hu with hu
  rw [← hu]
  by_cases e : j = 0
  · subst e; simpa [Addr.add] using h1
  · simpa [Addr.add, e] using h1
theorem own_tripsL {w : World} {B g m c : Nat} {l : List Int} (h : w.ownsRow B 32 3 (.slice (some ⟨g, 0, none⟩) m c) m (lCells l)) : Trips w g m (fun i => l.getD i 0) := by
  rcases h.2 with ⟨h1, _⟩ | ⟨g', c', cur, h1, hb, hh, hc1, hc2, hsz, ht⟩
  · cases h1
  · simp only [Value.slice.injEq, Option.some.injEq, Addr.mk.injEq] at h1
    obtain ⟨⟨rfl, -, -⟩, -, rfl⟩ := h1
    have hl := h.1
    simp only [lCells, List.length_map] at hl
    refine ⟨(Array.getElem?_eq_some_iff.1 hh).1, fun i hi => ?_⟩
    have a1 : (lCells l)[i]? = some (.int .i64 (l.getD i 0)) := by
      have : i < l.length := by omega
      simp [lCells, this]
    rw [← ht, List.getElem?_take_of_lt hi] at a1
    simpa [World.cell?, hh] using a1
/-- No other basis of differences has more. -/
theorem best_more {n : Nat} {f : Nat → Int} {r : Cd} (hs : SpOk n f) (hr : ∀ x, Cs n f x → ¬ clt x r) (hr0 : 0 ≤ r.m) {i1 i2 i3 i4 : Nat} (h1 : i1 < n) (h2 : i2 < n) (h3 : i3 < n) (h4 : i4 < n) : ¬ r.m < (ixT n f (f (i1 * 3) - f (i2 * 3)) (f (i1 * 3 + 1) - f (i2 * 3 + 1)) (f (i3 * 3) - f (i4 * 3)) (f (i3 * 3 + 1) - f (i4 * 3 + 1)) : Int) := by
  intro hh
  by_cases hb : BsOk (f (i1 * 3) - f (i2 * 3)) (f (i1 * 3 + 1) - f (i2 * 3 + 1)) (f (i3 * 3) - f (i4 * 3)) (f (i3 * 3 + 1) - f (i4 * 3 + 1))
  · rw [ixT_yes hs hb] at hh
    refine hr ⟨_, _, _, _, _⟩ ⟨⟨hb.ne.1, i2, h2, i1, h1, rfl⟩, ⟨hb.ne.2, i4, h4, i3, h3, rfl⟩, hb, rfl⟩ (.inl hh)
  · rw [ixT_no fun h => hb h.2] at hh
    omega
theorem FbT.zero {n : Nat} {f : Nat → Int} {r : Cd} (h : FbT n f r) (h0 : r.m = 0) : r = ⟨0, 0, 0, 0, 0⟩ := by
  rcases h with ⟨-, e⟩ | ⟨hs, ⟨-, e⟩ | ⟨hc, -⟩⟩
  · exact e
  · exact e
  · obtain ⟨⟨-, i, hi, -⟩, -, -, e⟩ := hc
    have := ixc_pos (f := f) (a := r.a) (b := r.b) (c := r.c) (d := r.d) (show 0 < n by omega)
    omega
theorem FbT.some {n : Nat} {f : Nat → Int} {r : Cd} (h : FbT n f r) (h0 : r.m ≠ 0) : SpOk n f ∧ 0 < n ∧ Cs n f r ∧ ∀ x, Cs n f x → ¬ clt x r := by
  rcases h with ⟨-, e⟩ | ⟨hs, ⟨-, e⟩ | ⟨hc, hb⟩⟩
  · rw [e] at h0; exact absurd rfl h0
  · rw [e] at h0; exact absurd rfl h0
  · refine ⟨hs, ?_, hc, hb⟩
    obtain ⟨⟨-, i, hi, -⟩, -⟩ := hc
    omega
theorem FbT.nonneg {n : Nat} {f : Nat → Int} {r : Cd} (h : FbT n f r) : 0 ≤ r.m := by
  by_cases h0 : r.m = 0
  · omega
  · obtain ⟨-, -, ⟨-, -, -, e⟩, -⟩ := h.some h0
    omega
theorem dfN_yes {f : Nat → Int} {i j : Nat} (h : f (i * 3) ≠ f (j * 3) ∨ f (i * 3 + 1) ≠ f (j * 3 + 1)) : dfN f i j = 1 := if_pos h
theorem dfN_no {f : Nat → Int} {i j : Nat} (h : ¬ (f (i * 3) ≠ f (j * 3) ∨ f (i * 3 + 1) ≠ f (j * 3 + 1))) : dfN f i j = 0 := if_neg h
theorem dfN_le (f : Nat → Int) (i j : Nat) : dfN f i j ≤ 1 := by
  by_cases h : f (i * 3) ≠ f (j * 3) ∨ f (i * 3 + 1) ≠ f (j * 3 + 1)
  · rw [dfN_yes h]; exact Nat.le_refl _
  · rw [dfN_no h]; omega
theorem smle {g : Nat → Nat} {c : Nat} (h : ∀ i, g i ≤ c) (k : Nat) : sm g k ≤ k * c := by
  induction k with
  | zero => simp [sm]
  | succ k ih => have := h k; rw [sm, Nat.succ_mul]; omega
theorem sm_mono (G : Nat → Nat) {t k : Nat} (h : t ≤ k) : sm G t ≤ sm G k := by
  induction k with
  | zero => rw [Nat.le_zero.1 h]; exact Nat.le_refl _
  | succ k ih =>
    rcases Nat.lt_or_ge k t with h1 | h1
    · rw [show t = k + 1 by omega]; exact Nat.le_refl _
    · have := ih h1; rw [sm]; omega
theorem prs_le (f : Nat → Int) {i : Nat} (hi : i ≤ 17) : sm (fun i => sm (fun j => dfN f i j) i) i ≤ 17 * 17 := by
  have h1 : ∀ a, a < i → sm (fun j => dfN f a j) a ≤ 17 := fun a ha => by have := smle (g := fun j => dfN f a j) (dfN_le f a) a; omega
  have h2 : ∀ k, k ≤ i → sm (fun i => sm (fun j => dfN f i j) i) k ≤ k * 17 := fun k hk => by
    induction k with
    | zero => simp [sm]
    | succ k ih => have := ih (by omega); have := h1 k (by omega); rw [sm, Nat.succ_mul]; omega
  have := h2 i (Nat.le_refl _)
  omega
set_option linter.unusedSimpArgs false in
set_option maxRecDepth 100000 in
set_option maxHeartbeats 8000000 in
theorem basis_walk {w : World} {a : Option Addr} {len cap : Nat} (hr : Row w w.heap.size a len) :
    Calls Try.prog 3 #[.slice a len cap] w fun e w' => e = .returned (.bool true) ∧ Below w.heap.size w w' := by
  obtain ⟨i0, hi0, hz0, hz1, hz2⟩ := info_parts infoSpot
  have hbs : ∀ w, (Instr.buildSlice 24 0 #[]).run Try.prog w = .ok (.slice (some ⟨w.heap.size, 0, none⟩) 0 0) (w.alloc (.cells #[] 32)) := fun _ => by kernel_rfl
  have hml := hr.1
  unfold maxLen at hml
  go_enter Try.func3, Try.ntmps3
  go_wp2_with fail
  refine (big_any a len cap _ hr.1).mono ?_
  rintro e w1 ⟨rfl, rfl⟩
  by_cases hbig : 1048576 < len
  · rw [decide_eq_true hbig]
    go_wp2
    go_ret
    exact ⟨rfl, Below.refl _ _⟩
  rw [decide_eq_false hbig]
  have hlen : (len : Int) ≤ 1048576 := by omega
  go_wp2_with fail
  refine (drawFind_any hr).mono ?_
  rintro e w2 ⟨g, c, m, l, rfl, hm17, hgw, hO, Ts, bW⟩
  have hll : l.length = m * 3 := by simpa [lCells] using hO.1
  have hm' : (m : Int) ≤ 17 := by omega
  obtain ⟨f, hf⟩ : ∃ f : Nat → Int, (fun i => l.getD i 0) = f := ⟨_, rfl⟩
  have HNL : Hid (∀ w, Trips w g m f → ∀ j u, (lCells l)[j]? = some u → w.cell? ((⟨g, 0, none⟩ : Addr).add j) = some u) := Hid.out fun w h => newsL hll (by rw [hf]; exact h)
  have HOT : Hid (∀ (w : World) (B g c : Nat), w.ownsRow B 32 3 (.slice (some ⟨g, 0, none⟩) m c) m (lCells l) → Trips w g m f) := Hid.out fun w B g c h => by have := own_tripsL h; rwa [hf] at this
  rw [hf] at Ts
  clear hf hO
  go_wp2_with fail
  refine (specFind_any Ts (by omega)).mono ?_
  rintro e w3 ⟨r, rfl, hF, bb⟩
  replace Ts := Ts.below bb
  replace bW := bW.trans (bb.mono bW.size)
  clear bb
  obtain ⟨W4, hW4, a4, bb, -⟩ := boxed w3 27 #[.int .i64 r.a, .int .i64 r.b, .int .i64 r.c, .int .i64 r.d]
  replace Ts := Ts.below bb
  replace bW := bW.trans (bb.mono bW.size)
  clear bb
  obtain ⟨W5, hW5, a5, bb, -⟩ := boxed W4 32 #[]
  have o5 : W5.ownsRow W4.heap.size 32 3 (.slice (some ⟨W4.heap.size, 0, none⟩) 0 0) 0 [] := ⟨rfl, .inr ⟨W4.heap.size, 0, #[], rfl, Nat.le_refl _, a5, Nat.le_refl _, Nat.zero_le _, rfl, rfl⟩⟩
  have Ts5 := Ts.below bb
  have a45 := a4.below bb
  have bW5 := bW.trans (bb.mono bW.size)
  have hs5 : W4.heap.size ≤ W5.heap.size := bb.size
  have N5 := HNL.out _ Ts5
  have hg4 : g < W4.heap.size := Ts.1
  have ha4 : w3.heap.size < W4.heap.size := a4.lt
  have hw4 : w.heap.size ≤ W4.heap.size := bW.size
  clear bb a5 Ts a4 bW
  go_wp2_with (at_builtin; refine wpList_append_own _ rfl _ _ _ rfl W4.heap.size 32 i0 _ 3 24 Try.underlying24 hi0 hz0 hz1 hz2 rfl (by omega) (.slice (some ⟨W4.heap.size, 0, none⟩) 0 0) 0 [] rfl o5 ⟨g, 0, none⟩ m c (lCells l) rfl (by rw [lCells, List.length_map]; exact hll) N5 (lCells_one _) (by unfold maxLen; omega) (by omega) hs5 ?_; intro v2 w6 hown2 hgrow2 hne2; refine Hid.out (?_ : Hid _))
  simp only [Nat.zero_add, List.nil_append] at hown2
  obtain ⟨g6, c6, rfl⟩ : ∃ g6 c6, v2 = .slice (some ⟨g6, 0, none⟩) m c6 := by
    rcases hown2.2 with ⟨e1, -⟩ | ⟨gg, cc, cur, e1, -⟩
    · exact absurd (hne2.1 e1).1 (fun h => by cases h)
    · exact ⟨gg, cc, e1⟩
  have T6 := HOT.out _ _ _ _ hown2
  have bb6 : Below W4.heap.size W5 w6 := (Below.refl _ _).grown hgrow2 hs5 (fun k hk => by cases hk; exact Nat.le_refl _)
  have Ts6 : Trips w6 g m f := ⟨Nat.lt_of_lt_of_le Ts5.1 bb6.size, fun i hi => (bb6.cell (p := ⟨g, i, none⟩) hg4).trans (Ts5.2 i hi)⟩
  have a46 : At 27 w6 w3.heap.size #[.int .i64 r.a, .int .i64 r.b, .int .i64 r.c, .int .i64 r.d] := a45.belowN bb6 ha4
  have bW6 := bW5.trans (bb6.mono hw4)
  clear hown2 hgrow2 hne2 bb6 o5 N5 Ts5 a45 bW5 hW5 hW4 hs5
  refine (?_ : wpList _ _ _ _ _ _)
  go_wp2_with fail
  refine (implFind_any T6 (by omega)).mono ?_
  rintro e w7 ⟨r', rfl, hF', bb⟩
  obtain rfl : r' = r := hF'.same hF
  replace Ts := Ts6.below bb
  replace a4 := a46.below bb
  replace bW := bW6.trans (bb.mono bW6.size)
  clear bb T6 Ts6 a46 bW6 hF'
  obtain ⟨W8, hW8, a8, bb, -⟩ := boxed w7 27 #[.int .i64 r'.a, .int .i64 r'.b, .int .i64 r'.c, .int .i64 r'.d]
  replace Ts := Ts.below bb
  replace a4 := a4.below bb
  replace bW := bW.trans (bb.mono bW.size)
  clear bb
  obtain ⟨y0, y1, y2, y3, -⟩ := a4.open4
  obtain ⟨z0, z1, z2, z3, -⟩ := a8.open4
  have hnn := hF.nonneg
  by_cases h0 : r'.m = 0
  · have hz := hF.zero h0
    have HA : Hid (r'.a = 0) := by rw [hz]; exact rfl
    have HB : Hid (r'.b = 0) := by rw [hz]; exact rfl
    have HC : Hid (r'.c = 0) := by rw [hz]; exact rfl
    have HD : Hid (r'.d = 0) := by rw [hz]; exact rfl
    clear hz hF hnn
    obtain ⟨ra, rb, rc, rd, rm⟩ := r'
    simp only at *
    go_wp2
    any_goals first | exact absurd HA.out (by assumption) | exact absurd HB.out (by assumption) | exact absurd HC.out (by assumption) | exact absurd HD.out (by assumption) | skip
    go_ret
    exact ⟨rfl, bW⟩
  obtain ⟨hs, hm0, hC, hbest⟩ := hF.some h0
  have hm0' : ¬ (m : Int) = 0 := by omega
  have HIX : Hid ((ixT m f r'.a r'.b r'.c r'.d : Int) = r'.m) := Hid.out (by rw [ixT_yes hs hC.2.2.1]; exact hC.2.2.2.symm)
  have HMORE : Hid (∀ i1 i2 i3 i4 : Nat, i1 < m → i2 < m → i3 < m → i4 < m → (ixT m f (f (i1 * 3) - f (i2 * 3)) (f (i1 * 3 + 1) - f (i2 * 3 + 1)) (f (i3 * 3) - f (i4 * 3)) (f (i3 * 3 + 1) - f (i4 * 3 + 1)) : Int) ≤ r'.m) := fun i1 i2 i3 i4 h1 h2 h3 h4 => Int.not_lt.1 (best_more hs hbest hnn h1 h2 h3 h4)
  have hmle : r'.m ≤ 16 := by rw [← HIX.out]; have := ixT_le (n := m) (f := f) (a := r'.a) (b := r'.b) (c := r'.c) (d := r'.d); omega
  have hm16 : m ≤ 16 := hs.1
  clear hF hC hbest
  obtain ⟨ra, rb, rc, rd, rm⟩ := r'
  simp only at *
  go_wp2_with fail
  clear y0 y1 y2 y3 z0 z1 z2 z3 hW8 a4
  obtain ⟨u0, hu0, bb⟩ : ∃ uu, W8.drew = uu ∧ Below W8.heap.size W8 uu := ⟨_, rfl, (Below.refl _ _).drew⟩
  replace Ts := Ts.below bb
  replace a8 := a8.below bb
  replace bW := bW.trans (bb.mono bW.size)
  have hg0 : g < u0.heap.size := Ts.1
  clear bb
  refine wp_region_held_drew (S := Kb u0) (by kernel_rfl) (by rw [hu0]; exact Below.refl _ _) (fun hHeld => ?_)
  rw [hu0] at hHeld ⊢
  clear hu0
  have bu : Kb u0 u0 := Below.refl _ _
  change wpAnyH _ _ _ _ _ 7 #[false, false, false, false, false, false, false] _ _
  refine wpAnyH_take (i := 1) (v := .slice ((some ⟨g, 0, none⟩)) m c) rfl (by kernel_rfl) (by kernel_rfl) (by kernel_rfl) (fun _ _ _ h => h) (Or.inl ⟨by kernel_rfl, ?_⟩) hHeld ?_
  · intro w' hSw; go_simp
  try simp only [Act.put, List.setIfInBounds_toArray, List.set_cons_zero, List.set_cons_succ, List.getElem_toArray, List.getElem_cons_succ, List.getElem_cons_zero]
  refine wpAnyH_take (i := 3) (v := .agg #[.int .i64 (ra), .int .i64 (rb), .int .i64 (rc), .int .i64 (rd)]) rfl (by kernel_rfl) (by kernel_rfl) (by kernel_rfl) (fun _ _ _ h => h) (Or.inl ⟨by kernel_rfl, ?_⟩) hHeld ?_
  · intro w' hSw; obtain ⟨z0, z1, z2, z3, -⟩ := (a8.below hSw).open4; go_simp
  try simp only [Act.put, List.setIfInBounds_toArray, List.set_cons_zero, List.set_cons_succ, List.getElem_toArray, List.getElem_cons_succ, List.getElem_cons_zero]
  refine wpAnyH_take (i := 5) (v := .int .i64 (rm)) rfl (by kernel_rfl) (by kernel_rfl) (by kernel_rfl) (fun _ _ _ h => h) (Or.inl ⟨by kernel_rfl, ?_⟩) hHeld ?_
  · intro w' hSw; go_simp
  try simp only [Act.put, List.setIfInBounds_toArray, List.set_cons_zero, List.set_cons_succ, List.getElem_toArray, List.getElem_cons_succ, List.getElem_cons_zero]
  refine wpAnyH_ready (rs := [0]) (by kernel_rfl) (by simp) ?_
  refine AllReadyH.cons rfl (fun KK hK' => ?_) AllReadyH.nil
  go_simp
  obtain ⟨v1, hV9, A9, bb, -⟩ := boxed u0 32 #[]
  try rw [hV9]
  replace Ts := Ts.below bb
  replace bu : Kb u0 v1 := bu.trans (bb.mono bu.size)
  clear bb hV9
  clear hHeld
  refine hK'.out _ _ (bu) (fun hHeld => ?_)
  clear hK' KK
  try simp only [List.setIfInBounds_toArray, List.set_cons_zero, List.set_cons_succ]
  refine wpAnyH_ready (rs := [2]) (by kernel_rfl) (by simp) ?_
  refine AllReadyH.cons rfl (fun KK hK' => ?_) AllReadyH.nil
  have o5 : v1.ownsRow u0.heap.size 32 3 (.slice (some ⟨u0.heap.size, 0, none⟩) 0 0) 0 [] := ⟨rfl, .inr ⟨u0.heap.size, 0, #[], rfl, Nat.le_refl _, A9, Nat.le_refl _, Nat.zero_le _, rfl, rfl⟩⟩
  have N5 := HNL.out _ Ts
  have hs5 : u0.heap.size ≤ v1.heap.size := bu.size
  refine step_append_at _ (by rfl) _ _ _ (by rfl) u0.heap.size 32 i0 _ 3 24 Try.underlying24 hi0 hz0 hz1 hz2 rfl (by omega) (.slice (some ⟨u0.heap.size, 0, none⟩) 0 0) 0 [] (by rfl) o5 ⟨g, 0, none⟩ m c (lCells l) (by rfl) (by rw [lCells, List.length_map]; exact hll) N5 (lCells_one _) (by unfold maxLen; omega) (by omega) hs5 ?_
  intro v2 w9 hown2 hgrow2 hne2 _hat
  simp only [Nat.zero_add, List.nil_append] at hown2
  obtain ⟨g6, c6, rfl⟩ : ∃ g6 c6, v2 = .slice (some ⟨g6, 0, none⟩) m c6 := by
    rcases hown2.2 with ⟨e1, -⟩ | ⟨gg, cc, cur, e1, -⟩
    · exact absurd (hne2.1 e1).1 (fun h => by cases h)
    · exact ⟨gg, cc, e1⟩
  have T6 := HOT.out _ _ _ _ hown2
  have bb6 : Below u0.heap.size v1 w9 := (Below.refl _ _).grown hgrow2 hs5 (fun k hk => by cases hk; exact Nat.le_refl _)
  replace Ts : Trips w9 g m f := ⟨Nat.lt_of_lt_of_le Ts.1 bb6.size, fun i hi => (bb6.cell (p := ⟨g, i, none⟩) hg0).trans (Ts.2 i hi)⟩
  replace bu : Kb u0 w9 := bu.trans bb6
  clear bb6 hown2 hgrow2 hne2 _hat o5 N5 hs5 A9
  clear hHeld
  refine hK'.out _ _ (bu) (fun hHeld => ?_)
  clear hK' KK
  try simp only [List.setIfInBounds_toArray, List.set_cons_zero, List.set_cons_succ]
  refine wpAnyH_ready (rs := [4]) (by kernel_rfl) (by simp) ?_
  refine AllReadyH.cons rfl (fun KK hK' => ?_) AllReadyH.nil
  go_simp
  refine (implIndexed_any T6 (by omega)).mono ?_
  rintro e u3 ⟨he, bb⟩
  rw [HIX.out] at he
  subst he
  clear T6
  replace Ts := Ts.below bb
  replace bu : Kb u0 u3 := bu.trans (bb.mono bu.size)
  clear bb
  try go_wp2_with fail
  clear hHeld
  refine hK'.out _ _ (bu) (fun hHeld => ?_)
  clear hK' KK
  try simp only [List.setIfInBounds_toArray, List.set_cons_zero, List.set_cons_succ]
  refine wpAnyH_take (i := 6) (v := .bool false) rfl (by kernel_rfl) (by kernel_rfl) (by kernel_rfl) (fun _ _ _ h => h) (Or.inl ⟨by kernel_rfl, ?_⟩) hHeld ?_
  · intro w' hSw; go_simp
  try simp only [Act.put, List.setIfInBounds_toArray, List.set_cons_zero, List.set_cons_succ, List.getElem_toArray, List.getElem_cons_succ, List.getElem_cons_zero]
  refine wpAnyH_done (by kernel_rfl) ?_ _
  clear hHeld
  replace bW := bW.trans (Below.mono bu bW.size)
  clear bu hg0 a8
  obtain ⟨i1, hh⟩ : ∃ i : Nat, len % m = i := ⟨_, rfl⟩
  have li1 : i1 < m := by rw [← hh]; exact Nat.mod_lt _ hm0
  have li1' : (i1 : Int) < (m : Int) := by omega
  have e1 : Int.tmod (len : Int) (m : Int) = (i1 : Int) := by rw [← hh]; exact (Int.ofNat_tmod _ _).symm
  have f1 : (len : Int) % (m : Int) = (i1 : Int) := by rw [← e1, Int.tmod_eq_emod_of_nonneg (by omega)]
  clear hh
  obtain ⟨d2, hd2⟩ : ∃ d : Nat, len / m = d := ⟨_, rfl⟩
  have qd2 : Int.tdiv (len : Int) (m : Int) = (d2 : Int) := by rw [← hd2]; exact (Int.ofNat_tdiv _ _).symm
  have qd2' : (len : Int) / (m : Int) = (d2 : Int) := by rw [← qd2, Int.tdiv_eq_ediv_of_nonneg (by omega)]
  have rd2 : (d2 : Int) ≤ 1048576 := by have : d2 ≤ len := by { rw [← hd2]; exact Nat.div_le_self _ _ }; omega
  obtain ⟨i2, hh⟩ : ∃ i : Nat, len / m % m = i := ⟨_, rfl⟩
  have li2 : i2 < m := by rw [← hh]; exact Nat.mod_lt _ hm0
  have li2' : (i2 : Int) < (m : Int) := by omega
  have e2 : Int.tmod (d2 : Int) (m : Int) = (i2 : Int) := by rw [← hh, ← hd2]; exact (Int.ofNat_tmod _ _).symm
  have f2 : (d2 : Int) % (m : Int) = (i2 : Int) := by rw [← e2, Int.tmod_eq_emod_of_nonneg (by omega)]
  clear hh
  obtain ⟨d3, hd3⟩ : ∃ d : Nat, len / 3 = d := ⟨_, rfl⟩
  have qd3 : Int.tdiv (len : Int) 3 = (d3 : Int) := by rw [← hd3]; exact (Int.ofNat_tdiv _ _).symm
  have qd3' : (len : Int) / 3 = (d3 : Int) := by rw [← qd3, Int.tdiv_eq_ediv_of_nonneg (by omega)]
  have rd3 : (d3 : Int) ≤ 1048576 := by have : d3 ≤ len := by { rw [← hd3]; exact Nat.div_le_self _ _ }; omega
  obtain ⟨i3, hh⟩ : ∃ i : Nat, len / 3 % m = i := ⟨_, rfl⟩
  have li3 : i3 < m := by rw [← hh]; exact Nat.mod_lt _ hm0
  have li3' : (i3 : Int) < (m : Int) := by omega
  have e3 : Int.tmod (d3 : Int) (m : Int) = (i3 : Int) := by rw [← hh, ← hd3]; exact (Int.ofNat_tmod _ _).symm
  have f3 : (d3 : Int) % (m : Int) = (i3 : Int) := by rw [← e3, Int.tmod_eq_emod_of_nonneg (by omega)]
  clear hh
  obtain ⟨d5, hd5⟩ : ∃ d : Nat, len / 5 = d := ⟨_, rfl⟩
  have qd5 : Int.tdiv (len : Int) 5 = (d5 : Int) := by rw [← hd5]; exact (Int.ofNat_tdiv _ _).symm
  have qd5' : (len : Int) / 5 = (d5 : Int) := by rw [← qd5, Int.tdiv_eq_ediv_of_nonneg (by omega)]
  have rd5 : (d5 : Int) ≤ 1048576 := by have : d5 ≤ len := by { rw [← hd5]; exact Nat.div_le_self _ _ }; omega
  obtain ⟨i4, hh⟩ : ∃ i : Nat, len / 5 % m = i := ⟨_, rfl⟩
  have li4 : i4 < m := by rw [← hh]; exact Nat.mod_lt _ hm0
  have li4' : (i4 : Int) < (m : Int) := by omega
  have e4 : Int.tmod (d5 : Int) (m : Int) = (i4 : Int) := by rw [← hh, ← hd5]; exact (Int.ofNat_tmod _ _).symm
  have f4 : (d5 : Int) % (m : Int) = (i4 : Int) := by rw [← e4, Int.tmod_eq_emod_of_nonneg (by omega)]
  clear hh
  clear hd2 hd3 hd5
  obtain ⟨s10, s11, s12⟩ := Ts.open i1 li1
  obtain ⟨⟨pa1, pb1⟩, ⟨pc1, pd1⟩⟩ := hs.2 i1 li1
  obtain ⟨U1, hU1, b1, bb, -⟩ := boxed u3 32 #[.int .i64 (f (i1 * 3)), .int .i64 (f (i1 * 3 + 1)), .int .i64 (f (i1 * 3 + 2))]
  replace Ts := Ts.below bb
  replace bW := bW.trans (bb.mono bW.size)
  clear bb
  obtain ⟨s20, s21, s22⟩ := Ts.open i2 li2
  obtain ⟨⟨pa2, pb2⟩, ⟨pc2, pd2⟩⟩ := hs.2 i2 li2
  obtain ⟨U2, hU2, b2, bb, -⟩ := boxed U1 32 #[.int .i64 (f (i2 * 3)), .int .i64 (f (i2 * 3 + 1)), .int .i64 (f (i2 * 3 + 2))]
  replace Ts := Ts.below bb
  replace bW := bW.trans (bb.mono bW.size)
  replace b1 := b1.below bb
  clear bb
  obtain ⟨s30, s31, s32⟩ := Ts.open i3 li3
  obtain ⟨⟨pa3, pb3⟩, ⟨pc3, pd3⟩⟩ := hs.2 i3 li3
  obtain ⟨U3, hU3, b3, bb, -⟩ := boxed U2 32 #[.int .i64 (f (i3 * 3)), .int .i64 (f (i3 * 3 + 1)), .int .i64 (f (i3 * 3 + 2))]
  replace Ts := Ts.below bb
  replace bW := bW.trans (bb.mono bW.size)
  replace b1 := b1.below bb
  replace b2 := b2.below bb
  clear bb
  obtain ⟨s40, s41, s42⟩ := Ts.open i4 li4
  obtain ⟨⟨pa4, pb4⟩, ⟨pc4, pd4⟩⟩ := hs.2 i4 li4
  obtain ⟨U4, hU4, b4, bb, -⟩ := boxed U3 32 #[.int .i64 (f (i4 * 3)), .int .i64 (f (i4 * 3 + 1)), .int .i64 (f (i4 * 3 + 2))]
  replace Ts := Ts.below bb
  replace bW := bW.trans (bb.mono bW.size)
  replace b1 := b1.below bb
  replace b2 := b2.below bb
  replace b3 := b3.below bb
  clear bb
  obtain ⟨x10, x11, x12, -⟩ := b1.open3
  obtain ⟨x20, x21, x22, -⟩ := b2.open3
  obtain ⟨x30, x31, x32, -⟩ := b3.open3
  obtain ⟨x40, x41, x42, -⟩ := b4.open3
  have HM4 : Hid ((ixT m f (f (i1 * 3) - f (i2 * 3)) (f (i1 * 3 + 1) - f (i2 * 3 + 1)) (f (i3 * 3) - f (i4 * 3)) (f (i3 * 3 + 1) - f (i4 * 3 + 1)) : Int) ≤ rm) := HMORE.out i1 i2 i3 i4 li1 li2 li3 li4
  obtain ⟨U5, hU5, b5, bb, -⟩ := boxed U4 27 #[.int .i64 (f (i1 * 3) - f (i2 * 3)), .int .i64 (f (i1 * 3 + 1) - f (i2 * 3 + 1)), .int .i64 (f (i3 * 3) - f (i4 * 3)), .int .i64 (f (i3 * 3 + 1) - f (i4 * 3 + 1))]
  replace Ts := Ts.below bb
  replace bW := bW.trans (bb.mono bW.size)
  clear bb b1 b2 b3 b4
  go_wp2_with fail
  clear x10 x11 x12 x20 x21 x22 x30 x31 x32 x40 x41 x42 s10 s11 s12 s20 s21 s22 s30 s31 s32 s40 s41 s42 hU1 hU2 hU3 hU4 hU5 e1 e2 e3 e4 f1 f2 f3 f4 qd2 qd3 qd5 qd2' qd3' qd5' rd2 rd3 rd5
  obtain ⟨u0, hu0, bb⟩ : ∃ uu, U5.drew = uu ∧ Below U5.heap.size U5 uu := ⟨_, rfl, (Below.refl _ _).drew⟩
  replace Ts := Ts.below bb
  replace b5 := b5.below bb
  replace bW := bW.trans (bb.mono bW.size)
  have hg0 : g < u0.heap.size := Ts.1
  clear bb
  refine wp_region_held_drew (S := Kb u0) (by kernel_rfl) (by rw [hu0]; exact Below.refl _ _) (fun hHeld => ?_)
  rw [hu0] at hHeld ⊢
  clear hu0
  have bu : Kb u0 u0 := Below.refl _ _
  change wpAnyH _ _ _ _ _ 7 #[false, false, false, false, false, false, false] _ _
  refine wpAnyH_take (i := 1) (v := .slice ((some ⟨g, 0, none⟩)) m c) rfl (by kernel_rfl) (by kernel_rfl) (by kernel_rfl) (fun _ _ _ h => h) (Or.inl ⟨by kernel_rfl, ?_⟩) hHeld ?_
  · intro w' hSw; go_simp
  try simp only [Act.put, List.setIfInBounds_toArray, List.set_cons_zero, List.set_cons_succ, List.getElem_toArray, List.getElem_cons_succ, List.getElem_cons_zero]
  refine wpAnyH_take (i := 3) (v := .agg #[.int .i64 (f (i1 * 3) - f (i2 * 3)), .int .i64 (f (i1 * 3 + 1) - f (i2 * 3 + 1)), .int .i64 (f (i3 * 3) - f (i4 * 3)), .int .i64 (f (i3 * 3 + 1) - f (i4 * 3 + 1))]) rfl (by kernel_rfl) (by kernel_rfl) (by kernel_rfl) (fun _ _ _ h => h) (Or.inl ⟨by kernel_rfl, ?_⟩) hHeld ?_
  · intro w' hSw; obtain ⟨z0, z1, z2, z3, -⟩ := (b5.below hSw).open4; go_simp
  try simp only [Act.put, List.setIfInBounds_toArray, List.set_cons_zero, List.set_cons_succ, List.getElem_toArray, List.getElem_cons_succ, List.getElem_cons_zero]
  refine wpAnyH_take (i := 5) (v := .int .i64 (rm)) rfl (by kernel_rfl) (by kernel_rfl) (by kernel_rfl) (fun _ _ _ h => h) (Or.inl ⟨by kernel_rfl, ?_⟩) hHeld ?_
  · intro w' hSw; go_simp
  try simp only [Act.put, List.setIfInBounds_toArray, List.set_cons_zero, List.set_cons_succ, List.getElem_toArray, List.getElem_cons_succ, List.getElem_cons_zero]
  refine wpAnyH_ready (rs := [0]) (by kernel_rfl) (by simp) ?_
  refine AllReadyH.cons rfl (fun KK hK' => ?_) AllReadyH.nil
  go_simp
  obtain ⟨v1, hV9, A9, bb, -⟩ := boxed u0 32 #[]
  try rw [hV9]
  replace Ts := Ts.below bb
  replace bu : Kb u0 v1 := bu.trans (bb.mono bu.size)
  clear bb hV9
  clear hHeld
  refine hK'.out _ _ (bu) (fun hHeld => ?_)
  clear hK' KK
  try simp only [List.setIfInBounds_toArray, List.set_cons_zero, List.set_cons_succ]
  refine wpAnyH_ready (rs := [2]) (by kernel_rfl) (by simp) ?_
  refine AllReadyH.cons rfl (fun KK hK' => ?_) AllReadyH.nil
  have o5 : v1.ownsRow u0.heap.size 32 3 (.slice (some ⟨u0.heap.size, 0, none⟩) 0 0) 0 [] := ⟨rfl, .inr ⟨u0.heap.size, 0, #[], rfl, Nat.le_refl _, A9, Nat.le_refl _, Nat.zero_le _, rfl, rfl⟩⟩
  have N5 := HNL.out _ Ts
  have hs5 : u0.heap.size ≤ v1.heap.size := bu.size
  refine step_append_at _ (by rfl) _ _ _ (by rfl) u0.heap.size 32 i0 _ 3 24 Try.underlying24 hi0 hz0 hz1 hz2 rfl (by omega) (.slice (some ⟨u0.heap.size, 0, none⟩) 0 0) 0 [] (by rfl) o5 ⟨g, 0, none⟩ m c (lCells l) (by rfl) (by rw [lCells, List.length_map]; exact hll) N5 (lCells_one _) (by unfold maxLen; omega) (by omega) hs5 ?_
  intro v2 w9 hown2 hgrow2 hne2 _hat
  simp only [Nat.zero_add, List.nil_append] at hown2
  obtain ⟨g6, c6, rfl⟩ : ∃ g6 c6, v2 = .slice (some ⟨g6, 0, none⟩) m c6 := by
    rcases hown2.2 with ⟨e1, -⟩ | ⟨gg, cc, cur, e1, -⟩
    · exact absurd (hne2.1 e1).1 (fun h => by cases h)
    · exact ⟨gg, cc, e1⟩
  have T6 := HOT.out _ _ _ _ hown2
  have bb6 : Below u0.heap.size v1 w9 := (Below.refl _ _).grown hgrow2 hs5 (fun k hk => by cases hk; exact Nat.le_refl _)
  replace Ts : Trips w9 g m f := ⟨Nat.lt_of_lt_of_le Ts.1 bb6.size, fun i hi => (bb6.cell (p := ⟨g, i, none⟩) hg0).trans (Ts.2 i hi)⟩
  replace bu : Kb u0 w9 := bu.trans bb6
  clear bb6 hown2 hgrow2 hne2 _hat o5 N5 hs5 A9
  clear hHeld
  refine hK'.out _ _ (bu) (fun hHeld => ?_)
  clear hK' KK
  try simp only [List.setIfInBounds_toArray, List.set_cons_zero, List.set_cons_succ]
  refine wpAnyH_ready (rs := [4]) (by kernel_rfl) (by simp) ?_
  refine AllReadyH.cons rfl (fun KK hK' => ?_) AllReadyH.nil
  go_simp
  refine (implIndexed_any T6 (by omega)).mono ?_
  rintro e u3 ⟨he, bb⟩
  obtain ⟨X, hX⟩ : ∃ X : Int, ((ixT m f (f (i1 * 3) - f (i2 * 3)) (f (i1 * 3 + 1) - f (i2 * 3 + 1)) (f (i3 * 3) - f (i4 * 3)) (f (i3 * 3 + 1) - f (i4 * 3 + 1)) : Nat) : Int) = X := ⟨_, rfl⟩
  have hX1 : X ≤ rm := by rw [← hX]; exact HM4.out
  rw [hX] at he
  clear hX
  subst he
  clear T6
  replace Ts := Ts.below bb
  replace bu : Kb u0 u3 := bu.trans (bb.mono bu.size)
  clear bb
  try go_wp2_with fail
  clear hHeld
  refine hK'.out _ _ (bu) (fun hHeld => ?_)
  clear hK' KK
  try simp only [List.setIfInBounds_toArray, List.set_cons_zero, List.set_cons_succ]
  refine wpAnyH_take (i := 6) (v := .bool false) rfl (by kernel_rfl) (by kernel_rfl) (by kernel_rfl) (fun _ _ _ h => h) (Or.inl ⟨by kernel_rfl, ?_⟩) hHeld ?_
  · intro w' hSw; first | (go_simp; done) | (go_simp; intro hh; omega) | (go_simp; omega) | (go_simp; simp; omega) | (go_simp; simp [*]; done)
  try simp only [Act.put, List.setIfInBounds_toArray, List.set_cons_zero, List.set_cons_succ, List.getElem_toArray, List.getElem_cons_succ, List.getElem_cons_zero]
  refine wpAnyH_done (by kernel_rfl) ?_ _
  clear hHeld
  replace bW := bW.trans (Below.mono bu bW.size)
  clear bu hg0 b5
  go_wp2
  go_loopw [14, 15] (fun s t wr => ∃ (i p : Nat), i ≤ m ∧ sm (fun i => sm (fun j => dfN f i j) i) i = p ∧ s = .int .i64 (p : Int) ∧ t = .int .i64 (i : Int) ∧ Trips wr g m f ∧ Below w.heap.size w wr) (fun _ t _ => m - (intOf t).toNat)
  case atStart => exact ⟨0, 0, Nat.zero_le _, rfl, rfl, rfl, Ts, bW⟩
  case round =>
    clear Ts bW
    obtain ⟨i, p, hi, hp, rfl, rfl, Ts, bW⟩ := hrel
    have hpl : (p : Int) ≤ 289 := by have := prs_le f (show i ≤ 17 by omega); omega
    by_cases hlt : i < m
    · have hlt' : (i : Int) < (m : Int) := by omega
      have HP : Hid (sm (fun i => sm (fun j => dfN f i j) i) i = p) := hp
      clear hp
      go_wp2
      go_loopw [14, 16] (fun s t wr => ∃ (j q : Nat), j ≤ i ∧ p + sm (fun j => dfN f i j) j = q ∧ s = .int .i64 (q : Int) ∧ t = .int .i64 (j : Int) ∧ Trips wr g m f ∧ Below w.heap.size w wr) (fun _ t _ => i - (intOf t).toNat)
      case atStart => exact ⟨0, p, Nat.zero_le _, rfl, rfl, rfl, Ts, bW⟩
      case round =>
        clear Ts bW
        obtain ⟨j, q, hj, hq, rfl, rfl, Ts, bW⟩ := hrel
        have hql : (q : Int) ≤ 400 := by have := smle (g := fun j => dfN f i j) (dfN_le f i) j; omega
        by_cases hjt : j < i
        · have hjt' : (j : Int) < (i : Int) := by omega
          have hjm' : (j : Int) < (m : Int) := by omega
          by_cases e1 : f (i * 3) = f (j * 3)
          · have HE1 : Hid (f (i * 3) = f (j * 3)) := e1
            by_cases e2 : f (i * 3 + 1) = f (j * 3 + 1)
            · have HE2 : Hid (f (i * 3 + 1) = f (j * 3 + 1)) := e2
              have HQ : Hid (p + sm (fun j => dfN f i j) (j + 1) = q) := Hid.out (by rw [sm, dfN_no (by simp [e1, e2]), Nat.add_zero]; exact hq)
              clear hq e1 e2
              go_wp2_with fail
              obtain ⟨u0, hu0, bb⟩ : ∃ uu, wr.drew = uu ∧ Below wr.heap.size wr uu := ⟨_, rfl, (Below.refl _ _).drew⟩
              replace Ts := Ts.below bb
              replace bW := bW.trans (bb.mono bW.size)
              clear bb
              refine wp_region_held_drew (S := Kb u0) (by kernel_rfl) (by rw [hu0]; exact Below.refl _ _) (fun hHeld => ?_)
              rw [hu0] at hHeld ⊢
              clear hu0
              have bu : Kb u0 u0 := Below.refl _ _
              change wpAnyH _ _ _ _ _ 24 #[false, false, false, false, false, false, false, false, false, false, false, false, false, false, false, false, false, false, false, false, false, false, false, false] _ _
              refine wpAnyH_take (i := 0) (v := .slice ((some ⟨g, 0, none⟩)) m c) rfl (by kernel_rfl) (by kernel_rfl) (by kernel_rfl) (fun _ _ _ h => h) (Or.inl ⟨by kernel_rfl, ?_⟩) hHeld ?_
              · intro w' hSw; go_simp
              try simp only [Act.put, List.setIfInBounds_toArray, List.set_cons_zero, List.set_cons_succ, List.getElem_toArray, List.getElem_cons_zero]
              refine wpAnyH_take (i := 1) (v := .int .i64 ((i : Int))) rfl (by kernel_rfl) (by kernel_rfl) (by kernel_rfl) (fun _ _ _ h => h) (Or.inl ⟨by kernel_rfl, ?_⟩) hHeld ?_
              · intro w' hSw; go_simp
              try simp only [Act.put, List.setIfInBounds_toArray, List.set_cons_zero, List.set_cons_succ, List.getElem_toArray, List.getElem_cons_succ, List.getElem_cons_zero]
              refine wpAnyH_take (i := 2) (v := .pointer (some ⟨g, (i * 3), none⟩)) rfl (by kernel_rfl) (by kernel_rfl) (by kernel_rfl) (fun _ _ _ h => h) (Or.inl ⟨by kernel_rfl, ?_⟩) hHeld ?_
              · intro w' hSw; first | (go_simp; done) | (go_simp; intro hh; omega) | (go_simp; omega) | (go_simp; simp; omega) | (go_simp; simp [*]; done)
              try simp only [Act.put, List.setIfInBounds_toArray, List.set_cons_zero, List.set_cons_succ, List.getElem_toArray, List.getElem_cons_succ, List.getElem_cons_zero]
              refine wpAnyH_take (i := 3) (v := .pointer (some ⟨g, (i * 3), none⟩)) rfl (by kernel_rfl) (by kernel_rfl) (by kernel_rfl) (fun _ _ _ h => h) (Or.inl ⟨by kernel_rfl, ?_⟩) hHeld ?_
              · intro w' hSw; go_simp
              try simp only [Act.put, List.setIfInBounds_toArray, List.set_cons_zero, List.set_cons_succ, List.getElem_toArray, List.getElem_cons_succ, List.getElem_cons_zero]
              refine wpAnyH_take (i := 4) (v := .int .i64 (f (i * 3))) rfl (by kernel_rfl) (by kernel_rfl) (by kernel_rfl) (fun _ _ _ h => h) (Or.inl ⟨by kernel_rfl, ?_⟩) hHeld ?_
              · intro w' hSw; obtain ⟨z0, z1, z2⟩ := (Ts.below hSw).open i hlt; go_simp
              try simp only [Act.put, List.setIfInBounds_toArray, List.set_cons_zero, List.set_cons_succ, List.getElem_toArray, List.getElem_cons_succ, List.getElem_cons_zero]
              refine wpAnyH_take (i := 5) (v := .slice ((some ⟨g, 0, none⟩)) m c) rfl (by kernel_rfl) (by kernel_rfl) (by kernel_rfl) (fun _ _ _ h => h) (Or.inl ⟨by kernel_rfl, ?_⟩) hHeld ?_
              · intro w' hSw; go_simp
              try simp only [Act.put, List.setIfInBounds_toArray, List.set_cons_zero, List.set_cons_succ, List.getElem_toArray, List.getElem_cons_succ, List.getElem_cons_zero]
              refine wpAnyH_take (i := 6) (v := .int .i64 ((j : Int))) rfl (by kernel_rfl) (by kernel_rfl) (by kernel_rfl) (fun _ _ _ h => h) (Or.inl ⟨by kernel_rfl, ?_⟩) hHeld ?_
              · intro w' hSw; go_simp
              try simp only [Act.put, List.setIfInBounds_toArray, List.set_cons_zero, List.set_cons_succ, List.getElem_toArray, List.getElem_cons_succ, List.getElem_cons_zero]
              refine wpAnyH_take (i := 7) (v := .pointer (some ⟨g, (j * 3), none⟩)) rfl (by kernel_rfl) (by kernel_rfl) (by kernel_rfl) (fun _ _ _ h => h) (Or.inl ⟨by kernel_rfl, ?_⟩) hHeld ?_
              · intro w' hSw; first | (go_simp; done) | (go_simp; intro hh; omega) | (go_simp; omega) | (go_simp; simp; omega) | (go_simp; simp [*]; done)
              try simp only [Act.put, List.setIfInBounds_toArray, List.set_cons_zero, List.set_cons_succ, List.getElem_toArray, List.getElem_cons_succ, List.getElem_cons_zero]
              refine wpAnyH_take (i := 8) (v := .pointer (some ⟨g, (j * 3), none⟩)) rfl (by kernel_rfl) (by kernel_rfl) (by kernel_rfl) (fun _ _ _ h => h) (Or.inl ⟨by kernel_rfl, ?_⟩) hHeld ?_
              · intro w' hSw; go_simp
              try simp only [Act.put, List.setIfInBounds_toArray, List.set_cons_zero, List.set_cons_succ, List.getElem_toArray, List.getElem_cons_succ, List.getElem_cons_zero]
              refine wpAnyH_take (i := 9) (v := .int .i64 (f (j * 3))) rfl (by kernel_rfl) (by kernel_rfl) (by kernel_rfl) (fun _ _ _ h => h) (Or.inl ⟨by kernel_rfl, ?_⟩) hHeld ?_
              · intro w' hSw; obtain ⟨z0, z1, z2⟩ := (Ts.below hSw).open j (by omega); go_simp
              try simp only [Act.put, List.setIfInBounds_toArray, List.set_cons_zero, List.set_cons_succ, List.getElem_toArray, List.getElem_cons_succ, List.getElem_cons_zero]
              refine wpAnyH_take (i := 10) (v := .bool false) rfl (by kernel_rfl) (by kernel_rfl) (by kernel_rfl) (fun _ _ _ h => h) (Or.inl ⟨by kernel_rfl, ?_⟩) hHeld ?_
              · intro w' hSw; first | (go_simp; done) | (go_simp; exact HE1.out) | (go_simp; simp [HE1.out])
              try simp only [Act.put, List.setIfInBounds_toArray, List.set_cons_zero, List.set_cons_succ, List.getElem_toArray, List.getElem_cons_succ, List.getElem_cons_zero]
              refine wpAnyH_take (i := 11) (v := .bool false) rfl (by kernel_rfl) (by kernel_rfl) (by kernel_rfl) (fun _ _ _ h => h) (Or.inl ⟨by kernel_rfl, ?_⟩) hHeld ?_
              · intro w' hSw; go_simp
              try simp only [Act.put, List.setIfInBounds_toArray, List.set_cons_zero, List.set_cons_succ, List.getElem_toArray, List.getElem_cons_succ, List.getElem_cons_zero]
              refine wpAnyH_take (i := 12) (v := .slice ((some ⟨g, 0, none⟩)) m c) rfl (by kernel_rfl) (by kernel_rfl) (by kernel_rfl) (fun _ _ _ h => h) (Or.inl ⟨by kernel_rfl, ?_⟩) hHeld ?_
              · intro w' hSw; go_simp
              try simp only [Act.put, List.setIfInBounds_toArray, List.set_cons_zero, List.set_cons_succ, List.getElem_toArray, List.getElem_cons_succ, List.getElem_cons_zero]
              refine wpAnyH_take (i := 13) (v := .int .i64 ((i : Int))) rfl (by kernel_rfl) (by kernel_rfl) (by kernel_rfl) (fun _ _ _ h => h) (Or.inl ⟨by kernel_rfl, ?_⟩) hHeld ?_
              · intro w' hSw; go_simp
              try simp only [Act.put, List.setIfInBounds_toArray, List.set_cons_zero, List.set_cons_succ, List.getElem_toArray, List.getElem_cons_succ, List.getElem_cons_zero]
              refine wpAnyH_take (i := 14) (v := .pointer (some ⟨g, (i * 3), none⟩)) rfl (by kernel_rfl) (by kernel_rfl) (by kernel_rfl) (fun _ _ _ h => h) (Or.inl ⟨by kernel_rfl, ?_⟩) hHeld ?_
              · intro w' hSw; first | (go_simp; done) | (go_simp; intro hh; omega) | (go_simp; omega) | (go_simp; simp; omega) | (go_simp; simp [*]; done)
              try simp only [Act.put, List.setIfInBounds_toArray, List.set_cons_zero, List.set_cons_succ, List.getElem_toArray, List.getElem_cons_succ, List.getElem_cons_zero]
              refine wpAnyH_take (i := 15) (v := .pointer (some ⟨g, (i * 3 + 1), none⟩)) rfl (by kernel_rfl) (by kernel_rfl) (by kernel_rfl) (fun _ _ _ h => h) (Or.inl ⟨by kernel_rfl, ?_⟩) hHeld ?_
              · intro w' hSw; go_simp
              try simp only [Act.put, List.setIfInBounds_toArray, List.set_cons_zero, List.set_cons_succ, List.getElem_toArray, List.getElem_cons_succ, List.getElem_cons_zero]
              refine wpAnyH_take (i := 16) (v := .int .i64 (f (i * 3 + 1))) rfl (by kernel_rfl) (by kernel_rfl) (by kernel_rfl) (fun _ _ _ h => h) (Or.inl ⟨by kernel_rfl, ?_⟩) hHeld ?_
              · intro w' hSw; obtain ⟨z0, z1, z2⟩ := (Ts.below hSw).open i hlt; go_simp
              try simp only [Act.put, List.setIfInBounds_toArray, List.set_cons_zero, List.set_cons_succ, List.getElem_toArray, List.getElem_cons_succ, List.getElem_cons_zero]
              refine wpAnyH_take (i := 17) (v := .slice ((some ⟨g, 0, none⟩)) m c) rfl (by kernel_rfl) (by kernel_rfl) (by kernel_rfl) (fun _ _ _ h => h) (Or.inl ⟨by kernel_rfl, ?_⟩) hHeld ?_
              · intro w' hSw; go_simp
              try simp only [Act.put, List.setIfInBounds_toArray, List.set_cons_zero, List.set_cons_succ, List.getElem_toArray, List.getElem_cons_succ, List.getElem_cons_zero]
              refine wpAnyH_take (i := 18) (v := .int .i64 ((j : Int))) rfl (by kernel_rfl) (by kernel_rfl) (by kernel_rfl) (fun _ _ _ h => h) (Or.inl ⟨by kernel_rfl, ?_⟩) hHeld ?_
              · intro w' hSw; go_simp
              try simp only [Act.put, List.setIfInBounds_toArray, List.set_cons_zero, List.set_cons_succ, List.getElem_toArray, List.getElem_cons_succ, List.getElem_cons_zero]
              refine wpAnyH_take (i := 19) (v := .pointer (some ⟨g, (j * 3), none⟩)) rfl (by kernel_rfl) (by kernel_rfl) (by kernel_rfl) (fun _ _ _ h => h) (Or.inl ⟨by kernel_rfl, ?_⟩) hHeld ?_
              · intro w' hSw; first | (go_simp; done) | (go_simp; intro hh; omega) | (go_simp; omega) | (go_simp; simp; omega) | (go_simp; simp [*]; done)
              try simp only [Act.put, List.setIfInBounds_toArray, List.set_cons_zero, List.set_cons_succ, List.getElem_toArray, List.getElem_cons_succ, List.getElem_cons_zero]
              refine wpAnyH_take (i := 20) (v := .pointer (some ⟨g, (j * 3 + 1), none⟩)) rfl (by kernel_rfl) (by kernel_rfl) (by kernel_rfl) (fun _ _ _ h => h) (Or.inl ⟨by kernel_rfl, ?_⟩) hHeld ?_
              · intro w' hSw; go_simp
              try simp only [Act.put, List.setIfInBounds_toArray, List.set_cons_zero, List.set_cons_succ, List.getElem_toArray, List.getElem_cons_succ, List.getElem_cons_zero]
              refine wpAnyH_take (i := 21) (v := .int .i64 (f (j * 3 + 1))) rfl (by kernel_rfl) (by kernel_rfl) (by kernel_rfl) (fun _ _ _ h => h) (Or.inl ⟨by kernel_rfl, ?_⟩) hHeld ?_
              · intro w' hSw; obtain ⟨z0, z1, z2⟩ := (Ts.below hSw).open j (by omega); go_simp
              try simp only [Act.put, List.setIfInBounds_toArray, List.set_cons_zero, List.set_cons_succ, List.getElem_toArray, List.getElem_cons_succ, List.getElem_cons_zero]
              refine wpAnyH_take (i := 22) (v := .bool false) rfl (by kernel_rfl) (by kernel_rfl) (by kernel_rfl) (fun _ _ _ h => h) (Or.inl ⟨by kernel_rfl, ?_⟩) hHeld ?_
              · intro w' hSw; first | (go_simp; done) | (go_simp; exact HE2.out) | (go_simp; simp [HE2.out])
              try simp only [Act.put, List.setIfInBounds_toArray, List.set_cons_zero, List.set_cons_succ, List.getElem_toArray, List.getElem_cons_succ, List.getElem_cons_zero]
              refine wpAnyH_take (i := 23) (v := .bool false) rfl (by kernel_rfl) (by kernel_rfl) (by kernel_rfl) (fun _ _ _ h => h) (Or.inl ⟨by kernel_rfl, ?_⟩) hHeld ?_
              · intro w' hSw; go_simp
              try simp only [Act.put, List.setIfInBounds_toArray, List.set_cons_zero, List.set_cons_succ, List.getElem_toArray, List.getElem_cons_succ, List.getElem_cons_zero]
              refine wpAnyH_done (by kernel_rfl) ?_ _
              clear hHeld
              clear bu
              go_wp2
              exact ⟨⟨j + 1, q, by omega, HQ.out, rfl, by go_num, Ts, bW⟩, by simp [intOf]; omega⟩
            · have HE2 : Hid (¬ f (i * 3 + 1) = f (j * 3 + 1)) := e2
              have HQ : Hid (p + sm (fun j => dfN f i j) (j + 1) = q + 1) := Hid.out (by rw [sm, dfN_yes (.inr e2), ← Nat.add_assoc, hq]; exact rfl)
              clear hq e1 e2
              go_wp2_with fail
              obtain ⟨u0, hu0, bb⟩ : ∃ uu, wr.drew = uu ∧ Below wr.heap.size wr uu := ⟨_, rfl, (Below.refl _ _).drew⟩
              replace Ts := Ts.below bb
              replace bW := bW.trans (bb.mono bW.size)
              clear bb
              refine wp_region_held_drew (S := Kb u0) (by kernel_rfl) (by rw [hu0]; exact Below.refl _ _) (fun hHeld => ?_)
              rw [hu0] at hHeld ⊢
              clear hu0
              have bu : Kb u0 u0 := Below.refl _ _
              change wpAnyH _ _ _ _ _ 24 #[false, false, false, false, false, false, false, false, false, false, false, false, false, false, false, false, false, false, false, false, false, false, false, false] _ _
              refine wpAnyH_take (i := 0) (v := .slice ((some ⟨g, 0, none⟩)) m c) rfl (by kernel_rfl) (by kernel_rfl) (by kernel_rfl) (fun _ _ _ h => h) (Or.inl ⟨by kernel_rfl, ?_⟩) hHeld ?_
              · intro w' hSw; go_simp
              try simp only [Act.put, List.setIfInBounds_toArray, List.set_cons_zero, List.set_cons_succ, List.getElem_toArray, List.getElem_cons_zero]
              refine wpAnyH_take (i := 1) (v := .int .i64 ((i : Int))) rfl (by kernel_rfl) (by kernel_rfl) (by kernel_rfl) (fun _ _ _ h => h) (Or.inl ⟨by kernel_rfl, ?_⟩) hHeld ?_
              · intro w' hSw; go_simp
              try simp only [Act.put, List.setIfInBounds_toArray, List.set_cons_zero, List.set_cons_succ, List.getElem_toArray, List.getElem_cons_succ, List.getElem_cons_zero]
              refine wpAnyH_take (i := 2) (v := .pointer (some ⟨g, (i * 3), none⟩)) rfl (by kernel_rfl) (by kernel_rfl) (by kernel_rfl) (fun _ _ _ h => h) (Or.inl ⟨by kernel_rfl, ?_⟩) hHeld ?_
              · intro w' hSw; first | (go_simp; done) | (go_simp; intro hh; omega) | (go_simp; omega) | (go_simp; simp; omega) | (go_simp; simp [*]; done)
              try simp only [Act.put, List.setIfInBounds_toArray, List.set_cons_zero, List.set_cons_succ, List.getElem_toArray, List.getElem_cons_succ, List.getElem_cons_zero]
              refine wpAnyH_take (i := 3) (v := .pointer (some ⟨g, (i * 3), none⟩)) rfl (by kernel_rfl) (by kernel_rfl) (by kernel_rfl) (fun _ _ _ h => h) (Or.inl ⟨by kernel_rfl, ?_⟩) hHeld ?_
              · intro w' hSw; go_simp
              try simp only [Act.put, List.setIfInBounds_toArray, List.set_cons_zero, List.set_cons_succ, List.getElem_toArray, List.getElem_cons_succ, List.getElem_cons_zero]
              refine wpAnyH_take (i := 4) (v := .int .i64 (f (i * 3))) rfl (by kernel_rfl) (by kernel_rfl) (by kernel_rfl) (fun _ _ _ h => h) (Or.inl ⟨by kernel_rfl, ?_⟩) hHeld ?_
              · intro w' hSw; obtain ⟨z0, z1, z2⟩ := (Ts.below hSw).open i hlt; go_simp
              try simp only [Act.put, List.setIfInBounds_toArray, List.set_cons_zero, List.set_cons_succ, List.getElem_toArray, List.getElem_cons_succ, List.getElem_cons_zero]
              refine wpAnyH_take (i := 5) (v := .slice ((some ⟨g, 0, none⟩)) m c) rfl (by kernel_rfl) (by kernel_rfl) (by kernel_rfl) (fun _ _ _ h => h) (Or.inl ⟨by kernel_rfl, ?_⟩) hHeld ?_
              · intro w' hSw; go_simp
              try simp only [Act.put, List.setIfInBounds_toArray, List.set_cons_zero, List.set_cons_succ, List.getElem_toArray, List.getElem_cons_succ, List.getElem_cons_zero]
              refine wpAnyH_take (i := 6) (v := .int .i64 ((j : Int))) rfl (by kernel_rfl) (by kernel_rfl) (by kernel_rfl) (fun _ _ _ h => h) (Or.inl ⟨by kernel_rfl, ?_⟩) hHeld ?_
              · intro w' hSw; go_simp
              try simp only [Act.put, List.setIfInBounds_toArray, List.set_cons_zero, List.set_cons_succ, List.getElem_toArray, List.getElem_cons_succ, List.getElem_cons_zero]
              refine wpAnyH_take (i := 7) (v := .pointer (some ⟨g, (j * 3), none⟩)) rfl (by kernel_rfl) (by kernel_rfl) (by kernel_rfl) (fun _ _ _ h => h) (Or.inl ⟨by kernel_rfl, ?_⟩) hHeld ?_
              · intro w' hSw; first | (go_simp; done) | (go_simp; intro hh; omega) | (go_simp; omega) | (go_simp; simp; omega) | (go_simp; simp [*]; done)
              try simp only [Act.put, List.setIfInBounds_toArray, List.set_cons_zero, List.set_cons_succ, List.getElem_toArray, List.getElem_cons_succ, List.getElem_cons_zero]
              refine wpAnyH_take (i := 8) (v := .pointer (some ⟨g, (j * 3), none⟩)) rfl (by kernel_rfl) (by kernel_rfl) (by kernel_rfl) (fun _ _ _ h => h) (Or.inl ⟨by kernel_rfl, ?_⟩) hHeld ?_
              · intro w' hSw; go_simp
              try simp only [Act.put, List.setIfInBounds_toArray, List.set_cons_zero, List.set_cons_succ, List.getElem_toArray, List.getElem_cons_succ, List.getElem_cons_zero]
              refine wpAnyH_take (i := 9) (v := .int .i64 (f (j * 3))) rfl (by kernel_rfl) (by kernel_rfl) (by kernel_rfl) (fun _ _ _ h => h) (Or.inl ⟨by kernel_rfl, ?_⟩) hHeld ?_
              · intro w' hSw; obtain ⟨z0, z1, z2⟩ := (Ts.below hSw).open j (by omega); go_simp
              try simp only [Act.put, List.setIfInBounds_toArray, List.set_cons_zero, List.set_cons_succ, List.getElem_toArray, List.getElem_cons_succ, List.getElem_cons_zero]
              refine wpAnyH_take (i := 10) (v := .bool false) rfl (by kernel_rfl) (by kernel_rfl) (by kernel_rfl) (fun _ _ _ h => h) (Or.inl ⟨by kernel_rfl, ?_⟩) hHeld ?_
              · intro w' hSw; first | (go_simp; done) | (go_simp; exact HE1.out) | (go_simp; simp [HE1.out])
              try simp only [Act.put, List.setIfInBounds_toArray, List.set_cons_zero, List.set_cons_succ, List.getElem_toArray, List.getElem_cons_succ, List.getElem_cons_zero]
              refine wpAnyH_take (i := 11) (v := .bool false) rfl (by kernel_rfl) (by kernel_rfl) (by kernel_rfl) (fun _ _ _ h => h) (Or.inl ⟨by kernel_rfl, ?_⟩) hHeld ?_
              · intro w' hSw; go_simp
              try simp only [Act.put, List.setIfInBounds_toArray, List.set_cons_zero, List.set_cons_succ, List.getElem_toArray, List.getElem_cons_succ, List.getElem_cons_zero]
              refine wpAnyH_take (i := 12) (v := .slice ((some ⟨g, 0, none⟩)) m c) rfl (by kernel_rfl) (by kernel_rfl) (by kernel_rfl) (fun _ _ _ h => h) (Or.inl ⟨by kernel_rfl, ?_⟩) hHeld ?_
              · intro w' hSw; go_simp
              try simp only [Act.put, List.setIfInBounds_toArray, List.set_cons_zero, List.set_cons_succ, List.getElem_toArray, List.getElem_cons_succ, List.getElem_cons_zero]
              refine wpAnyH_take (i := 13) (v := .int .i64 ((i : Int))) rfl (by kernel_rfl) (by kernel_rfl) (by kernel_rfl) (fun _ _ _ h => h) (Or.inl ⟨by kernel_rfl, ?_⟩) hHeld ?_
              · intro w' hSw; go_simp
              try simp only [Act.put, List.setIfInBounds_toArray, List.set_cons_zero, List.set_cons_succ, List.getElem_toArray, List.getElem_cons_succ, List.getElem_cons_zero]
              refine wpAnyH_take (i := 14) (v := .pointer (some ⟨g, (i * 3), none⟩)) rfl (by kernel_rfl) (by kernel_rfl) (by kernel_rfl) (fun _ _ _ h => h) (Or.inl ⟨by kernel_rfl, ?_⟩) hHeld ?_
              · intro w' hSw; first | (go_simp; done) | (go_simp; intro hh; omega) | (go_simp; omega) | (go_simp; simp; omega) | (go_simp; simp [*]; done)
              try simp only [Act.put, List.setIfInBounds_toArray, List.set_cons_zero, List.set_cons_succ, List.getElem_toArray, List.getElem_cons_succ, List.getElem_cons_zero]
              refine wpAnyH_take (i := 15) (v := .pointer (some ⟨g, (i * 3 + 1), none⟩)) rfl (by kernel_rfl) (by kernel_rfl) (by kernel_rfl) (fun _ _ _ h => h) (Or.inl ⟨by kernel_rfl, ?_⟩) hHeld ?_
              · intro w' hSw; go_simp
              try simp only [Act.put, List.setIfInBounds_toArray, List.set_cons_zero, List.set_cons_succ, List.getElem_toArray, List.getElem_cons_succ, List.getElem_cons_zero]
              refine wpAnyH_take (i := 16) (v := .int .i64 (f (i * 3 + 1))) rfl (by kernel_rfl) (by kernel_rfl) (by kernel_rfl) (fun _ _ _ h => h) (Or.inl ⟨by kernel_rfl, ?_⟩) hHeld ?_
              · intro w' hSw; obtain ⟨z0, z1, z2⟩ := (Ts.below hSw).open i hlt; go_simp
              try simp only [Act.put, List.setIfInBounds_toArray, List.set_cons_zero, List.set_cons_succ, List.getElem_toArray, List.getElem_cons_succ, List.getElem_cons_zero]
              refine wpAnyH_take (i := 17) (v := .slice ((some ⟨g, 0, none⟩)) m c) rfl (by kernel_rfl) (by kernel_rfl) (by kernel_rfl) (fun _ _ _ h => h) (Or.inl ⟨by kernel_rfl, ?_⟩) hHeld ?_
              · intro w' hSw; go_simp
              try simp only [Act.put, List.setIfInBounds_toArray, List.set_cons_zero, List.set_cons_succ, List.getElem_toArray, List.getElem_cons_succ, List.getElem_cons_zero]
              refine wpAnyH_take (i := 18) (v := .int .i64 ((j : Int))) rfl (by kernel_rfl) (by kernel_rfl) (by kernel_rfl) (fun _ _ _ h => h) (Or.inl ⟨by kernel_rfl, ?_⟩) hHeld ?_
              · intro w' hSw; go_simp
              try simp only [Act.put, List.setIfInBounds_toArray, List.set_cons_zero, List.set_cons_succ, List.getElem_toArray, List.getElem_cons_succ, List.getElem_cons_zero]
              refine wpAnyH_take (i := 19) (v := .pointer (some ⟨g, (j * 3), none⟩)) rfl (by kernel_rfl) (by kernel_rfl) (by kernel_rfl) (fun _ _ _ h => h) (Or.inl ⟨by kernel_rfl, ?_⟩) hHeld ?_
              · intro w' hSw; first | (go_simp; done) | (go_simp; intro hh; omega) | (go_simp; omega) | (go_simp; simp; omega) | (go_simp; simp [*]; done)
              try simp only [Act.put, List.setIfInBounds_toArray, List.set_cons_zero, List.set_cons_succ, List.getElem_toArray, List.getElem_cons_succ, List.getElem_cons_zero]
              refine wpAnyH_take (i := 20) (v := .pointer (some ⟨g, (j * 3 + 1), none⟩)) rfl (by kernel_rfl) (by kernel_rfl) (by kernel_rfl) (fun _ _ _ h => h) (Or.inl ⟨by kernel_rfl, ?_⟩) hHeld ?_
              · intro w' hSw; go_simp
              try simp only [Act.put, List.setIfInBounds_toArray, List.set_cons_zero, List.set_cons_succ, List.getElem_toArray, List.getElem_cons_succ, List.getElem_cons_zero]
              refine wpAnyH_take (i := 21) (v := .int .i64 (f (j * 3 + 1))) rfl (by kernel_rfl) (by kernel_rfl) (by kernel_rfl) (fun _ _ _ h => h) (Or.inl ⟨by kernel_rfl, ?_⟩) hHeld ?_
              · intro w' hSw; obtain ⟨z0, z1, z2⟩ := (Ts.below hSw).open j (by omega); go_simp
              try simp only [Act.put, List.setIfInBounds_toArray, List.set_cons_zero, List.set_cons_succ, List.getElem_toArray, List.getElem_cons_succ, List.getElem_cons_zero]
              refine wpAnyH_take (i := 22) (v := .bool true) rfl (by kernel_rfl) (by kernel_rfl) (by kernel_rfl) (fun _ _ _ h => h) (Or.inl ⟨by kernel_rfl, ?_⟩) hHeld ?_
              · intro w' hSw; first | (go_simp; done) | (go_simp; exact HE2.out) | (go_simp; simp [HE2.out])
              try simp only [Act.put, List.setIfInBounds_toArray, List.set_cons_zero, List.set_cons_succ, List.getElem_toArray, List.getElem_cons_succ, List.getElem_cons_zero]
              refine wpAnyH_take (i := 23) (v := .bool true) rfl (by kernel_rfl) (by kernel_rfl) (by kernel_rfl) (fun _ _ _ h => h) (Or.inl ⟨by kernel_rfl, ?_⟩) hHeld ?_
              · intro w' hSw; go_simp
              try simp only [Act.put, List.setIfInBounds_toArray, List.set_cons_zero, List.set_cons_succ, List.getElem_toArray, List.getElem_cons_succ, List.getElem_cons_zero]
              refine wpAnyH_done (by kernel_rfl) ?_ _
              clear hHeld
              clear bu
              go_wp2
              exact ⟨⟨j + 1, q + 1, by omega, HQ.out, by go_num, by go_num, Ts, bW⟩, by simp [intOf]; omega⟩
          · have HE1 : Hid (¬ f (i * 3) = f (j * 3)) := e1
            have HQ : Hid (p + sm (fun j => dfN f i j) (j + 1) = q + 1) := Hid.out (by rw [sm, dfN_yes (.inl e1), ← Nat.add_assoc, hq]; exact rfl)
            clear hq e1
            go_wp2_with fail
            obtain ⟨u0, hu0, bb⟩ : ∃ uu, wr.drew = uu ∧ Below wr.heap.size wr uu := ⟨_, rfl, (Below.refl _ _).drew⟩
            replace Ts := Ts.below bb
            replace bW := bW.trans (bb.mono bW.size)
            clear bb
            refine wp_region_held_drew (S := Kb u0) (by kernel_rfl) (by rw [hu0]; exact Below.refl _ _) (fun hHeld => ?_)
            rw [hu0] at hHeld ⊢
            clear hu0
            have bu : Kb u0 u0 := Below.refl _ _
            change wpAnyH _ _ _ _ _ 24 #[false, false, false, false, false, false, false, false, false, false, false, false, false, false, false, false, false, false, false, false, false, false, false, false] _ _
            refine wpAnyH_take (i := 0) (v := .slice ((some ⟨g, 0, none⟩)) m c) rfl (by kernel_rfl) (by kernel_rfl) (by kernel_rfl) (fun _ _ _ h => h) (Or.inl ⟨by kernel_rfl, ?_⟩) hHeld ?_
            · intro w' hSw; go_simp
            try simp only [Act.put, List.setIfInBounds_toArray, List.set_cons_zero, List.set_cons_succ, List.getElem_toArray, List.getElem_cons_zero]
            refine wpAnyH_take (i := 1) (v := .int .i64 ((i : Int))) rfl (by kernel_rfl) (by kernel_rfl) (by kernel_rfl) (fun _ _ _ h => h) (Or.inl ⟨by kernel_rfl, ?_⟩) hHeld ?_
            · intro w' hSw; go_simp
            try simp only [Act.put, List.setIfInBounds_toArray, List.set_cons_zero, List.set_cons_succ, List.getElem_toArray, List.getElem_cons_succ, List.getElem_cons_zero]
            refine wpAnyH_take (i := 2) (v := .pointer (some ⟨g, (i * 3), none⟩)) rfl (by kernel_rfl) (by kernel_rfl) (by kernel_rfl) (fun _ _ _ h => h) (Or.inl ⟨by kernel_rfl, ?_⟩) hHeld ?_
            · intro w' hSw; first | (go_simp; done) | (go_simp; intro hh; omega) | (go_simp; omega) | (go_simp; simp; omega) | (go_simp; simp [*]; done)
            try simp only [Act.put, List.setIfInBounds_toArray, List.set_cons_zero, List.set_cons_succ, List.getElem_toArray, List.getElem_cons_succ, List.getElem_cons_zero]
            refine wpAnyH_take (i := 3) (v := .pointer (some ⟨g, (i * 3), none⟩)) rfl (by kernel_rfl) (by kernel_rfl) (by kernel_rfl) (fun _ _ _ h => h) (Or.inl ⟨by kernel_rfl, ?_⟩) hHeld ?_
            · intro w' hSw; go_simp
            try simp only [Act.put, List.setIfInBounds_toArray, List.set_cons_zero, List.set_cons_succ, List.getElem_toArray, List.getElem_cons_succ, List.getElem_cons_zero]
            refine wpAnyH_take (i := 4) (v := .int .i64 (f (i * 3))) rfl (by kernel_rfl) (by kernel_rfl) (by kernel_rfl) (fun _ _ _ h => h) (Or.inl ⟨by kernel_rfl, ?_⟩) hHeld ?_
            · intro w' hSw; obtain ⟨z0, z1, z2⟩ := (Ts.below hSw).open i hlt; go_simp
            try simp only [Act.put, List.setIfInBounds_toArray, List.set_cons_zero, List.set_cons_succ, List.getElem_toArray, List.getElem_cons_succ, List.getElem_cons_zero]
            refine wpAnyH_take (i := 5) (v := .slice ((some ⟨g, 0, none⟩)) m c) rfl (by kernel_rfl) (by kernel_rfl) (by kernel_rfl) (fun _ _ _ h => h) (Or.inl ⟨by kernel_rfl, ?_⟩) hHeld ?_
            · intro w' hSw; go_simp
            try simp only [Act.put, List.setIfInBounds_toArray, List.set_cons_zero, List.set_cons_succ, List.getElem_toArray, List.getElem_cons_succ, List.getElem_cons_zero]
            refine wpAnyH_take (i := 6) (v := .int .i64 ((j : Int))) rfl (by kernel_rfl) (by kernel_rfl) (by kernel_rfl) (fun _ _ _ h => h) (Or.inl ⟨by kernel_rfl, ?_⟩) hHeld ?_
            · intro w' hSw; go_simp
            try simp only [Act.put, List.setIfInBounds_toArray, List.set_cons_zero, List.set_cons_succ, List.getElem_toArray, List.getElem_cons_succ, List.getElem_cons_zero]
            refine wpAnyH_take (i := 7) (v := .pointer (some ⟨g, (j * 3), none⟩)) rfl (by kernel_rfl) (by kernel_rfl) (by kernel_rfl) (fun _ _ _ h => h) (Or.inl ⟨by kernel_rfl, ?_⟩) hHeld ?_
            · intro w' hSw; first | (go_simp; done) | (go_simp; intro hh; omega) | (go_simp; omega) | (go_simp; simp; omega) | (go_simp; simp [*]; done)
            try simp only [Act.put, List.setIfInBounds_toArray, List.set_cons_zero, List.set_cons_succ, List.getElem_toArray, List.getElem_cons_succ, List.getElem_cons_zero]
            refine wpAnyH_take (i := 8) (v := .pointer (some ⟨g, (j * 3), none⟩)) rfl (by kernel_rfl) (by kernel_rfl) (by kernel_rfl) (fun _ _ _ h => h) (Or.inl ⟨by kernel_rfl, ?_⟩) hHeld ?_
            · intro w' hSw; go_simp
            try simp only [Act.put, List.setIfInBounds_toArray, List.set_cons_zero, List.set_cons_succ, List.getElem_toArray, List.getElem_cons_succ, List.getElem_cons_zero]
            refine wpAnyH_take (i := 9) (v := .int .i64 (f (j * 3))) rfl (by kernel_rfl) (by kernel_rfl) (by kernel_rfl) (fun _ _ _ h => h) (Or.inl ⟨by kernel_rfl, ?_⟩) hHeld ?_
            · intro w' hSw; obtain ⟨z0, z1, z2⟩ := (Ts.below hSw).open j (by omega); go_simp
            try simp only [Act.put, List.setIfInBounds_toArray, List.set_cons_zero, List.set_cons_succ, List.getElem_toArray, List.getElem_cons_succ, List.getElem_cons_zero]
            refine wpAnyH_take (i := 10) (v := .bool true) rfl (by kernel_rfl) (by kernel_rfl) (by kernel_rfl) (fun _ _ _ h => h) (Or.inl ⟨by kernel_rfl, ?_⟩) hHeld ?_
            · intro w' hSw; first | (go_simp; done) | (go_simp; exact HE1.out) | (go_simp; simp [HE1.out])
            try simp only [Act.put, List.setIfInBounds_toArray, List.set_cons_zero, List.set_cons_succ, List.getElem_toArray, List.getElem_cons_succ, List.getElem_cons_zero]
            refine wpAnyH_take (i := 11) (v := .bool true) rfl (by kernel_rfl) (by kernel_rfl) (by kernel_rfl) (fun _ _ _ h => h) (Or.inl ⟨by kernel_rfl, ?_⟩) hHeld ?_
            · intro w' hSw; go_simp
            try simp only [Act.put, List.setIfInBounds_toArray, List.set_cons_zero, List.set_cons_succ, List.getElem_toArray, List.getElem_cons_succ, List.getElem_cons_zero]
            refine wpAnyH_take (i := 12) (v := undef) rfl (by kernel_rfl) (by kernel_rfl) (by kernel_rfl) (fun _ _ _ h => h) (Or.inr ⟨by kernel_rfl, rfl⟩) hHeld ?_
            try simp only [Act.put, List.setIfInBounds_toArray, List.set_cons_zero, List.set_cons_succ, List.getElem_toArray, List.getElem_cons_succ, List.getElem_cons_zero]
            refine wpAnyH_take (i := 13) (v := undef) rfl (by kernel_rfl) (by kernel_rfl) (by kernel_rfl) (fun _ _ _ h => h) (Or.inr ⟨by kernel_rfl, rfl⟩) hHeld ?_
            try simp only [Act.put, List.setIfInBounds_toArray, List.set_cons_zero, List.set_cons_succ, List.getElem_toArray, List.getElem_cons_succ, List.getElem_cons_zero]
            refine wpAnyH_take (i := 14) (v := undef) rfl (by kernel_rfl) (by kernel_rfl) (by kernel_rfl) (fun _ _ _ h => h) (Or.inr ⟨by kernel_rfl, rfl⟩) hHeld ?_
            try simp only [Act.put, List.setIfInBounds_toArray, List.set_cons_zero, List.set_cons_succ, List.getElem_toArray, List.getElem_cons_succ, List.getElem_cons_zero]
            refine wpAnyH_take (i := 15) (v := undef) rfl (by kernel_rfl) (by kernel_rfl) (by kernel_rfl) (fun _ _ _ h => h) (Or.inr ⟨by kernel_rfl, rfl⟩) hHeld ?_
            try simp only [Act.put, List.setIfInBounds_toArray, List.set_cons_zero, List.set_cons_succ, List.getElem_toArray, List.getElem_cons_succ, List.getElem_cons_zero]
            refine wpAnyH_take (i := 16) (v := undef) rfl (by kernel_rfl) (by kernel_rfl) (by kernel_rfl) (fun _ _ _ h => h) (Or.inr ⟨by kernel_rfl, rfl⟩) hHeld ?_
            try simp only [Act.put, List.setIfInBounds_toArray, List.set_cons_zero, List.set_cons_succ, List.getElem_toArray, List.getElem_cons_succ, List.getElem_cons_zero]
            refine wpAnyH_take (i := 17) (v := undef) rfl (by kernel_rfl) (by kernel_rfl) (by kernel_rfl) (fun _ _ _ h => h) (Or.inr ⟨by kernel_rfl, rfl⟩) hHeld ?_
            try simp only [Act.put, List.setIfInBounds_toArray, List.set_cons_zero, List.set_cons_succ, List.getElem_toArray, List.getElem_cons_succ, List.getElem_cons_zero]
            refine wpAnyH_take (i := 18) (v := undef) rfl (by kernel_rfl) (by kernel_rfl) (by kernel_rfl) (fun _ _ _ h => h) (Or.inr ⟨by kernel_rfl, rfl⟩) hHeld ?_
            try simp only [Act.put, List.setIfInBounds_toArray, List.set_cons_zero, List.set_cons_succ, List.getElem_toArray, List.getElem_cons_succ, List.getElem_cons_zero]
            refine wpAnyH_take (i := 19) (v := undef) rfl (by kernel_rfl) (by kernel_rfl) (by kernel_rfl) (fun _ _ _ h => h) (Or.inr ⟨by kernel_rfl, rfl⟩) hHeld ?_
            try simp only [Act.put, List.setIfInBounds_toArray, List.set_cons_zero, List.set_cons_succ, List.getElem_toArray, List.getElem_cons_succ, List.getElem_cons_zero]
            refine wpAnyH_take (i := 20) (v := undef) rfl (by kernel_rfl) (by kernel_rfl) (by kernel_rfl) (fun _ _ _ h => h) (Or.inr ⟨by kernel_rfl, rfl⟩) hHeld ?_
            try simp only [Act.put, List.setIfInBounds_toArray, List.set_cons_zero, List.set_cons_succ, List.getElem_toArray, List.getElem_cons_succ, List.getElem_cons_zero]
            refine wpAnyH_take (i := 21) (v := undef) rfl (by kernel_rfl) (by kernel_rfl) (by kernel_rfl) (fun _ _ _ h => h) (Or.inr ⟨by kernel_rfl, rfl⟩) hHeld ?_
            try simp only [Act.put, List.setIfInBounds_toArray, List.set_cons_zero, List.set_cons_succ, List.getElem_toArray, List.getElem_cons_succ, List.getElem_cons_zero]
            refine wpAnyH_take (i := 22) (v := undef) rfl (by kernel_rfl) (by kernel_rfl) (by kernel_rfl) (fun _ _ _ h => h) (Or.inr ⟨by kernel_rfl, rfl⟩) hHeld ?_
            try simp only [Act.put, List.setIfInBounds_toArray, List.set_cons_zero, List.set_cons_succ, List.getElem_toArray, List.getElem_cons_succ, List.getElem_cons_zero]
            refine wpAnyH_take (i := 23) (v := .bool true) rfl (by kernel_rfl) (by kernel_rfl) (by kernel_rfl) (fun _ _ _ h => h) (Or.inl ⟨by kernel_rfl, ?_⟩) hHeld ?_
            · intro w' hSw; go_simp
            try simp only [Act.put, List.setIfInBounds_toArray, List.set_cons_zero, List.set_cons_succ, List.getElem_toArray, List.getElem_cons_succ, List.getElem_cons_zero]
            refine wpAnyH_done (by kernel_rfl) ?_ _
            clear hHeld
            clear bu
            go_wp2
            exact ⟨⟨j + 1, q + 1, by omega, HQ.out, by go_num, by go_num, Ts, bW⟩, by simp [intOf]; omega⟩
        · obtain rfl : i = j := by omega
          have HQ : Hid (sm (fun i => sm (fun j => dfN f i j) i) (i + 1) = q) := Hid.out (by rw [sm, HP.out]; exact hq)
          clear hq
          go_wp2
          exact ⟨⟨i + 1, q, by omega, HQ.out, rfl, by go_num, Ts, bW⟩, by simp [intOf]; omega⟩
    · obtain rfl : m = i := by omega
      have HP : Hid (sm (fun i => sm (fun j => dfN f i j) i) m = p) := hp
      clear hp
      go_wp2_with fail
      refine (implVotes_any Ts (by omega)).mono ?_
      rintro e w9 ⟨v, k, F, rfl, hO, hnn, hV, hk, bb⟩
      replace bW := bW.trans (bb.mono bW.size)
      have hV' : VsT m f k F := by
        rcases hV with h | h
        · exact h.2
        · exact absurd hs h.1
      obtain ⟨gv, cv, rfl⟩ : ∃ g c, v = .slice (some ⟨g, 0, none⟩) k c := by
        rcases hO.2 with ⟨e1, -⟩ | ⟨g, c, cur, e1, -⟩
        · exact absurd e1 hnn
        · exact ⟨g, c, e1⟩
      have hsum := votes_sum hV'
      rw [HP.out] at hsum
      obtain ⟨G, hG⟩ : ∃ G : Nat → Nat, (fun t => cN m f ((F t).x, (F t).y)) = G := ⟨_, rfl⟩
      rw [hG] at hsum
      have HCC : Hid (∀ t, t < k → (F t).c = (G t : Int)) := Hid.out fun t ht => by rw [← hG]; exact ((hV'.2 (F t)).1 ⟨t, ht, rfl⟩).2.1
      have HMN : Hid (∀ t, t ≤ k → sm G t ≤ p) := Hid.out fun t ht => by rw [← hsum]; exact sm_mono G ht
      have HSM : Hid (sm G k = p) := hsum
      have HRD : Hid (∀ t, t < k → w9.cell? ⟨gv, t * 3 + 2, none⟩ = some (.int .i64 (G t : Int))) := Hid.out fun t ht => by rw [← HCC.out t ht]; exact (own_readV hO ht).2.2.1
      have hk' : (k : Int) ≤ 1000 := by omega
      clear hG hsum hV hV' hO hnn HCC bb Ts HP hs
      go_wp2
      go_loopw [14, 18] (fun s u wr => ∃ (t : Nat) (z : Int), t ≤ k ∧ z = (p : Int) - (sm G t : Int) ∧ s = .int .i64 z ∧ u = .int .i64 (t : Int) ∧ wr = w9) (fun _ u _ => k - (intOf u).toNat)
      case atStart => exact ⟨0, p, Nat.zero_le _, by simp [sm], rfl, rfl, rfl⟩
      case round =>
        obtain ⟨t, z, ht, hz, rfl, rfl, rfl⟩ := hrel
        have hsz := HMN.out t ht
        have hz1 : 0 ≤ z ∧ z ≤ 289 := by omega
        by_cases hlt : t < k
        · have hlt' : (t : Int) < (k : Int) := by omega
          have c2 := HRD.out t hlt
          have hz2 := HMN.out (t + 1) hlt
          rw [sm] at hz2
          obtain ⟨y, hy⟩ : ∃ y : Int, (G t : Int) = y := ⟨_, rfl⟩
          have hy1 : 0 ≤ y ∧ y ≤ 289 := by omega
          have hz3 : z - y = (p : Int) - (sm G (t + 1) : Int) := by rw [sm]; omega
          have HZ : Hid (z - y = (p : Int) - (sm G (t + 1) : Int)) := hz3
          rw [hy] at c2
          clear hz hsz hz2 hz3 hy
          go_wp2
          exact ⟨⟨t + 1, z - y, by omega, HZ.out, by go_num, by go_num, by trivial⟩, by simp [intOf]; omega⟩
        · obtain rfl : k = t := by omega
          have hz0 : z = 0 := by have := HSM.out; omega
          subst hz0
          clear hz hz1 hsz
          go_wp2
          go_ret
          exact ⟨rfl, bW⟩
end Go.Proofs.Ytjlmiadmobbibaa
