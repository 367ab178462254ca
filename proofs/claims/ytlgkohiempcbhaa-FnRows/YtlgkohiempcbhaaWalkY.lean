/-
  The law on rows, walked.
-/
import Derived.Test.YtlgkohiempcbhaaWalkX
import Derived.Test.YtlgkohiempcbhaaWalkI
import Derived.Test.YtlgkohiempcbhaaRowsMath
namespace Go.Proofs.Ytlgkohiempcbhaa
open Go.RowKit

theorem src_made {w : World} {g c n : Nat} {f : Nat → Int} (h : Made w g c n f) : Src w (some ⟨g, 0, none⟩) n f := by
  obtain ⟨cur, q1, q2, q3⟩ := h
  exact .inr ⟨g, 0, rfl, q1.lt, fun i hi => by rw [Nat.zero_add]; exact q1.cell i (q3 i hi)⟩
theorem iCells_one (f : Nat → Int) (n : Nat) : ∀ u ∈ iCells f n, u.oneCell' = true := by
  induction n with
  | zero => intro u hu; cases hu
  | succ n ih =>
    intro u hu
    unfold iCells at hu
    rcases List.mem_append.1 hu with h | h
    · exact ih u h
    · simp at h; subst h; rfl
theorem made_news {w : World} {g c n : Nat} {f : Nat → Int} (h : Made w g c n f) : ∀ j u, (iCells f n)[j]? = some u → w.cell? ((⟨g, 0, none⟩ : Addr).add j) = some u := by
  intro j u hu
  have hj : j < n := by
    have := (List.getElem?_eq_some_iff.1 hu).1
    rwa [iCells_len] at this
  rw [iCells_at f hj] at hu
  obtain ⟨cur, h1, h2, h3⟩ := h
  have hc := h1.cell j (h3 j hj)
  rw [hu] at hc
  by_cases e : j = 0
  · subst e; simpa [Addr.add] using hc
  · simpa [Addr.add, e] using hc
set_option maxRecDepth 100000 in
theorem ints_any {w : World} {g c n : Nat} {f : Nat → Int} (h : Made w g c n f) (hn : n ≤ 9) :
    Calls Try.prog 13 #[.slice (some ⟨g, 0, none⟩) n c] w fun e w' => ∃ g' c', e = .returned (.slice (some ⟨g', 0, none⟩) n c') ∧ w.heap.size ≤ g' ∧ n ≤ c' ∧ Made w' g' c' n f ∧ Below w.heap.size w w' := by
  have hbs : ∀ w, (Instr.buildSlice 24 0 #[]).run Try.prog w = .ok (.slice (some ⟨w.heap.size, 0, none⟩) 0 0) (w.alloc (.cells #[] 2)) := fun _ => by kernel_rfl
  have hm1 : Made (w.alloc (.cells #[] 2)) g c n f := by
    obtain ⟨cur, q1, q2⟩ := h
    exact ⟨cur, q1.below (below_alloc _ _), q2⟩
  have o0 : (w.alloc (.cells #[] 2)).ownsRow w.heap.size 2 1 (.slice (some ⟨w.heap.size, 0, none⟩) 0 0) 0 [] :=
    ⟨rfl, .inr ⟨w.heap.size, 0, #[], rfl, Nat.le_refl _, heap_alloc_new _ _, Nat.le_refl _, Nat.zero_le _, rfl, rfl⟩⟩
  obtain ⟨i0, hi0, hz0, hz1, hz2⟩ := info_parts Try.info2
  have hn' : (n : Int) ≤ 9 := by omega
  go_enter Try.func13, Try.ntmps13
  go_wp2_with (at_builtin; refine wpList_append_own _ rfl _ _ _ rfl w.heap.size 2 i0 _ 1 8 Try.underlying24 hi0 hz0 hz1 hz2 rfl (by omega) (.slice (some ⟨w.heap.size, 0, none⟩) 0 0) 0 [] rfl o0 ⟨g, 0, none⟩ n c (iCells f n) rfl (by rw [iCells_len]; omega) (made_news hm1) (iCells_one f n) (by unfold maxLen; omega) (by omega) (by simp) ?_; intro v2 w2 hown2 hgrow2 hne2)
  simp only [Nat.zero_add, List.nil_append] at hown2
  obtain ⟨g', c', rfl, hg', hc', hm'⟩ := made_of hown2 (fun h => ne_nil _ _ _ (hne2.1 h).1)
  go_ret
  exact ⟨g', c', rfl, hg', hc', hm', (below_alloc w (.cells #[] 2)).grown hgrow2 (by simp) (fun k hk => by cases hk; exact Nat.le_refl _)⟩
theorem spanned_dvd {m : Nat → Int} {x y z : Int} (h : ∀ k, det3 m ∣ cram m x y z k) : spanned m x y z = true := by
  unfold spanned
  rw [Int.tmod_eq_zero_of_dvd (h 0), Int.tmod_eq_zero_of_dvd (h 1), Int.tmod_eq_zero_of_dvd (h 2)]
  rfl
theorem dvd_spanned {m : Nat → Int} {x y z : Int} (h : spanned m x y z = true) : det3 m ∣ cram m x y z 0 ∧ det3 m ∣ cram m x y z 1 ∧ det3 m ∣ cram m x y z 2 := by
  unfold spanned at h
  simp only [Bool.and_eq_true, decide_eq_true_eq] at h
  exact ⟨Int.dvd_of_tmod_eq_zero h.1, Int.dvd_of_tmod_eq_zero h.2.1, Int.dvd_of_tmod_eq_zero h.2.2⟩
theorem units_dvd {m : Nat → Int} (h1 : spanned m 1 0 0 = true) (h2 : spanned m 0 1 0 = true) (h3 : spanned m 0 0 1 = true) : ∀ k, k < 9 → det3 m ∣ adj m k := by
  obtain ⟨a0, a1, a2⟩ := dvd_spanned h1
  obtain ⟨a3, a4, a5⟩ := dvd_spanned h2
  obtain ⟨a6, a7, a8⟩ := dvd_spanned h3
  have e1 : ∀ k, cram m 1 0 0 k = adj m k := fun k => by unfold cram; omega
  have e2 : ∀ k, cram m 0 1 0 k = adj m (3 + k) := fun k => by unfold cram; omega
  have e3 : ∀ k, cram m 0 0 1 k = adj m (6 + k) := fun k => by unfold cram; omega
  rw [e1] at a0 a1 a2
  rw [e2] at a3 a4 a5
  rw [e3] at a6 a7 a8
  intro k hk
  rcases (by omega : k = 0 ∨ k = 1 ∨ k = 2 ∨ k = 3 ∨ k = 4 ∨ k = 5 ∨ k = 6 ∨ k = 7 ∨ k = 8) with rfl | rfl | rfl | rfl | rfl | rfl | rfl | rfl | rfl <;> assumption
/-- What the region reads. -/
abbrev S9d (W : World) (b : Nat) (f : Nat → Int) (w' : World) : Prop := (w'.cell? ⟨b, 0, none⟩ = some (.int .i64 (f 0)) ∧ w'.cell? ⟨b, 1, none⟩ = some (.int .i64 (f 1)) ∧ w'.cell? ⟨b, 2, none⟩ = some (.int .i64 (f 2)) ∧ w'.cell? ⟨b, 3, none⟩ = some (.int .i64 (f 3)) ∧ w'.cell? ⟨b, 4, none⟩ = some (.int .i64 (f 4)) ∧ w'.cell? ⟨b, 5, none⟩ = some (.int .i64 (f 5)) ∧ w'.cell? ⟨b, 6, none⟩ = some (.int .i64 (f 6)) ∧ w'.cell? ⟨b, 7, none⟩ = some (.int .i64 (f 7)) ∧ w'.cell? ⟨b, 8, none⟩ = some (.int .i64 (f 8))) ∧ Below W.heap.size W w'
set_option maxRecDepth 100000 in
set_option maxHeartbeats 9600000 in
theorem rows_walk {w : World} {a : Option Addr} {len cap : Nat} (hr : Row w w.heap.size a len) :
    Calls Try.prog 5 #[.slice a len cap] w fun e w' => e = .returned (.bool true) ∧ Below w.heap.size w w' := by
  have hlen : (len : Int) ≤ 9223372036854775807 := by have := hr.1; unfold maxLen at this; omega
  by_cases hbig : 1048576 < len
  · have e : decide (1048576 < len) = true := by simpa using hbig
    go_enter Try.func5, Try.ntmps5
    go_wp2_with fail
    refine (big_any _ _ _ _ hr.1).mono ?_
    rw [e]
    rintro e w1 ⟨rfl, rfl⟩
    go_wp2
    go_ret
    exact ⟨rfl, Below.refl _ _⟩
  have e : decide (1048576 < len) = false := by simpa using hbig
  go_enter Try.func5, Try.ntmps5
  go_wp2_with fail
  refine (big_any _ _ _ _ hr.1).mono ?_
  rw [e]
  rintro e w1 ⟨rfl, rfl⟩
  go_wp2_with fail
  refine (drawContains_any hr).mono ?_
  rintro e w1 ⟨n, v, ux, uy, uz, rfl, ⟨g, c, f, rfl, hg, hn9, hnc, hm⟩, b1⟩
  go_wp2_with fail
  refine (specDet_any (src_made hm)).mono ?_
  rintro e w2 ⟨rfl, b2⟩
  replace hm := made_below hm b2
  replace b1 := b1.trans (b2.mono b1.size)
  clear b2
  by_cases h0 : detOf n f = 0
  · rw [h0]
    go_wp2
    go_ret
    exact ⟨rfl, b1⟩
  have hM := isM_of_det h0
  obtain rfl := hM.1
  obtain ⟨d, hdd⟩ : ∃ d, detOf 9 f = d := ⟨_, rfl⟩
  have hd3 : det3 f = d := by rw [← hdd, detOf, if_pos hM]
  have hbe : (d == 0) = false := by rw [hdd] at h0; simpa using h0
  rw [hdd]
  go_wp2_with fail
  generalize hp : (len : Int) % 19 - 9 = p
  generalize hq : (len : Int) / 19 % 19 - 9 = q
  generalize hrr : p - q = r
  have hpb : -9 ≤ p ∧ p ≤ 9 := by omega
  have hqb : -9 ≤ q ∧ q ≤ 9 := by omega
  have hrb : -18 ≤ r ∧ r ≤ 18 := by omega
  clear hp hq hrr
  have t0 := mul_bound (x := p) (y := f 0) (M := 9) (N := 1000) (by omega) (hM.2 0 (by decide))
  have t1 := mul_bound (x := p) (y := f 1) (M := 9) (N := 1000) (by omega) (hM.2 1 (by decide))
  have t2 := mul_bound (x := p) (y := f 2) (M := 9) (N := 1000) (by omega) (hM.2 2 (by decide))
  have t3 := mul_bound (x := q) (y := f 3) (M := 9) (N := 1000) (by omega) (hM.2 3 (by decide))
  have t4 := mul_bound (x := q) (y := f 4) (M := 9) (N := 1000) (by omega) (hM.2 4 (by decide))
  have t5 := mul_bound (x := q) (y := f 5) (M := 9) (N := 1000) (by omega) (hM.2 5 (by decide))
  have t6 := mul_bound (x := r) (y := f 6) (M := 18) (N := 1000) (by omega) (hM.2 6 (by decide))
  have t7 := mul_bound (x := r) (y := f 7) (M := 18) (N := 1000) (by omega) (hM.2 7 (by decide))
  have t8 := mul_bound (x := r) (y := f 8) (M := 18) (N := 1000) (by omega) (hM.2 8 (by decide))
  have v0 : IntKind.i64.wrap (p * f 0) = p * f 0 := IntWalk.i64_in _ (by omega)
  have v1 : IntKind.i64.wrap (q * f 3) = q * f 3 := IntWalk.i64_in _ (by omega)
  have v2 : IntKind.i64.wrap (p * f 0 + q * f 3) = p * f 0 + q * f 3 := IntWalk.i64_in _ (by omega)
  have v3 : IntKind.i64.wrap (r * f 6) = r * f 6 := IntWalk.i64_in _ (by omega)
  have v4 : IntKind.i64.wrap (p * f 0 + q * f 3 + r * f 6) = p * f 0 + q * f 3 + r * f 6 := IntWalk.i64_in _ (by omega)
  have v5 : IntKind.i64.wrap (p * f 1) = p * f 1 := IntWalk.i64_in _ (by omega)
  have v6 : IntKind.i64.wrap (q * f 4) = q * f 4 := IntWalk.i64_in _ (by omega)
  have v7 : IntKind.i64.wrap (p * f 1 + q * f 4) = p * f 1 + q * f 4 := IntWalk.i64_in _ (by omega)
  have v8 : IntKind.i64.wrap (r * f 7) = r * f 7 := IntWalk.i64_in _ (by omega)
  have v9 : IntKind.i64.wrap (p * f 1 + q * f 4 + r * f 7) = p * f 1 + q * f 4 + r * f 7 := IntWalk.i64_in _ (by omega)
  have v10 : IntKind.i64.wrap (p * f 2) = p * f 2 := IntWalk.i64_in _ (by omega)
  have v11 : IntKind.i64.wrap (q * f 5) = q * f 5 := IntWalk.i64_in _ (by omega)
  have v12 : IntKind.i64.wrap (p * f 2 + q * f 5) = p * f 2 + q * f 5 := IntWalk.i64_in _ (by omega)
  have v13 : IntKind.i64.wrap (r * f 8) = r * f 8 := IntWalk.i64_in _ (by omega)
  have v14 : IntKind.i64.wrap (p * f 2 + q * f 5 + r * f 8) = p * f 2 + q * f 5 + r * f 8 := IntWalk.i64_in _ (by omega)
  have hcont : contains 9 f (p * f 0 + q * f 3 + r * f 6) (p * f 1 + q * f 4 + r * f 7) (p * f 2 + q * f 5 + r * f 8) = true := by
    have i1 : inIx (p * f 0 + q * f 3 + r * f 6) := by unfold inIx; omega
    have i2 : inIx (p * f 1 + q * f 4 + r * f 7) := by unfold inIx; omega
    have i3 : inIx (p * f 2 + q * f 5 + r * f 8) := by unfold inIx; omega
    simp [contains, h0, i1, i2, i3, rows_spanned]
  have hms := hm
  obtain ⟨cur, y1, y2, y3⟩ := hms
  have mk : Hid (∀ w', Below w2.heap.size w2 w' → S9d w2 g f w') := fun w' hw => by
    have z1 := y1.below hw
    exact ⟨⟨z1.cell 0 (y3 0 (by decide)), z1.cell 1 (y3 1 (by decide)), z1.cell 2 (y3 2 (by decide)), z1.cell 3 (y3 3 (by decide)), z1.cell 4 (y3 4 (by decide)), z1.cell 5 (y3 5 (by decide)), z1.cell 6 (y3 6 (by decide)), z1.cell 7 (y3 7 (by decide)), z1.cell 8 (y3 8 (by decide))⟩, hw⟩
  clear y1 y2 y3 cur
  clear t0 t1 t2 t3 t4 t5 t6 t7 t8
  have hB : Below w2.heap.size w2 w2.drew := (Below.refl _ _).drew
  refine wp_region_held_drew (S := S9d w2 g f) (by kernel_rfl) (mk.out _ hB) (fun hHeld => ?_)
  obtain ⟨w0, hw0⟩ : ∃ w0, w2.drew = w0 := ⟨_, rfl⟩
  rw [hw0] at hB hHeld ⊢
  clear hw0
  change wpAnyH _ _ _ _ _ 55 #[false, false, false, false, false, false, false, false, false, false, false, false, false, false, false, false, false, false, false, false, false, false, false, false, false, false, false, false, false, false, false, false, false, false, false, false, false, false, false, false, false, false, false, false, false, false, false, false, false, false, false, false, false, false, false] _ _
  refine wpAnyH_take (i := 0) (v := .slice (some ⟨g, 0, none⟩) 9 c) rfl (by kernel_rfl) (by kernel_rfl) (by kernel_rfl) (fun _ _ _ h => h) (Or.inl ⟨by kernel_rfl, ?_⟩) hHeld ?_
  · intro w' hSw; go_simp
  try simp only [Act.put, List.setIfInBounds_toArray, List.set_cons_zero]
  refine wpAnyH_take (i := 2) (v := .int .i64 p) rfl (by kernel_rfl) (by kernel_rfl) (by kernel_rfl) (fun _ _ _ h => h) (Or.inl ⟨by kernel_rfl, ?_⟩) hHeld ?_
  · intro w' hSw; go_simp
  try simp only [Act.put, List.setIfInBounds_toArray, List.set_cons_zero, List.set_cons_succ]
  refine wpAnyH_take (i := 3) (v := .slice (some ⟨g, 0, none⟩) 9 c) rfl (by kernel_rfl) (by kernel_rfl) (by kernel_rfl) (fun _ _ _ h => h) (Or.inl ⟨by kernel_rfl, ?_⟩) hHeld ?_
  · intro w' hSw; go_simp
  try simp only [Act.put, List.setIfInBounds_toArray, List.set_cons_zero, List.set_cons_succ]
  refine wpAnyH_take (i := 4) (v := .pointer (some ⟨g, 0, none⟩)) rfl (by kernel_rfl) (by kernel_rfl) (by kernel_rfl) (fun _ _ _ h => h) (Or.inl ⟨by kernel_rfl, ?_⟩) hHeld ?_
  · intro w' hSw; go_simp
  try simp only [Act.put, List.setIfInBounds_toArray, List.set_cons_zero, List.set_cons_succ]
  refine wpAnyH_take (i := 5) (v := .int .i64 (f 0)) rfl (by kernel_rfl) (by kernel_rfl) (by kernel_rfl) (fun _ _ _ h => h) (Or.inl ⟨by kernel_rfl, ?_⟩) hHeld ?_
  · intro w' hSw; obtain ⟨⟨q0, q1, q2, q3, q4, q5, q6, q7, q8⟩, -⟩ := hSw; go_simp
  try simp only [Act.put, List.setIfInBounds_toArray, List.set_cons_zero, List.set_cons_succ]
  refine wpAnyH_take (i := 6) (v := .int .i64 (p * f 0)) rfl (by kernel_rfl) (by kernel_rfl) (by kernel_rfl) (fun _ _ _ h => h) (Or.inl ⟨by kernel_rfl, ?_⟩) hHeld ?_
  · intro w' hSw; go_simp
  try simp only [Act.put, List.setIfInBounds_toArray, List.set_cons_zero, List.set_cons_succ]
  refine wpAnyH_take (i := 7) (v := .int .i64 q) rfl (by kernel_rfl) (by kernel_rfl) (by kernel_rfl) (fun _ _ _ h => h) (Or.inl ⟨by kernel_rfl, ?_⟩) hHeld ?_
  · intro w' hSw; go_simp
  try simp only [Act.put, List.setIfInBounds_toArray, List.set_cons_zero, List.set_cons_succ]
  refine wpAnyH_take (i := 8) (v := .slice (some ⟨g, 0, none⟩) 9 c) rfl (by kernel_rfl) (by kernel_rfl) (by kernel_rfl) (fun _ _ _ h => h) (Or.inl ⟨by kernel_rfl, ?_⟩) hHeld ?_
  · intro w' hSw; go_simp
  try simp only [Act.put, List.setIfInBounds_toArray, List.set_cons_zero, List.set_cons_succ]
  refine wpAnyH_take (i := 9) (v := .pointer (some ⟨g, 3, none⟩)) rfl (by kernel_rfl) (by kernel_rfl) (by kernel_rfl) (fun _ _ _ h => h) (Or.inl ⟨by kernel_rfl, ?_⟩) hHeld ?_
  · intro w' hSw; go_simp
  try simp only [Act.put, List.setIfInBounds_toArray, List.set_cons_zero, List.set_cons_succ]
  refine wpAnyH_take (i := 10) (v := .int .i64 (f 3)) rfl (by kernel_rfl) (by kernel_rfl) (by kernel_rfl) (fun _ _ _ h => h) (Or.inl ⟨by kernel_rfl, ?_⟩) hHeld ?_
  · intro w' hSw; obtain ⟨⟨q0, q1, q2, q3, q4, q5, q6, q7, q8⟩, -⟩ := hSw; go_simp
  try simp only [Act.put, List.setIfInBounds_toArray, List.set_cons_zero, List.set_cons_succ]
  refine wpAnyH_take (i := 11) (v := .int .i64 (q * f 3)) rfl (by kernel_rfl) (by kernel_rfl) (by kernel_rfl) (fun _ _ _ h => h) (Or.inl ⟨by kernel_rfl, ?_⟩) hHeld ?_
  · intro w' hSw; go_simp
  try simp only [Act.put, List.setIfInBounds_toArray, List.set_cons_zero, List.set_cons_succ]
  refine wpAnyH_take (i := 12) (v := .int .i64 (p * f 0 + q * f 3)) rfl (by kernel_rfl) (by kernel_rfl) (by kernel_rfl) (fun _ _ _ h => h) (Or.inl ⟨by kernel_rfl, ?_⟩) hHeld ?_
  · intro w' hSw; go_simp
  try simp only [Act.put, List.setIfInBounds_toArray, List.set_cons_zero, List.set_cons_succ]
  refine wpAnyH_take (i := 13) (v := .int .i64 r) rfl (by kernel_rfl) (by kernel_rfl) (by kernel_rfl) (fun _ _ _ h => h) (Or.inl ⟨by kernel_rfl, ?_⟩) hHeld ?_
  · intro w' hSw; go_simp
  try simp only [Act.put, List.setIfInBounds_toArray, List.set_cons_zero, List.set_cons_succ]
  refine wpAnyH_take (i := 14) (v := .slice (some ⟨g, 0, none⟩) 9 c) rfl (by kernel_rfl) (by kernel_rfl) (by kernel_rfl) (fun _ _ _ h => h) (Or.inl ⟨by kernel_rfl, ?_⟩) hHeld ?_
  · intro w' hSw; go_simp
  try simp only [Act.put, List.setIfInBounds_toArray, List.set_cons_zero, List.set_cons_succ]
  refine wpAnyH_take (i := 15) (v := .pointer (some ⟨g, 6, none⟩)) rfl (by kernel_rfl) (by kernel_rfl) (by kernel_rfl) (fun _ _ _ h => h) (Or.inl ⟨by kernel_rfl, ?_⟩) hHeld ?_
  · intro w' hSw; go_simp
  try simp only [Act.put, List.setIfInBounds_toArray, List.set_cons_zero, List.set_cons_succ]
  refine wpAnyH_take (i := 16) (v := .int .i64 (f 6)) rfl (by kernel_rfl) (by kernel_rfl) (by kernel_rfl) (fun _ _ _ h => h) (Or.inl ⟨by kernel_rfl, ?_⟩) hHeld ?_
  · intro w' hSw; obtain ⟨⟨q0, q1, q2, q3, q4, q5, q6, q7, q8⟩, -⟩ := hSw; go_simp
  try simp only [Act.put, List.setIfInBounds_toArray, List.set_cons_zero, List.set_cons_succ]
  refine wpAnyH_take (i := 17) (v := .int .i64 (r * f 6)) rfl (by kernel_rfl) (by kernel_rfl) (by kernel_rfl) (fun _ _ _ h => h) (Or.inl ⟨by kernel_rfl, ?_⟩) hHeld ?_
  · intro w' hSw; go_simp
  try simp only [Act.put, List.setIfInBounds_toArray, List.set_cons_zero, List.set_cons_succ]
  refine wpAnyH_take (i := 18) (v := .int .i64 (p * f 0 + q * f 3 + r * f 6)) rfl (by kernel_rfl) (by kernel_rfl) (by kernel_rfl) (fun _ _ _ h => h) (Or.inl ⟨by kernel_rfl, ?_⟩) hHeld ?_
  · intro w' hSw; go_simp
  try simp only [Act.put, List.setIfInBounds_toArray, List.set_cons_zero, List.set_cons_succ]
  refine wpAnyH_take (i := 19) (v := .int .i64 p) rfl (by kernel_rfl) (by kernel_rfl) (by kernel_rfl) (fun _ _ _ h => h) (Or.inl ⟨by kernel_rfl, ?_⟩) hHeld ?_
  · intro w' hSw; go_simp
  try simp only [Act.put, List.setIfInBounds_toArray, List.set_cons_zero, List.set_cons_succ]
  refine wpAnyH_take (i := 20) (v := .slice (some ⟨g, 0, none⟩) 9 c) rfl (by kernel_rfl) (by kernel_rfl) (by kernel_rfl) (fun _ _ _ h => h) (Or.inl ⟨by kernel_rfl, ?_⟩) hHeld ?_
  · intro w' hSw; go_simp
  try simp only [Act.put, List.setIfInBounds_toArray, List.set_cons_zero, List.set_cons_succ]
  refine wpAnyH_take (i := 21) (v := .pointer (some ⟨g, 1, none⟩)) rfl (by kernel_rfl) (by kernel_rfl) (by kernel_rfl) (fun _ _ _ h => h) (Or.inl ⟨by kernel_rfl, ?_⟩) hHeld ?_
  · intro w' hSw; go_simp
  try simp only [Act.put, List.setIfInBounds_toArray, List.set_cons_zero, List.set_cons_succ]
  refine wpAnyH_take (i := 22) (v := .int .i64 (f 1)) rfl (by kernel_rfl) (by kernel_rfl) (by kernel_rfl) (fun _ _ _ h => h) (Or.inl ⟨by kernel_rfl, ?_⟩) hHeld ?_
  · intro w' hSw; obtain ⟨⟨q0, q1, q2, q3, q4, q5, q6, q7, q8⟩, -⟩ := hSw; go_simp
  try simp only [Act.put, List.setIfInBounds_toArray, List.set_cons_zero, List.set_cons_succ]
  refine wpAnyH_take (i := 23) (v := .int .i64 (p * f 1)) rfl (by kernel_rfl) (by kernel_rfl) (by kernel_rfl) (fun _ _ _ h => h) (Or.inl ⟨by kernel_rfl, ?_⟩) hHeld ?_
  · intro w' hSw; go_simp
  try simp only [Act.put, List.setIfInBounds_toArray, List.set_cons_zero, List.set_cons_succ]
  refine wpAnyH_take (i := 24) (v := .int .i64 q) rfl (by kernel_rfl) (by kernel_rfl) (by kernel_rfl) (fun _ _ _ h => h) (Or.inl ⟨by kernel_rfl, ?_⟩) hHeld ?_
  · intro w' hSw; go_simp
  try simp only [Act.put, List.setIfInBounds_toArray, List.set_cons_zero, List.set_cons_succ]
  refine wpAnyH_take (i := 25) (v := .slice (some ⟨g, 0, none⟩) 9 c) rfl (by kernel_rfl) (by kernel_rfl) (by kernel_rfl) (fun _ _ _ h => h) (Or.inl ⟨by kernel_rfl, ?_⟩) hHeld ?_
  · intro w' hSw; go_simp
  try simp only [Act.put, List.setIfInBounds_toArray, List.set_cons_zero, List.set_cons_succ]
  refine wpAnyH_take (i := 26) (v := .pointer (some ⟨g, 4, none⟩)) rfl (by kernel_rfl) (by kernel_rfl) (by kernel_rfl) (fun _ _ _ h => h) (Or.inl ⟨by kernel_rfl, ?_⟩) hHeld ?_
  · intro w' hSw; go_simp
  try simp only [Act.put, List.setIfInBounds_toArray, List.set_cons_zero, List.set_cons_succ]
  refine wpAnyH_take (i := 27) (v := .int .i64 (f 4)) rfl (by kernel_rfl) (by kernel_rfl) (by kernel_rfl) (fun _ _ _ h => h) (Or.inl ⟨by kernel_rfl, ?_⟩) hHeld ?_
  · intro w' hSw; obtain ⟨⟨q0, q1, q2, q3, q4, q5, q6, q7, q8⟩, -⟩ := hSw; go_simp
  try simp only [Act.put, List.setIfInBounds_toArray, List.set_cons_zero, List.set_cons_succ]
  refine wpAnyH_take (i := 28) (v := .int .i64 (q * f 4)) rfl (by kernel_rfl) (by kernel_rfl) (by kernel_rfl) (fun _ _ _ h => h) (Or.inl ⟨by kernel_rfl, ?_⟩) hHeld ?_
  · intro w' hSw; go_simp
  try simp only [Act.put, List.setIfInBounds_toArray, List.set_cons_zero, List.set_cons_succ]
  refine wpAnyH_take (i := 29) (v := .int .i64 (p * f 1 + q * f 4)) rfl (by kernel_rfl) (by kernel_rfl) (by kernel_rfl) (fun _ _ _ h => h) (Or.inl ⟨by kernel_rfl, ?_⟩) hHeld ?_
  · intro w' hSw; go_simp
  try simp only [Act.put, List.setIfInBounds_toArray, List.set_cons_zero, List.set_cons_succ]
  refine wpAnyH_take (i := 30) (v := .int .i64 r) rfl (by kernel_rfl) (by kernel_rfl) (by kernel_rfl) (fun _ _ _ h => h) (Or.inl ⟨by kernel_rfl, ?_⟩) hHeld ?_
  · intro w' hSw; go_simp
  try simp only [Act.put, List.setIfInBounds_toArray, List.set_cons_zero, List.set_cons_succ]
  refine wpAnyH_take (i := 31) (v := .slice (some ⟨g, 0, none⟩) 9 c) rfl (by kernel_rfl) (by kernel_rfl) (by kernel_rfl) (fun _ _ _ h => h) (Or.inl ⟨by kernel_rfl, ?_⟩) hHeld ?_
  · intro w' hSw; go_simp
  try simp only [Act.put, List.setIfInBounds_toArray, List.set_cons_zero, List.set_cons_succ]
  refine wpAnyH_take (i := 32) (v := .pointer (some ⟨g, 7, none⟩)) rfl (by kernel_rfl) (by kernel_rfl) (by kernel_rfl) (fun _ _ _ h => h) (Or.inl ⟨by kernel_rfl, ?_⟩) hHeld ?_
  · intro w' hSw; go_simp
  try simp only [Act.put, List.setIfInBounds_toArray, List.set_cons_zero, List.set_cons_succ]
  refine wpAnyH_take (i := 33) (v := .int .i64 (f 7)) rfl (by kernel_rfl) (by kernel_rfl) (by kernel_rfl) (fun _ _ _ h => h) (Or.inl ⟨by kernel_rfl, ?_⟩) hHeld ?_
  · intro w' hSw; obtain ⟨⟨q0, q1, q2, q3, q4, q5, q6, q7, q8⟩, -⟩ := hSw; go_simp
  try simp only [Act.put, List.setIfInBounds_toArray, List.set_cons_zero, List.set_cons_succ]
  refine wpAnyH_take (i := 34) (v := .int .i64 (r * f 7)) rfl (by kernel_rfl) (by kernel_rfl) (by kernel_rfl) (fun _ _ _ h => h) (Or.inl ⟨by kernel_rfl, ?_⟩) hHeld ?_
  · intro w' hSw; go_simp
  try simp only [Act.put, List.setIfInBounds_toArray, List.set_cons_zero, List.set_cons_succ]
  refine wpAnyH_take (i := 35) (v := .int .i64 (p * f 1 + q * f 4 + r * f 7)) rfl (by kernel_rfl) (by kernel_rfl) (by kernel_rfl) (fun _ _ _ h => h) (Or.inl ⟨by kernel_rfl, ?_⟩) hHeld ?_
  · intro w' hSw; go_simp
  try simp only [Act.put, List.setIfInBounds_toArray, List.set_cons_zero, List.set_cons_succ]
  refine wpAnyH_take (i := 36) (v := .int .i64 p) rfl (by kernel_rfl) (by kernel_rfl) (by kernel_rfl) (fun _ _ _ h => h) (Or.inl ⟨by kernel_rfl, ?_⟩) hHeld ?_
  · intro w' hSw; go_simp
  try simp only [Act.put, List.setIfInBounds_toArray, List.set_cons_zero, List.set_cons_succ]
  refine wpAnyH_take (i := 37) (v := .slice (some ⟨g, 0, none⟩) 9 c) rfl (by kernel_rfl) (by kernel_rfl) (by kernel_rfl) (fun _ _ _ h => h) (Or.inl ⟨by kernel_rfl, ?_⟩) hHeld ?_
  · intro w' hSw; go_simp
  try simp only [Act.put, List.setIfInBounds_toArray, List.set_cons_zero, List.set_cons_succ]
  refine wpAnyH_take (i := 38) (v := .pointer (some ⟨g, 2, none⟩)) rfl (by kernel_rfl) (by kernel_rfl) (by kernel_rfl) (fun _ _ _ h => h) (Or.inl ⟨by kernel_rfl, ?_⟩) hHeld ?_
  · intro w' hSw; go_simp
  try simp only [Act.put, List.setIfInBounds_toArray, List.set_cons_zero, List.set_cons_succ]
  refine wpAnyH_take (i := 39) (v := .int .i64 (f 2)) rfl (by kernel_rfl) (by kernel_rfl) (by kernel_rfl) (fun _ _ _ h => h) (Or.inl ⟨by kernel_rfl, ?_⟩) hHeld ?_
  · intro w' hSw; obtain ⟨⟨q0, q1, q2, q3, q4, q5, q6, q7, q8⟩, -⟩ := hSw; go_simp
  try simp only [Act.put, List.setIfInBounds_toArray, List.set_cons_zero, List.set_cons_succ]
  refine wpAnyH_take (i := 40) (v := .int .i64 (p * f 2)) rfl (by kernel_rfl) (by kernel_rfl) (by kernel_rfl) (fun _ _ _ h => h) (Or.inl ⟨by kernel_rfl, ?_⟩) hHeld ?_
  · intro w' hSw; go_simp
  try simp only [Act.put, List.setIfInBounds_toArray, List.set_cons_zero, List.set_cons_succ]
  refine wpAnyH_take (i := 41) (v := .int .i64 q) rfl (by kernel_rfl) (by kernel_rfl) (by kernel_rfl) (fun _ _ _ h => h) (Or.inl ⟨by kernel_rfl, ?_⟩) hHeld ?_
  · intro w' hSw; go_simp
  try simp only [Act.put, List.setIfInBounds_toArray, List.set_cons_zero, List.set_cons_succ]
  refine wpAnyH_take (i := 42) (v := .slice (some ⟨g, 0, none⟩) 9 c) rfl (by kernel_rfl) (by kernel_rfl) (by kernel_rfl) (fun _ _ _ h => h) (Or.inl ⟨by kernel_rfl, ?_⟩) hHeld ?_
  · intro w' hSw; go_simp
  try simp only [Act.put, List.setIfInBounds_toArray, List.set_cons_zero, List.set_cons_succ]
  refine wpAnyH_take (i := 43) (v := .pointer (some ⟨g, 5, none⟩)) rfl (by kernel_rfl) (by kernel_rfl) (by kernel_rfl) (fun _ _ _ h => h) (Or.inl ⟨by kernel_rfl, ?_⟩) hHeld ?_
  · intro w' hSw; go_simp
  try simp only [Act.put, List.setIfInBounds_toArray, List.set_cons_zero, List.set_cons_succ]
  refine wpAnyH_take (i := 44) (v := .int .i64 (f 5)) rfl (by kernel_rfl) (by kernel_rfl) (by kernel_rfl) (fun _ _ _ h => h) (Or.inl ⟨by kernel_rfl, ?_⟩) hHeld ?_
  · intro w' hSw; obtain ⟨⟨q0, q1, q2, q3, q4, q5, q6, q7, q8⟩, -⟩ := hSw; go_simp
  try simp only [Act.put, List.setIfInBounds_toArray, List.set_cons_zero, List.set_cons_succ]
  refine wpAnyH_take (i := 45) (v := .int .i64 (q * f 5)) rfl (by kernel_rfl) (by kernel_rfl) (by kernel_rfl) (fun _ _ _ h => h) (Or.inl ⟨by kernel_rfl, ?_⟩) hHeld ?_
  · intro w' hSw; go_simp
  try simp only [Act.put, List.setIfInBounds_toArray, List.set_cons_zero, List.set_cons_succ]
  refine wpAnyH_take (i := 46) (v := .int .i64 (p * f 2 + q * f 5)) rfl (by kernel_rfl) (by kernel_rfl) (by kernel_rfl) (fun _ _ _ h => h) (Or.inl ⟨by kernel_rfl, ?_⟩) hHeld ?_
  · intro w' hSw; go_simp
  try simp only [Act.put, List.setIfInBounds_toArray, List.set_cons_zero, List.set_cons_succ]
  refine wpAnyH_take (i := 47) (v := .int .i64 r) rfl (by kernel_rfl) (by kernel_rfl) (by kernel_rfl) (fun _ _ _ h => h) (Or.inl ⟨by kernel_rfl, ?_⟩) hHeld ?_
  · intro w' hSw; go_simp
  try simp only [Act.put, List.setIfInBounds_toArray, List.set_cons_zero, List.set_cons_succ]
  refine wpAnyH_take (i := 48) (v := .slice (some ⟨g, 0, none⟩) 9 c) rfl (by kernel_rfl) (by kernel_rfl) (by kernel_rfl) (fun _ _ _ h => h) (Or.inl ⟨by kernel_rfl, ?_⟩) hHeld ?_
  · intro w' hSw; go_simp
  try simp only [Act.put, List.setIfInBounds_toArray, List.set_cons_zero, List.set_cons_succ]
  refine wpAnyH_take (i := 49) (v := .pointer (some ⟨g, 8, none⟩)) rfl (by kernel_rfl) (by kernel_rfl) (by kernel_rfl) (fun _ _ _ h => h) (Or.inl ⟨by kernel_rfl, ?_⟩) hHeld ?_
  · intro w' hSw; go_simp
  try simp only [Act.put, List.setIfInBounds_toArray, List.set_cons_zero, List.set_cons_succ]
  refine wpAnyH_take (i := 50) (v := .int .i64 (f 8)) rfl (by kernel_rfl) (by kernel_rfl) (by kernel_rfl) (fun _ _ _ h => h) (Or.inl ⟨by kernel_rfl, ?_⟩) hHeld ?_
  · intro w' hSw; obtain ⟨⟨q0, q1, q2, q3, q4, q5, q6, q7, q8⟩, -⟩ := hSw; go_simp
  try simp only [Act.put, List.setIfInBounds_toArray, List.set_cons_zero, List.set_cons_succ]
  refine wpAnyH_take (i := 51) (v := .int .i64 (r * f 8)) rfl (by kernel_rfl) (by kernel_rfl) (by kernel_rfl) (fun _ _ _ h => h) (Or.inl ⟨by kernel_rfl, ?_⟩) hHeld ?_
  · intro w' hSw; go_simp
  try simp only [Act.put, List.setIfInBounds_toArray, List.set_cons_zero, List.set_cons_succ]
  refine wpAnyH_take (i := 52) (v := .int .i64 (p * f 2 + q * f 5 + r * f 8)) rfl (by kernel_rfl) (by kernel_rfl) (by kernel_rfl) (fun _ _ _ h => h) (Or.inl ⟨by kernel_rfl, ?_⟩) hHeld ?_
  · intro w' hSw; go_simp
  try simp only [Act.put, List.setIfInBounds_toArray, List.set_cons_zero, List.set_cons_succ]
  refine wpAnyH_ready (rs := [1]) (by kernel_rfl) (by simp) ?_
  refine AllReadyH.cons rfl (fun K hK => ?_) AllReadyH.nil
  go_simp
  refine (ints_any (made_below hm hB) hn9).mono ?_
  rintro e w6 ⟨g6, c6, rfl, -, hc6, hm6, b6⟩
  replace hB := hB.trans (b6.mono hB.size)
  try go_wp2_with fail
  clear hHeld
  refine hK.out _ _ (mk.out _ hB) (fun hHeld => ?_)
  clear hK K
  try simp only [List.setIfInBounds_toArray, List.set_cons_zero, List.set_cons_succ]
  refine wpAnyH_ready (rs := [53]) (by kernel_rfl) (by simp) ?_
  refine AllReadyH.cons rfl (fun K hK => ?_) AllReadyH.nil
  go_simp
  refine (implContains_any (src_made hm6) _ _ _).mono ?_
  rw [hcont]
  rintro e w7 ⟨rfl, b7⟩
  replace hB := hB.trans (b7.mono hB.size)
  try go_wp2_with fail
  clear hHeld
  refine hK.out _ _ (mk.out _ hB) (fun hHeld => ?_)
  clear hK K
  try simp only [List.setIfInBounds_toArray, List.set_cons_zero, List.set_cons_succ]
  refine wpAnyH_take (i := 54) (v := .bool false) rfl (by kernel_rfl) (by kernel_rfl) (by kernel_rfl) (fun _ _ _ h => h) (Or.inl ⟨by kernel_rfl, ?_⟩) hHeld ?_
  · intro w' hSw; go_simp
  try simp only [Act.put, List.getElem_toArray, List.getElem_cons_succ, List.getElem_cons_zero, List.setIfInBounds_toArray, List.set_cons_zero, List.set_cons_succ]
  refine wpAnyH_done (by kernel_rfl) ?_ _
  replace hm := made_below hm hB
  replace b1 := b1.trans (hB.mono b1.size)
  clear hHeld mk hB hm6 b6 b7 hcont
  have iz : inIx 0 := by decide
  have io : inIx 1 := by decide
  have c1 : contains 9 f 1 0 0 = spanned f 1 0 0 := by simp [contains, h0, iz, io]
  have c2 : contains 9 f 0 1 0 = spanned f 0 1 0 := by simp [contains, h0, iz, io]
  have c3 : contains 9 f 0 0 1 = spanned f 0 0 1 := by simp [contains, h0, iz, io]
  have hd0 : det3 f ≠ 0 := by rw [hd3, ← hdd]; exact h0
  by_cases hu : d = 1 ∨ d = -1
  · have hdv : ∀ x : Int, det3 f ∣ x := fun x => by
      rw [hd3]
      rcases hu with rfl | rfl
      · exact Int.one_dvd _
      · exact ⟨-x, by omega⟩
    have hk1 : contains 9 f 1 0 0 = true := c1.trans (spanned_dvd fun k => hdv _)
    have hk2 : contains 9 f 0 1 0 = true := c2.trans (spanned_dvd fun k => hdv _)
    have hk3 : contains 9 f 0 0 1 = true := c3.trans (spanned_dvd fun k => hdv _)
    clear hdv c1 c2 c3 hd0 hd3 hdd h0 hM
    rcases hu with rfl | rfl
    · go_wp2_with fail
      refine (ints_any hm hn9).mono ?_
      rintro e wa1 ⟨ga1, ca1, rfl, -, hca1, hma1, ba1⟩
      replace hm := made_below hm ba1
      replace b1 := b1.trans (ba1.mono b1.size)
      clear ba1
      go_wp2_with fail
      refine (implContains_any (src_made hma1) _ _ _).mono ?_
      rw [hk1]
      rintro e wb1 ⟨rfl, bb1⟩
      replace hm := made_below hm bb1
      replace b1 := b1.trans (bb1.mono b1.size)
      clear bb1 hma1
      go_wp2_with fail
      refine (ints_any hm hn9).mono ?_
      rintro e wa2 ⟨ga2, ca2, rfl, -, hca2, hma2, ba2⟩
      replace hm := made_below hm ba2
      replace b1 := b1.trans (ba2.mono b1.size)
      clear ba2
      go_wp2_with fail
      refine (implContains_any (src_made hma2) _ _ _).mono ?_
      rw [hk2]
      rintro e wb2 ⟨rfl, bb2⟩
      replace hm := made_below hm bb2
      replace b1 := b1.trans (bb2.mono b1.size)
      clear bb2 hma2
      go_wp2_with fail
      refine (ints_any hm hn9).mono ?_
      rintro e wa3 ⟨ga3, ca3, rfl, -, hca3, hma3, ba3⟩
      replace hm := made_below hm ba3
      replace b1 := b1.trans (ba3.mono b1.size)
      clear ba3
      go_wp2_with fail
      refine (implContains_any (src_made hma3) _ _ _).mono ?_
      rw [hk3]
      rintro e wb3 ⟨rfl, bb3⟩
      replace hm := made_below hm bb3
      replace b1 := b1.trans (bb3.mono b1.size)
      clear bb3 hma3
      go_wp2
      go_ret
      exact ⟨rfl, b1⟩
    · go_wp2_with fail
      refine (ints_any hm hn9).mono ?_
      rintro e wa1 ⟨ga1, ca1, rfl, -, hca1, hma1, ba1⟩
      replace hm := made_below hm ba1
      replace b1 := b1.trans (ba1.mono b1.size)
      clear ba1
      go_wp2_with fail
      refine (implContains_any (src_made hma1) _ _ _).mono ?_
      rw [hk1]
      rintro e wb1 ⟨rfl, bb1⟩
      replace hm := made_below hm bb1
      replace b1 := b1.trans (bb1.mono b1.size)
      clear bb1 hma1
      go_wp2_with fail
      refine (ints_any hm hn9).mono ?_
      rintro e wa2 ⟨ga2, ca2, rfl, -, hca2, hma2, ba2⟩
      replace hm := made_below hm ba2
      replace b1 := b1.trans (ba2.mono b1.size)
      clear ba2
      go_wp2_with fail
      refine (implContains_any (src_made hma2) _ _ _).mono ?_
      rw [hk2]
      rintro e wb2 ⟨rfl, bb2⟩
      replace hm := made_below hm bb2
      replace b1 := b1.trans (bb2.mono b1.size)
      clear bb2 hma2
      go_wp2_with fail
      refine (ints_any hm hn9).mono ?_
      rintro e wa3 ⟨ga3, ca3, rfl, -, hca3, hma3, ba3⟩
      replace hm := made_below hm ba3
      replace b1 := b1.trans (ba3.mono b1.size)
      clear ba3
      go_wp2_with fail
      refine (implContains_any (src_made hma3) _ _ _).mono ?_
      rw [hk3]
      rintro e wb3 ⟨rfl, bb3⟩
      replace hm := made_below hm bb3
      replace b1 := b1.trans (bb3.mono b1.size)
      clear bb3 hma3
      go_wp2
      go_ret
      exact ⟨rfl, b1⟩
  · have hb1 : (d == 1) = false := by simp; omega
    have hb2 : (d == -1) = false := by simp; omega
    obtain ⟨k1, hk1⟩ : ∃ k, contains 9 f 1 0 0 = k := ⟨_, rfl⟩
    obtain ⟨k2, hk2⟩ : ∃ k, contains 9 f 0 1 0 = k := ⟨_, rfl⟩
    obtain ⟨k3, hk3⟩ : ∃ k, contains 9 f 0 0 1 = k := ⟨_, rfl⟩
    have hno : ¬ (k1 = true ∧ k2 = true ∧ k3 = true) := by
      rintro ⟨rfl, rfl, rfl⟩
      apply hu
      rw [← hd3]
      exact units_one hd0 (units_dvd (c1.symm.trans hk1) (c2.symm.trans hk2) (c3.symm.trans hk3))
    clear c1 c2 c3 hd0 hd3 hdd h0 hM hu
    cases k1
    · go_wp2_with fail
      refine (ints_any hm hn9).mono ?_
      rintro e wa1 ⟨ga1, ca1, rfl, -, hca1, hma1, ba1⟩
      replace hm := made_below hm ba1
      replace b1 := b1.trans (ba1.mono b1.size)
      clear ba1
      go_wp2_with fail
      refine (implContains_any (src_made hma1) _ _ _).mono ?_
      rw [hk1]
      rintro e wb1 ⟨rfl, bb1⟩
      replace hm := made_below hm bb1
      replace b1 := b1.trans (bb1.mono b1.size)
      clear bb1 hma1
      go_wp2
      go_ret
      exact ⟨rfl, b1⟩
    · go_wp2_with fail
      refine (ints_any hm hn9).mono ?_
      rintro e wa1 ⟨ga1, ca1, rfl, -, hca1, hma1, ba1⟩
      replace hm := made_below hm ba1
      replace b1 := b1.trans (ba1.mono b1.size)
      clear ba1
      go_wp2_with fail
      refine (implContains_any (src_made hma1) _ _ _).mono ?_
      rw [hk1]
      rintro e wb1 ⟨rfl, bb1⟩
      replace hm := made_below hm bb1
      replace b1 := b1.trans (bb1.mono b1.size)
      clear bb1 hma1
      cases k2
      · go_wp2_with fail
        refine (ints_any hm hn9).mono ?_
        rintro e wa2 ⟨ga2, ca2, rfl, -, hca2, hma2, ba2⟩
        replace hm := made_below hm ba2
        replace b1 := b1.trans (ba2.mono b1.size)
        clear ba2
        go_wp2_with fail
        refine (implContains_any (src_made hma2) _ _ _).mono ?_
        rw [hk2]
        rintro e wb2 ⟨rfl, bb2⟩
        replace hm := made_below hm bb2
        replace b1 := b1.trans (bb2.mono b1.size)
        clear bb2 hma2
        go_wp2
        go_ret
        exact ⟨rfl, b1⟩
      · go_wp2_with fail
        refine (ints_any hm hn9).mono ?_
        rintro e wa2 ⟨ga2, ca2, rfl, -, hca2, hma2, ba2⟩
        replace hm := made_below hm ba2
        replace b1 := b1.trans (ba2.mono b1.size)
        clear ba2
        go_wp2_with fail
        refine (implContains_any (src_made hma2) _ _ _).mono ?_
        rw [hk2]
        rintro e wb2 ⟨rfl, bb2⟩
        replace hm := made_below hm bb2
        replace b1 := b1.trans (bb2.mono b1.size)
        clear bb2 hma2
        cases k3
        · go_wp2_with fail
          refine (ints_any hm hn9).mono ?_
          rintro e wa3 ⟨ga3, ca3, rfl, -, hca3, hma3, ba3⟩
          replace hm := made_below hm ba3
          replace b1 := b1.trans (ba3.mono b1.size)
          clear ba3
          go_wp2_with fail
          refine (implContains_any (src_made hma3) _ _ _).mono ?_
          rw [hk3]
          rintro e wb3 ⟨rfl, bb3⟩
          replace hm := made_below hm bb3
          replace b1 := b1.trans (bb3.mono b1.size)
          clear bb3 hma3
          go_wp2
          go_ret
          exact ⟨rfl, b1⟩
        · exact (hno (by simp)).elim
theorem rows_of {w : World} {a : Option Addr} {len cap : Nat} (hr : Row w w.heap.size a len) :
    Calls Try.prog 5 #[.slice a len cap] w fun e w' => e = .returned (.bool true) ∧ Below w.heap.size w w' := rows_walk hr
end Go.Proofs.Ytlgkohiempcbhaa
