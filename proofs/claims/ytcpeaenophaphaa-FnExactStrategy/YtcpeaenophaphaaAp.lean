/-
  A plan's end, and a list copied, walked.
-/
import Derived.Test.YtcpeaenophaphaaAo
namespace Go.Proofs.Ytcpeaenophaphaa
open Go.RowKit

theorem newsI {w : World} {g : Nat} {l : List Int} (h : Ints w g 0 l.length (fun i => l.getD i 0)) : ∀ j u, (lCells l)[j]? = some u → w.cell? ((⟨g, 0, none⟩ : Addr).add j) = some u := by
  intro j u hu
  have hj : j < l.length := by
    have := (List.getElem?_eq_some_iff.1 hu).1
    simpa [lCells] using this
  have h1 := h j hj
  have h2 : (lCells l)[j]? = some (.int .i64 (l.getD j 0)) := by simp [lCells, hj]
  rw [h2] at hu
  injection hu with hu
  rw [← hu]
  rw [Nat.zero_add] at h1
  by_cases e : j = 0
  · subst e; simpa [Addr.add] using h1
  · simpa [Addr.add, e] using h1
set_option maxRecDepth 100000 in
theorem copyL_any {w : World} {g c : Nat} {l : List Nat} (I1 : Ints w g 0 l.length (fun i => (toI l).getD i 0)) (L1 : g < w.heap.size) (hn : l.length ≤ 1000) :
    Calls Try.prog 56 #[.slice (some ⟨g, 0, none⟩) l.length c] w fun e w' => ∃ g' c', e = .returned (.slice (some ⟨g', 0, none⟩) l.length c') ∧ w'.ownsRow w.heap.size 2 1 (.slice (some ⟨g', 0, none⟩) l.length c') l.length (lCells (toI l)) ∧ Below w.heap.size w w' := by
  obtain ⟨i0, hi0, hz0, hz1, hz2⟩ := info_parts infoI
  have hbs : ∀ w, (Instr.buildSlice 25 0 #[]).run Try.prog w = .ok (.slice (some ⟨w.heap.size, 0, none⟩) 0 0) (w.alloc (.cells #[] 2)) := fun _ => by kernel_rfl
  obtain ⟨W5, hW5, a5, bb, -⟩ := boxed w 2 #[]
  have o5 : W5.ownsRow w.heap.size 2 1 (.slice (some ⟨w.heap.size, 0, none⟩) 0 0) 0 [] := ⟨rfl, .inr ⟨w.heap.size, 0, #[], rfl, Nat.le_refl _, a5, Nat.le_refl _, Nat.zero_le _, rfl, rfl⟩⟩
  have I5 := I1.below L1 bb
  have hs5 : w.heap.size ≤ W5.heap.size := bb.size
  rw [← toI_len] at I5
  have N5 := newsI I5
  have hl : (lCells (toI l)).length = l.length * 1 := by rw [lCells, List.length_map, toI_len, Nat.mul_one]
  obtain ⟨m, hm⟩ : ∃ m, l.length = m := ⟨_, rfl⟩
  rw [hm] at hl hn ⊢
  have HM : Hid (l.length = m) := hm
  clear I1 I5 hm
  go_enter Try.func56, Try.ntmps56
  go_wp2_with (at_builtin; refine wpList_append_own _ rfl _ _ _ rfl w.heap.size 2 i0 _ 1 8 Try.underlying25 hi0 hz0 hz1 hz2 rfl (by omega) (.slice (some ⟨w.heap.size, 0, none⟩) 0 0) 0 [] rfl o5 ⟨g, 0, none⟩ m c (lCells (toI l)) rfl hl N5 (lCells_one _) (by unfold maxLen; omega) (by omega) hs5 ?_; intro v2 w6 hown2 hgrow2 hne2)
  simp only [Nat.zero_add, List.nil_append] at hown2
  obtain ⟨g6, c6, rfl⟩ : ∃ g6 c6, v2 = .slice (some ⟨g6, 0, none⟩) m c6 := by
    rcases hown2.2 with ⟨e1, -⟩ | ⟨gg, cc, cur, e1, -⟩
    · exact absurd (hne2.1 e1).1 (fun h => by cases h)
    · exact ⟨gg, cc, e1⟩
  have bb6 : Below w.heap.size W5 w6 := (Below.refl _ _).grown hgrow2 hs5 (fun k hk => by cases hk; exact Nat.le_refl _)
  refine bodyPost_ret (v := .slice (some ⟨g6, 0, none⟩) m c6) (by simp [results, Try.results56, go_sem]) rfl ⟨g6, c6, rfl, hown2, bb.trans bb6⟩
set_option maxRecDepth 100000 in
theorem pEnd_any {w : World} {g c : Nat} {l : List Nat} (s : Int) (I1 : Ints w g 0 l.length (fun i => (toI l).getD i 0)) (L1 : g < w.heap.size) (hn : l.length ≤ 1000) (hl : ∀ x ∈ l, x < 1000) :
    Calls Try.prog 40 #[.agg #[.slice (some ⟨g, 0, none⟩) l.length c, .int .u64 s]] w fun e w' => e = .returned (.int .i64 (endOf l : Int)) ∧ Below w.heap.size w w' := by
  rcases List.eq_nil_or_concat l with rfl | ⟨t, x, rfl⟩
  · obtain ⟨W, hW, b0, bW, -⟩ := boxed w 56 #[.slice (some ⟨g, 0, none⟩) 0 c, .int .u64 s]
    obtain ⟨y0, y1, -⟩ := b0.open2
    rw [show ((endOf [] : Nat) : Int) = 0 from rfl, List.length_nil]
    go_enter Try.func40, Try.ntmps40
    go_wp2
    go_ret
    exact ⟨rfl, bW⟩
  · rw [List.concat_eq_append] at I1 hn hl ⊢
    rw [endOf_add]
    have hx := hl x (by simp)
    have hx' : (x : Int) < 1000 := by omega
    rw [List.length_append, List.length_singleton] at I1 hn ⊢
    obtain ⟨m, hm⟩ : ∃ m, t.length = m := ⟨_, rfl⟩
    rw [hm] at I1 hn ⊢
    have c0 := I1 m (by omega)
    have hg : (toI (t ++ [x])).getD m 0 = (x : Int) := by rw [toI_at (by rw [List.length_append, List.length_singleton]; omega), show (t ++ [x]).getD m 0 = x by rw [← hm]; simp]
    simp only [Nat.zero_add, hg] at c0
    have hn' : (m : Int) ≤ 1000 := by omega
    obtain ⟨W, hW, b0, bW, -⟩ := boxed w 56 #[.slice (some ⟨g, 0, none⟩) (m + 1) c, .int .u64 s]
    obtain ⟨y0, y1, -⟩ := b0.open2
    have c1 := (bW.cell (p := ⟨g, m, none⟩) L1).trans c0
    have e1 : ((m + 1 : Nat) : Int) - 1 = (m : Int) := by omega
    have e2 : ¬ ((m + 1 : Nat) : Int) = 0 := by omega
    clear c0 I1 hl hm hg
    go_enter Try.func40, Try.ntmps40
    go_wp2
    go_ret
    exact ⟨by simp, bW⟩
end Go.Proofs.Ytcpeaenophaphaa
