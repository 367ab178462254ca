/-
  The library's AppendSeq at points, over whatever iterator tells them: walked.
-/
import Derived.Test.YtehbpcoiciodhaaGreatO3b
namespace Go.Proofs.YtehbpcoiciodhaaGreat
open Go.RowKit Go.Maps Go.Sort Go.Shelf

/-- What AppendSeq tells. -/
def ApP (w : World) (g0 n : Nat) (P : Nat → T3) (e : Ending) (w' : World) : Prop :=
  ∃ v, e = .returned v ∧ w'.ownsRow g0 30 3 v n (lc3 ((List.range n).map P)) ∧ v ≠ .slice none 0 0 ∧ (∀ k, v.ownBlock = some k → k = g0 ∨ w.heap.size ≤ k) ∧ Kept g0 w w'
set_option maxRecDepth 100000 in
set_option maxHeartbeats 2000000 in
theorem appendSeq3_in {w : World} {g0 n : Nat} {cur : Array Value} (P : Nat → T3) (gf : Nat) (lb : Array Value) (eg : ∀ args w, (callFunc gf args).run Tryz.prog w = .ok (.enter gf args) w) (hn : n ≤ 192) (hg : At 30 w g0 cur) (hz : cur.size = 0)
    (hseq : SeqStopsK (α := { x : Nat // x < n }) Fence.wide 1 Tryz.prog gf lb (fun y => #[tV (P y.1)]) (KpB w.heap.size g0) (fun xs => xs = upl n n) (fun _ => True) n w) :
    CallsIn Fence.wide 2 Tryz.prog 70 #[.slice (some ⟨g0, 0, none⟩) 0 0, .func (.func gf) #[] lb] w (ApP w g0 n P) := by
  have hne : (26 : Nat) ≠ 30 := by decide
  have hl0 := hg.lt
  refine callsIn_of_wp_marks Tryz.func70 rfl trivial ?_ rfl
  simp only [Tryz.ntmps70, List.size_toArray, List.length_cons, List.length_nil, Nat.reduceAdd, Nat.reduceSub, Array.replicate_succ, Array.replicate_zero, List.push_toArray, List.append_toArray, List.nil_append, List.cons_append]
  gi_wp2
  refine wpIn_rangeFunc ?_
  intro fn hfn
  obtain ⟨W0, hW0⟩ : ∃ W0, w.alloc (.cells #[.slice (some ⟨g0, 0, none⟩) 0 0] 26) = W0 := ⟨_, rfl⟩
  have hs0 : W0.heap.size = w.heap.size + 1 := by rw [← hW0]; simp
  have hv0 : W0.heap[w.heap.size]? = some (.cells #[.slice (some ⟨g0, 0, none⟩) 0 0] 26 (0, 0)) := by rw [← hW0]; exact World.alloc_heap_new w _
  have hb0 : Below w.heap.size w W0 := by rw [← hW0]; exact (Below.refl _ w).alloc (Nat.le_refl _) _
  rw [hW0]
  obtain ⟨W1, hW1⟩ : ∃ W1, (W0.alloc (.deferred (some []))).alloc (.loop (apRec3 fn (.slice (some ⟨g0, 0, none⟩) 0 0) (.func (.func gf) #[] lb) w.heap.size W0.heap.size .ready none)) = W1 := ⟨_, rfl⟩
  have hold : ∀ k, k < W0.heap.size → W1.heap[k]? = W0.heap[k]? := fun k hk => by
    rw [← hW1]; exact (Below.heap_alloc _ _ k (by simp; omega)).trans (Below.heap_alloc _ _ k hk)
  have hb1 : Below w.heap.size w W1 := by rw [← hW1]; exact (hb0.alloc hb0.size _).alloc (by have := hb0.size; simp; omega) _
  have hs1 : W1.heap.size = W0.heap.size + 2 := by rw [← hW1]; simp
  have hrow0 : W1.ownsRow g0 30 3 (.slice (some ⟨g0, 0, none⟩) 0 0) 0 [] := ⟨rfl, .inr ⟨g0, 0, cur, rfl, Nat.le_refl _, hg.below hb1, Nat.le_refl _, Nat.zero_le _, by rw [hz], by simp⟩⟩
  have hM : ApAt3 w g0 g0 fn (.slice (some ⟨g0, 0, none⟩) 0 0) (.func (.func gf) #[] lb) w.heap.size (W0.heap.size + 1) W0.heap.size [] W1 :=
    ⟨⟨_, (hold w.heap.size (by omega)).trans hv0, hrow0, ne_nil _ _ _, fun k e => by cases e; exact .inl rfl⟩,
     by rw [← hW1]; have := World.alloc_heap_new (W0.alloc (.deferred (some []))) (.loop (apRec3 fn (.slice (some ⟨g0, 0, none⟩) 0 0) (.func (.func gf) #[] lb) w.heap.size W0.heap.size .ready none)); rwa [World.size_alloc] at this,
     by rw [← hW1]; exact (Below.heap_alloc _ _ _ (by simp)).trans (World.alloc_heap_new W0 _), Kept.of_below hb1⟩
  refine ⟨W0.heap.size + 1, [{ target := .collected W0.heap.size, args := #[] }], W1, { target := .fn (.func gf) lb, args := #[.func (.yield (W0.heap.size + 1)) #[] #[]] }, W1, gf,
    #[.func (.yield (W0.heap.size + 1)) #[] #[]] ++ lb, W1, ?_, ?_, ?_, ?_, fun _ => by omega, ?_⟩
  · rw [← hW1]; exact run_enterLoop_outer _ _ _ _ _
  · simp [resolve, go_sem]
  · intro f' hf'; trivial
  · simp [invoke, go_sem, eg]
  · refine (hseq (W0.heap.size + 1) (fun pre W => ApAt3 w g0 g0 fn (.slice (some ⟨g0, 0, none⟩) 0 0) (.func (.func gf) #[] lb) w.heap.size (W0.heap.size + 1) W0.heap.size (pre.map (fun y : { x : Nat // x < n } => P y.1)) W) (fun _ _ => False) W1 hb1 (fun s A B row hs hgr hr => ap_abides3 w g0 g0 fn _ _ _ _ _ W1.heap.size hb1.size (s.map (fun y : { x : Nat // x < n } => P y.1)) A B row hs hgr hr) (fun _ _ _ _ hs _ _ => hs)
      (fun pre y W hJ hl => (apYield3 Fence.wide 0 w g0 g0 fn hfn _ _ w.heap.size (W0.heap.size + 1) W0.heap.size (by omega) (by omega) (by omega) (Nat.le_refl _) (by omega) (by omega) 192 (by unfold maxLen; omega) (by omega) _ (P y.1) W hJ (by rw [List.length_map]; omega)).mono (fun e w' ⟨h1, h2, h3⟩ => .inl ⟨h1, by rw [List.map_append]; exact h2, h3⟩)) hM).mono ?_
    rintro e W2 ⟨⟨v0, rfl⟩, (⟨xs, rfl, h2⟩ | ⟨_, _, h2⟩)⟩
    rotate_left
    · exact h2.elim
    rw [upl_map n P n (Nat.le_refl _)] at h2
    obtain ⟨v, hv, hrow, hnil, hvb⟩ := h2.box
    rw [List.length_map, List.length_range] at hrow
    have hend := run_endLoop (P := Tryz.prog) h2.L (by simp [apRec3])
    obtain ⟨W3, hW3⟩ : ∃ W3, W2.putObj (W0.heap.size + 1) (.loop { apRec3 fn (.slice (some ⟨g0, 0, none⟩) 0 0) (.func (.func gf) #[] lb) w.heap.size W0.heap.size .ready none with state := .exhausted }) = W3 := ⟨_, rfl⟩
    rw [hW3] at hend
    have hg3 : W2.grownBy W3 (some (W0.heap.size + 1)) := by rw [← hW3]; exact grownBy_putObj_a _ _ _
    have hv3 : W3.heap[w.heap.size]? = some (.cells #[v] 26 (0, 0)) := by rw [← hW3]; exact (World.putObj_heap_other (by omega)).trans hv
    have hK3 : W3.heap[W0.heap.size]? = some (.deferred (some [])) := by rw [← hW3]; exact (World.putObj_heap_other (by omega)).trans h2.K
    have hrow3 := hrow.kept hg3 (ownsRow_ne_a hrow h2.L (fun cur e => by first | cases e | exact hne (Obj.cells.inj e).2.1))
    have hb3 : Kept g0 w W3 := h2.kept.grownK hg3 (fun k e => by cases e; exact .inr (by omega))
    obtain ⟨hc3, hf3⟩ := cell_of_box_a hv3
    clear hW3
    refine ⟨none, W3, hend, ?_⟩
    gi_wp2
    rw [← hs0]
    refine ⟨by simp, .inl ⟨_, _, rfl, run_takeDeferred hK3, ?_⟩⟩
    exact ⟨_, results_tmp rfl _ _ _, v, rfl, hrow3.kept (grownBy_putObj_a _ _ _) (ownsRow_ne_a hrow3 hK3 (fun cur e => by first | cases e | exact hne (Obj.cells.inj e).2.1)), hnil, hvb, hb3.grownK (grownBy_putObj_a _ _ _) (fun k e => by cases e; exact .inr (by omega))⟩
end Go.Proofs.YtehbpcoiciodhaaGreat
