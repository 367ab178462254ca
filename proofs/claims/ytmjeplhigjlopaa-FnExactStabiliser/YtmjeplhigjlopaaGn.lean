/-
  A map's operators, sorted, as the library and the program do it; walked.
-/
import Derived.Test.YtmjeplhigjlopaaGm
import Derived.Test.YtmjeplhigjlopaaGs
namespace Go.Proofs.Ytmjeplhigjlopaa
open Go.RowKit Go.Maps Go.Sort Go.Shelf

theorem keys_gives (F : Fence) (n : Nat) (h80 : F.fn 104) (hro : F.round = none) (hn : 1 ≤ n) (Bm b : Nat) (ks : List (Nat → Int)) (hks : ∀ k ∈ ks, small k) (w : World) (hBm : Bm < w.heap.size)
    (hm : w.cell? ⟨Bm, 0, none⟩ = some (.map (some b))) (hmv : MapV w b ks) :
    SeqGives F n Try.prog 104 #[.pointer (some ⟨Bm, 0, none⟩)] kV (fun ls => (ls.map kV).Perm (ks.map kV)) ks.length w := fun l J W hW hJ hY h0 =>
  keys80_in F n h80 hro hn l Bm b ks hks J hY W hJ ((hW.cell (p := ⟨Bm, 0, none⟩) hBm).trans hm) (hmv.below hW) h0
set_option maxRecDepth 100000 in
set_option maxHeartbeats 2000000 in
theorem appendSeq_in (F : Fence) (n : Nat) (h94 : F.fn 117) (hro : F.round = none) (hn : 2 ≤ n) (g : Nat) (lb : Array Value) (hFg : F.fn g) (eg : ∀ args w, (callFunc g args).run Try.prog w = .ok (.enter g args) w)
    (S : List (Nat → Int) → Prop) (N : Nat) (hN : N ≤ maxLen) (hNb : N * 96 ≤ 140737488355328) (w : World) (hseq : SeqGives F (n - 1) Try.prog g lb kV S N w) :
    CallsIn F n Try.prog 117 #[.slice none 0 0, .func (.func g) #[] lb] w fun e w' => ∃ (v : Value) (ss : List (Nat → Int)), e = .returned v ∧ S ss ∧ w'.ownsRow w.heap.size 77 12 v ss.length (lc ss) ∧ (v = .slice none 0 0 ↔ ss = []) ∧ Below w.heap.size w w' := by
  have h1 : 1 ≤ n := by omega
  have hne : (64 : Nat) ≠ 77 := by decide
  refine callsIn_of_wp_marks Try.func117 rfl h94 ?_ hro
  simp only [Try.ntmps117, List.size_toArray, List.length_cons, List.length_nil, Nat.reduceAdd, Nat.reduceSub, Array.replicate_succ, Array.replicate_zero, List.push_toArray, List.append_toArray, List.nil_append, List.cons_append]
  gi_wp2
  refine wpIn_rangeFunc ?_
  intro fn hfn
  rw [hro]
  obtain ⟨W0, hW0⟩ : ∃ W0, w.alloc (.cells #[.slice none 0 0] 64) = W0 := ⟨_, rfl⟩
  have hs0 : W0.heap.size = w.heap.size + 1 := by rw [← hW0]; simp
  have hv0 : W0.heap[w.heap.size]? = some (.cells #[.slice none 0 0] 64 (0, 0)) := by rw [← hW0]; exact World.alloc_heap_new w _
  have hb0 : Below w.heap.size w W0 := by rw [← hW0]; exact (Below.refl _ w).alloc (Nat.le_refl _) _
  rw [hW0]
  obtain ⟨W1, hW1⟩ : ∃ W1, (W0.alloc (.deferred (some []))).alloc (.loop (apRec fn (.func (.func g) #[] lb) w.heap.size W0.heap.size .ready none)) = W1 := ⟨_, rfl⟩
  have hold : ∀ k, k < W0.heap.size → W1.heap[k]? = W0.heap[k]? := fun k hk => by
    rw [← hW1]; exact (Below.heap_alloc _ _ k (by simp; omega)).trans (Below.heap_alloc _ _ k hk)
  have hb1 : Below w.heap.size w W1 := by rw [← hW1]; exact (hb0.alloc hb0.size _).alloc (by have := hb0.size; simp; omega) _
  have hs1 : W1.heap.size = W0.heap.size + 2 := by rw [← hW1]; simp
  have hM : ApAt w fn (.func (.func g) #[] lb) w.heap.size (W0.heap.size + 1) W0.heap.size [] W1 :=
    ⟨⟨_, (hold w.heap.size (by omega)).trans hv0, ⟨rfl, .inl ⟨rfl, rfl⟩⟩, by simp⟩,
     by rw [← hW1]; have := World.alloc_heap_new (W0.alloc (.deferred (some []))) (.loop (apRec fn (.func (.func g) #[] lb) w.heap.size W0.heap.size .ready none)); rwa [World.size_alloc] at this,
     by rw [← hW1]; exact (Below.heap_alloc _ _ _ (by simp)).trans (World.alloc_heap_new W0 _), hb1⟩
  refine ⟨W0.heap.size + 1, [{ target := .collected W0.heap.size, args := #[] }], W1, { target := .fn (.func g) lb, args := #[.func (.yield (W0.heap.size + 1)) #[] #[]] }, W1, g,
    #[.func (.yield (W0.heap.size + 1)) #[] #[]] ++ lb, W1, ?_, ?_, ?_, ?_, fun _ => h1, ?_⟩
  · rw [← hW1]; exact run_enterLoop_outer _ _ _ _ _
  · simp [resolve, go_sem]
  · intro f' hf'; simp [Target.leads] at hf'; subst hf'; exact hFg
  · simp [invoke, go_sem, eg]
  · refine (hseq (W0.heap.size + 1) (ApAt w fn (.func (.func g) #[] lb) w.heap.size (W0.heap.size + 1) W0.heap.size) W1 hb1 (ap_abides _ _ _ _ _ _ _ hb1.size)
      (fun pre x W hJ hl => apYield F (n - 1 - 1) w fn hfn _ w.heap.size (W0.heap.size + 1) W0.heap.size (by omega) (by omega) (by omega) (Nat.le_refl _) (by omega) N hN hNb pre x W hJ hl) hM).mono ?_
    rintro e W2 ⟨⟨v0, rfl⟩, ss, hS, h2⟩
    obtain ⟨v, hv, hrow, hnil⟩ := h2.box
    have hend := run_endLoop (P := Try.prog) h2.L (by simp [apRec])
    obtain ⟨W3, hW3⟩ : ∃ W3, W2.putObj (W0.heap.size + 1) (.loop { apRec fn (.func (.func g) #[] lb) w.heap.size W0.heap.size .ready none with state := .exhausted }) = W3 := ⟨_, rfl⟩
    rw [hW3] at hend
    have hg3 : W2.grownBy W3 (some (W0.heap.size + 1)) := by rw [← hW3]; exact grownBy_putObj_a _ _ _
    have hv3 : W3.heap[w.heap.size]? = some (.cells #[v] 64 (0, 0)) := by rw [← hW3]; exact (World.putObj_heap_other (by omega)).trans hv
    have hK3 : W3.heap[W0.heap.size]? = some (.deferred (some [])) := by rw [← hW3]; exact (World.putObj_heap_other (by omega)).trans h2.K
    have hrow3 := hrow.kept hg3 (ownsRow_ne_a hrow h2.L (fun cur e => by first | cases e | exact hne (Obj.cells.inj e).2.1))
    have hb3 : Below w.heap.size w W3 := h2.below.grown hg3 h2.below.size (fun k e => by cases e; omega)
    obtain ⟨hc3, hf3⟩ := cell_of_box_a hv3
    clear hW3
    refine ⟨none, W3, hend, ?_⟩
    gi_wp2
    rw [← hs0]
    refine ⟨by simp, .inl ⟨_, _, rfl, run_takeDeferred hK3, ?_⟩⟩
    exact ⟨_, results_tmp rfl _ _ _, v, ss, rfl, hS, hrow3.kept (grownBy_putObj_a _ _ _) (ownsRow_ne_a hrow3 hK3 (fun cur e => by first | cases e | exact hne (Obj.cells.inj e).2.1)), hnil, hb3.grown (grownBy_putObj_a _ _ _) hb3.size (fun k e => by cases e; omega)⟩
theorem enters94 : ∀ args w, (callFunc 117 args).run Try.prog w = .ok (.enter 117 args) w := fun _ _ => by kernel_rfl
theorem enters80 : ∀ args w, (callFunc 104 args).run Try.prog w = .ok (.enter 104 args) w := fun _ _ => by kernel_rfl
set_option maxHeartbeats 1000000 in
theorem collect_any (S : List (Nat → Int) → Prop) (lb : Array Value) (N : Nat) (hN : N ≤ 100000) (w : World) (hseq : SeqGives Fence.wide 2 Try.prog 104 lb kV S N w) :
    Calls Try.prog 103 #[.func (.func 104) #[] lb] w fun e w' => ∃ (v : Value) (ss : List (Nat → Int)), e = .returned v ∧ S ss ∧ w'.ownsRow w.heap.size 77 12 v ss.length (lc ss) ∧ (v = .slice none 0 0 ↔ ss = []) ∧ Below w.heap.size w w' := by
  have H := (callsIn_wide (n := 3)).1 (appendSeq_in Fence.wide 3 trivial rfl (by omega) 104 lb trivial enters80 S N (by unfold maxLen; omega) (by omega) w hseq)
  go_enter Try.func103, Try.ntmps103
  go_wp2_with fail
  refine H.mono ?_
  rintro e w' ⟨v, ss, rfl, hS, hrow, hnil, hb⟩
  go_wp2
  go_ret
  exact ⟨v, ss, rfl, hS, hrow, hnil, hb⟩
theorem keys_any (b : Nat) (w : World) : Calls Try.prog 91 #[.map (some b)] w fun e w' => e = .returned (.func (.func 104) #[] #[.pointer (some ⟨w.heap.size, 0, none⟩)]) ∧ w' = w.alloc (.cells #[.map (some b)] 83) := by
  go_enter Try.func91, Try.ntmps91
  go_wp2
  go_ret
  exact ⟨rfl, rfl⟩
/-- A list, by places. -/
def nth (l : List (Nat → Int)) (i : Nat) : Nat → Int := l.getD i (fun _ => 0)
theorem lc_kCells (l : List (Nat → Int)) : lc l = kCells (nth l) l.length := by
  have h : ∀ n, n ≤ l.length → lc (l.take n) = kCells (nth l) n := by
    intro n
    induction n with
    | zero => intro _; rfl
    | succ n ih =>
      intro hn
      have e : l.take (n + 1) = l.take n ++ [nth l n] := by
        rw [List.take_add_one]
        simp [nth, List.getD_eq_getElem?_getD, List.getElem?_eq_getElem (show n < l.length by omega)]
      rw [e, lc_snoc, ih (by omega)]
      rfl
  have := h l.length (Nat.le_refl _)
  rwa [List.take_length] at this
theorem map_nth (l : List (Nat → Int)) : (List.range l.length).map (nth l) = l := by
  apply List.ext_getElem
  · simp
  · intro i h1 h2
    simp [nth, List.getD_eq_getElem?_getD, h2]
set_option maxHeartbeats 1000000 in
theorem sortedFunc_any {w : World} {b Bm : Nat} {ks : List (Nat → Int)} (hm : MapV w b ks) (hks : ∀ k ∈ ks, small k) (hBm : Bm < w.heap.size) (hc : w.cell? ⟨Bm, 0, none⟩ = some (.map (some b))) (hne : ks ≠ []) (hl : ks.length ≤ 1000) :
    Calls Try.prog 90 #[.func (.func 104) #[] #[.pointer (some ⟨Bm, 0, none⟩)], .func (.func 77) #[] #[]] w fun e w' => ∃ v G, e = .returned v ∧ Oprs w' w.heap.size v ks.length G ∧ (((List.range ks.length).map G).map kV).Perm (ks.map kV) ∧ (∀ i j, i < j → j < ks.length → ¬ lexC 12 (G j) (G i) < 0) ∧ Below w.heap.size w w' := by
  have H := collect_any (fun ls => (ls.map kV).Perm (ks.map kV)) #[.pointer (some ⟨Bm, 0, none⟩)] ks.length (by omega) w (keys_gives Fence.wide 2 trivial rfl (by omega) Bm b ks hks w hBm hc hm)
  go_enter Try.func90, Try.ntmps90
  go_wp2_with fail
  refine H.mono ?_
  rintro e w1 ⟨v, ss, rfl, hS, hrow, hnil, hb⟩
  have hlen : ss.length = ks.length := by have := hS.length_eq; simpa using this
  have ho : Oprs w1 w.heap.size v ks.length (nth ss) := by
    refine ⟨?_, fun e => ?_⟩
    · rw [lc_kCells, hlen] at hrow
      exact hrow
    · have := hnil.1 e
      rw [this] at hlen
      exact hne (List.length_eq_zero_iff.1 hlen.symm)
  clear hrow hnil H
  go_wp2_with fail
  refine (sort_any ho (by omega)).mono ?_
  rintro e w2 ⟨rfl, ⟨G, hG, hp, hs⟩, hg⟩
  go_wp2
  go_ret
  refine ⟨v, rfl, G, hG, ?_, hs, hb.grown hg hb.size (fun k e => ownBlock_ge ho.1 e)⟩
  have h2 : (List.range ks.length).map (nth ss) = ss := by rw [← hlen]; exact map_nth ss
  rw [h2] at hp
  simpa using (hp.map kV).trans hS
set_option maxHeartbeats 1000000 in
theorem sorted_any {w : World} {b : Nat} {ks : List (Nat → Int)} (hm : MapV w b ks) (hks : ∀ k ∈ ks, small k) (hne : ks ≠ []) (hl : ks.length ≤ 1000) :
    Calls Try.prog 68 #[.map (some b)] w fun e w' => ∃ v G, e = .returned v ∧ Oprs w' w.heap.size v ks.length G ∧ (((List.range ks.length).map G).map kV).Perm (ks.map kV) ∧ (∀ i j, i < j → j < ks.length → ¬ lexC 12 (G j) (G i) < 0) ∧ Below w.heap.size w w' := by
  go_enter Try.func68, Try.ntmps68
  go_wp2_with fail
  refine (keys_any b w).mono ?_
  rintro e w1 ⟨rfl, rfl⟩
  have hb1 : Below w.heap.size w (w.alloc (.cells #[.map (some b)] 83)) := below_alloc _ _
  have hc : (w.alloc (.cells #[.map (some b)] 83)).cell? ⟨w.heap.size, 0, none⟩ = some (.map (some b)) := (at_new 83 w #[.map (some b)]).cell 0 rfl
  have hlt : w.heap.size < (w.alloc (.cells #[.map (some b)] 83)).heap.size := by simp
  obtain ⟨w1, hw1⟩ : ∃ w1, w.alloc (.cells #[.map (some b)] 83) = w1 := ⟨_, rfl⟩
  rw [hw1] at hb1 hc hlt ⊢
  go_wp2_with fail
  refine (sortedFunc_any (hm.below hb1) hks hlt hc hne hl).mono ?_
  rintro e w2 ⟨v, G, rfl, hG, hp, hs, hb⟩
  go_wp2
  go_ret
  exact ⟨v, rfl, G, ⟨ownsRow_base_a hG.1 hb1.size, hG.2⟩, by simpa using hp, hs, hb1.trans (hb.mono hb1.size)⟩
end Go.Proofs.Ytmjeplhigjlopaa
