/-
  The specification's quotient, and the law on quotients, walked.
-/
import Derived.Test.YteaeolilgdnodaiWalkQ
namespace Go.Proofs.Yteaeolilgdnodai
open Go.RowKit Fl

/-- What the region reads, and the result's box. -/
abbrev S6 (W : World) (n a b c d : Nat) (w' : World) : Prop :=
  (w'.cell? ⟨n, 0, none⟩ = some (.float .f64 a) ∧ w'.cell? ⟨n, 1, none⟩ = some (.float .f64 b) ∧ w'.cell? ⟨n + 1, 0, none⟩ = some (.float .f64 c) ∧ w'.cell? ⟨n + 1, 1, none⟩ = some (.float .f64 d) ∧
   w'.cell? ⟨n + 1 + 1, 0, none⟩ = some (.float .f64 0) ∧ w'.cell? ⟨n + 1 + 1, 1, none⟩ = some (.float .f64 0) ∧ w'.frozen? ⟨n + 1 + 1, 0, none⟩ = false ∧ w'.frozen? ⟨n + 1 + 1, 1, none⟩ = false) ∧ Below W.heap.size W w'

set_option maxHeartbeats 800000 in
theorem specDiv_any (a b c d : Nat) (w : World) :
    Calls Try.prog 9 #[.agg #[.float .f64 a, .float .f64 b], .agg #[.float .f64 c, .float .f64 d]] w fun e w' => ∃ re im, e = .returned (.agg #[.float .f64 re, .float .f64 im]) ∧ DivR a b c d re im ∧ Below w.heap.size w w' := by
  obtain ⟨V, hW, b0, b1, b2, bW⟩ := threeBoxes w 25 25 25 (.float .f64 a) (.float .f64 b) (.float .f64 c) (.float .f64 d) (.float .f64 0) (.float .f64 0)
  have mk : Hid (∀ w', Below V.heap.size V w' → S6 V w.heap.size a b c d w') := fun w' h =>
    ⟨⟨(b0.below h).open.1, (b0.below h).open.2.1, (b1.below h).open.1, (b1.below h).open.2.1, (b2.below h).open.1, (b2.below h).open.2.1, (b2.below h).open.2.2.1, (b2.below h).open.2.2.2⟩, h⟩
  have l2 := b2.lt
  clear b0 b1 b2
  go_enter Try.func9, Try.ntmps9
  go_wp2_with fail
  clear hW
  go_region_held3 (fun w' => S6 V w.heap.size a b c d w')
    (first | exact mk.out _ (Below.refl _ _).drew | (have hq : S6 _ _ _ _ _ _ _ := ‹_›; exact mk.out _ (hq.2.trans (hb3.mono hq.2.size))) | (have hq : S6 _ _ _ _ _ _ _ := ‹_›; exact mk.out _ (hq.2.alloc hq.2.size _)) | (have hq : S6 _ _ _ _ _ _ _ := ‹_›; refine mk.out _ (below_realloc hq.2 ?_ _); omega) | (have hq : S6 _ _ _ _ _ _ _ := ‹_›; refine mk.out _ ((hq.2.setCell ?_ _).setCell ?_ _) <;> first | exact Nat.le_refl _ | assumption))
    (first | (go_at_call 5; refine (specConj_any _ _ _).mono ?_; rintro e w3 ⟨rfl, hb3⟩; have hz3 : V.heap.size ≤ w3.heap.size := Nat.le_trans (Below.size (And.right (show S6 _ _ _ _ _ _ _ from ‹_›))) hb3.size; obtain ⟨hc3, hf3⟩ := bcell hb3; try have hs4 := alloc_first hb3) | (go_at_call 15; refine (specMul_any _ _ _ _ _).mono ?_; rintro e w3 ⟨p, q, rfl, hm, hb3⟩; have hz3 : V.heap.size ≤ w3.heap.size := Nat.le_trans (Below.size (And.right (show S6 _ _ _ _ _ _ _ from ‹_›))) hb3.size; obtain ⟨hc3, hf3⟩ := bcell hb3))
  all_goals
    have hq : S6 _ _ _ _ _ _ _ := ‹_›
    obtain ⟨⟨g0, g1, g2, g3, g4, g5, g6, g7⟩, hV⟩ := hq
    have hfin := bW.trans (hV.mono bW.size)
    clear hV mk
    go_wp2
    refine bodyPost_ret (v := .agg #[.float .f64 _, .float .f64 _]) (by simp [results, Try.results9, go_sem, g4, g5]; exact ⟨rfl, rfl⟩) rfl ⟨_, _, rfl, ⟨p, q, _, _, _, hm, fv_FR .., fv_FR .., fv_FR .., fv_FR .., fv_FR ..⟩, ?_⟩
    exact ((below_drewN hfin _).setCell (p := ⟨w.heap.size + 1 + 1, 0, none⟩) (by show _ ≤ w.heap.size + 1 + 1; omega) _).setCell (p := ⟨w.heap.size + 1 + 1, 1, none⟩) (by show _ ≤ w.heap.size + 1 + 1; omega) _

end Go.Proofs.Yteaeolilgdnodai
