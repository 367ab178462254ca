/-
  A list of operators held against what it generates; the program's GroupOk. Walked.
-/
import Derived.Test.YtmjeplhigjlopaaGu
import Derived.Test.YtmjeplhigjlopaaGw
import Derived.Test.YtmjeplhigjlopaaGe
namespace Go.Proofs.Ytmjeplhigjlopaa
open Go.RowKit

/-- What groupOf tells. -/
def GrpOf (w' : World) (base n : Nat) (A : Nat → OpD) (v : Value) : Prop := (isG n A ∧ Oprs w' base v n (fun i => (A i).key)) ∨ (¬ isG n A ∧ ∃ F, Oprs w' base v 0 F)
theorem grp_empty {w : World} {base n : Nat} {A : Nat → OpD} (hn : ¬ isG n A) (hb : base ≤ w.heap.size) : GrpOf (w.alloc (.cells #[] 77)) base n A (.slice (some ⟨w.heap.size, 0, none⟩) 0 0) :=
  .inr ⟨hn, nth [], ⟨rfl, .inr ⟨w.heap.size, 0, #[], rfl, hb, at_new 77 w #[], Nat.le_refl _, Nat.zero_le _, rfl, rfl⟩⟩, ne_nil _ _ _⟩
theorem oprs_base {w : World} {base base' n : Nat} {v : Value} {F : Nat → Nat → Int} (h : Oprs w base v n F) (hb : base' ≤ base) : Oprs w base' v n F := ⟨ownsRow_base_a h.1 hb, h.2⟩
set_option maxRecDepth 100000 in
set_option maxHeartbeats 1600000 in
theorem groupOf_any {w : World} {g n c : Nat} {A : Nat → OpD} (hL : OpsL w g n A) (hn : n ≤ 1048576) :
    Calls Try.prog 46 #[.slice (some ⟨g, 0, none⟩) n c] w fun e w' => (∃ v, e = .returned v ∧ GrpOf w' w.heap.size n A v) ∧ Below w.heap.size w w' := by
  have hbs : ∀ w, (Instr.buildSlice 64 0 #[]).run Try.prog w = .ok (.slice (some ⟨w.heap.size, 0, none⟩) 0 0) (w.alloc (.cells #[] 77)) := fun _ => by kernel_rfl
  have hn' : (n : Int) ≤ 1048576 := by omega
  by_cases h192 : n ≤ 192
  · have h1 : ¬ (192 : Int) < (n : Int) := by omega
    go_enter Try.func46, Try.ntmps46
    go_wp2_with fail
    refine (operatorsOf_any hL h192).mono ?_
    rintro e w1 ⟨hor, b1⟩
    rcases hor with ⟨v, rfl, ho, hok⟩ | ⟨v, rfl, hno⟩
    · obtain ⟨gl, cl, rfl, -⟩ := Que.of_oprs ho
      go_wp2_with fail
      refine (closureOf_any ho (fun i hi => ok_R (hok i hi)) h192).mono ?_
      rintro e w2 ⟨hcl, b2⟩
      have ho2 := ho.below b2
      have B2 := b1.trans (b2.mono b1.size)
      obtain ⟨v2, m, G, rfl, hG, hm, hiff⟩ : ∃ v2 m G, e = .returned v2 ∧ Oprs w2 w1.heap.size v2 m G ∧ m ≤ 192 ∧ (n ≠ 0 → ((m = n ∧ ∀ i, i < m → lexC 12 (G i) (A i).key = 0) ↔ isG n A)) := by
        rcases hcl with ⟨v2, m, G, L, ks, rfl, hG, hm, hnd, hp, hs, hM⟩ | ⟨v2, G, rfl, hG, hno⟩
        · exact ⟨v2, m, G, rfl, hG, by rw [hm]; exact hM.grows.few, fun _ => made_iff hok h192 hm hnd hp hs hM⟩
        · exact ⟨v2, 0, G, rfl, hG, by omega, fun h0 => ⟨fun h => absurd h.1.symm h0, fun h => absurd h (noG_not hno)⟩⟩
      clear hcl
      go_wp2_with fail
      refine (equal_any hG ho2 (by omega) (by omega)).mono ?_
      rintro e w3 ⟨⟨r, rfl, hr⟩, b3⟩
      have ho3 := ho2.below b3
      have B3 := B2.trans (b3.mono B2.size)
      have hw : w.heap.size ≤ w3.heap.size := B3.size
      cases r
      · have hni : ¬ isG n A := fun h => by
          by_cases h0 : n = 0
          · obtain ⟨i, hi, -⟩ := h.2.2.2.1; omega
          · have := hr.2 ((hiff h0).2 h); cases this
        have hE := grp_empty (w := w3) hni hw
        go_wp2
        go_ret
        exact ⟨⟨_, rfl, hE⟩, B3.trans (below_alloc _ _ |>.mono B3.size)⟩
      · have hE : GrpOf w3 w.heap.size n A (.slice (some ⟨gl, 0, none⟩) n cl) := by
          by_cases h0 : n = 0
          · subst h0
            exact .inr ⟨fun h => by obtain ⟨i, hi, -⟩ := h.2.2.2.1; omega, _, oprs_base ho3 (Nat.le_refl _)⟩
          · exact .inl ⟨(hiff h0).1 (hr.1 rfl), ho3⟩
        go_wp2
        go_ret
        exact ⟨⟨_, rfl, hE⟩, B3⟩
    · have hE := grp_empty (w := w1) (n := n) (A := A) (fun h => hno h.2.1) b1.size
      go_wp2
      go_ret
      exact ⟨⟨_, rfl, hE⟩, b1.trans (below_alloc _ _ |>.mono b1.size)⟩
  · have h1 : (192 : Int) < (n : Int) := by omega
    have hE := grp_empty (w := w) (n := n) (A := A) (fun h => h192 h.1) (Nat.le_refl _)
    go_enter Try.func46, Try.ntmps46
    go_wp2
    go_ret
    exact ⟨⟨_, rfl, hE⟩, below_alloc _ _⟩
end Go.Proofs.Ytmjeplhigjlopaa
