/-
  Lists of operators, by the specification: are all right; where does one stand. Walked.
-/
import Derived.Test.YtmjeplhigjlopaaOpc
import Derived.Test.YtmjeplhigjlopaaCmpMath
namespace Go.Proofs.Ytmjeplhigjlopaa
open Go.RowKit

/-- An operator, right or not: how long its lists are, and what they hold. -/
structure OpD where
  n : Nat
  f : Nat → Int
  k : Nat
  h : Nat → Int
/-- Its twelve numbers, if it is right. -/
def OpD.key (o : OpD) : Nat → Int := cat 9 o.f o.h
def OpD.ok (o : OpD) : Prop := isOp o.n o.f o.k o.h
/-- The call tells whether it is so. -/
def Tells (e : Ending) (P : Prop) : Prop := ∃ b : Bool, e = .returned (.bool b) ∧ (b = true ↔ P)
theorem tells_yes {P : Prop} (h : P) : Tells (.returned (.bool true)) P := ⟨true, rfl, ⟨fun _ => h, fun _ => rfl⟩⟩
theorem tells_no {P : Prop} (h : ¬ P) : Tells (.returned (.bool false)) P := ⟨false, rfl, ⟨fun x => absurd x (by decide), fun x => absurd x h⟩⟩
/-- A list of operators. -/
def OpsL (w : World) (g n : Nat) (A : Nat → OpD) : Prop :=
  g < w.heap.size ∧ ∀ i, i < n → ∃ a c b d, w.cell? ⟨g, i * 2, none⟩ = some (.slice a (A i).n c) ∧ w.cell? ⟨g, i * 2 + 1, none⟩ = some (.slice b (A i).k d) ∧ Src w a (A i).n (A i).f ∧ Src w b (A i).k (A i).h
theorem OpsL.below {w w' : World} {g n : Nat} {A : Nat → OpD} (h : OpsL w g n A) (hb : Below w.heap.size w w') : OpsL w' g n A := by
  refine ⟨Nat.lt_of_lt_of_le h.1 hb.size, fun i hi => ?_⟩
  obtain ⟨a, c, b, d, e1, e2, s1, s2⟩ := h.2 i hi
  exact ⟨a, c, b, d, (hb.cell (p := ⟨g, i * 2, none⟩) h.1).trans e1, (hb.cell (p := ⟨g, i * 2 + 1, none⟩) h.1).trans e2, s1.below hb, s2.below hb⟩
set_option maxRecDepth 100000 in
theorem l4Ops_any {w : World} {g n c : Nat} {A : Nat → OpD} (hL : OpsL w g n A) (hn : n ≤ 1048576) :
    Calls Try.prog 35 #[.slice (some ⟨g, 0, none⟩) n c] w fun e w' => Tells e (∀ i, i < n → (A i).ok) ∧ Below w.heap.size w w' := by
  have hn' : (n : Int) ≤ 1048576 := by omega
  go_enter Try.func35, Try.ntmps35
  go_wp2
  go_loopw [3] (fun s wr => ∃ k : Nat, k ≤ n ∧ s = .int .i64 k ∧ Hid (∀ i, i < k → (A i).ok) ∧ Below w.heap.size w wr) (fun s _ => n - (intOf s).toNat)
  case atStart => exact ⟨0, Nat.zero_le _, rfl, fun i hi => by omega, Below.refl _ _⟩
  case round =>
    obtain ⟨k, hk, rfl, hok, B⟩ := hrel
    by_cases hlt : k < n
    · have hlt' : (k : Int) < (n : Int) := by omega
      obtain ⟨a, c1, b, d, e1, e2, s1, s2⟩ := (hL.below B).2 k hlt
      obtain ⟨N, hN⟩ : ∃ N, (A k).n = N := ⟨_, rfl⟩
      obtain ⟨K, hK⟩ : ∃ N, (A k).k = N := ⟨_, rfl⟩
      rw [hN] at e1 s1
      rw [hK] at e2 s2
      go_wp2_with fail
      refine (specOk_any c1 d s1 s2).mono ?_
      rintro e w3 ⟨rfl, b3⟩
      clear e1 e2
      replace B := B.trans (b3.mono B.size)
      have hiff : isOp N (A k).f K (A k).h ↔ (A k).ok := by rw [← hN, ← hK]; exact Iff.rfl
      by_cases ho : isOp N (A k).f K (A k).h
      · simp only [decide_eq_true ho]
        have HO : Hid (∀ i, i < k + 1 → (A i).ok) := fun i hi => by
          by_cases e : i = k
          · rw [e]; exact hiff.1 ho
          · exact hok.out i (by omega)
        clear hiff s1 s2 b3
        go_wp2
        exact ⟨⟨k + 1, by omega, by go_num, HO, B⟩, by simp [intOf]; omega⟩
      · simp only [decide_eq_false ho]
        have HO : Hid (¬ ∀ i, i < n → (A i).ok) := fun h => ho (hiff.2 (h k hlt))
        clear hiff s1 s2 b3 hok
        go_wp2
        go_ret
        exact ⟨tells_no HO.out, B⟩
    · have hlt' : ¬ (k : Int) < (n : Int) := by omega
      obtain rfl : k = n := by omega
      go_wp2
      go_ret
      exact ⟨tells_yes hok.out, B⟩
end Go.Proofs.Ytmjeplhigjlopaa
