/-
  The size of a list of operators, told whole; operators told alike. For the law of Stabiliser.
-/
import Derived.Test.YtpolnkjmojofoaaGreatNB
import Derived.Test.YtpolnkjmojofoaaGreatMO
import Derived.Test.YtpolnkjmojofoaaGreatNM
namespace Go.Proofs.YtpolnkjmojofoaaGreat
open Go.RowKit

theorem arr_alike {w : World} {lo hi n : Nat} {v : Value} {f h : Nat → Int} (a : Arr w lo hi v n f) (e : ∀ i, i < n → f i = h i) : Arr w lo hi v n h := by
  rcases a with a | ⟨g, c, rfl, h1, h2, h3, cur, h4, h5⟩
  · exact .inl a
  · exact .inr ⟨g, c, rfl, h1, h2, h3, cur, h4, h5.1, fun i hi => by rw [← e i hi]; exact h5.2 i hi⟩
theorem OpsA.alike {w : World} {lo hi g n : Nat} {X Y : Nat → Value} {A A' : Nat → OpD} (h : OpsA w lo hi g n X Y A) (e : ∀ i, i < n → (A i).n = (A' i).n ∧ (A i).k = (A' i).k ∧ (∀ j, j < (A i).n → (A i).f j = (A' i).f j) ∧ ∀ j, j < (A i).k → (A i).h j = (A' i).h j) : OpsA w lo hi g n X Y A' :=
  ⟨h.blk, fun i hi => by rw [← (e i hi).1]; exact arr_alike (h.xs i hi) (e i hi).2.2.1, fun i hi => by rw [← (e i hi).2.1]; exact arr_alike (h.ys i hi) (e i hi).2.2.2, h.dj⟩
/-- The program's answer, as the specification's. -/
theorem StaQ.toP {w : World} {lo n : Nat} {v : Value} {A : Nat → OpD} {x y z : Int} (h : StaQ w lo v n A x y z) : StaP w lo v n A x y z := by
  obtain ⟨g, c, X, Y, m, rfl, hO, hm⟩ := h
  refine ⟨g, c, X, Y, m, rfl, hO.alike (fun j hj => ?_), hm⟩
  rcases hm with ⟨⟨hG, -⟩, rfl⟩ | ⟨-, rfl⟩
  · have ok := hG.2.1 _ (kI_lt hj)
    exact ⟨ok.1.symm, ok.2.1.symm, fun l hl => key_lo _ hl, fun l hl => key_hi _ l⟩
  · omega
end Go.Proofs.YtpolnkjmojofoaaGreat
/-
  The law of Stabiliser: walked.
-/
namespace Go.Proofs.YtpolnkjmojofoaaGreat
open Go.RowKit

theorem totN_nine {A : Nat → OpD} {m : Nat} (h : ∀ i, i < m → (A i).n = 9 ∧ (A i).k = 3) : totN A m = 12 * m := by
  induction m with
  | zero => rfl
  | succ m ih =>
    have h1 := h m (by omega)
    have h2 := ih (fun i hi => h i (by omega))
    simp only [totN]
    omega
/-- Both answers, with one length. -/
theorem sta_one (n : Nat) (A : Nat → OpD) (x y z : Int) : ∃ (M : Nat) (E : Nat → OpD), (∀ w lo v, StaP w lo v n A x y z → ∃ g c X Y, v = .slice (some ⟨g, 0, none⟩) M c ∧ OpsA w lo w.heap.size g M X Y E) ∧ Short M E ∧ totN E M ≤ 5000 := by
  by_cases h : isG n A ∧ inP x y z
  · have hk := kN_le (fun i => stay x y z (A i)) n
    have h192 := h.1.1
    have hok : ∀ j, j < kN (fun i => stay x y z (A i)) n → (A (kI (fun i => stay x y z (A i)) n j)).n = 9 ∧ (A (kI (fun i => stay x y z (A i)) n j)).k = 3 := fun j hj => by
      have ok := h.1.2.1 _ (kI_lt hj)
      exact ⟨ok.1, ok.2.1⟩
    refine ⟨kN (fun i => stay x y z (A i)) n, fun j => A (kI (fun i => stay x y z (A i)) n j), ?_, ⟨by omega, fun i hi => by have := hok i hi; simp only []; omega⟩, ?_⟩
    · rintro w lo v ⟨g, c, X, Y, m, e, hO, ⟨-, rfl⟩ | ⟨hn, -⟩⟩
      · exact ⟨g, c, X, Y, e, hO⟩
      · exact absurd h hn
    · rw [totN_nine hok]; omega
  · refine ⟨0, fun j => A (kI (fun i => stay x y z (A i)) n j), ?_, ⟨by omega, fun i hi => by omega⟩, by simp [totN]⟩
    rintro w lo v ⟨g, c, X, Y, m, e, hO, ⟨hy, -⟩ | ⟨-, rfl⟩⟩
    · exact absurd hy h
    · exact ⟨g, c, X, Y, e, hO⟩
end Go.Proofs.YtpolnkjmojofoaaGreat
