/-
  The size of a list of operators, told whole; operators told alike. For the law of Stabiliser.
-/
import Derived.Test.YtiocneailhplkaaGreatNB
import Derived.Test.YtiocneailhplkaaGreatMO
import Derived.Test.YtiocneailhplkaaGreatNM
namespace Go.Proofs.YtiocneailhplkaaGreat
open Go.RowKit

theorem arr_alike {w : World} {lo hi n : Nat} {v : Value} {f h : Nat → Int} (a : Arr w lo hi v n f) (e : ∀ i, i < n → f i = h i) : Arr w lo hi v n h := by
  rcases a with a | ⟨g, c, rfl, h1, h2, h3, cur, h4, h5⟩
  · exact .inl a
  · exact .inr ⟨g, c, rfl, h1, h2, h3, cur, h4, h5.1, fun i hi => by rw [← e i hi]; exact h5.2 i hi⟩
theorem OpsA.alike {w : World} {lo hi g n : Nat} {X Y : Nat → Value} {A A' : Nat → OpD} (h : OpsA w lo hi g n X Y A) (e : ∀ i, i < n → (A i).n = (A' i).n ∧ (A i).k = (A' i).k ∧ (∀ j, j < (A i).n → (A i).f j = (A' i).f j) ∧ ∀ j, j < (A i).k → (A i).h j = (A' i).h j) : OpsA w lo hi g n X Y A' :=
  ⟨h.blk, fun i hi => by rw [← (e i hi).1]; exact arr_alike (h.xs i hi) (e i hi).2.2.1, fun i hi => by rw [← (e i hi).2.1]; exact arr_alike (h.ys i hi) (e i hi).2.2.2, h.dj⟩
/-- The program's answer, as the specification's. -/
theorem StaQ.toP {w : World} {lo n : Nat} {v : Value} {A : Nat → OpD} {x y z : Int} (h : StaQ w lo v n A x y z) : StaP w lo v n A x y z := by
  obtain ⟨g, c, X, Y, m, rfl, hO, hm⟩ := h
  refine ⟨g, c, X, Y, m, rfl, hO.alike (fun j hj => ?_), hm⟩
  rcases hm with ⟨⟨hG, -⟩, rfl⟩ | ⟨-, rfl⟩
  · have ok := hG.2.1 _ (kI_lt hj)
    exact ⟨ok.1.symm, ok.2.1.symm, fun l hl => key_lo _ hl, fun l hl => key_hi _ l⟩
  · omega
set_option maxRecDepth 100000 in
theorem szOpS_tot {w : World} {a : Option Addr} {n cap : Nat} {A : Nat → OpD} (hS : OpsS w a n A) (hn : n ≤ maxLen) :
    Calls Tryz.prog 13 #[.slice a n cap, .int .i64 1048576] w fun e w' => ∃ r : Int, e = .returned (.int .i64 r) ∧ (r = -1 ∨ (0 ≤ r ∧ Short n A ∧ totN A n ≤ 1048576)) ∧ Below w.heap.size w w' := by
  unfold maxLen at hn
  by_cases hb : 1048576 < n
  · have h1 : (1048576 : Int) - (n : Int) < 0 := by omega
    go_enter Tryz.func13, Tryz.ntmps13
    go_wp2
    go_ret
    exact ⟨_, rfl, .inl rfl, Below.refl _ _⟩
  · have h1 : ¬ (1048576 : Int) - (n : Int) < 0 := by omega
    go_enter Tryz.func13, Tryz.ntmps13
    go_wp2
    go_loopw [1, 5] (fun l s wr => ∃ (k : Nat) (r : Int), k ≤ n ∧ s = .int .i64 k ∧ l = .int .i64 r ∧ 0 ≤ r ∧ r + (totN A k : Int) ≤ 1048576 ∧ Hid (∀ i, i < k → (A i).n ≤ 1048576 ∧ (A i).k ≤ 1048576) ∧ Below w.heap.size w wr) (fun _ s _ => n - (intOf s).toNat)
    case atStart => exact ⟨0, _, Nat.zero_le _, rfl, rfl, by omega, by simp [totN]; omega, fun i hi => by omega, Below.refl _ _⟩
    case round =>
      obtain ⟨k, r, hk, rfl, rfl, hr0, hr1, hok, B⟩ := hrel
      by_cases hlt : k < n
      · have hlt' : (k : Int) < (n : Int) := by omega
        rcases hS.below B with h0 | ⟨g, off, rfl, hg, rr⟩
        · omega
        obtain ⟨x, c, y, d, e1, e2, s1, s2, m1, m2⟩ := rr k hlt
        obtain ⟨N, hN⟩ : ∃ N, (A k).n = N := ⟨_, rfl⟩
        obtain ⟨K, hK⟩ : ∃ N, (A k).k = N := ⟨_, rfl⟩
        rw [hN] at e1 m1
        rw [hK] at e2 m2
        clear rr s1 s2
        go_wp2_with fail
        refine (szOp_any x y N c K d r wr m1 m2 (by omega)).mono ?_
        rintro e w3 ⟨r', rfl, hr', b3⟩
        replace B := B.trans (b3.mono B.size)
        clear b3 e1 e2 m1 m2
        rcases hr' with rfl | ⟨he, hr'⟩
        · go_wp2
          go_ret
          exact ⟨_, rfl, .inl rfl, B⟩
        · have hr2 : ¬ r' < 0 := by omega
          have HO : Hid (∀ i, i < k + 1 → (A i).n ≤ 1048576 ∧ (A i).k ≤ 1048576) := fun i hi => by
            by_cases e : i = k
            · rw [e, hN, hK]; omega
            · exact hok.out i (by omega)
          have hr3 : r' + (totN A (k + 1) : Int) ≤ 1048576 := by simp only [totN]; rw [hN, hK]; omega
          clear hok he
          go_wp2
          exact ⟨⟨k + 1, r', by omega, by go_num, rfl, hr', hr3, HO, B⟩, by simp [intOf]; omega⟩
      · have hlt' : ¬ (k : Int) < (n : Int) := by omega
        obtain rfl : k = n := by omega
        go_wp2
        go_ret
        exact ⟨_, rfl, .inr ⟨hr0, ⟨by omega, hok.out⟩, by omega⟩, B⟩
end Go.Proofs.YtiocneailhplkaaGreat
/-
  The law of Stabiliser: walked.
-/
namespace Go.Proofs.YtiocneailhplkaaGreat
open Go.RowKit

theorem totN_nine {A : Nat → OpD} {m : Nat} (h : ∀ i, i < m → (A i).n = 9 ∧ (A i).k = 3) : totN A m = 12 * m := by
  induction m with
  | zero => rfl
  | succ m ih =>
    have h1 := h m (by omega)
    have h2 := ih (fun i hi => h i (by omega))
    simp only [totN]
    omega
/-- Both answers, with one length. -/
theorem sta_one (n : Nat) (A : Nat → OpD) (x y z : Int) : ∃ (M : Nat) (E : Nat → OpD), (∀ w lo v, StaP w lo v n A x y z → ∃ g c X Y, v = .slice (some ⟨g, 0, none⟩) M c ∧ OpsA w lo w.heap.size g M X Y E) ∧ Short M E ∧ totN E M ≤ 5000 := by
  by_cases h : isG n A ∧ inP x y z
  · have hk := kN_le (fun i => stay x y z (A i)) n
    have h192 := h.1.1
    have hok : ∀ j, j < kN (fun i => stay x y z (A i)) n → (A (kI (fun i => stay x y z (A i)) n j)).n = 9 ∧ (A (kI (fun i => stay x y z (A i)) n j)).k = 3 := fun j hj => by
      have ok := h.1.2.1 _ (kI_lt hj)
      exact ⟨ok.1, ok.2.1⟩
    refine ⟨kN (fun i => stay x y z (A i)) n, fun j => A (kI (fun i => stay x y z (A i)) n j), ?_, ⟨by omega, fun i hi => by have := hok i hi; simp only []; omega⟩, ?_⟩
    · rintro w lo v ⟨g, c, X, Y, m, e, hO, ⟨-, rfl⟩ | ⟨hn, -⟩⟩
      · exact ⟨g, c, X, Y, e, hO⟩
      · exact absurd h hn
    · rw [totN_nine hok]; omega
  · refine ⟨0, fun j => A (kI (fun i => stay x y z (A i)) n j), ?_, ⟨by omega, fun i hi => by omega⟩, by simp [totN]⟩
    rintro w lo v ⟨g, c, X, Y, m, e, hO, ⟨hy, -⟩ | ⟨-, rfl⟩⟩
    · exact absurd hy h
    · exact ⟨g, c, X, Y, e, hO⟩
end Go.Proofs.YtiocneailhplkaaGreat
