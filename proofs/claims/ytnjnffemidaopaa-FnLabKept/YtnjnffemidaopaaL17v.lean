/-
  A right lab stays right: mathematics. No walk.
-/
import Derived.Test.YtnjnffemidaopaaL17p
namespace Go.Proofs.Ytnjnffemidaopaa
open Go.RowKit

theorem ins_lo {f : Nat → Int} {p i : Nat} {x y z : Int} (h : i < p * 3) : ins f p x y z i = f i := by unfold ins; rw [if_pos h]
theorem ins_hi {f : Nat → Int} {p i : Nat} {x y z : Int} (h : p * 3 ≤ i) : ins f p x y z (i + 3) = f i := by
  unfold ins
  rw [if_neg (by omega), if_neg (by omega), if_neg (by omega), if_neg (by omega), Nat.add_sub_cancel]
theorem ins_0 {f : Nat → Int} {p : Nat} {x y z : Int} : ins f p x y z (p * 3) = x := by unfold ins; rw [if_neg (by omega), if_pos rfl]
theorem ins_1 {f : Nat → Int} {p : Nat} {x y z : Int} : ins f p x y z (p * 3 + 1) = y := by unfold ins; rw [if_neg (by omega), if_neg (by omega), if_pos rfl]
theorem ins_2 {f : Nat → Int} {p : Nat} {x y z : Int} : ins f p x y z (p * 3 + 2) = z := by unfold ins; rw [if_neg (by omega), if_neg (by omega), if_neg (by omega), if_pos rfl]
theorem cnt_congr {q : Int} {f h : Nat → Int} : ∀ n, (∀ i, i < n → f (i * 3 + 1) = h (i * 3 + 1)) → cnt q f n = cnt q h n
  | 0, _ => rfl
  | n + 1, e => by
    simp only [cnt]
    rw [cnt_congr n (fun i hi => e i (by omega)), e n (by omega)]
theorem cnt_ins {q : Int} {f : Nat → Int} {p : Nat} {x y z : Int} : ∀ n, p ≤ n → cnt q (ins f p x y z) (n + 1) = cnt q f n + if y = q then 1 else 0
  | 0, h => by
    obtain rfl : p = 0 := by omega
    simp only [cnt]
    rw [show (0 : Nat) * 3 + 1 = 0 * 3 + 1 from rfl, ins_1]
  | n + 1, h => by
    by_cases e : p = n + 1
    · subst e
      show cnt q (ins f (n + 1) x y z) (n + 1) + _ = _
      rw [cnt_congr (n + 1) (h := f) (fun i hi => ins_lo (by omega)), ins_1]
    · show cnt q (ins f p x y z) (n + 1) + _ = (cnt q f n + _) + _
      rw [cnt_ins n (by omega), show (n + 1) * 3 + 1 = (n * 3 + 1) + 3 by omega, ins_hi (by omega)]
      omega
theorem cnt_upd {q v : Int} {f : Nat → Int} {p : Nat} : ∀ n, cnt q (upd f (p * 3 + 1) v) n ≤ cnt q f n + if v = q ∧ p < n then 1 else 0
  | 0 => by simp [cnt]
  | n + 1 => by
    have ih := cnt_upd (q := q) (v := v) (f := f) (p := p) n
    simp only [cnt]
    by_cases e : n = p
    · subst e
      have e0 : ¬ (v = q ∧ n < n) := by omega
      rw [if_neg e0] at ih
      have e1 : upd f (n * 3 + 1) v (n * 3 + 1) = v := by simp [upd]
      rw [e1]
      have e2 : (v = q ∧ n < n + 1) ↔ v = q := ⟨fun k => k.1, fun k => ⟨k, by omega⟩⟩
      simp only [e2]
      split <;> split <;> omega
    · have e1 : upd f (p * 3 + 1) v (n * 3 + 1) = f (n * 3 + 1) := by unfold upd; rw [if_neg (by omega)]
      rw [e1]
      have e2 : (v = q ∧ p < n + 1) ↔ (v = q ∧ p < n) := ⟨fun k => ⟨k.1, by omega⟩, fun k => ⟨k.1, by omega⟩⟩
      simp only [e2]
      omega
theorem cnt_free {q : Int} {f : Nat → Int} : ∀ n, (∀ i, i < n → f (i * 3 + 1) ≠ q) → cnt q f n = 0
  | 0, _ => rfl
  | n + 1, h => by
    simp only [cnt]
    rw [cnt_free n (fun i hi => h i (by omega)), if_neg (h n (by omega))]
theorem upd_ne {f : Nat → Int} {i j : Nat} {v : Int} (h : j ≠ i) : upd f i v j = f j := by unfold upd; rw [if_neg h]
theorem upd_eq {f : Nat → Int} {i : Nat} {v : Int} : upd f i v i = v := by unfold upd; rw [if_pos rfl]
/-- A place turned: still samples of a right lab. -/
theorem SmOk.move {n p : Nat} {f : Nat → Int} {v : Int} (h : SmOk n f) (hv : 1 ≤ v ∧ v ≤ 4) (h2 : v = 2 → ∀ i, i < n → f (i * 3 + 1) ≠ 2) (h3 : v = 3 → ∀ i, i < n → f (i * 3 + 1) ≠ 3) : SmOk n (upd f (p * 3 + 1) v) := by
  obtain ⟨a1, a2, a3, a4, a5⟩ := h
  refine ⟨a1, fun i hi => ?_, fun i hi => ?_, ?_, ?_⟩
  · have := a2 i hi
    rw [upd_ne (by omega), upd_ne (show i * 3 + 2 ≠ p * 3 + 1 by omega)]
    by_cases e : i = p
    · subst e
      rw [upd_eq]
      exact ⟨this.1, hv, this.2.2⟩
    · rw [upd_ne (by omega)]
      exact this
  · rw [upd_ne (by omega), upd_ne (by omega)]
    exact a3 i hi
  · have := cnt_upd (q := 2) (v := v) (f := f) (p := p) n
    by_cases e : v = 2
    · have := cnt_free n (h2 e)
      split at * <;> omega
    · rw [if_neg (fun k => e k.1)] at this
      omega
  · have := cnt_upd (q := 3) (v := v) (f := f) (p := p) n
    by_cases e : v = 3
    · have := cnt_free n (h3 e)
      split at * <;> omega
    · rw [if_neg (fun k => e k.1)] at this
      omega
theorem JbOk.ids {m n : Nat} {g f h : Nat → Int} (H : JbOk m g n f) (e : ∀ i, i < n → h (i * 3) = f (i * 3)) : JbOk m g n h := by
  refine ⟨H.1, fun i hi => ?_⟩
  obtain ⟨a, ⟨k, k1, k2⟩, c⟩ := H.2 i hi
  exact ⟨a, ⟨k, k1, by rw [e k k1]; exact k2⟩, c⟩
theorem told_congr {g h : Nat → Int} : ∀ m, (∀ i, i < m → (if g (i * 4 + 3) = 2 then g (i * 4 + 2) else 0) = (if h (i * 4 + 3) = 2 then h (i * 4 + 2) else 0)) → told g m = told h m
  | 0, _ => rfl
  | m + 1, e => by
    simp only [told]
    rw [told_congr m (fun i hi => e i (by omega)), e m (by omega)]
theorem told_done {g : Nat → Int} {j : Nat} (hs : g (j * 4 + 3) ≠ 2) : ∀ m, j < m → told (upd g (j * 4 + 3) 2) m = told g m + g (j * 4 + 2)
  | 0, h => by omega
  | m + 1, h => by
    simp only [told]
    by_cases e : m = j
    · subst e
      rw [told_congr m (h := g) (fun i hi => by rw [upd_ne (by omega), upd_ne (by omega)]), upd_eq, if_pos rfl, upd_ne (by omega), if_neg hs]
      omega
    · rw [told_done hs m (by omega), upd_ne (by omega), upd_ne (by omega)]
      omega
/-- Jobs whose states alone turn, to right ones. -/
theorem JbOk.states {m n : Nat} {g h f : Nat → Int} (H : JbOk m g n f) (e0 : ∀ i, i < m → h (i * 4) = g (i * 4)) (e1 : ∀ i, i < m → h (i * 4 + 1) = g (i * 4 + 1)) (e2 : ∀ i, i < m → h (i * 4 + 2) = g (i * 4 + 2)) (e3 : ∀ i, i < m → 1 ≤ h (i * 4 + 3) ∧ h (i * 4 + 3) ≤ 3) : JbOk m h n f := by
  refine ⟨H.1, fun i hi => ?_⟩
  obtain ⟨a, b, c⟩ := H.2 i hi
  rw [jOk, e0 i hi, e1 i hi, e2 i hi]
  refine ⟨⟨a.1, a.2.1, a.2.2.1, e3 i hi⟩, b, fun j hj k => c j hj ?_⟩
  unfold isJ at k ⊢
  rw [e0 j (by omega), e1 j (by omega)] at k
  exact k
/-- A right lab stays right. -/
theorem nxt_ok {n m p j : Nat} {f g : Nat → Int} {T K s o a : Int} {ys yj : Bool} (H : LbOk n f m g T) (F : Fnd n f m g s o p ys j yj) (D : dOk K s o a) (hc : codeR n f m g K p ys j yj = 0) :
    LbOk (nxt n f m g T K s o a p j).n (nxt n f m g T K s o a p j).f (nxt n f m g T K s o a p j).m (nxt n f m g T K s o a p j).g (nxt n f m g T K s o a p j).T := by
  obtain ⟨S, J, rfl⟩ := H
  have hp := F.pl
  by_cases k1 : K = 1
  · subst k1
    rw [codeR, if_pos rfl] at hc
    by_cases e : n = 100
    · rw [if_pos e] at hc; omega
    rw [if_neg e] at hc
    have hys : ¬ (p < n ∧ f (p * 3) = s) := by
      cases ys
      · exact iff_no F.sy
      · simp at hc
    have hne : ∀ i, i < n → f (i * 3) ≠ s := fun i hi k => hys ((hp.find S.rise).2 ⟨i, hi, k⟩)
    have ha := D.2.2.1 rfl
    show LbOk (n + 1) (ins f p s 1 a) m g (told g m)
    obtain ⟨a1, a2, a3, a4, a5⟩ := S
    obtain ⟨b1, b2, b3⟩ := hp
    refine ⟨⟨by omega, fun i hi => ?_, fun i hi => ?_, ?_, ?_⟩, ⟨J.1, fun i hi => ?_⟩, rfl⟩
    · by_cases l : i < p
      · rw [ins_lo (by omega), ins_lo (by omega), ins_lo (by omega)]
        exact a2 i (by omega)
      · by_cases e2 : i = p
        · subst e2
          rw [ins_0, ins_1, ins_2]
          exact ⟨D.2.1, by omega, ha⟩
        · obtain ⟨i', rfl⟩ : ∃ i', i = i' + 1 := ⟨i - 1, by omega⟩
          rw [show (i' + 1) * 3 = i' * 3 + 3 by omega, show i' * 3 + 3 + 1 = i' * 3 + 1 + 3 by omega, show i' * 3 + 3 + 2 = i' * 3 + 2 + 3 by omega, ins_hi (by omega), ins_hi (by omega), ins_hi (by omega)]
          exact a2 i' (by omega)
    · by_cases l : i + 1 < p
      · rw [ins_lo (by omega), ins_lo (by omega)]
        exact a3 i (by omega)
      · by_cases e2 : i + 1 = p
        · subst e2
          rw [ins_lo (by omega), ins_0]
          exact b2 i (by omega)
        · by_cases e3 : i = p
          · subst e3
            rw [ins_0, show (i + 1) * 3 = i * 3 + 3 by omega, ins_hi (by omega)]
            have h1 := b3 i (Nat.le_refl _) (by omega)
            have h2 := hne i (by omega)
            omega
          · obtain ⟨i', rfl⟩ : ∃ i', i = i' + 1 := ⟨i - 1, by omega⟩
            rw [show (i' + 1) * 3 = i' * 3 + 3 by omega, show (i' + 1 + 1) * 3 = (i' + 1) * 3 + 3 by omega, ins_hi (by omega), ins_hi (by omega)]
            exact a3 i' (by omega)
    · rw [cnt_ins n b1, if_neg (by decide)]; exact a4
    · rw [cnt_ins n b1, if_neg (by decide)]; exact a5
    · obtain ⟨c1, ⟨k, c2, c3⟩, c4⟩ := J.2 i hi
      refine ⟨c1, ?_, c4⟩
      by_cases l : k < p
      · exact ⟨k, by omega, by rw [ins_lo (by omega)]; exact c3⟩
      · exact ⟨k + 1, by omega, by rw [show (k + 1) * 3 = k * 3 + 3 by omega, ins_hi (by omega)]; exact c3⟩
  by_cases k2 : K = 2
  · subst k2
    rw [codeR, if_neg (by decide), if_pos rfl] at hc
    by_cases e : m = 300
    · rw [if_pos e] at hc; omega
    rw [if_neg e] at hc
    cases yj
    case true => simp at hc
    cases ys
    case false => simp at hc
    have hx := F.sy.1 rfl
    have hj := F.jn rfl
    obtain ⟨ho, ha⟩ := D.2.2.2.1 rfl
    show LbOk n f (m + 1) (cat g (m * 4) (four s o a 1)) (told g m)
    have lo : ∀ i, i < m * 4 → cat g (m * 4) (four s o a 1) i = g i := fun i hi => by unfold cat; rw [if_pos hi]
    have hi4 : ∀ r, cat g (m * 4) (four s o a 1) (m * 4 + r) = four s o a 1 r := fun r => by unfold cat; rw [if_neg (by omega), Nat.add_sub_cancel_left]
    have h0 : cat g (m * 4) (four s o a 1) (m * 4) = s := by have := hi4 0; simpa [four] using this
    have h1 : cat g (m * 4) (four s o a 1) (m * 4 + 1) = o := by have := hi4 1; simpa [four] using this
    have h2 : cat g (m * 4) (four s o a 1) (m * 4 + 2) = a := by have := hi4 2; simpa [four] using this
    have h3 : cat g (m * 4) (four s o a 1) (m * 4 + 3) = 1 := by have := hi4 3; simpa [four] using this
    refine ⟨S, ⟨by have := J.1; omega, fun i hi => ?_⟩, ?_⟩
    · by_cases e2 : i = m
      · subst e2
        rw [jOk, h0, h1, h2, h3]
        refine ⟨⟨D.2.1, ho, ha, by omega⟩, ⟨p, hx⟩, fun j' hj' k => hj j' hj' ?_⟩
        unfold isJ at k ⊢
        rw [lo _ (by omega), lo _ (by omega)] at k
        exact k
      · obtain ⟨c1, c2, c3⟩ := J.2 i (by omega)
        rw [jOk, lo _ (by omega), lo _ (by omega), lo _ (by omega), lo _ (by omega)]
        refine ⟨c1, c2, fun j' hj' k => c3 j' hj' ?_⟩
        unfold isJ at k ⊢
        rw [lo _ (by omega), lo _ (by omega)] at k
        exact k
    · simp only [told]
      have tc : told (cat g (m * 4) (four s o a 1)) m = told g m := told_congr m (fun i hi => by rw [lo (i * 4 + 3) (by omega), lo (i * 4 + 2) (by omega)])
      rw [h3, if_neg (by decide), tc]
      omega
  by_cases k3 : K = 3
  · subst k3
    rw [codeR, if_neg (by decide), if_neg (by decide), if_pos rfl] at hc
    cases ys
    case false => simp at hc
    rw [if_neg (by decide)] at hc
    by_cases e : (f (p * 3 + 1) = 1 ∨ f (p * 3 + 1) = 3) ∧ Rm n f 2
    · refine ⟨S.move (by omega) (fun _ => ?_) (fun k => by omega), J.ids (fun i _ => upd_ne (by omega)), rfl⟩
      rcases e.2 with k | k | k
      · omega
      · omega
      · exact k
    · rw [if_neg e] at hc; omega
  by_cases k4 : K = 4
  · subst k4
    rw [codeR, if_neg (by decide), if_neg (by decide), if_neg (by decide), if_pos rfl] at hc
    cases ys
    case false => simp at hc
    rw [if_neg (by decide)] at hc
    by_cases e : f (p * 3 + 1) = 2 ∧ Rm n f 3
    · refine ⟨S.move (by omega) (fun k => by omega) (fun _ => ?_), J.ids (fun i _ => upd_ne (by omega)), rfl⟩
      rcases e.2 with k | k | k
      · omega
      · omega
      · exact k
    · rw [if_neg e] at hc; omega
  by_cases k5 : K = 5
  · subst k5
    exact ⟨S.move (by omega) (fun k => by omega) (fun k => by omega), J.ids (fun i _ => upd_ne (by omega)), rfl⟩
  by_cases k6 : K = 6
  · subst k6
    rw [codeR, if_neg (by decide), if_neg (by decide), if_neg (by decide), if_neg (by decide), if_neg (by decide), if_pos rfl] at hc
    cases yj
    case false => simp at hc
    rw [if_neg (by decide)] at hc
    obtain ⟨j1, j2, j3⟩ := F.jy rfl
    by_cases e1 : f (p * 3 + 1) = 3
    case neg => rw [if_pos e1] at hc; omega
    rw [if_neg (by simpa using e1)] at hc
    by_cases e2 : g (j * 4 + 3) = 1
    case neg => rw [if_pos e2] at hc; omega
    rw [if_neg (by simpa using e2)] at hc
    by_cases e3 : f (p * 3 + 2) < g (j * 4 + 2)
    · rw [if_pos e3] at hc; omega
    have hnd := (J.2 j j1).1.2.2.1
    obtain ⟨a1, a2, a3, a4, a5⟩ := S
    refine ⟨⟨a1, fun i hi => ?_, fun i hi => ?_, ?_, ?_⟩, ?_, ?_⟩
    · have := a2 i hi
      show smOk (upd f (p * 3 + 2) (f (p * 3 + 2) - g (j * 4 + 2)) (i * 3)) (upd f (p * 3 + 2) (f (p * 3 + 2) - g (j * 4 + 2)) (i * 3 + 1)) (upd f (p * 3 + 2) (f (p * 3 + 2) - g (j * 4 + 2)) (i * 3 + 2))
      rw [upd_ne (show i * 3 ≠ p * 3 + 2 by omega), upd_ne (show i * 3 + 1 ≠ p * 3 + 2 by omega)]
      by_cases e : i = p
      · subst e
        rw [upd_eq]
        obtain ⟨t1, t2, t3⟩ := this
        exact ⟨t1, t2, by omega, by omega⟩
      · rw [upd_ne (by omega)]
        exact this
    · show upd f (p * 3 + 2) (f (p * 3 + 2) - g (j * 4 + 2)) (i * 3) < upd f (p * 3 + 2) (f (p * 3 + 2) - g (j * 4 + 2)) ((i + 1) * 3)
      rw [upd_ne (by omega), upd_ne (by omega)]
      exact a3 i hi
    · show cnt 2 (upd f (p * 3 + 2) (f (p * 3 + 2) - g (j * 4 + 2))) n ≤ 1
      rw [cnt_congr n (h := f) (fun i hi => upd_ne (by omega))]; exact a4
    · show cnt 3 (upd f (p * 3 + 2) (f (p * 3 + 2) - g (j * 4 + 2))) n ≤ 1
      rw [cnt_congr n (h := f) (fun i hi => upd_ne (by omega))]; exact a5
    · refine (J.ids (h := upd f (p * 3 + 2) (f (p * 3 + 2) - g (j * 4 + 2))) (fun i _ => upd_ne (by omega))).states (h := upd g (j * 4 + 3) 2) (fun i _ => upd_ne (by omega)) (fun i _ => upd_ne (by omega)) (fun i _ => upd_ne (by omega)) (fun i hi => ?_)
      by_cases e : i = j
      · subst e; rw [upd_eq]; omega
      · rw [upd_ne (by omega)]; exact (J.2 i hi).1.2.2.2
    · show told g m + g (j * 4 + 2) = told (upd g (j * 4 + 3) 2) m
      rw [told_done (by omega) m j1]
  by_cases k7 : K = 7
  · subst k7
    rw [codeR, if_neg (by decide), if_neg (by decide), if_neg (by decide), if_neg (by decide), if_neg (by decide), if_neg (by decide), if_pos rfl] at hc
    cases yj
    case false => simp at hc
    rw [if_neg (by decide)] at hc
    by_cases e2 : g (j * 4 + 3) = 1
    case neg => rw [if_pos e2] at hc; omega
    refine ⟨S, J.states (h := upd g (j * 4 + 3) 3) (fun i _ => upd_ne (by omega)) (fun i _ => upd_ne (by omega)) (fun i _ => upd_ne (by omega)) (fun i hi => ?_), ?_⟩
    · by_cases e : i = j
      · subst e; rw [upd_eq]; omega
      · rw [upd_ne (by omega)]; exact (J.2 i hi).1.2.2.2
    · show told g m = told (upd g (j * 4 + 3) 3) m
      refine told_congr m (fun i hi => ?_)
      by_cases e : i = j
      · subst e; rw [upd_eq, if_neg (by omega), if_neg (by decide)]
      · rw [upd_ne (by omega), upd_ne (by omega)]
  have hK : K = 8 := by have := D.1; omega
  subst hK
  have off0 : ∀ i, i < m → offK g s m (i * 4) = g (i * 4) := fun i _ => by unfold offK; rw [if_neg (by omega)]
  have off1 : ∀ i, i < m → offK g s m (i * 4 + 1) = g (i * 4 + 1) := fun i _ => by unfold offK; rw [if_neg (by omega)]
  have off2 : ∀ i, i < m → offK g s m (i * 4 + 2) = g (i * 4 + 2) := fun i _ => by unfold offK; rw [if_neg (by omega)]
  refine ⟨S.move (by omega) (fun k => by omega) (fun k => by omega), (J.ids (h := upd f (p * 3 + 1) 4) (fun i _ => upd_ne (by omega))).states (h := offK g s m) off0 off1 off2 (fun i hi => ?_), ?_⟩
  · unfold offK
    split
    · omega
    · exact (J.2 i hi).1.2.2.2
  · show told g m = told (offK g s m) m
    refine told_congr m (fun i hi => ?_)
    rw [off2 i hi]
    unfold offK
    by_cases e : i * 4 + 3 < m * 4 ∧ (i * 4 + 3) % 4 = 3 ∧ g (i * 4 + 3 - 3) = s ∧ g (i * 4 + 3) = 1
    · rw [if_pos e, if_neg (by omega), if_neg (by omega)]
    · rw [if_neg e]
theorem outc_ok {n m p j : Nat} {f g : Nat → Int} {T K s o a : Int} {ys yj : Bool} (H : LbOk n f m g T) (F : Fnd n f m g s o p ys j yj) : LbOk (outc n f m g T K s o a p ys j yj).2.n (outc n f m g T K s o a p ys j yj).2.f (outc n f m g T K s o a p ys j yj).2.m (outc n f m g T K s o a p ys j yj).2.g (outc n f m g T K s o a p ys j yj).2.T := by
  by_cases D : dOk K s o a
  · by_cases hc : codeR n f m g K p ys j yj = 0
    · rw [outc_yes D hc]
      exact nxt_ok H F D hc
    · rw [outc_no D rfl hc]
      exact H
  · rw [outc_bad D]
    exact H
end Go.Proofs.Ytnjnffemidaopaa
