/-
  A sample thrown away, its waiting jobs off: walked.
-/
import Derived.Test.YtnjnffemidaopaaL17l
namespace Go.Proofs.Ytnjnffemidaopaa
open Go.RowKit

/-- The waiting ones of the first k jobs, where they are of the sample, are off. -/
def offK (g : Nat → Int) (id : Int) (k : Nat) : Nat → Int := fun i => if i < k * 4 ∧ i % 4 = 3 ∧ g (i - 3) = id ∧ g i = 1 then 3 else g i
theorem offK_zero (g : Nat → Int) (id : Int) : offK g id 0 = g := by
  funext i
  unfold offK
  rw [if_neg (by omega)]
theorem offK_no {g : Nat → Int} {id : Int} {k : Nat} (h : ¬ (g (k * 4) = id ∧ g (k * 4 + 3) = 1)) : offK g id (k + 1) = offK g id k := by
  funext i
  unfold offK
  by_cases e : i < k * 4 ∧ i % 4 = 3 ∧ g (i - 3) = id ∧ g i = 1
  · rw [if_pos e, if_pos (by omega)]
  · rw [if_neg e, if_neg]
    rintro ⟨a, b, c, d⟩
    by_cases l : i < k * 4
    · exact e ⟨l, b, c, d⟩
    · obtain rfl : i = k * 4 + 3 := by omega
      exact h ⟨by simpa using c, d⟩
theorem offK_yes {g : Nat → Int} {id : Int} {k : Nat} (h1 : g (k * 4) = id) (h2 : g (k * 4 + 3) = 1) : upd (offK g id k) (k * 4 + 3) 3 = offK g id (k + 1) := by
  funext i
  unfold upd offK
  by_cases l : i = k * 4 + 3
  · subst l
    rw [if_pos rfl, if_pos ⟨by omega, by omega, by simpa using h1, h2⟩]
  · rw [if_neg l]
    by_cases e : i < k * 4 ∧ i % 4 = 3 ∧ g (i - 3) = id ∧ g i = 1
    · rw [if_pos e, if_pos (by omega)]
    · rw [if_neg e, if_neg]
      rintro ⟨a, b, c, d⟩
      exact e ⟨by omega, b, c, d⟩
theorem offK_cell {g : Nat → Int} {id : Int} {k i : Nat} (h : k * 4 ≤ i) : offK g id k i = g i := by
  unfold offK
  rw [if_neg (by omega)]
section
variable {B q : Nat} {w : World} {vS vJ : Value} {n m p : Nat} {f g : Nat → Int} {T D : Int}
theorem one_ints {w : World} {b : Nat} {x : Int} (h : At 2 w b #[.int .i64 x]) : Ints w b 0 1 (fun _ => x) := fun i hi => by
  obtain rfl : i = 0 := by omega
  exact h.cell 0 rfl
theorem throw_no (id : Int) (W : Wk B q w vS vJ n f m g T D) (hn : n ≤ 100) (HP : Hid (Plc n f id p)) (hno : Hid (¬ (p < n ∧ f (p * 3) = id))) :
    Calls Try.prog 83 #[.pointer (some ⟨q, 0, none⟩), .int .i64 id] w (DoP B q w D 5 n f m g T) := by
  obtain ⟨V1, hV1, A1, bb, -⟩ := boxed w 2 #[.int .i64 1]
  have W1 := W.below bb
  have B1 := Bel.of bb W.lt
  go_enter Try.func83, Try.ntmps83
  go_wp2_with fail
  refine (move_no id 4 W1 hn HP hno).mono ?_
  rintro e w2 ⟨u, v, rfl, W2, b2⟩
  go_wp2
  go_ret
  exact ⟨_, _, rfl, W2, B1.trans b2⟩
theorem throw_bad (id : Int) (W : Wk B q w vS vJ n f m g T D) (hn : n ≤ 100) (HP : Hid (Plc n f id p)) (hpn : p < n) (HE : Hid (f (p * 3) = id)) (hno : Hid (f (p * 3 + 1) ≠ 1)) :
    Calls Try.prog 83 #[.pointer (some ⟨q, 0, none⟩), .int .i64 id] w (DoP B q w D 6 n f m g T) := by
  obtain ⟨V1, hV1, A1, bb, -⟩ := boxed w 2 #[.int .i64 1]
  have W1 := W.below bb
  have B1 := Bel.of bb W.lt
  go_enter Try.func83, Try.ntmps83
  go_wp2_with fail
  refine (move_bad id 4 W1 hn HP hpn HE (one_ints A1) A1.lt (by omega) (show ¬ _ from fun k => by obtain ⟨⟨i, hi, e⟩, -⟩ := k; exact hno.out e.symm)).mono ?_
  rintro e w2 ⟨u, v, rfl, W2, b2⟩
  go_wp2
  go_ret
  exact ⟨_, _, rfl, W2, B1.trans b2⟩
set_option maxRecDepth 100000 in
set_option maxHeartbeats 1600000 in
theorem throw_ok (id : Int) (W : Wk B q w vS vJ n f m g T D) (hn : n ≤ 100) (HP : Hid (Plc n f id p)) (hpn : p < n) (HE : Hid (f (p * 3) = id)) (hys : Hid (f (p * 3 + 1) = 1)) (hm : m ≤ 300) :
    Calls Try.prog 83 #[.pointer (some ⟨q, 0, none⟩), .int .i64 id] w (DoP B q w D 0 n (upd f (p * 3 + 1) 4) m (offK g id m) T) := by
  obtain ⟨V1, hV1, A1, bb, -⟩ := boxed w 2 #[.int .i64 1]
  have W1 := W.below bb
  have B1 := Bel.of bb W.lt
  have hm' : (m : Int) ≤ 300 := by omega
  go_enter Try.func83, Try.ntmps83
  go_wp2_with fail
  refine (move_ok id 4 W1 hn HP hpn HE (one_ints A1) A1.lt (by omega) (show ∃ _, _ from ⟨0, by omega, hys.out.symm⟩) (.inr (.inl rfl))).mono ?_
  rintro e w2 ⟨u, v, rfl, W2, b2⟩
  have B2 := B1.trans b2
  clear W1 B1 b2 A1 bb hV1 W HE hys
  obtain ⟨a, c, rfl, hc, LJ⟩ := W2.J.ls
  obtain ⟨c0, c1, c2, c3, -⟩ := Job.box W2.bx
  go_wp2
  clear c0 c1 c2 c3 LJ
  go_loopw [20] (fun s wr => ∃ k : Nat, k ≤ m ∧ s = .int .i64 (k : Int) ∧ Wk B q wr u (.slice a m c) n (upd f (p * 3 + 1) 4) m (offK g id k) T D ∧ Bel B w wr) (fun s _ => m - (intOf s).toNat)
  case atStart => exact ⟨0, Nat.zero_le _, rfl, by rw [offK_zero]; exact W2, B2⟩
  case round =>
    clear W2 B2
    obtain ⟨k, hk, rfl, W, B1⟩ := hrel
    by_cases hlt : k < m
    · have hlt' : (k : Int) < (m : Int) := by omega
      obtain ⟨gj, cj, e, hl1, hcj, hcm, R⟩ := W.J.pick hlt
      simp only [Value.slice.injEq, true_and] at e
      obtain ⟨rfl, rfl⟩ := e
      obtain ⟨d0, d1, d2, d3⟩ := Job.open R.recsN k hlt
      rw [offK_cell (by omega)] at d0 d1 d2 d3
      obtain ⟨x, hx⟩ : ∃ x, g (k * 4) = x := ⟨_, rfl⟩
      obtain ⟨t, ht⟩ : ∃ x, g (k * 4 + 3) = x := ⟨_, rfl⟩
      rw [hx] at d0
      rw [ht] at d3
      obtain ⟨V1, hV1, m1, bb1, -⟩ := boxed wr 39 #[.int .i64 x, .int .i64 (g (k * 4 + 1)), .int .i64 (g (k * 4 + 2)), .int .i64 t]
      obtain ⟨r1, hr1⟩ : ∃ r, wr.heap.size = r := ⟨_, rfl⟩
      rw [hr1] at m1
      replace B1 := B1.trans (Bel.of bb1 W.lt)
      replace W := W.below bb1
      obtain ⟨k0, k1, k2, k3, -⟩ := Job.box m1
      have HX : Hid (g (k * 4) = x) := hx
      have HT : Hid (g (k * 4 + 3) = t) := ht
      clear hx ht R bb1 m1
      by_cases e1 : x = id
      · have e1' : (x == id) = true := by simpa using e1
        by_cases e2 : t = 1
        · subst e2
          have HO : Hid (upd (offK g id k) (k * 4 + 3) 3 = offK g id (k + 1)) := offK_yes (HX.out.trans e1) HT.out
          clear e1
          obtain ⟨c0, c1, c2, c3, -⟩ := Job.box W.bx
          obtain ⟨y3, f3, -⟩ := W.frJ (i := k * 4 + 3) (by omega)
          obtain ⟨W4, B4⟩ := W.updJ (i := k * 4 + 3) (by omega) 3
          rw [HO.out] at W4
          go_wp2
          exact ⟨⟨k + 1, by omega, by go_num, W4, B1.trans B4⟩, by simp [intOf]; omega⟩
        · have e2' : (t == 1) = false := by simpa using e2
          have HO : Hid (offK g id (k + 1) = offK g id k) := offK_no (fun h => e2 (HT.out.symm.trans h.2))
          clear e1 e2
          go_wp2
          exact ⟨⟨k + 1, by omega, by go_num, by rw [HO.out]; exact W, B1⟩, by simp [intOf]; omega⟩
      · have e1' : (x == id) = false := by simpa using e1
        have HO : Hid (offK g id (k + 1) = offK g id k) := offK_no (fun h => e1 (HX.out.symm.trans h.1))
        clear e1
        go_wp2
        exact ⟨⟨k + 1, by omega, by go_num, by rw [HO.out]; exact W, B1⟩, by simp [intOf]; omega⟩
    · have hlt' : ¬ (k : Int) < (m : Int) := by omega
      obtain rfl : k = m := by omega
      go_wp2
      go_ret
      exact ⟨_, _, rfl, W, B1⟩
end
end Go.Proofs.Ytnjnffemidaopaa
