/-
  Samples and jobs: which are right, which sample has an Id, which job is of a sample and an order. Walked.
-/
import Derived.Test.YtnjnffemidaopaaL17f
namespace Go.Proofs.Ytnjnffemidaopaa
open Go.RowKit

theorem bool_of (P : Prop) : ∃ b : Bool, b = true ↔ P := by
  by_cases h : P
  · exact ⟨true, fun _ => h, fun _ => rfl⟩
  · exact ⟨false, (fun k => by cases k), fun k => absurd k h⟩
theorem no_of {b : Bool} {P : Prop} (hb : Hid (b = true ↔ P)) (h : ¬ P) : b = false := by
  cases b
  · rfl
  · exact absurd (hb.out.1 rfl) h
theorem iff_no {P : Prop} (h : false = true ↔ P) : ¬ P := fun k => by have := h.2 k; cases this
theorem iff_yes {P : Prop} (h : P) : Hid (true = true ↔ P) := show _ ↔ _ from ⟨fun _ => h, fun _ => rfl⟩
theorem iff_not {P : Prop} (h : ¬ P) : Hid (false = true ↔ P) := show _ ↔ _ from ⟨(fun k => by cases k), fun k => absurd k h⟩
/-- All that lay there lies there still. -/
def Kb (V w : World) : Prop := Below V.heap.size V w
theorem Kb.trans {a b c : World} (h : Kb a b) (k : Below a.heap.size b c) : Kb a c := Below.trans h k
theorem Kb.size {a b : World} (h : Kb a b) : a.heap.size ≤ b.heap.size := Below.size h
def smOk (x p l : Int) : Prop := (1 ≤ x ∧ x ≤ 1000000) ∧ (1 ≤ p ∧ p ≤ 4) ∧ (0 ≤ l ∧ l ≤ 1000)
def jbOk (s o n t : Int) : Prop := (1 ≤ s ∧ s ≤ 1000000) ∧ (1 ≤ o ∧ o ≤ 1000000) ∧ (1 ≤ n ∧ n ≤ 1000) ∧ (1 ≤ t ∧ t ≤ 3)
theorem in_any (x lo hi : Int) (w : World) : Calls Try.prog 37 #[.int .i64 x, .int .i64 lo, .int .i64 hi] w fun e w' => e = .returned (.bool (decide (lo ≤ x ∧ x ≤ hi))) ∧ w = w' := by
  by_cases h1 : lo ≤ x <;> by_cases h2 : x ≤ hi
  all_goals
    go_enter Try.func37, Try.ntmps37
    go_wp2
    go_ret
    exact ⟨by simp [h1, h2], rfl⟩
theorem isId_any (x : Int) (w : World) : Calls Try.prog 85 #[.int .i64 x] w fun e w' => e = .returned (.bool (decide (1 ≤ x ∧ x ≤ 1000000))) ∧ w = w' := by
  by_cases h1 : 1 ≤ x <;> by_cases h2 : x ≤ 1000000
  all_goals
    go_enter Try.func85, Try.ntmps85
    go_wp2
    go_ret
    exact ⟨by simp [h1, h2], rfl⟩
theorem isLeft_any (x : Int) (w : World) : Calls Try.prog 86 #[.int .i64 x] w fun e w' => e = .returned (.bool (decide (0 ≤ x ∧ x ≤ 1000))) ∧ w = w' := by
  by_cases h1 : 0 ≤ x <;> by_cases h2 : x ≤ 1000
  all_goals
    go_enter Try.func86, Try.ntmps86
    go_wp2
    go_ret
    exact ⟨by simp [h1, h2], rfl⟩
theorem isNeed_any (x : Int) (w : World) : Calls Try.prog 87 #[.int .i64 x] w fun e w' => e = .returned (.bool (decide (1 ≤ x ∧ x ≤ 1000))) ∧ w = w' := by
  by_cases h1 : 1 ≤ x <;> by_cases h2 : x ≤ 1000
  all_goals
    go_enter Try.func87, Try.ntmps87
    go_wp2
    go_ret
    exact ⟨by simp [h1, h2], rfl⟩
set_option maxHeartbeats 1600000 in
theorem sRight_any (x p l : Int) (w : World) (b : Bool) (hb : Hid (b = true ↔ smOk x p l)) : Calls Try.prog 66 #[sampleV x p l] w fun e w' => e = .returned (.bool b) ∧ Below w.heap.size w w' := by
  obtain ⟨V1, hV1, m1, bb1, -⟩ := boxed w 37 #[.int .i64 x, .int .i64 p, .int .i64 l]
  obtain ⟨c0, c1, c2, -⟩ := m1.open3
  have I1 := fun w => isId_any x w
  have I2 := fun w => isLeft_any l w
  obtain ⟨y1, hy1⟩ : ∃ y, decide (1 ≤ x ∧ x ≤ 1000000) = y := ⟨_, rfl⟩
  obtain ⟨y2, hy2⟩ : ∃ y, decide (0 ≤ l ∧ l ≤ 1000) = y := ⟨_, rfl⟩
  have E : b = (y1 && decide (1 ≤ p) && decide (p ≤ 4) && y2) := by
    rw [Bool.eq_iff_iff, hb.out, ← hy1, ← hy2]
    simp [smOk, and_assoc]
  rw [hy1] at I1
  rw [hy2] at I2
  clear hb hy1 hy2 m1
  subst E
  cases y1
  · go_enter Try.func66, Try.ntmps66
    go_wp2_with (go_at_call 85; refine (I1 _).mono ?_; rintro e w2 ⟨rfl, rfl⟩)
    go_ret
    exact ⟨rfl, bb1⟩
  by_cases h1 : 1 ≤ p
  case neg =>
    rw [decide_eq_false h1]
    go_enter Try.func66, Try.ntmps66
    go_wp2_with (go_at_call 85; refine (I1 _).mono ?_; rintro e w2 ⟨rfl, rfl⟩)
    go_ret
    exact ⟨rfl, bb1⟩
  rw [decide_eq_true h1]
  by_cases h2 : p ≤ 4
  case neg =>
    rw [decide_eq_false h2]
    go_enter Try.func66, Try.ntmps66
    go_wp2_with (go_at_call 85; refine (I1 _).mono ?_; rintro e w2 ⟨rfl, rfl⟩)
    go_ret
    exact ⟨rfl, bb1⟩
  rw [decide_eq_true h2]
  go_enter Try.func66, Try.ntmps66
  go_wp2_with (first | (go_at_call 85; refine (I1 _).mono ?_; rintro e w2 ⟨rfl, rfl⟩) | (go_at_call 86; refine (I2 _).mono ?_; rintro e w3 ⟨rfl, rfl⟩))
  go_ret
  exact ⟨by simp, bb1⟩
set_option maxHeartbeats 1600000 in
theorem jRight_any (s o n t : Int) (w : World) (b : Bool) (hb : Hid (b = true ↔ jbOk s o n t)) : Calls Try.prog 67 #[jobV s o n t] w fun e w' => e = .returned (.bool b) ∧ Below w.heap.size w w' := by
  obtain ⟨V1, hV1, m1, bb1, -⟩ := boxed w 39 #[.int .i64 s, .int .i64 o, .int .i64 n, .int .i64 t]
  obtain ⟨c0, c1, c2, c3, -⟩ := Job.box m1
  have I1 := fun w => isId_any s w
  have I2 := fun w => isId_any o w
  have I3 := fun w => isNeed_any n w
  obtain ⟨y1, hy1⟩ : ∃ y, decide (1 ≤ s ∧ s ≤ 1000000) = y := ⟨_, rfl⟩
  obtain ⟨y2, hy2⟩ : ∃ y, decide (1 ≤ o ∧ o ≤ 1000000) = y := ⟨_, rfl⟩
  obtain ⟨y3, hy3⟩ : ∃ y, decide (1 ≤ n ∧ n ≤ 1000) = y := ⟨_, rfl⟩
  have E : b = (y1 && y2 && y3 && decide (1 ≤ t) && decide (t ≤ 3)) := by
    rw [Bool.eq_iff_iff, hb.out, ← hy1, ← hy2, ← hy3]
    simp [jbOk, and_assoc]
  rw [hy1] at I1
  rw [hy2] at I2
  rw [hy3] at I3
  clear hb hy1 hy2 hy3 m1
  subst E
  cases y1
  · go_enter Try.func67, Try.ntmps67
    go_wp2_with (go_at_call 85; refine (I1 _).mono ?_; rintro e w2 ⟨rfl, rfl⟩)
    go_ret
    exact ⟨rfl, bb1⟩
  cases y2
  · go_enter Try.func67, Try.ntmps67
    go_wp2_with fail
    refine (I1 _).mono ?_
    rintro e w2 ⟨rfl, rfl⟩
    go_wp2_with fail
    refine (I2 _).mono ?_
    rintro e w2 ⟨rfl, rfl⟩
    go_wp2
    go_ret
    exact ⟨rfl, bb1⟩
  cases y3
  · go_enter Try.func67, Try.ntmps67
    go_wp2_with fail
    refine (I1 _).mono ?_
    rintro e w2 ⟨rfl, rfl⟩
    go_wp2_with fail
    refine (I2 _).mono ?_
    rintro e w2 ⟨rfl, rfl⟩
    go_wp2_with fail
    refine (I3 _).mono ?_
    rintro e w2 ⟨rfl, rfl⟩
    go_wp2
    go_ret
    exact ⟨rfl, bb1⟩
  by_cases h1 : 1 ≤ t
  case neg =>
    rw [decide_eq_false h1]
    go_enter Try.func67, Try.ntmps67
    go_wp2_with fail
    refine (I1 _).mono ?_
    rintro e w2 ⟨rfl, rfl⟩
    go_wp2_with fail
    refine (I2 _).mono ?_
    rintro e w2 ⟨rfl, rfl⟩
    go_wp2_with fail
    refine (I3 _).mono ?_
    rintro e w2 ⟨rfl, rfl⟩
    go_wp2
    go_ret
    exact ⟨rfl, bb1⟩
  rw [decide_eq_true h1]
  go_enter Try.func67, Try.ntmps67
  go_wp2_with fail
  refine (I1 _).mono ?_
  rintro e w2 ⟨rfl, rfl⟩
  go_wp2_with fail
  refine (I2 _).mono ?_
  rintro e w2 ⟨rfl, rfl⟩
  go_wp2_with fail
  refine (I3 _).mono ?_
  rintro e w2 ⟨rfl, rfl⟩
  go_wp2
  go_ret
  exact ⟨by simp, bb1⟩
/-- How many of the first k samples are at a place. -/
def cnt (p : Int) (f : Nat → Int) : Nat → Nat
  | 0 => 0
  | k + 1 => cnt p f k + if f (k * 3 + 1) = p then 1 else 0
theorem cnt_le (p : Int) (f : Nat → Int) : ∀ k, cnt p f k ≤ k
  | 0 => Nat.le_refl _
  | k + 1 => by
    have := cnt_le p f k
    simp only [cnt]
    split <;> omega
/-- A list of samples of a right lab. -/
def SmOk (n : Nat) (f : Nat → Int) : Prop := n ≤ 100 ∧ (∀ i, i < n → smOk (f (i * 3)) (f (i * 3 + 1)) (f (i * 3 + 2))) ∧ (∀ i, i + 1 < n → f (i * 3) < f ((i + 1) * 3)) ∧ cnt 2 f n ≤ 1 ∧ cnt 3 f n ≤ 1
theorem SmOk.rise {n : Nat} {f : Nat → Int} (h : SmOk n f) : ∀ j, ∀ i, i < j → j < n → f (i * 3) < f (j * 3)
  | 0, i, h1, _ => by omega
  | j + 1, i, h1, h2 => by
    have := h.2.2.1 j h2
    by_cases e : i = j
    · subst e; exact this
    · have := SmOk.rise h j i (by omega) (by omega)
      omega
set_option maxRecDepth 100000 in
set_option maxHeartbeats 3200000 in
theorem areSamples_any {w : World} {a : Option Addr} {n c : Nat} {f : Nat → Int} (h : Ls 3 w a n f) (hn : n ≤ 1048576) (b : Bool) (hb : Hid (b = true ↔ SmOk n f)) :
    Calls Try.prog 43 #[.slice a n c] w fun e w' => e = .returned (.bool b) ∧ Below w.heap.size w w' := by
  by_cases hn1 : n ≤ 100
  case neg =>
    have hn' : (100 : Int) < (n : Int) := by omega
    obtain rfl := no_of hb (fun k => hn1 k.1)
    go_enter Try.func43, Try.ntmps43
    go_wp2
    go_ret
    exact ⟨rfl, Below.refl _ _⟩
  have hn' : (n : Int) ≤ 100 := by omega
  have hn2 : ¬ (100 : Int) < (n : Int) := by omega
  obtain ⟨W1, hW1, a1, b1, -⟩ := boxed w 107 #[.int .i64 0, .int .i64 0, .int .i64 0, .int .i64 0, .int .i64 0]
  obtain ⟨q1, hq1⟩ : ∃ q, w.heap.size = q := ⟨_, rfl⟩
  rw [hq1] at a1
  go_enter Try.func43, Try.ntmps43
  go_wp2
  have B1 : Below w.heap.size w W1 := b1
  have hqw : w.heap.size ≤ q1 := by omega
  clear hW1 hq1 b1
  go_loopw [11] (fun s wr => ∃ k : Nat, k ≤ n ∧ s = .int .i64 (k : Int) ∧ At 107 wr q1 #[.int .i64 0, .int .i64 ((cnt 1 f k : Nat) : Int), .int .i64 ((cnt 2 f k : Nat) : Int), .int .i64 ((cnt 3 f k : Nat) : Int), .int .i64 ((cnt 4 f k : Nat) : Int)] ∧ (∀ i, i < k → smOk (f (i * 3)) (f (i * 3 + 1)) (f (i * 3 + 2))) ∧ (∀ i, i + 1 < k → f (i * 3) < f ((i + 1) * 3)) ∧ Below w.heap.size w wr) (fun s _ => n - (intOf s).toNat)
  case atStart => exact ⟨0, Nat.zero_le _, rfl, a1, fun i hi => by omega, fun i hi => by omega, B1⟩
  case round =>
    clear a1 B1
    obtain ⟨k, hk, rfl, A1, hok, hri, B1⟩ := hrel
    have HA : Hid (∀ i, i < k → smOk (f (i * 3)) (f (i * 3 + 1)) (f (i * 3 + 2))) := hok
    have HR : Hid (∀ i, i + 1 < k → f (i * 3) < f ((i + 1) * 3)) := hri
    clear hok hri
    by_cases hlt : k < n
    · have hlt' : (k : Int) < (n : Int) := by omega
      obtain ⟨g, rfl, R⟩ := h.some hlt
      replace R := R.below B1
      obtain ⟨d0, d1, d2⟩ := Sample.open R k hlt
      obtain ⟨V1, hV1, m1, bb1, -⟩ := boxed wr 37 #[.int .i64 (f (k * 3)), .int .i64 (f (k * 3 + 1)), .int .i64 (f (k * 3 + 2))]
      obtain ⟨r1, hr1⟩ : ∃ r, wr.heap.size = r := ⟨_, rfl⟩
      rw [hr1] at m1
      replace A1 := A1.below bb1
      replace R := R.below bb1
      replace B1 := B1.trans (bb1.mono B1.size)
      obtain ⟨x, hx⟩ : ∃ x, f (k * 3) = x := ⟨_, rfl⟩
      obtain ⟨p, hp⟩ : ∃ x, f (k * 3 + 1) = x := ⟨_, rfl⟩
      obtain ⟨l, hl⟩ : ∃ x, f (k * 3 + 2) = x := ⟨_, rfl⟩
      obtain ⟨y, hy⟩ := bool_of (smOk x p l)
      rw [hx] at d0 m1 hV1
      rw [hp] at d1 m1 hV1
      rw [hl] at d2 m1 hV1
      have HX : Hid (f (k * 3) = x) := hx
      have HP : Hid (f (k * 3 + 1) = p) := hp
      have HL : Hid (f (k * 3 + 2) = l) := hl
      clear hx hp hl bb1
      have SR := fun w => sRight_any x p l w y hy
      cases y
      · obtain rfl := no_of hb (fun K => iff_no hy (by have := K.2.1 k hlt; rw [HX.out, HP.out, HL.out] at this; exact this))
        clear hy A1
        go_wp2_with fail
        clear d0 d1 d2 hV1 hr1
        obtain ⟨u0, hu0, bb⟩ : ∃ uu, V1.drew = uu ∧ Below V1.heap.size V1 uu := ⟨_, rfl, (Below.refl _ _).drew⟩
        replace m1 := m1.below bb
        replace R := R.below bb
        replace B1 := B1.trans (bb.mono B1.size)
        have m0 := m1
        have R0 := R
        clear bb
        refine wp_region_held_drew (S := Kb u0) (by kernel_rfl) (by rw [hu0]; exact Below.refl _ _) (fun hHeld => ?_)
        rw [hu0] at hHeld ⊢
        clear hu0
        have bu : Kb u0 u0 := Below.refl _ _
        change wpAnyH _ _ _ _ _ 18 #[false, false, false, false, false, false, false, false, false, false, false, false, false, false, false, false, false, false] _ _
        refine wpAnyH_take (i := 0) (v := .agg #[.int .i64 (x), .int .i64 (p), .int .i64 (l)]) rfl (by kernel_rfl) (by kernel_rfl) (by kernel_rfl) (fun _ _ _ h => h) (Or.inl ⟨by kernel_rfl, ?_⟩) hHeld ?_
        · intro w' hSw; obtain ⟨z0, z1, z2, -⟩ := (m0.below hSw).open3; go_simp
        try simp only [Act.put, List.setIfInBounds_toArray, List.set_cons_zero, List.set_cons_succ, List.getElem_toArray, List.getElem_cons_zero]
        refine wpAnyH_ready (rs := [1]) (by kernel_rfl) (by simp) ?_
        refine AllReadyH.cons rfl (fun KK hK' => ?_) AllReadyH.nil
        go_simp
        refine (SR _).mono ?_
        rintro e u1 ⟨rfl, bb⟩
        replace B1 := B1.trans (bb.mono B1.size)
        replace m1 := m1.below bb
        replace R := R.below bb
        replace bu : Kb u0 u1 := bu.trans (bb.mono bu.size)
        clear bb
        try go_wp2_with fail
        clear hHeld
        refine hK'.out _ _ (bu) (fun hHeld => ?_)
        clear hK' KK
        try simp only [List.setIfInBounds_toArray, List.set_cons_zero, List.set_cons_succ]
        refine wpAnyH_take (i := 2) (v := .bool true) rfl (by kernel_rfl) (by kernel_rfl) (by kernel_rfl) (fun _ _ _ h => h) (Or.inl ⟨by kernel_rfl, ?_⟩) hHeld ?_
        · intro w' hSw; go_simp
        try simp only [Act.put, List.setIfInBounds_toArray, List.set_cons_zero, List.set_cons_succ, List.getElem_toArray, List.getElem_cons_succ, List.getElem_cons_zero]
        refine wpAnyH_take (i := 3) (v := .bool true) rfl (by kernel_rfl) (by kernel_rfl) (by kernel_rfl) (fun _ _ _ h => h) (Or.inl ⟨by kernel_rfl, ?_⟩) hHeld ?_
        · intro w' hSw; go_simp
        try simp only [Act.put, List.setIfInBounds_toArray, List.set_cons_zero, List.set_cons_succ, List.getElem_toArray, List.getElem_cons_succ, List.getElem_cons_zero]
        refine wpAnyH_take (i := 4) (v := undef) rfl (by kernel_rfl) (by kernel_rfl) (by kernel_rfl) (fun _ _ _ h => h) (Or.inr ⟨by kernel_rfl, rfl⟩) hHeld ?_
        try simp only [Act.put, List.setIfInBounds_toArray, List.set_cons_zero, List.set_cons_succ, List.getElem_toArray, List.getElem_cons_succ, List.getElem_cons_zero]
        refine wpAnyH_take (i := 5) (v := undef) rfl (by kernel_rfl) (by kernel_rfl) (by kernel_rfl) (fun _ _ _ h => h) (Or.inr ⟨by kernel_rfl, rfl⟩) hHeld ?_
        try simp only [Act.put, List.setIfInBounds_toArray, List.set_cons_zero, List.set_cons_succ, List.getElem_toArray, List.getElem_cons_succ, List.getElem_cons_zero]
        refine wpAnyH_take (i := 6) (v := undef) rfl (by kernel_rfl) (by kernel_rfl) (by kernel_rfl) (fun _ _ _ h => h) (Or.inr ⟨by kernel_rfl, rfl⟩) hHeld ?_
        try simp only [Act.put, List.setIfInBounds_toArray, List.set_cons_zero, List.set_cons_succ, List.getElem_toArray, List.getElem_cons_succ, List.getElem_cons_zero]
        refine wpAnyH_take (i := 7) (v := undef) rfl (by kernel_rfl) (by kernel_rfl) (by kernel_rfl) (fun _ _ _ h => h) (Or.inr ⟨by kernel_rfl, rfl⟩) hHeld ?_
        try simp only [Act.put, List.setIfInBounds_toArray, List.set_cons_zero, List.set_cons_succ, List.getElem_toArray, List.getElem_cons_succ, List.getElem_cons_zero]
        refine wpAnyH_take (i := 8) (v := undef) rfl (by kernel_rfl) (by kernel_rfl) (by kernel_rfl) (fun _ _ _ h => h) (Or.inr ⟨by kernel_rfl, rfl⟩) hHeld ?_
        try simp only [Act.put, List.setIfInBounds_toArray, List.set_cons_zero, List.set_cons_succ, List.getElem_toArray, List.getElem_cons_succ, List.getElem_cons_zero]
        refine wpAnyH_take (i := 9) (v := undef) rfl (by kernel_rfl) (by kernel_rfl) (by kernel_rfl) (fun _ _ _ h => h) (Or.inr ⟨by kernel_rfl, rfl⟩) hHeld ?_
        try simp only [Act.put, List.setIfInBounds_toArray, List.set_cons_zero, List.set_cons_succ, List.getElem_toArray, List.getElem_cons_succ, List.getElem_cons_zero]
        refine wpAnyH_take (i := 10) (v := undef) rfl (by kernel_rfl) (by kernel_rfl) (by kernel_rfl) (fun _ _ _ h => h) (Or.inr ⟨by kernel_rfl, rfl⟩) hHeld ?_
        try simp only [Act.put, List.setIfInBounds_toArray, List.set_cons_zero, List.set_cons_succ, List.getElem_toArray, List.getElem_cons_succ, List.getElem_cons_zero]
        refine wpAnyH_take (i := 11) (v := undef) rfl (by kernel_rfl) (by kernel_rfl) (by kernel_rfl) (fun _ _ _ h => h) (Or.inr ⟨by kernel_rfl, rfl⟩) hHeld ?_
        try simp only [Act.put, List.setIfInBounds_toArray, List.set_cons_zero, List.set_cons_succ, List.getElem_toArray, List.getElem_cons_succ, List.getElem_cons_zero]
        refine wpAnyH_take (i := 12) (v := undef) rfl (by kernel_rfl) (by kernel_rfl) (by kernel_rfl) (fun _ _ _ h => h) (Or.inr ⟨by kernel_rfl, rfl⟩) hHeld ?_
        try simp only [Act.put, List.setIfInBounds_toArray, List.set_cons_zero, List.set_cons_succ, List.getElem_toArray, List.getElem_cons_succ, List.getElem_cons_zero]
        refine wpAnyH_take (i := 13) (v := undef) rfl (by kernel_rfl) (by kernel_rfl) (by kernel_rfl) (fun _ _ _ h => h) (Or.inr ⟨by kernel_rfl, rfl⟩) hHeld ?_
        try simp only [Act.put, List.setIfInBounds_toArray, List.set_cons_zero, List.set_cons_succ, List.getElem_toArray, List.getElem_cons_succ, List.getElem_cons_zero]
        refine wpAnyH_take (i := 14) (v := undef) rfl (by kernel_rfl) (by kernel_rfl) (by kernel_rfl) (fun _ _ _ h => h) (Or.inr ⟨by kernel_rfl, rfl⟩) hHeld ?_
        try simp only [Act.put, List.setIfInBounds_toArray, List.set_cons_zero, List.set_cons_succ, List.getElem_toArray, List.getElem_cons_succ, List.getElem_cons_zero]
        refine wpAnyH_take (i := 15) (v := undef) rfl (by kernel_rfl) (by kernel_rfl) (by kernel_rfl) (fun _ _ _ h => h) (Or.inr ⟨by kernel_rfl, rfl⟩) hHeld ?_
        try simp only [Act.put, List.setIfInBounds_toArray, List.set_cons_zero, List.set_cons_succ, List.getElem_toArray, List.getElem_cons_succ, List.getElem_cons_zero]
        refine wpAnyH_take (i := 16) (v := undef) rfl (by kernel_rfl) (by kernel_rfl) (by kernel_rfl) (fun _ _ _ h => h) (Or.inr ⟨by kernel_rfl, rfl⟩) hHeld ?_
        try simp only [Act.put, List.setIfInBounds_toArray, List.set_cons_zero, List.set_cons_succ, List.getElem_toArray, List.getElem_cons_succ, List.getElem_cons_zero]
        refine wpAnyH_take (i := 17) (v := .bool true) rfl (by kernel_rfl) (by kernel_rfl) (by kernel_rfl) (fun _ _ _ h => h) (Or.inl ⟨by kernel_rfl, ?_⟩) hHeld ?_
        · intro w' hSw; go_simp
        try simp only [Act.put, List.setIfInBounds_toArray, List.set_cons_zero, List.set_cons_succ, List.getElem_toArray, List.getElem_cons_succ, List.getElem_cons_zero]
        refine wpAnyH_done (by kernel_rfl) ?_ _
        clear hHeld
        try clear m0
        try clear R0
        go_wp2
        go_ret
        exact ⟨rfl, B1⟩
      have HO : Hid (smOk x p l) := hy.1 rfl
      clear hy
      have hp14 : p = 1 ∨ p = 2 ∨ p = 3 ∨ p = 4 := by have := HO.out.2.1; omega
      have HA2 : Hid (∀ i, i < k + 1 → smOk (f (i * 3)) (f (i * 3 + 1)) (f (i * 3 + 2))) := fun i hi => by
        by_cases e : i = k
        · rw [e, HX.out, HP.out, HL.out]; exact HO.out
        · exact HA.out i (by omega)
      by_cases hk0 : k = 0
      · have hk1 : ¬ (0 : Int) < (k : Int) := by omega
        have HR2 : Hid (∀ i, i + 1 < k + 1 → f (i * 3) < f ((i + 1) * 3)) := fun i hi => by omega
        have HK : Hid (k = 0) := hk0
        clear hk0
        go_wp2_with fail
        clear d0 d1 d2 hV1 hr1
        obtain ⟨u0, hu0, bb⟩ : ∃ uu, V1.drew = uu ∧ Below V1.heap.size V1 uu := ⟨_, rfl, (Below.refl _ _).drew⟩
        replace m1 := m1.below bb
        replace R := R.below bb
        replace A1 := A1.below bb
        replace B1 := B1.trans (bb.mono B1.size)
        have m0 := m1
        have R0 := R
        clear bb
        refine wp_region_held_drew (S := Kb u0) (by kernel_rfl) (by rw [hu0]; exact Below.refl _ _) (fun hHeld => ?_)
        rw [hu0] at hHeld ⊢
        clear hu0
        have bu : Kb u0 u0 := Below.refl _ _
        change wpAnyH _ _ _ _ _ 18 #[false, false, false, false, false, false, false, false, false, false, false, false, false, false, false, false, false, false] _ _
        refine wpAnyH_take (i := 0) (v := .agg #[.int .i64 (x), .int .i64 (p), .int .i64 (l)]) rfl (by kernel_rfl) (by kernel_rfl) (by kernel_rfl) (fun _ _ _ h => h) (Or.inl ⟨by kernel_rfl, ?_⟩) hHeld ?_
        · intro w' hSw; obtain ⟨z0, z1, z2, -⟩ := (m0.below hSw).open3; go_simp
        try simp only [Act.put, List.setIfInBounds_toArray, List.set_cons_zero, List.set_cons_succ, List.getElem_toArray, List.getElem_cons_zero]
        refine wpAnyH_ready (rs := [1]) (by kernel_rfl) (by simp) ?_
        refine AllReadyH.cons rfl (fun KK hK' => ?_) AllReadyH.nil
        go_simp
        refine (SR _).mono ?_
        rintro e u1 ⟨rfl, bb⟩
        replace B1 := B1.trans (bb.mono B1.size)
        replace m1 := m1.below bb
        replace R := R.below bb
        replace A1 := A1.below bb
        replace bu : Kb u0 u1 := bu.trans (bb.mono bu.size)
        clear bb
        try go_wp2_with fail
        clear hHeld
        refine hK'.out _ _ (bu) (fun hHeld => ?_)
        clear hK' KK
        try simp only [List.setIfInBounds_toArray, List.set_cons_zero, List.set_cons_succ]
        refine wpAnyH_take (i := 2) (v := .bool false) rfl (by kernel_rfl) (by kernel_rfl) (by kernel_rfl) (fun _ _ _ h => h) (Or.inl ⟨by kernel_rfl, ?_⟩) hHeld ?_
        · intro w' hSw; go_simp
        try simp only [Act.put, List.setIfInBounds_toArray, List.set_cons_zero, List.set_cons_succ, List.getElem_toArray, List.getElem_cons_succ, List.getElem_cons_zero]
        refine wpAnyH_take (i := 3) (v := .bool false) rfl (by kernel_rfl) (by kernel_rfl) (by kernel_rfl) (fun _ _ _ h => h) (Or.inl ⟨by kernel_rfl, ?_⟩) hHeld ?_
        · intro w' hSw; go_simp
        try simp only [Act.put, List.setIfInBounds_toArray, List.set_cons_zero, List.set_cons_succ, List.getElem_toArray, List.getElem_cons_succ, List.getElem_cons_zero]
        refine wpAnyH_take (i := 4) (v := .int .i64 ((k : Int))) rfl (by kernel_rfl) (by kernel_rfl) (by kernel_rfl) (fun _ _ _ h => h) (Or.inl ⟨by kernel_rfl, ?_⟩) hHeld ?_
        · intro w' hSw; go_simp
        try simp only [Act.put, List.setIfInBounds_toArray, List.set_cons_zero, List.set_cons_succ, List.getElem_toArray, List.getElem_cons_succ, List.getElem_cons_zero]
        refine wpAnyH_take (i := 5) (v := .bool false) rfl (by kernel_rfl) (by kernel_rfl) (by kernel_rfl) (fun _ _ _ h => h) (Or.inl ⟨by kernel_rfl, ?_⟩) hHeld ?_
        · intro w' hSw; go_simp; exact HK.out
        try simp only [Act.put, List.setIfInBounds_toArray, List.set_cons_zero, List.set_cons_succ, List.getElem_toArray, List.getElem_cons_succ, List.getElem_cons_zero]
        refine wpAnyH_take (i := 6) (v := .bool false) rfl (by kernel_rfl) (by kernel_rfl) (by kernel_rfl) (fun _ _ _ h => h) (Or.inl ⟨by kernel_rfl, ?_⟩) hHeld ?_
        · intro w' hSw; go_simp
        try simp only [Act.put, List.setIfInBounds_toArray, List.set_cons_zero, List.set_cons_succ, List.getElem_toArray, List.getElem_cons_succ, List.getElem_cons_zero]
        refine wpAnyH_take (i := 7) (v := undef) rfl (by kernel_rfl) (by kernel_rfl) (by kernel_rfl) (fun _ _ _ h => h) (Or.inr ⟨by kernel_rfl, rfl⟩) hHeld ?_
        try simp only [Act.put, List.setIfInBounds_toArray, List.set_cons_zero, List.set_cons_succ, List.getElem_toArray, List.getElem_cons_succ, List.getElem_cons_zero]
        refine wpAnyH_take (i := 8) (v := undef) rfl (by kernel_rfl) (by kernel_rfl) (by kernel_rfl) (fun _ _ _ h => h) (Or.inr ⟨by kernel_rfl, rfl⟩) hHeld ?_
        try simp only [Act.put, List.setIfInBounds_toArray, List.set_cons_zero, List.set_cons_succ, List.getElem_toArray, List.getElem_cons_succ, List.getElem_cons_zero]
        refine wpAnyH_take (i := 9) (v := undef) rfl (by kernel_rfl) (by kernel_rfl) (by kernel_rfl) (fun _ _ _ h => h) (Or.inr ⟨by kernel_rfl, rfl⟩) hHeld ?_
        try simp only [Act.put, List.setIfInBounds_toArray, List.set_cons_zero, List.set_cons_succ, List.getElem_toArray, List.getElem_cons_succ, List.getElem_cons_zero]
        refine wpAnyH_take (i := 10) (v := undef) rfl (by kernel_rfl) (by kernel_rfl) (by kernel_rfl) (fun _ _ _ h => h) (Or.inr ⟨by kernel_rfl, rfl⟩) hHeld ?_
        try simp only [Act.put, List.setIfInBounds_toArray, List.set_cons_zero, List.set_cons_succ, List.getElem_toArray, List.getElem_cons_succ, List.getElem_cons_zero]
        refine wpAnyH_take (i := 11) (v := undef) rfl (by kernel_rfl) (by kernel_rfl) (by kernel_rfl) (fun _ _ _ h => h) (Or.inr ⟨by kernel_rfl, rfl⟩) hHeld ?_
        try simp only [Act.put, List.setIfInBounds_toArray, List.set_cons_zero, List.set_cons_succ, List.getElem_toArray, List.getElem_cons_succ, List.getElem_cons_zero]
        refine wpAnyH_take (i := 12) (v := undef) rfl (by kernel_rfl) (by kernel_rfl) (by kernel_rfl) (fun _ _ _ h => h) (Or.inr ⟨by kernel_rfl, rfl⟩) hHeld ?_
        try simp only [Act.put, List.setIfInBounds_toArray, List.set_cons_zero, List.set_cons_succ, List.getElem_toArray, List.getElem_cons_succ, List.getElem_cons_zero]
        refine wpAnyH_take (i := 13) (v := undef) rfl (by kernel_rfl) (by kernel_rfl) (by kernel_rfl) (fun _ _ _ h => h) (Or.inr ⟨by kernel_rfl, rfl⟩) hHeld ?_
        try simp only [Act.put, List.setIfInBounds_toArray, List.set_cons_zero, List.set_cons_succ, List.getElem_toArray, List.getElem_cons_succ, List.getElem_cons_zero]
        refine wpAnyH_take (i := 14) (v := undef) rfl (by kernel_rfl) (by kernel_rfl) (by kernel_rfl) (fun _ _ _ h => h) (Or.inr ⟨by kernel_rfl, rfl⟩) hHeld ?_
        try simp only [Act.put, List.setIfInBounds_toArray, List.set_cons_zero, List.set_cons_succ, List.getElem_toArray, List.getElem_cons_succ, List.getElem_cons_zero]
        refine wpAnyH_take (i := 15) (v := undef) rfl (by kernel_rfl) (by kernel_rfl) (by kernel_rfl) (fun _ _ _ h => h) (Or.inr ⟨by kernel_rfl, rfl⟩) hHeld ?_
        try simp only [Act.put, List.setIfInBounds_toArray, List.set_cons_zero, List.set_cons_succ, List.getElem_toArray, List.getElem_cons_succ, List.getElem_cons_zero]
        refine wpAnyH_take (i := 16) (v := .bool false) rfl (by kernel_rfl) (by kernel_rfl) (by kernel_rfl) (fun _ _ _ h => h) (Or.inl ⟨by kernel_rfl, ?_⟩) hHeld ?_
        · intro w' hSw; go_simp
        try simp only [Act.put, List.setIfInBounds_toArray, List.set_cons_zero, List.set_cons_succ, List.getElem_toArray, List.getElem_cons_succ, List.getElem_cons_zero]
        refine wpAnyH_take (i := 17) (v := .bool false) rfl (by kernel_rfl) (by kernel_rfl) (by kernel_rfl) (fun _ _ _ h => h) (Or.inl ⟨by kernel_rfl, ?_⟩) hHeld ?_
        · intro w' hSw; go_simp
        try simp only [Act.put, List.setIfInBounds_toArray, List.set_cons_zero, List.set_cons_succ, List.getElem_toArray, List.getElem_cons_succ, List.getElem_cons_zero]
        refine wpAnyH_done (by kernel_rfl) ?_ _
        clear hHeld
        try clear m0
        try clear R0
        rcases hp14 with rfl | rfl | rfl | rfl
        · obtain ⟨e0, e1, e2, -⟩ := m1.open3
          have c0 := A1.cell 1 rfl
          have c1 := A1.frozen 1
          have hc : ((cnt 1 f k : Nat) : Int) ≤ 100 := by have := cnt_le 1 f k; omega
          have A2 := A1.set 1 (.int .i64 (((cnt 1 f k : Nat) : Int) + 1))
          go_wp2
          refine ⟨⟨k + 1, by omega, by go_num, ?_, HA2.out, HR2.out, B1.setCell hqw _⟩, by simp [intOf]; omega⟩
          simp only [cnt, HP.out]
          simpa using A2
        · obtain ⟨e0, e1, e2, -⟩ := m1.open3
          have c0 := A1.cell 2 rfl
          have c1 := A1.frozen 2
          have hc : ((cnt 2 f k : Nat) : Int) ≤ 100 := by have := cnt_le 2 f k; omega
          have A2 := A1.set 2 (.int .i64 (((cnt 2 f k : Nat) : Int) + 1))
          go_wp2
          refine ⟨⟨k + 1, by omega, by go_num, ?_, HA2.out, HR2.out, B1.setCell hqw _⟩, by simp [intOf]; omega⟩
          simp only [cnt, HP.out]
          simpa using A2
        · obtain ⟨e0, e1, e2, -⟩ := m1.open3
          have c0 := A1.cell 3 rfl
          have c1 := A1.frozen 3
          have hc : ((cnt 3 f k : Nat) : Int) ≤ 100 := by have := cnt_le 3 f k; omega
          have A2 := A1.set 3 (.int .i64 (((cnt 3 f k : Nat) : Int) + 1))
          go_wp2
          refine ⟨⟨k + 1, by omega, by go_num, ?_, HA2.out, HR2.out, B1.setCell hqw _⟩, by simp [intOf]; omega⟩
          simp only [cnt, HP.out]
          simpa using A2
        · obtain ⟨e0, e1, e2, -⟩ := m1.open3
          have c0 := A1.cell 4 rfl
          have c1 := A1.frozen 4
          have hc : ((cnt 4 f k : Nat) : Int) ≤ 100 := by have := cnt_le 4 f k; omega
          have A2 := A1.set 4 (.int .i64 (((cnt 4 f k : Nat) : Int) + 1))
          go_wp2
          refine ⟨⟨k + 1, by omega, by go_num, ?_, HA2.out, HR2.out, B1.setCell hqw _⟩, by simp [intOf]; omega⟩
          simp only [cnt, HP.out]
          simpa using A2
      obtain ⟨kk, hkk⟩ : ∃ kk, k = kk + 1 := ⟨k - 1, by omega⟩
      have hk1 : (0 : Int) < (k : Int) := by omega
      have hw : IntKind.i64.wrap ((k : Int) - 1) = (kk : Int) := by rw [IntKind.wrap_i64]; omega
      have hkn : kk < n := by omega
      have HK : Hid (k = kk + 1) := hkk
      clear hkk hk0
      obtain ⟨z, hz⟩ : ∃ z, f (kk * 3) = z := ⟨_, rfl⟩
      have HZ : Hid (f (kk * 3) = z) := hz
      clear hz
      by_cases hxz : z ≥ x
      · obtain rfl := no_of hb (fun K => by have := K.2.2.1 kk (by have := HK.out; omega); rw [← HK.out, HX.out, HZ.out] at this; omega)
        have hxz' : x ≤ z := hxz
        clear HA2 HO A1 hp14 hxz
        go_wp2_with fail
        clear d0 d1 d2 hV1 hr1
        obtain ⟨u0, hu0, bb⟩ : ∃ uu, V1.drew = uu ∧ Below V1.heap.size V1 uu := ⟨_, rfl, (Below.refl _ _).drew⟩
        replace m1 := m1.below bb
        replace R := R.below bb
        replace B1 := B1.trans (bb.mono B1.size)
        have m0 := m1
        have R0 := R
        clear bb
        refine wp_region_held_drew (S := Kb u0) (by kernel_rfl) (by rw [hu0]; exact Below.refl _ _) (fun hHeld => ?_)
        rw [hu0] at hHeld ⊢
        clear hu0
        have bu : Kb u0 u0 := Below.refl _ _
        change wpAnyH _ _ _ _ _ 18 #[false, false, false, false, false, false, false, false, false, false, false, false, false, false, false, false, false, false] _ _
        refine wpAnyH_take (i := 0) (v := .agg #[.int .i64 (x), .int .i64 (p), .int .i64 (l)]) rfl (by kernel_rfl) (by kernel_rfl) (by kernel_rfl) (fun _ _ _ h => h) (Or.inl ⟨by kernel_rfl, ?_⟩) hHeld ?_
        · intro w' hSw; obtain ⟨z0, z1, z2, -⟩ := (m0.below hSw).open3; go_simp
        try simp only [Act.put, List.setIfInBounds_toArray, List.set_cons_zero, List.set_cons_succ, List.getElem_toArray, List.getElem_cons_zero]
        refine wpAnyH_ready (rs := [1]) (by kernel_rfl) (by simp) ?_
        refine AllReadyH.cons rfl (fun KK hK' => ?_) AllReadyH.nil
        go_simp
        refine (SR _).mono ?_
        rintro e u1 ⟨rfl, bb⟩
        replace B1 := B1.trans (bb.mono B1.size)
        replace m1 := m1.below bb
        replace R := R.below bb
        replace bu : Kb u0 u1 := bu.trans (bb.mono bu.size)
        clear bb
        try go_wp2_with fail
        clear hHeld
        refine hK'.out _ _ (bu) (fun hHeld => ?_)
        clear hK' KK
        try simp only [List.setIfInBounds_toArray, List.set_cons_zero, List.set_cons_succ]
        refine wpAnyH_take (i := 2) (v := .bool false) rfl (by kernel_rfl) (by kernel_rfl) (by kernel_rfl) (fun _ _ _ h => h) (Or.inl ⟨by kernel_rfl, ?_⟩) hHeld ?_
        · intro w' hSw; go_simp
        try simp only [Act.put, List.setIfInBounds_toArray, List.set_cons_zero, List.set_cons_succ, List.getElem_toArray, List.getElem_cons_succ, List.getElem_cons_zero]
        refine wpAnyH_take (i := 3) (v := .bool false) rfl (by kernel_rfl) (by kernel_rfl) (by kernel_rfl) (fun _ _ _ h => h) (Or.inl ⟨by kernel_rfl, ?_⟩) hHeld ?_
        · intro w' hSw; go_simp
        try simp only [Act.put, List.setIfInBounds_toArray, List.set_cons_zero, List.set_cons_succ, List.getElem_toArray, List.getElem_cons_succ, List.getElem_cons_zero]
        refine wpAnyH_take (i := 4) (v := .int .i64 ((k : Int))) rfl (by kernel_rfl) (by kernel_rfl) (by kernel_rfl) (fun _ _ _ h => h) (Or.inl ⟨by kernel_rfl, ?_⟩) hHeld ?_
        · intro w' hSw; go_simp
        try simp only [Act.put, List.setIfInBounds_toArray, List.set_cons_zero, List.set_cons_succ, List.getElem_toArray, List.getElem_cons_succ, List.getElem_cons_zero]
        refine wpAnyH_take (i := 5) (v := .bool true) rfl (by kernel_rfl) (by kernel_rfl) (by kernel_rfl) (fun _ _ _ h => h) (Or.inl ⟨by kernel_rfl, ?_⟩) hHeld ?_
        · intro w' hSw; go_simp; omega
        try simp only [Act.put, List.setIfInBounds_toArray, List.set_cons_zero, List.set_cons_succ, List.getElem_toArray, List.getElem_cons_succ, List.getElem_cons_zero]
        refine wpAnyH_take (i := 6) (v := .bool true) rfl (by kernel_rfl) (by kernel_rfl) (by kernel_rfl) (fun _ _ _ h => h) (Or.inl ⟨by kernel_rfl, ?_⟩) hHeld ?_
        · intro w' hSw; go_simp
        try simp only [Act.put, List.setIfInBounds_toArray, List.set_cons_zero, List.set_cons_succ, List.getElem_toArray, List.getElem_cons_succ, List.getElem_cons_zero]
        refine wpAnyH_take (i := 7) (v := .slice ((some ⟨g, 0, none⟩)) n c) rfl (by kernel_rfl) (by kernel_rfl) (by kernel_rfl) (fun _ _ _ h => h) (Or.inl ⟨by kernel_rfl, ?_⟩) hHeld ?_
        · intro w' hSw; go_simp
        try simp only [Act.put, List.setIfInBounds_toArray, List.set_cons_zero, List.set_cons_succ, List.getElem_toArray, List.getElem_cons_succ, List.getElem_cons_zero]
        refine wpAnyH_take (i := 8) (v := .int .i64 ((k : Int))) rfl (by kernel_rfl) (by kernel_rfl) (by kernel_rfl) (fun _ _ _ h => h) (Or.inl ⟨by kernel_rfl, ?_⟩) hHeld ?_
        · intro w' hSw; go_simp
        try simp only [Act.put, List.setIfInBounds_toArray, List.set_cons_zero, List.set_cons_succ, List.getElem_toArray, List.getElem_cons_succ, List.getElem_cons_zero]
        refine wpAnyH_take (i := 9) (v := .int .i64 ((kk : Int))) rfl (by kernel_rfl) (by kernel_rfl) (by kernel_rfl) (fun _ _ _ h => h) (Or.inl ⟨by kernel_rfl, ?_⟩) hHeld ?_
        · intro w' hSw; go_simp
        try simp only [Act.put, List.setIfInBounds_toArray, List.set_cons_zero, List.set_cons_succ, List.getElem_toArray, List.getElem_cons_succ, List.getElem_cons_zero]
        refine wpAnyH_take (i := 10) (v := .pointer (some ⟨g, kk * 3, none⟩)) rfl (by kernel_rfl) (by kernel_rfl) (by kernel_rfl) (fun _ _ _ h => h) (Or.inl ⟨by kernel_rfl, ?_⟩) hHeld ?_
        · intro w' hSw; go_simp
        try simp only [Act.put, List.setIfInBounds_toArray, List.set_cons_zero, List.set_cons_succ, List.getElem_toArray, List.getElem_cons_succ, List.getElem_cons_zero]
        refine wpAnyH_take (i := 11) (v := .pointer (some ⟨g, kk * 3, none⟩)) rfl (by kernel_rfl) (by kernel_rfl) (by kernel_rfl) (fun _ _ _ h => h) (Or.inl ⟨by kernel_rfl, ?_⟩) hHeld ?_
        · intro w' hSw; go_simp
        try simp only [Act.put, List.setIfInBounds_toArray, List.set_cons_zero, List.set_cons_succ, List.getElem_toArray, List.getElem_cons_succ, List.getElem_cons_zero]
        refine wpAnyH_take (i := 12) (v := .int .i64 (z)) rfl (by kernel_rfl) (by kernel_rfl) (by kernel_rfl) (fun _ _ _ h => h) (Or.inl ⟨by kernel_rfl, ?_⟩) hHeld ?_
        · intro w' hSw; have z0 := (R0.below hSw).2 (kk * 3) (by omega); rw [HZ.out] at z0; go_simp
        try simp only [Act.put, List.setIfInBounds_toArray, List.set_cons_zero, List.set_cons_succ, List.getElem_toArray, List.getElem_cons_succ, List.getElem_cons_zero]
        refine wpAnyH_take (i := 13) (v := .pointer (some ⟨r1, 0, none⟩)) rfl (by kernel_rfl) (by kernel_rfl) (by kernel_rfl) (fun _ _ _ h => h) (Or.inl ⟨by kernel_rfl, ?_⟩) hHeld ?_
        · intro w' hSw; go_simp
        try simp only [Act.put, List.setIfInBounds_toArray, List.set_cons_zero, List.set_cons_succ, List.getElem_toArray, List.getElem_cons_succ, List.getElem_cons_zero]
        refine wpAnyH_take (i := 14) (v := .int .i64 (x)) rfl (by kernel_rfl) (by kernel_rfl) (by kernel_rfl) (fun _ _ _ h => h) (Or.inl ⟨by kernel_rfl, ?_⟩) hHeld ?_
        · intro w' hSw; obtain ⟨z0, z1, z2, -⟩ := (m0.below hSw).open3; go_simp
        try simp only [Act.put, List.setIfInBounds_toArray, List.set_cons_zero, List.set_cons_succ, List.getElem_toArray, List.getElem_cons_succ, List.getElem_cons_zero]
        refine wpAnyH_take (i := 15) (v := .bool true) rfl (by kernel_rfl) (by kernel_rfl) (by kernel_rfl) (fun _ _ _ h => h) (Or.inl ⟨by kernel_rfl, ?_⟩) hHeld ?_
        · intro w' hSw; go_simp
        try simp only [Act.put, List.setIfInBounds_toArray, List.set_cons_zero, List.set_cons_succ, List.getElem_toArray, List.getElem_cons_succ, List.getElem_cons_zero]
        refine wpAnyH_take (i := 16) (v := .bool true) rfl (by kernel_rfl) (by kernel_rfl) (by kernel_rfl) (fun _ _ _ h => h) (Or.inl ⟨by kernel_rfl, ?_⟩) hHeld ?_
        · intro w' hSw; go_simp
        try simp only [Act.put, List.setIfInBounds_toArray, List.set_cons_zero, List.set_cons_succ, List.getElem_toArray, List.getElem_cons_succ, List.getElem_cons_zero]
        refine wpAnyH_take (i := 17) (v := .bool true) rfl (by kernel_rfl) (by kernel_rfl) (by kernel_rfl) (fun _ _ _ h => h) (Or.inl ⟨by kernel_rfl, ?_⟩) hHeld ?_
        · intro w' hSw; go_simp
        try simp only [Act.put, List.setIfInBounds_toArray, List.set_cons_zero, List.set_cons_succ, List.getElem_toArray, List.getElem_cons_succ, List.getElem_cons_zero]
        refine wpAnyH_done (by kernel_rfl) ?_ _
        clear hHeld
        try clear m0
        try clear R0
        go_wp2
        go_ret
        exact ⟨rfl, B1⟩
      · have HR2 : Hid (∀ i, i + 1 < k + 1 → f (i * 3) < f ((i + 1) * 3)) := fun i hi => by
          by_cases e : i = kk
          · rw [e, ← HK.out, HX.out, HZ.out]; omega
          · exact HR.out i (by have := HK.out; omega)
        have hxz' : ¬ x ≤ z := hxz
        clear hxz
        go_wp2_with fail
        clear d0 d1 d2 hV1 hr1
        obtain ⟨u0, hu0, bb⟩ : ∃ uu, V1.drew = uu ∧ Below V1.heap.size V1 uu := ⟨_, rfl, (Below.refl _ _).drew⟩
        replace m1 := m1.below bb
        replace R := R.below bb
        replace A1 := A1.below bb
        replace B1 := B1.trans (bb.mono B1.size)
        have m0 := m1
        have R0 := R
        clear bb
        refine wp_region_held_drew (S := Kb u0) (by kernel_rfl) (by rw [hu0]; exact Below.refl _ _) (fun hHeld => ?_)
        rw [hu0] at hHeld ⊢
        clear hu0
        have bu : Kb u0 u0 := Below.refl _ _
        change wpAnyH _ _ _ _ _ 18 #[false, false, false, false, false, false, false, false, false, false, false, false, false, false, false, false, false, false] _ _
        refine wpAnyH_take (i := 0) (v := .agg #[.int .i64 (x), .int .i64 (p), .int .i64 (l)]) rfl (by kernel_rfl) (by kernel_rfl) (by kernel_rfl) (fun _ _ _ h => h) (Or.inl ⟨by kernel_rfl, ?_⟩) hHeld ?_
        · intro w' hSw; obtain ⟨z0, z1, z2, -⟩ := (m0.below hSw).open3; go_simp
        try simp only [Act.put, List.setIfInBounds_toArray, List.set_cons_zero, List.set_cons_succ, List.getElem_toArray, List.getElem_cons_zero]
        refine wpAnyH_ready (rs := [1]) (by kernel_rfl) (by simp) ?_
        refine AllReadyH.cons rfl (fun KK hK' => ?_) AllReadyH.nil
        go_simp
        refine (SR _).mono ?_
        rintro e u1 ⟨rfl, bb⟩
        replace B1 := B1.trans (bb.mono B1.size)
        replace m1 := m1.below bb
        replace R := R.below bb
        replace A1 := A1.below bb
        replace bu : Kb u0 u1 := bu.trans (bb.mono bu.size)
        clear bb
        try go_wp2_with fail
        clear hHeld
        refine hK'.out _ _ (bu) (fun hHeld => ?_)
        clear hK' KK
        try simp only [List.setIfInBounds_toArray, List.set_cons_zero, List.set_cons_succ]
        refine wpAnyH_take (i := 2) (v := .bool false) rfl (by kernel_rfl) (by kernel_rfl) (by kernel_rfl) (fun _ _ _ h => h) (Or.inl ⟨by kernel_rfl, ?_⟩) hHeld ?_
        · intro w' hSw; go_simp
        try simp only [Act.put, List.setIfInBounds_toArray, List.set_cons_zero, List.set_cons_succ, List.getElem_toArray, List.getElem_cons_succ, List.getElem_cons_zero]
        refine wpAnyH_take (i := 3) (v := .bool false) rfl (by kernel_rfl) (by kernel_rfl) (by kernel_rfl) (fun _ _ _ h => h) (Or.inl ⟨by kernel_rfl, ?_⟩) hHeld ?_
        · intro w' hSw; go_simp
        try simp only [Act.put, List.setIfInBounds_toArray, List.set_cons_zero, List.set_cons_succ, List.getElem_toArray, List.getElem_cons_succ, List.getElem_cons_zero]
        refine wpAnyH_take (i := 4) (v := .int .i64 ((k : Int))) rfl (by kernel_rfl) (by kernel_rfl) (by kernel_rfl) (fun _ _ _ h => h) (Or.inl ⟨by kernel_rfl, ?_⟩) hHeld ?_
        · intro w' hSw; go_simp
        try simp only [Act.put, List.setIfInBounds_toArray, List.set_cons_zero, List.set_cons_succ, List.getElem_toArray, List.getElem_cons_succ, List.getElem_cons_zero]
        refine wpAnyH_take (i := 5) (v := .bool true) rfl (by kernel_rfl) (by kernel_rfl) (by kernel_rfl) (fun _ _ _ h => h) (Or.inl ⟨by kernel_rfl, ?_⟩) hHeld ?_
        · intro w' hSw; go_simp; omega
        try simp only [Act.put, List.setIfInBounds_toArray, List.set_cons_zero, List.set_cons_succ, List.getElem_toArray, List.getElem_cons_succ, List.getElem_cons_zero]
        refine wpAnyH_take (i := 6) (v := .bool true) rfl (by kernel_rfl) (by kernel_rfl) (by kernel_rfl) (fun _ _ _ h => h) (Or.inl ⟨by kernel_rfl, ?_⟩) hHeld ?_
        · intro w' hSw; go_simp
        try simp only [Act.put, List.setIfInBounds_toArray, List.set_cons_zero, List.set_cons_succ, List.getElem_toArray, List.getElem_cons_succ, List.getElem_cons_zero]
        refine wpAnyH_take (i := 7) (v := .slice ((some ⟨g, 0, none⟩)) n c) rfl (by kernel_rfl) (by kernel_rfl) (by kernel_rfl) (fun _ _ _ h => h) (Or.inl ⟨by kernel_rfl, ?_⟩) hHeld ?_
        · intro w' hSw; go_simp
        try simp only [Act.put, List.setIfInBounds_toArray, List.set_cons_zero, List.set_cons_succ, List.getElem_toArray, List.getElem_cons_succ, List.getElem_cons_zero]
        refine wpAnyH_take (i := 8) (v := .int .i64 ((k : Int))) rfl (by kernel_rfl) (by kernel_rfl) (by kernel_rfl) (fun _ _ _ h => h) (Or.inl ⟨by kernel_rfl, ?_⟩) hHeld ?_
        · intro w' hSw; go_simp
        try simp only [Act.put, List.setIfInBounds_toArray, List.set_cons_zero, List.set_cons_succ, List.getElem_toArray, List.getElem_cons_succ, List.getElem_cons_zero]
        refine wpAnyH_take (i := 9) (v := .int .i64 ((kk : Int))) rfl (by kernel_rfl) (by kernel_rfl) (by kernel_rfl) (fun _ _ _ h => h) (Or.inl ⟨by kernel_rfl, ?_⟩) hHeld ?_
        · intro w' hSw; go_simp
        try simp only [Act.put, List.setIfInBounds_toArray, List.set_cons_zero, List.set_cons_succ, List.getElem_toArray, List.getElem_cons_succ, List.getElem_cons_zero]
        refine wpAnyH_take (i := 10) (v := .pointer (some ⟨g, kk * 3, none⟩)) rfl (by kernel_rfl) (by kernel_rfl) (by kernel_rfl) (fun _ _ _ h => h) (Or.inl ⟨by kernel_rfl, ?_⟩) hHeld ?_
        · intro w' hSw; go_simp
        try simp only [Act.put, List.setIfInBounds_toArray, List.set_cons_zero, List.set_cons_succ, List.getElem_toArray, List.getElem_cons_succ, List.getElem_cons_zero]
        refine wpAnyH_take (i := 11) (v := .pointer (some ⟨g, kk * 3, none⟩)) rfl (by kernel_rfl) (by kernel_rfl) (by kernel_rfl) (fun _ _ _ h => h) (Or.inl ⟨by kernel_rfl, ?_⟩) hHeld ?_
        · intro w' hSw; go_simp
        try simp only [Act.put, List.setIfInBounds_toArray, List.set_cons_zero, List.set_cons_succ, List.getElem_toArray, List.getElem_cons_succ, List.getElem_cons_zero]
        refine wpAnyH_take (i := 12) (v := .int .i64 (z)) rfl (by kernel_rfl) (by kernel_rfl) (by kernel_rfl) (fun _ _ _ h => h) (Or.inl ⟨by kernel_rfl, ?_⟩) hHeld ?_
        · intro w' hSw; have z0 := (R0.below hSw).2 (kk * 3) (by omega); rw [HZ.out] at z0; go_simp
        try simp only [Act.put, List.setIfInBounds_toArray, List.set_cons_zero, List.set_cons_succ, List.getElem_toArray, List.getElem_cons_succ, List.getElem_cons_zero]
        refine wpAnyH_take (i := 13) (v := .pointer (some ⟨r1, 0, none⟩)) rfl (by kernel_rfl) (by kernel_rfl) (by kernel_rfl) (fun _ _ _ h => h) (Or.inl ⟨by kernel_rfl, ?_⟩) hHeld ?_
        · intro w' hSw; go_simp
        try simp only [Act.put, List.setIfInBounds_toArray, List.set_cons_zero, List.set_cons_succ, List.getElem_toArray, List.getElem_cons_succ, List.getElem_cons_zero]
        refine wpAnyH_take (i := 14) (v := .int .i64 (x)) rfl (by kernel_rfl) (by kernel_rfl) (by kernel_rfl) (fun _ _ _ h => h) (Or.inl ⟨by kernel_rfl, ?_⟩) hHeld ?_
        · intro w' hSw; obtain ⟨z0, z1, z2, -⟩ := (m0.below hSw).open3; go_simp
        try simp only [Act.put, List.setIfInBounds_toArray, List.set_cons_zero, List.set_cons_succ, List.getElem_toArray, List.getElem_cons_succ, List.getElem_cons_zero]
        refine wpAnyH_take (i := 15) (v := .bool false) rfl (by kernel_rfl) (by kernel_rfl) (by kernel_rfl) (fun _ _ _ h => h) (Or.inl ⟨by kernel_rfl, ?_⟩) hHeld ?_
        · intro w' hSw; go_simp
        try simp only [Act.put, List.setIfInBounds_toArray, List.set_cons_zero, List.set_cons_succ, List.getElem_toArray, List.getElem_cons_succ, List.getElem_cons_zero]
        refine wpAnyH_take (i := 16) (v := .bool false) rfl (by kernel_rfl) (by kernel_rfl) (by kernel_rfl) (fun _ _ _ h => h) (Or.inl ⟨by kernel_rfl, ?_⟩) hHeld ?_
        · intro w' hSw; go_simp
        try simp only [Act.put, List.setIfInBounds_toArray, List.set_cons_zero, List.set_cons_succ, List.getElem_toArray, List.getElem_cons_succ, List.getElem_cons_zero]
        refine wpAnyH_take (i := 17) (v := .bool false) rfl (by kernel_rfl) (by kernel_rfl) (by kernel_rfl) (fun _ _ _ h => h) (Or.inl ⟨by kernel_rfl, ?_⟩) hHeld ?_
        · intro w' hSw; go_simp
        try simp only [Act.put, List.setIfInBounds_toArray, List.set_cons_zero, List.set_cons_succ, List.getElem_toArray, List.getElem_cons_succ, List.getElem_cons_zero]
        refine wpAnyH_done (by kernel_rfl) ?_ _
        clear hHeld
        try clear m0
        try clear R0
        rcases hp14 with rfl | rfl | rfl | rfl
        · obtain ⟨e0, e1, e2, -⟩ := m1.open3
          have c0 := A1.cell 1 rfl
          have c1 := A1.frozen 1
          have hc : ((cnt 1 f k : Nat) : Int) ≤ 100 := by have := cnt_le 1 f k; omega
          have A2 := A1.set 1 (.int .i64 (((cnt 1 f k : Nat) : Int) + 1))
          go_wp2
          refine ⟨⟨k + 1, by omega, by go_num, ?_, HA2.out, HR2.out, B1.setCell hqw _⟩, by simp [intOf]; omega⟩
          simp only [cnt, HP.out]
          simpa using A2
        · obtain ⟨e0, e1, e2, -⟩ := m1.open3
          have c0 := A1.cell 2 rfl
          have c1 := A1.frozen 2
          have hc : ((cnt 2 f k : Nat) : Int) ≤ 100 := by have := cnt_le 2 f k; omega
          have A2 := A1.set 2 (.int .i64 (((cnt 2 f k : Nat) : Int) + 1))
          go_wp2
          refine ⟨⟨k + 1, by omega, by go_num, ?_, HA2.out, HR2.out, B1.setCell hqw _⟩, by simp [intOf]; omega⟩
          simp only [cnt, HP.out]
          simpa using A2
        · obtain ⟨e0, e1, e2, -⟩ := m1.open3
          have c0 := A1.cell 3 rfl
          have c1 := A1.frozen 3
          have hc : ((cnt 3 f k : Nat) : Int) ≤ 100 := by have := cnt_le 3 f k; omega
          have A2 := A1.set 3 (.int .i64 (((cnt 3 f k : Nat) : Int) + 1))
          go_wp2
          refine ⟨⟨k + 1, by omega, by go_num, ?_, HA2.out, HR2.out, B1.setCell hqw _⟩, by simp [intOf]; omega⟩
          simp only [cnt, HP.out]
          simpa using A2
        · obtain ⟨e0, e1, e2, -⟩ := m1.open3
          have c0 := A1.cell 4 rfl
          have c1 := A1.frozen 4
          have hc : ((cnt 4 f k : Nat) : Int) ≤ 100 := by have := cnt_le 4 f k; omega
          have A2 := A1.set 4 (.int .i64 (((cnt 4 f k : Nat) : Int) + 1))
          go_wp2
          refine ⟨⟨k + 1, by omega, by go_num, ?_, HA2.out, HR2.out, B1.setCell hqw _⟩, by simp [intOf]; omega⟩
          simp only [cnt, HP.out]
          simpa using A2
    · have hlt' : ¬ (k : Int) < (n : Int) := by omega
      obtain rfl : k = n := by omega
      have e0 := A1.cell 2 rfl
      have e1 := A1.cell 3 rfl
      by_cases h2 : cnt 2 f k ≤ 1
      case neg =>
        obtain rfl := no_of hb (fun K => h2 K.2.2.2.1)
        have h2' : ¬ ((cnt 2 f k : Nat) : Int) ≤ 1 := by omega
        go_wp2
        go_ret
        exact ⟨rfl, B1⟩
      have h2' : ((cnt 2 f k : Nat) : Int) ≤ 1 := by omega
      by_cases h3 : cnt 3 f k ≤ 1
      case neg =>
        obtain rfl := no_of hb (fun K => h3 K.2.2.2.2)
        have h3' : ¬ ((cnt 3 f k : Nat) : Int) ≤ 1 := by omega
        go_wp2
        go_ret
        exact ⟨rfl, B1⟩
      have h3' : ((cnt 3 f k : Nat) : Int) ≤ 1 := by omega
      obtain rfl : b = true := hb.out.2 ⟨hn1, HA.out, HR.out, h2, h3⟩
      go_wp2
      go_ret
      exact ⟨rfl, B1⟩
end Go.Proofs.Ytnjnffemidaopaa
