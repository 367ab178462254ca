/-
  Which operators of a list let a point stay; Stabiliser by the specification: walked.
-/
import Derived.Test.YtmjeplhigjlopaaE5e
import Derived.Test.YtmjeplhigjlopaaMP
import Derived.Test.YtmjeplhigjlopaaQd
import Derived.Test.YtmjeplhigjlopaaMG
namespace Go.Proofs.Ytmjeplhigjlopaa
open Go.RowKit

/-- The numbers below n that P holds of, in their order. -/
def kL (P : Nat → Bool) (n : Nat) : List Nat := (List.range n).filter P
def kN (P : Nat → Bool) (n : Nat) : Nat := (kL P n).length
def kI (P : Nat → Bool) (n j : Nat) : Nat := ((kL P n)[j]?).getD 0
theorem kL_yes {P : Nat → Bool} {n : Nat} (h : P n = true) : kL P (n + 1) = kL P n ++ [n] := by simp [kL, List.range_succ, h]
theorem kL_no {P : Nat → Bool} {n : Nat} (h : P n = false) : kL P (n + 1) = kL P n := by simp [kL, List.range_succ, h]
theorem kN_yes {P : Nat → Bool} {n : Nat} (h : P n = true) : kN P (n + 1) = kN P n + 1 := by simp [kN, kL_yes h]
theorem kN_no {P : Nat → Bool} {n : Nat} (h : P n = false) : kN P (n + 1) = kN P n := by simp [kN, kL_no h]
theorem kI_no {P : Nat → Bool} {n : Nat} (h : P n = false) (j : Nat) : kI P (n + 1) j = kI P n j := by simp [kI, kL_no h]
theorem kI_old {P : Nat → Bool} {n : Nat} (h : P n = true) {j : Nat} (hj : j < kN P n) : kI P (n + 1) j = kI P n j := by
  unfold kI
  rw [kL_yes h, List.getElem?_append_left hj]
theorem kI_new {P : Nat → Bool} {n : Nat} (h : P n = true) : kI P (n + 1) (kN P n) = n := by
  unfold kI kN
  rw [kL_yes h, List.getElem?_append_right (Nat.le_refl _)]
  simp
theorem kN_le (P : Nat → Bool) (n : Nat) : kN P n ≤ n := by
  have := List.length_filter_le P (List.range n)
  simpa [kN, kL] using this
theorem kI_lt {P : Nat → Bool} {n j : Nat} (hj : j < kN P n) : kI P n j < n := by
  unfold kI
  have h : (kL P n)[j]? = some ((kL P n)[j]'hj) := List.getElem?_eq_getElem hj
  rw [h]
  have h2 : (kL P n)[j]'hj ∈ kL P n := List.getElem_mem hj
  have h3 := (List.mem_filter.1 h2).1
  simpa using h3
theorem OpsG.congr {w : World} {lo n : Nat} {v : Value} {X Y : Nat → Value} {A A' : Nat → OpD} (h : OpsG w lo v n X Y A) (e : ∀ i, i < n → A i = A' i) : OpsG w lo v n X Y A' :=
  ⟨h.row, h.nn, fun i hi => (e i hi) ▸ h.xs i hi, fun i hi => (e i hi) ▸ h.ys i hi, h.dj⟩
theorem OpsA.lower {w : World} {lo lo' hi g n : Nat} {X Y : Nat → Value} {A : Nat → OpD} (h : OpsA w lo hi g n X Y A) (hl : lo' ≤ lo) : OpsA w lo' hi g n X Y A :=
  ⟨⟨Nat.le_trans hl h.blk.1, h.blk.2⟩, fun i hi => (h.xs i hi).wide hl (Nat.le_refl _), fun i hi => (h.ys i hi).wide hl (Nat.le_refl _), h.dj⟩
theorem OpsG.more {wr w3 w4 : World} {lo i : Nat} {v v4 v1 v2 : Value} {X Y : Nat → Value} {A : Nat → OpD} {P : Nat → Bool} (h : OpsG wr lo v (kN P i) X Y (fun j => A (kI P i j))) (hP : P i = true) (hk : (A i).n = 9 ∧ (A i).k = 3) (hlo : lo ≤ wr.heap.size) (b3 : Below wr.heap.size wr w3) (r1 : Arr w3 wr.heap.size w3.heap.size v1 9 (A i).f) (r2 : Arr w3 wr.heap.size w3.heap.size v2 3 (A i).h) (ap : Apart v1 v2)
    (hg : w3.grownBy w4 v.ownBlock) (hrow : w4.ownsRow lo 37 2 v4 (kN P i + 1) (pc X Y (kN P i) ++ [v1, v2])) (hne : v4 ≠ .slice none 0 0) : ∃ X' Y', OpsG w4 lo v4 (kN P (i + 1)) X' Y' (fun j => A (kI P (i + 1) j)) := by
  rw [kN_yes hP]
  have h' := h.congr (A' := fun j => A (kI P (i + 1) j)) (fun j hj => by rw [kI_old hP hj])
  refine h'.next hlo b3 ?_ ?_ ap hg hrow hne
  · show Arr _ _ _ _ (A (kI P (i + 1) (kN P i))).n (A (kI P (i + 1) (kN P i))).f
    rw [kI_new hP, hk.1]; exact r1
  · show Arr _ _ _ _ (A (kI P (i + 1) (kN P i))).k (A (kI P (i + 1) (kN P i))).h
    rw [kI_new hP, hk.2]; exact r2
theorem hidden {p : Prop} (h : p) : Hid p := h
/-- The operator lets the point stay. -/
def stay (x y z : Int) (o : OpD) : Bool := decide (actV o.f o.h (p3 x y z) 0 = x ∧ actV o.f o.h (p3 x y z) 1 = y ∧ actV o.f o.h (p3 x y z) 2 = z)
/-- An own list of the operators of A that let the point stay; none, if r does not hold. -/
def StaP (w : World) (lo : Nat) (v : Value) (n : Nat) (A : Nat → OpD) (x y z : Int) : Prop :=
  ∃ g c X Y m, v = .slice (some ⟨g, 0, none⟩) m c ∧ OpsA w lo w.heap.size g m X Y (fun j => A (kI (fun i => stay x y z (A i)) n j)) ∧ ((isG n A ∧ inP x y z) ∧ m = kN (fun i => stay x y z (A i)) n ∨ ¬ (isG n A ∧ inP x y z) ∧ m = 0)
theorem opsG_new {w W : World} {A : Nat → OpD} (a1 : At 37 W w.heap.size #[]) : OpsG W w.heap.size (.slice (some ⟨w.heap.size, 0, none⟩) 0 0) 0 (fun _ => undef) (fun _ => undef) A := ⟨⟨rfl, .inr ⟨w.heap.size, 0, #[], rfl, Nat.le_refl _, a1, Nat.le_refl _, Nat.zero_le _, rfl, rfl⟩⟩, ne_nil _ _ _, fun i hi => by omega, fun i hi => by omega, fun i j hi => by omega, fun i j hi => by omega⟩
set_option maxRecDepth 100000 in
set_option maxHeartbeats 3000000 in
theorem specSta_any {w : World} {g n c : Nat} {A : Nat → OpD} (x y z : Int) (hL : OpsL w g n A) (hn : n ≤ 1048576) :
    Calls Try.prog 29 #[.slice (some ⟨g, 0, none⟩) n c, pV x y z] w fun e w' => (∃ v, e = .returned v ∧ StaP w' w.heap.size v n A x y z) ∧ Below w.heap.size w w' := by
  have hbs : ∀ w, (Instr.buildSlice 24 0 #[]).run Try.prog w = .ok (.slice (some ⟨w.heap.size, 0, none⟩) 0 0) (w.alloc (.cells #[] 37)) := fun _ => by kernel_rfl
  obtain ⟨i0, hi0, hz0, hz1, hz2⟩ := info_parts Try.info37
  obtain ⟨W1, hW1, A1, B1, -⟩ := boxed w 48 #[.int .i64 x, .int .i64 y, .int .i64 z]
  obtain ⟨q1, hq1⟩ : ∃ q, w.heap.size = q := ⟨_, rfl⟩
  rw [hq1] at A1
  obtain ⟨W2, hW2, a2, B2, -⟩ := boxed W1 37 #[]
  obtain ⟨p2, hp2⟩ : ∃ q, W1.heap.size = q := ⟨_, rfl⟩
  have o1 : Hid (OpsG W2 W1.heap.size (.slice (some ⟨p2, 0, none⟩) 0 0) 0 (fun _ => undef) (fun _ => undef) (fun j => A (kI (fun i => stay x y z (A i)) 0 j))) := hp2 ▸ opsG_new a2
  clear a2
  unfold pV
  go_enter Try.func29, Try.ntmps29
  go_wp2_with fail
  refine (groupOk_any ((hL.below B1).below B2) hn).mono ?_
  rintro e w3 ⟨⟨r, rfl, hr⟩, b3⟩
  have o3 : Hid (OpsG w3 W1.heap.size (.slice (some ⟨p2, 0, none⟩) 0 0) 0 (fun _ => undef) (fun _ => undef) (fun j => A (kI (fun i => stay x y z (A i)) 0 j))) := o1.out.below b3
  replace B2 := B2.trans (b3.mono B2.size)
  clear o1 b3
  have A3 := A1.below B2
  obtain ⟨d0, d1, d2, -⟩ := A3.open3
  cases r
  · clear hW1 hq1 hW2 hp2
    have hno : Hid (¬ (isG n A ∧ inP x y z)) := fun e => absurd (hr.2 e.1) (by decide)
    clear hr
    go_wp2
    go_ret
    obtain ⟨g', c', e', H⟩ := (o3.out.congr (A' := fun j => A (kI (fun i => stay x y z (A i)) n j)) (fun i hi => absurd hi (Nat.not_lt_zero _))).opsA
    exact ⟨⟨_, rfl, g', c', _, _, 0, e', H.lower B1.size, .inr ⟨hno.out, rfl⟩⟩, B1.trans (B2.mono B1.size)⟩
  have HG : Hid (isG n A) := hr.1 rfl
  clear hr
  go_wp2_with fail
  clear hW1 hq1 hW2 hp2 d0 d1 d2 A3
  refine (l5Point_any x y z _).mono ?_
  rintro e w4 ⟨rfl, b4⟩
  have o4 : Hid (OpsG w4 W1.heap.size (.slice (some ⟨p2, 0, none⟩) 0 0) 0 (fun _ => undef) (fun _ => undef) (fun j => A (kI (fun i => stay x y z (A i)) 0 j))) := o3.out.below b4
  replace B2 := B2.trans (b4.mono B2.size)
  clear o3 b4
  by_cases hp : inP x y z
  rotate_left
  · rw [decide_eq_false hp]
    have hno : Hid (¬ (isG n A ∧ inP x y z)) := fun e => hp e.2
    clear hp
    go_wp2
    go_ret
    obtain ⟨g', c', e', H⟩ := (o4.out.congr (A' := fun j => A (kI (fun i => stay x y z (A i)) n j)) (fun i hi => absurd hi (Nat.not_lt_zero _))).opsA
    exact ⟨⟨_, rfl, g', c', _, _, 0, e', H.lower B1.size, .inr ⟨hno.out, rfl⟩⟩, B1.trans (B2.mono B1.size)⟩
  rw [decide_eq_true hp]
  have HP : Hid (inP x y z) := hp
  have hn' : (n : Int) ≤ 192 := by have := HG.out.1; omega
  clear hp hn
  have A2 := A1.below B2
  go_wp2
  go_loopw [5, 6] (fun v s wr => ∃ (i : Nat) (X Y : Nat → Value), i ≤ n ∧ s = .int .i64 (i : Int) ∧ Hid (OpsG wr W1.heap.size v (kN (fun i => stay x y z (A i)) i) X Y (fun j => A (kI (fun i => stay x y z (A i)) i j))) ∧ At 48 wr q1 #[.int .i64 x, .int .i64 y, .int .i64 z] ∧ Below W1.heap.size W1 wr) (fun _ s _ => n - (intOf s).toNat)
  case atStart => exact ⟨0, _, _, Nat.zero_le _, rfl, o4, A2, B2⟩
  case round =>
    clear o4 B2 A2
    obtain ⟨i, X, Y, hi, rfl, own, A2, B⟩ := hrel
    by_cases hlt : i < n
    · have hlt' : (i : Int) < (n : Int) := by omega
      have ok := HG.out.2.1 i hlt
      have hL2 := (hL.below B1).below B
      obtain ⟨av, c1, bv, d1, e1, e2, s1, s2⟩ := hL2.2 i hlt
      rw [ok.1] at e1 s1
      rw [ok.2.1] at e2 s2
      rcases s1 with s1 | ⟨bm, om, rfl, lm, Im⟩
      · omega
      rcases s2 with s2 | ⟨bt, ot, rfl, lt, It⟩
      · omega
      have hgl := hL2.1
      have HQ : Hid (∀ wq, Kb wr wq → wq.cell? ⟨g, i * 2, none⟩ = some (.slice (some ⟨bm, om, none⟩) 9 c1) ∧ wq.cell? ⟨g, i * 2 + 1, none⟩ = some (.slice (some ⟨bt, ot, none⟩) 3 d1)) := fun wq hq => ⟨(hq.cell (p := ⟨g, i * 2, none⟩) hgl).trans e1, (hq.cell (p := ⟨g, i * 2 + 1, none⟩) hgl).trans e2⟩
      have TU : ∀ wq, Kb wr wq → Calls Try.prog 57 #[.agg #[.slice (some ⟨bm, om, none⟩) 9 c1, .slice (some ⟨bt, ot, none⟩) 3 d1], .agg #[.int .i64 x, .int .i64 y, .int .i64 z]] wq fun e w' => e = .returned (.agg #[.int .i64 (actV (A i).f (A i).h (p3 x y z) 0), .int .i64 (actV (A i).f (A i).h (p3 x y z) 1), .int .i64 (actV (A i).f (A i).h (p3 x y z) 2)]) ∧ Below wq.heap.size wq w' := fun wq hq => l5Act_any c1 d1 (Im.below lm hq) (It.below lt hq) (Nat.lt_of_lt_of_le lm hq.size) (Nat.lt_of_lt_of_le lt hq.size) ok.2.2 HP.out
      have CP : Hid (∀ wq, Kb wr wq → Calls Try.prog 40 #[.agg #[.slice (some ⟨bm, om, none⟩) 9 c1, .slice (some ⟨bt, ot, none⟩) 3 d1]] wq fun e w' => ∃ o, e = .returned o ∧ OpAt w' wq.heap.size w'.heap.size o 9 (A i).f 3 (A i).h ∧ Below wq.heap.size wq w') := fun wq hq => l3Copy_any c1 d1 (Im.below lm hq) (It.below lt hq) (Nat.lt_of_lt_of_le lm hq.size) (Nat.lt_of_lt_of_le lt hq.size) (by omega) (by omega)
      have HS : Hid (stay x y z (A i) = decide (actV (A i).f (A i).h (p3 x y z) 0 = x ∧ actV (A i).f (A i).h (p3 x y z) 1 = y ∧ actV (A i).f (A i).h (p3 x y z) 2 = z)) := rfl
      have HK : Hid ((A i).n = 9 ∧ (A i).k = 3) := ⟨ok.1, ok.2.1⟩
      generalize hs0 : actV (A i).f (A i).h (p3 x y z) 0 = s0 at TU HS
      generalize hs1 : actV (A i).f (A i).h (p3 x y z) 1 = s1 at TU HS
      generalize hs2 : actV (A i).f (A i).h (p3 x y z) 2 = s2 at TU HS
      clear hs0 hs1 hs2 Im It e1 e2 lm lt ok hgl hL2
      by_cases ce : s0 = x ∧ s1 = y ∧ s2 = z
      rotate_left
      · have hst : Hid (stay x y z (A i) = false) := HS.out.trans (decide_eq_false ce)
        have own2 : Hid (OpsG wr W1.heap.size u5 (kN (fun i => stay x y z (A i)) (i + 1)) X Y (fun j => A (kI (fun i => stay x y z (A i)) (i + 1) j))) := by
          have e := kN_no (P := fun i => stay x y z (A i)) hst.out
          have h := own.out.congr (A' := fun j => A (kI (fun i => stay x y z (A i)) (i + 1) j)) (fun j _ => congrArg A (kI_no (P := fun i => stay x y z (A i)) hst.out j).symm)
          rw [← e] at h
          exact h
        clear own HS CP hst
        by_cases c0 : s0 = x
        case neg =>
          have c0' : (s0 == x) = false := by simp [c0]
          clear ce c0
          go_wp2_with fail
          obtain ⟨u0, hu0, bb⟩ : ∃ uu, wr.drew = uu ∧ Below wr.heap.size wr uu := ⟨_, rfl, (Below.refl _ _).drew⟩
          replace A2 := A2.below bb
          replace B := B.trans (bb.mono B.size)
          have A1u := A2
          have bk0 : Kb wr u0 := bb
          clear bb
          refine wp_region_held_drew (S := Kb u0) (by kernel_rfl) (by rw [hu0]; exact Below.refl _ _) (fun hHeld => ?_)
          rw [hu0] at hHeld ⊢
          clear hu0
          have bu : Kb u0 u0 := Below.refl _ _
          change wpAnyH _ _ _ _ _ 8 #[false, false, false, false, false, false, false, false] _ _
          refine wpAnyH_take (i := 0) (v := .slice ((some ⟨g, 0, none⟩)) n c) rfl (by kernel_rfl) (by kernel_rfl) (by kernel_rfl) (fun _ _ _ h => h) (Or.inl ⟨by kernel_rfl, ?_⟩) hHeld ?_
          · intro w' hSw; go_simp
          try simp only [Act.put, List.setIfInBounds_toArray, List.set_cons_zero, List.set_cons_succ, List.getElem_toArray, List.getElem_cons_zero]
          refine wpAnyH_take (i := 1) (v := .int .i64 ((i : Int))) rfl (by kernel_rfl) (by kernel_rfl) (by kernel_rfl) (fun _ _ _ h => h) (Or.inl ⟨by kernel_rfl, ?_⟩) hHeld ?_
          · intro w' hSw; go_simp
          try simp only [Act.put, List.setIfInBounds_toArray, List.set_cons_zero, List.set_cons_succ, List.getElem_toArray, List.getElem_cons_succ, List.getElem_cons_zero]
          refine wpAnyH_take (i := 2) (v := .pointer (some ⟨g, i * 2, none⟩)) rfl (by kernel_rfl) (by kernel_rfl) (by kernel_rfl) (fun _ _ _ h => h) (Or.inl ⟨by kernel_rfl, ?_⟩) hHeld ?_
          · intro w' hSw; go_simp
          try simp only [Act.put, List.setIfInBounds_toArray, List.set_cons_zero, List.set_cons_succ, List.getElem_toArray, List.getElem_cons_succ, List.getElem_cons_zero]
          refine wpAnyH_take (i := 3) (v := .agg #[.slice (some ⟨bm, om, none⟩) 9 c1, .slice (some ⟨bt, ot, none⟩) 3 d1]) rfl (by kernel_rfl) (by kernel_rfl) (by kernel_rfl) (fun _ _ _ h => h) (Or.inl ⟨by kernel_rfl, ?_⟩) hHeld ?_
          · intro w' hSw; obtain ⟨z0, z1⟩ := HQ.out _ (bk0.trans (Below.mono hSw bk0.size)); go_simp
          try simp only [Act.put, List.setIfInBounds_toArray, List.set_cons_zero, List.set_cons_succ, List.getElem_toArray, List.getElem_cons_succ, List.getElem_cons_zero]
          refine wpAnyH_take (i := 4) (v := .agg #[.int .i64 x, .int .i64 y, .int .i64 z]) rfl (by kernel_rfl) (by kernel_rfl) (by kernel_rfl) (fun _ _ _ h => h) (Or.inl ⟨by kernel_rfl, ?_⟩) hHeld ?_
          · intro w' hSw; obtain ⟨z0, z1, z2, -⟩ := (A1u.below hSw).open3; go_simp
          try simp only [Act.put, List.setIfInBounds_toArray, List.set_cons_zero, List.set_cons_succ, List.getElem_toArray, List.getElem_cons_succ, List.getElem_cons_zero]
          refine wpAnyH_take (i := 6) (v := .agg #[.int .i64 x, .int .i64 y, .int .i64 z]) rfl (by kernel_rfl) (by kernel_rfl) (by kernel_rfl) (fun _ _ _ h => h) (Or.inl ⟨by kernel_rfl, ?_⟩) hHeld ?_
          · intro w' hSw; obtain ⟨z0, z1, z2, -⟩ := (A1u.below hSw).open3; go_simp
          try simp only [Act.put, List.setIfInBounds_toArray, List.set_cons_zero, List.set_cons_succ, List.getElem_toArray, List.getElem_cons_succ, List.getElem_cons_zero]
          refine wpAnyH_ready (rs := [5]) (by kernel_rfl) (by simp) ?_
          refine AllReadyH.cons rfl (fun KK hK' => ?_) AllReadyH.nil
          go_simp
          refine (TU _ (bk0.trans (Below.mono bu bk0.size))).mono ?_
          rintro e u1 ⟨rfl, bb⟩
          replace A2 := A2.below bb
          replace B := B.trans (bb.mono B.size)
          replace bu : Kb u0 u1 := bu.trans (bb.mono bu.size)
          clear bb
          try go_wp2_with fail
          clear hHeld
          refine hK'.out _ _ (bu) (fun hHeld => ?_)
          clear hK' KK
          try simp only [List.setIfInBounds_toArray, List.set_cons_zero, List.set_cons_succ]
          refine wpAnyH_take (i := 7) (v := .bool false) rfl (by kernel_rfl) (by kernel_rfl) (by kernel_rfl) (fun _ _ _ h => h) (Or.inl ⟨by kernel_rfl, ?_⟩) hHeld ?_
          · intro w' hSw; go_simp
          try simp only [Act.put, List.setIfInBounds_toArray, List.set_cons_zero, List.set_cons_succ, List.getElem_toArray, List.getElem_cons_succ, List.getElem_cons_zero]
          refine wpAnyH_done (by kernel_rfl) ?_ _
          clear hHeld
          have bz := bk0.trans (Below.mono bu bk0.size)
          clear bu A1u bk0
          go_wp2
          exact ⟨⟨i + 1, X, Y, by omega, by go_num, own2.out.below bz, A2, B⟩, by simp [intOf]; omega⟩
        subst c0
        by_cases c1' : s1 = y
        case neg =>
          have c1'' : (s1 == y) = false := by simp [c1']
          clear ce c1'
          go_wp2_with fail
          obtain ⟨u0, hu0, bb⟩ : ∃ uu, wr.drew = uu ∧ Below wr.heap.size wr uu := ⟨_, rfl, (Below.refl _ _).drew⟩
          replace A2 := A2.below bb
          replace B := B.trans (bb.mono B.size)
          have A1u := A2
          have bk0 : Kb wr u0 := bb
          clear bb
          refine wp_region_held_drew (S := Kb u0) (by kernel_rfl) (by rw [hu0]; exact Below.refl _ _) (fun hHeld => ?_)
          rw [hu0] at hHeld ⊢
          clear hu0
          have bu : Kb u0 u0 := Below.refl _ _
          change wpAnyH _ _ _ _ _ 8 #[false, false, false, false, false, false, false, false] _ _
          refine wpAnyH_take (i := 0) (v := .slice ((some ⟨g, 0, none⟩)) n c) rfl (by kernel_rfl) (by kernel_rfl) (by kernel_rfl) (fun _ _ _ h => h) (Or.inl ⟨by kernel_rfl, ?_⟩) hHeld ?_
          · intro w' hSw; go_simp
          try simp only [Act.put, List.setIfInBounds_toArray, List.set_cons_zero, List.set_cons_succ, List.getElem_toArray, List.getElem_cons_zero]
          refine wpAnyH_take (i := 1) (v := .int .i64 ((i : Int))) rfl (by kernel_rfl) (by kernel_rfl) (by kernel_rfl) (fun _ _ _ h => h) (Or.inl ⟨by kernel_rfl, ?_⟩) hHeld ?_
          · intro w' hSw; go_simp
          try simp only [Act.put, List.setIfInBounds_toArray, List.set_cons_zero, List.set_cons_succ, List.getElem_toArray, List.getElem_cons_succ, List.getElem_cons_zero]
          refine wpAnyH_take (i := 2) (v := .pointer (some ⟨g, i * 2, none⟩)) rfl (by kernel_rfl) (by kernel_rfl) (by kernel_rfl) (fun _ _ _ h => h) (Or.inl ⟨by kernel_rfl, ?_⟩) hHeld ?_
          · intro w' hSw; go_simp
          try simp only [Act.put, List.setIfInBounds_toArray, List.set_cons_zero, List.set_cons_succ, List.getElem_toArray, List.getElem_cons_succ, List.getElem_cons_zero]
          refine wpAnyH_take (i := 3) (v := .agg #[.slice (some ⟨bm, om, none⟩) 9 c1, .slice (some ⟨bt, ot, none⟩) 3 d1]) rfl (by kernel_rfl) (by kernel_rfl) (by kernel_rfl) (fun _ _ _ h => h) (Or.inl ⟨by kernel_rfl, ?_⟩) hHeld ?_
          · intro w' hSw; obtain ⟨z0, z1⟩ := HQ.out _ (bk0.trans (Below.mono hSw bk0.size)); go_simp
          try simp only [Act.put, List.setIfInBounds_toArray, List.set_cons_zero, List.set_cons_succ, List.getElem_toArray, List.getElem_cons_succ, List.getElem_cons_zero]
          refine wpAnyH_take (i := 4) (v := .agg #[.int .i64 s0, .int .i64 y, .int .i64 z]) rfl (by kernel_rfl) (by kernel_rfl) (by kernel_rfl) (fun _ _ _ h => h) (Or.inl ⟨by kernel_rfl, ?_⟩) hHeld ?_
          · intro w' hSw; obtain ⟨z0, z1, z2, -⟩ := (A1u.below hSw).open3; go_simp
          try simp only [Act.put, List.setIfInBounds_toArray, List.set_cons_zero, List.set_cons_succ, List.getElem_toArray, List.getElem_cons_succ, List.getElem_cons_zero]
          refine wpAnyH_take (i := 6) (v := .agg #[.int .i64 s0, .int .i64 y, .int .i64 z]) rfl (by kernel_rfl) (by kernel_rfl) (by kernel_rfl) (fun _ _ _ h => h) (Or.inl ⟨by kernel_rfl, ?_⟩) hHeld ?_
          · intro w' hSw; obtain ⟨z0, z1, z2, -⟩ := (A1u.below hSw).open3; go_simp
          try simp only [Act.put, List.setIfInBounds_toArray, List.set_cons_zero, List.set_cons_succ, List.getElem_toArray, List.getElem_cons_succ, List.getElem_cons_zero]
          refine wpAnyH_ready (rs := [5]) (by kernel_rfl) (by simp) ?_
          refine AllReadyH.cons rfl (fun KK hK' => ?_) AllReadyH.nil
          go_simp
          refine (TU _ (bk0.trans (Below.mono bu bk0.size))).mono ?_
          rintro e u1 ⟨rfl, bb⟩
          replace A2 := A2.below bb
          replace B := B.trans (bb.mono B.size)
          replace bu : Kb u0 u1 := bu.trans (bb.mono bu.size)
          clear bb
          try go_wp2_with fail
          clear hHeld
          refine hK'.out _ _ (bu) (fun hHeld => ?_)
          clear hK' KK
          try simp only [List.setIfInBounds_toArray, List.set_cons_zero, List.set_cons_succ]
          refine wpAnyH_take (i := 7) (v := .bool false) rfl (by kernel_rfl) (by kernel_rfl) (by kernel_rfl) (fun _ _ _ h => h) (Or.inl ⟨by kernel_rfl, ?_⟩) hHeld ?_
          · intro w' hSw; go_simp
          try simp only [Act.put, List.setIfInBounds_toArray, List.set_cons_zero, List.set_cons_succ, List.getElem_toArray, List.getElem_cons_succ, List.getElem_cons_zero]
          refine wpAnyH_done (by kernel_rfl) ?_ _
          clear hHeld
          have bz := bk0.trans (Below.mono bu bk0.size)
          clear bu A1u bk0
          go_wp2
          exact ⟨⟨i + 1, X, Y, by omega, by go_num, own2.out.below bz, A2, B⟩, by simp [intOf]; omega⟩
        subst c1'
        have c2 : s2 ≠ z := fun e => ce ⟨rfl, rfl, e⟩
        have c2' : (s2 == z) = false := by simp [c2]
        clear ce c2
        go_wp2_with fail
        obtain ⟨u0, hu0, bb⟩ : ∃ uu, wr.drew = uu ∧ Below wr.heap.size wr uu := ⟨_, rfl, (Below.refl _ _).drew⟩
        replace A2 := A2.below bb
        replace B := B.trans (bb.mono B.size)
        have A1u := A2
        have bk0 : Kb wr u0 := bb
        clear bb
        refine wp_region_held_drew (S := Kb u0) (by kernel_rfl) (by rw [hu0]; exact Below.refl _ _) (fun hHeld => ?_)
        rw [hu0] at hHeld ⊢
        clear hu0
        have bu : Kb u0 u0 := Below.refl _ _
        change wpAnyH _ _ _ _ _ 8 #[false, false, false, false, false, false, false, false] _ _
        refine wpAnyH_take (i := 0) (v := .slice ((some ⟨g, 0, none⟩)) n c) rfl (by kernel_rfl) (by kernel_rfl) (by kernel_rfl) (fun _ _ _ h => h) (Or.inl ⟨by kernel_rfl, ?_⟩) hHeld ?_
        · intro w' hSw; go_simp
        try simp only [Act.put, List.setIfInBounds_toArray, List.set_cons_zero, List.set_cons_succ, List.getElem_toArray, List.getElem_cons_zero]
        refine wpAnyH_take (i := 1) (v := .int .i64 ((i : Int))) rfl (by kernel_rfl) (by kernel_rfl) (by kernel_rfl) (fun _ _ _ h => h) (Or.inl ⟨by kernel_rfl, ?_⟩) hHeld ?_
        · intro w' hSw; go_simp
        try simp only [Act.put, List.setIfInBounds_toArray, List.set_cons_zero, List.set_cons_succ, List.getElem_toArray, List.getElem_cons_succ, List.getElem_cons_zero]
        refine wpAnyH_take (i := 2) (v := .pointer (some ⟨g, i * 2, none⟩)) rfl (by kernel_rfl) (by kernel_rfl) (by kernel_rfl) (fun _ _ _ h => h) (Or.inl ⟨by kernel_rfl, ?_⟩) hHeld ?_
        · intro w' hSw; go_simp
        try simp only [Act.put, List.setIfInBounds_toArray, List.set_cons_zero, List.set_cons_succ, List.getElem_toArray, List.getElem_cons_succ, List.getElem_cons_zero]
        refine wpAnyH_take (i := 3) (v := .agg #[.slice (some ⟨bm, om, none⟩) 9 c1, .slice (some ⟨bt, ot, none⟩) 3 d1]) rfl (by kernel_rfl) (by kernel_rfl) (by kernel_rfl) (fun _ _ _ h => h) (Or.inl ⟨by kernel_rfl, ?_⟩) hHeld ?_
        · intro w' hSw; obtain ⟨z0, z1⟩ := HQ.out _ (bk0.trans (Below.mono hSw bk0.size)); go_simp
        try simp only [Act.put, List.setIfInBounds_toArray, List.set_cons_zero, List.set_cons_succ, List.getElem_toArray, List.getElem_cons_succ, List.getElem_cons_zero]
        refine wpAnyH_take (i := 4) (v := .agg #[.int .i64 s0, .int .i64 s1, .int .i64 z]) rfl (by kernel_rfl) (by kernel_rfl) (by kernel_rfl) (fun _ _ _ h => h) (Or.inl ⟨by kernel_rfl, ?_⟩) hHeld ?_
        · intro w' hSw; obtain ⟨z0, z1, z2, -⟩ := (A1u.below hSw).open3; go_simp
        try simp only [Act.put, List.setIfInBounds_toArray, List.set_cons_zero, List.set_cons_succ, List.getElem_toArray, List.getElem_cons_succ, List.getElem_cons_zero]
        refine wpAnyH_take (i := 6) (v := .agg #[.int .i64 s0, .int .i64 s1, .int .i64 z]) rfl (by kernel_rfl) (by kernel_rfl) (by kernel_rfl) (fun _ _ _ h => h) (Or.inl ⟨by kernel_rfl, ?_⟩) hHeld ?_
        · intro w' hSw; obtain ⟨z0, z1, z2, -⟩ := (A1u.below hSw).open3; go_simp
        try simp only [Act.put, List.setIfInBounds_toArray, List.set_cons_zero, List.set_cons_succ, List.getElem_toArray, List.getElem_cons_succ, List.getElem_cons_zero]
        refine wpAnyH_ready (rs := [5]) (by kernel_rfl) (by simp) ?_
        refine AllReadyH.cons rfl (fun KK hK' => ?_) AllReadyH.nil
        go_simp
        refine (TU _ (bk0.trans (Below.mono bu bk0.size))).mono ?_
        rintro e u1 ⟨rfl, bb⟩
        replace A2 := A2.below bb
        replace B := B.trans (bb.mono B.size)
        replace bu : Kb u0 u1 := bu.trans (bb.mono bu.size)
        clear bb
        try go_wp2_with fail
        clear hHeld
        refine hK'.out _ _ (bu) (fun hHeld => ?_)
        clear hK' KK
        try simp only [List.setIfInBounds_toArray, List.set_cons_zero, List.set_cons_succ]
        refine wpAnyH_take (i := 7) (v := .bool false) rfl (by kernel_rfl) (by kernel_rfl) (by kernel_rfl) (fun _ _ _ h => h) (Or.inl ⟨by kernel_rfl, ?_⟩) hHeld ?_
        · intro w' hSw; go_simp
        try simp only [Act.put, List.setIfInBounds_toArray, List.set_cons_zero, List.set_cons_succ, List.getElem_toArray, List.getElem_cons_succ, List.getElem_cons_zero]
        refine wpAnyH_done (by kernel_rfl) ?_ _
        clear hHeld
        have bz := bk0.trans (Below.mono bu bk0.size)
        clear bu A1u bk0
        go_wp2
        exact ⟨⟨i + 1, X, Y, by omega, by go_num, own2.out.below bz, A2, B⟩, by simp [intOf]; omega⟩
      have hst : Hid (stay x y z (A i) = true) := HS.out.trans (decide_eq_true ce)
      obtain ⟨rfl, rfl, rfl⟩ := ce
      clear HS
      go_wp2_with fail
      obtain ⟨u0, hu0, bb⟩ : ∃ uu, wr.drew = uu ∧ Below wr.heap.size wr uu := ⟨_, rfl, (Below.refl _ _).drew⟩
      replace A2 := A2.below bb
      replace B := B.trans (bb.mono B.size)
      have A1u := A2
      have bk0 : Kb wr u0 := bb
      clear bb
      refine wp_region_held_drew (S := Kb u0) (by kernel_rfl) (by rw [hu0]; exact Below.refl _ _) (fun hHeld => ?_)
      rw [hu0] at hHeld ⊢
      clear hu0
      have bu : Kb u0 u0 := Below.refl _ _
      change wpAnyH _ _ _ _ _ 8 #[false, false, false, false, false, false, false, false] _ _
      refine wpAnyH_take (i := 0) (v := .slice ((some ⟨g, 0, none⟩)) n c) rfl (by kernel_rfl) (by kernel_rfl) (by kernel_rfl) (fun _ _ _ h => h) (Or.inl ⟨by kernel_rfl, ?_⟩) hHeld ?_
      · intro w' hSw; go_simp
      try simp only [Act.put, List.setIfInBounds_toArray, List.set_cons_zero, List.set_cons_succ, List.getElem_toArray, List.getElem_cons_zero]
      refine wpAnyH_take (i := 1) (v := .int .i64 ((i : Int))) rfl (by kernel_rfl) (by kernel_rfl) (by kernel_rfl) (fun _ _ _ h => h) (Or.inl ⟨by kernel_rfl, ?_⟩) hHeld ?_
      · intro w' hSw; go_simp
      try simp only [Act.put, List.setIfInBounds_toArray, List.set_cons_zero, List.set_cons_succ, List.getElem_toArray, List.getElem_cons_succ, List.getElem_cons_zero]
      refine wpAnyH_take (i := 2) (v := .pointer (some ⟨g, i * 2, none⟩)) rfl (by kernel_rfl) (by kernel_rfl) (by kernel_rfl) (fun _ _ _ h => h) (Or.inl ⟨by kernel_rfl, ?_⟩) hHeld ?_
      · intro w' hSw; go_simp
      try simp only [Act.put, List.setIfInBounds_toArray, List.set_cons_zero, List.set_cons_succ, List.getElem_toArray, List.getElem_cons_succ, List.getElem_cons_zero]
      refine wpAnyH_take (i := 3) (v := .agg #[.slice (some ⟨bm, om, none⟩) 9 c1, .slice (some ⟨bt, ot, none⟩) 3 d1]) rfl (by kernel_rfl) (by kernel_rfl) (by kernel_rfl) (fun _ _ _ h => h) (Or.inl ⟨by kernel_rfl, ?_⟩) hHeld ?_
      · intro w' hSw; obtain ⟨z0, z1⟩ := HQ.out _ (bk0.trans (Below.mono hSw bk0.size)); go_simp
      try simp only [Act.put, List.setIfInBounds_toArray, List.set_cons_zero, List.set_cons_succ, List.getElem_toArray, List.getElem_cons_succ, List.getElem_cons_zero]
      refine wpAnyH_take (i := 4) (v := .agg #[.int .i64 s0, .int .i64 s1, .int .i64 s2]) rfl (by kernel_rfl) (by kernel_rfl) (by kernel_rfl) (fun _ _ _ h => h) (Or.inl ⟨by kernel_rfl, ?_⟩) hHeld ?_
      · intro w' hSw; obtain ⟨z0, z1, z2, -⟩ := (A1u.below hSw).open3; go_simp
      try simp only [Act.put, List.setIfInBounds_toArray, List.set_cons_zero, List.set_cons_succ, List.getElem_toArray, List.getElem_cons_succ, List.getElem_cons_zero]
      refine wpAnyH_take (i := 6) (v := .agg #[.int .i64 s0, .int .i64 s1, .int .i64 s2]) rfl (by kernel_rfl) (by kernel_rfl) (by kernel_rfl) (fun _ _ _ h => h) (Or.inl ⟨by kernel_rfl, ?_⟩) hHeld ?_
      · intro w' hSw; obtain ⟨z0, z1, z2, -⟩ := (A1u.below hSw).open3; go_simp
      try simp only [Act.put, List.setIfInBounds_toArray, List.set_cons_zero, List.set_cons_succ, List.getElem_toArray, List.getElem_cons_succ, List.getElem_cons_zero]
      refine wpAnyH_ready (rs := [5]) (by kernel_rfl) (by simp) ?_
      refine AllReadyH.cons rfl (fun KK hK' => ?_) AllReadyH.nil
      go_simp
      refine (TU _ (bk0.trans (Below.mono bu bk0.size))).mono ?_
      rintro e u1 ⟨rfl, bb⟩
      replace A2 := A2.below bb
      replace B := B.trans (bb.mono B.size)
      replace bu : Kb u0 u1 := bu.trans (bb.mono bu.size)
      clear bb
      try go_wp2_with fail
      clear hHeld
      refine hK'.out _ _ (bu) (fun hHeld => ?_)
      clear hK' KK
      try simp only [List.setIfInBounds_toArray, List.set_cons_zero, List.set_cons_succ]
      refine wpAnyH_take (i := 7) (v := .bool true) rfl (by kernel_rfl) (by kernel_rfl) (by kernel_rfl) (fun _ _ _ h => h) (Or.inl ⟨by kernel_rfl, ?_⟩) hHeld ?_
      · intro w' hSw; go_simp
      try simp only [Act.put, List.setIfInBounds_toArray, List.set_cons_zero, List.set_cons_succ, List.getElem_toArray, List.getElem_cons_succ, List.getElem_cons_zero]
      refine wpAnyH_done (by kernel_rfl) ?_ _
      clear hHeld
      have bz := bk0.trans (Below.mono bu bk0.size)
      clear bu A1u bk0
      have own1 : Hid (OpsG _ W1.heap.size u5 (kN (fun i => stay s0 s1 s2 (A i)) i) X Y (fun j => A (kI (fun i => stay s0 s1 s2 (A i)) i j))) := own.out.below bz
      obtain ⟨z0, z1⟩ := HQ.out _ bz
      have hkn := kN_le (fun i => stay s0 s1 s2 (A i)) i
      obtain ⟨kk, hkk⟩ : ∃ m, kN (fun i => stay s0 s1 s2 (A i)) i = m := ⟨_, rfl⟩
      rw [hkk] at hkn
      clear own
      go_wp2_with fail
      refine (CP.out _ bz).mono ?_
      rintro e w5 ⟨o, rfl, ⟨v1, v2, rfl, r1, r2, ap⟩, b3⟩
      clear z0 z1 CP HQ TU bz
      have B3 := B.trans (b3.mono B.size)
      obtain ⟨x1, d1', rfl, -⟩ := r1.src
      obtain ⟨x2, d2', rfl, -⟩ := r2.src
      obtain ⟨W4, hW4, a4, b4, -⟩ := boxed w5 37 #[.slice x1 9 d1', .slice x2 3 d2']
      obtain ⟨p4, hp4⟩ : ∃ p, w5.heap.size = p := ⟨_, rfl⟩
      rw [hp4] at a4
      have b34 := hidden (b3.trans (b4.mono b3.size))
      have r1' := hidden ((r1.below b4).wide (Nat.le_refl _) b4.size)
      have r2' := hidden ((r2.below b4).wide (Nat.le_refl _) b4.size)
      have row4 : Hid (W4.ownsRow W1.heap.size 37 2 u5 kk (pc X Y kk)) := hkk ▸ own_below own1.out.row b34.out
      have B4 := B3.trans (b4.mono B3.size)
      have hm1 : kk + 1 ≤ maxLen := by unfold maxLen; omega
      have hm2 : (kk + 1) * 48 ≤ 140737488355328 := by omega
      have hnw : ∀ j u, ([.slice x1 9 d1', .slice x2 3 d2'] : List Value)[j]? = some u → W4.cell? ((⟨p4, 0, none⟩ : Addr).add j) = some u := by
        intro j u hu
        have h2 := a4.cell j (v := u) (by simpa using hu)
        by_cases e : j = 0
        · subst e; simpa [Addr.add] using h2
        · simpa [Addr.add, e] using h2
      clear r1 r2 b3 b4 B3
      go_wp2_with (at_builtin; refine Hid.out (?_ : Hid _))
      refine (?_ : wpList _ _ _ _ _ _)
      refine wpList_append_own_at _ rfl _ _ _ rfl W1.heap.size 37 i0 _ 2 48 Try.underlying24 hi0 hz0 hz1 hz2 rfl (by omega) u5 kk (pc X Y kk) rfl row4.out ⟨p4, 0, none⟩ 1 1 [.slice x1 9 d1', .slice x2 3 d2'] rfl rfl hnw (by intro u hu; simp at hu; rcases hu with rfl | rfl <;> rfl) hm1 hm2 B4.size ?_
      intro v6 w6 hown5 hgrow5 hne5 _
      subst hkk
      obtain ⟨X', Y', HO⟩ := own1.out.more (P := fun i => stay s0 s1 s2 (A i)) hst.out HK.out B.size b34.out r1'.out r2'.out ap hgrow5 hown5 (fun e => by have := (hne5.1 e).2; omega)
      have HO' : Hid (OpsG w6 W1.heap.size v6 (kN (fun i => stay s0 s1 s2 (A i)) (i + 1)) X' Y' (fun j => A (kI (fun i => stay s0 s1 s2 (A i)) (i + 1) j))) := HO
      have B5 : Below W1.heap.size W1 w6 := B4.grown hgrow5 B4.size (fun x hx => ownBlock_ge row4.out hx)
      have A5 := A1.below B5
      clear HO hown5 hgrow5 hne5 own1 row4 r1' r2' b34 B4 B A2 hnw a4 hW4 hm1 hm2 ap hkn
      go_wp2
      exact ⟨⟨i + 1, X', Y', by omega, by go_num, HO', A5, B5⟩, by simp [intOf]; omega⟩
    · obtain rfl : i = n := by omega
      have hlt' : ¬ (i : Int) < (i : Int) := by omega
      obtain ⟨g', c', e', H⟩ := own.out.opsA
      have H' : Hid (OpsA wr W1.heap.size wr.heap.size g' (kN (fun i => stay x y z (A i)) i) X Y (fun j => A (kI (fun i' => stay x y z (A i')) i j))) := H
      clear H own
      go_wp2
      go_ret
      exact ⟨⟨_, rfl, g', c', X, Y, _, rfl, H'.out.lower B1.size, .inl ⟨⟨HG.out, HP.out⟩, rfl⟩⟩, B1.trans (B.mono B1.size)⟩
end Go.Proofs.Ytmjeplhigjlopaa
