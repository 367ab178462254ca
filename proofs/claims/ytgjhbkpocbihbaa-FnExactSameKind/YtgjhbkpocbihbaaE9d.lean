/-
  Turned by the specification: walked.
-/
import Derived.Test.YtgjhbkpocbihbaaNR
import Derived.Test.YtgjhbkpocbihbaaNI
namespace Go.Proofs.Ytgjhbkpocbihbaa
open Go.RowKit

/-- How the specification's Turned ends. -/
def TurE (w : World) (n : Nat) (A : Nat → OpD) (o : OpD) (e : Ending) (w' : World) : Prop :=
  (∃ g' m c' b H, e = .returned (.tuple #[.slice (some ⟨g', 0, none⟩) m c', .bool b]) ∧ OpsR w' w.heap.size w'.heap.size g' m H ∧ TurS n A o m H b) ∧ Below w.heap.size w w'
set_option maxRecDepth 100000 in
set_option maxHeartbeats 6000000 in
theorem l4Turned_any {w : World} {g n c : Nat} {A : Nat → OpD} {a b : Option Addr} {c1 c2 : Nat} {o : OpD} (hL : OpsL w g n A) (hG : isG n A) (s1 : Src w a 9 o.f) (s2 : Src w b 3 o.h) (ho : o.ok) :
    Calls Try.prog 12 #[.slice (some ⟨g, 0, none⟩) n c, .agg #[.slice a 9 c1, .slice b 3 c2]] w fun e w' => TurE w n A o e w' := by
  have hbs : ∀ w, (Instr.buildSlice 25 0 #[]).run Try.prog w = .ok (.slice (some ⟨w.heap.size, 0, none⟩) 0 0) (w.alloc (.cells #[] 36)) := fun _ => by kernel_rfl
  have HG := hid_of hG
  have HO := hid_of ho
  have h192 : n ≤ 192 := hG.1
  have hn' : (n : Int) ≤ 192 := by omega
  have NO : Hid (∀ wq, Below w.heap.size w wq → ¬ TurOk n A o → TurE w n A o (.returned (.tuple #[.slice (some ⟨wq.heap.size, 0, none⟩) 0 0, .bool false])) (wq.alloc (.cells #[] 36))) := fun wq hq hno =>
    ⟨⟨_, 0, 0, false, A, rfl, opsR_empty A hq.size, .inr ⟨rfl, rfl, hno⟩⟩, hq.trans ((below_alloc _ _).mono hq.size)⟩
  obtain ⟨W1, hW1, Q1, B1, -⟩ := boxed w 36 #[.slice a 9 c1, .slice b 3 c2]
  obtain ⟨q1, hq1⟩ : ∃ q, w.heap.size = q := ⟨_, rfl⟩
  rw [hq1] at Q1
  obtain ⟨d0, d1, -⟩ := Q1.open2
  clear hG ho
  go_enter Try.func12, Try.ntmps12
  go_wp2_with fail
  refine (specBack_any c1 c2 (s1.below B1) (s2.below B1)).mono ?_
  rintro e w2 ⟨ob, rfl, ⟨v1, v2, rfl, t1, t2, ap⟩, b2⟩
  have HR0 : Hid (decide (backOk 9 o.f 3 o.h) = true ↔ (backD o).ok) := by
    rw [decide_eq_true_iff]
    exact ⟨fun h => ⟨rfl, rfl, h.2⟩, fun h => ⟨⟨rfl, rfl, HO.out.2.2⟩, h.2.2⟩⟩
  obtain ⟨R, hR⟩ : ∃ R, decide (backOk 9 o.f 3 o.h) = R := ⟨_, rfl⟩
  rw [hR] at HR0 t1 t2 ⊢
  clear hR d0 d1
  obtain ⟨x1, l1, rfl, -⟩ := t1.src
  obtain ⟨x2, l2, rfl, -⟩ := t2.src
  have HB1 := B1.trans (b2.mono B1.size)
  obtain ⟨W3, hW3, Q6, B3, -⟩ := boxed w2 36 #[.slice x1 (if R = true then 9 else 0) l1, .slice x2 (if R = true then 3 else 0) l2]
  obtain ⟨q6, hq6⟩ : ∃ q, w2.heap.size = q := ⟨_, rfl⟩
  rw [hq6] at Q6
  have BW := HB1.trans (B3.mono HB1.size)
  cases R
  · have N0 := hid_of (NO.out _ BW (fun h => absurd (HR0.out.2 h.2.2.1) (by decide)))
    simp only [Bool.false_eq_true, if_false] at hW3 ⊢
    clear NO HR0 Q6 Q1 t1 t2 BW HB1 B1 B3 b2 hL s1 s2
    go_wp2
    refine bodyPost_ret (v := .tuple #[.slice (some ⟨_, 0, none⟩) 0 0, .bool false]) (by simp [results, Try.results12, go_sem]) rfl N0.out
  have HBK : Hid ((backD o).ok) := HR0.out.1 rfl
  simp only [if_true] at hW3 Q6 t1 t2 ⊢
  obtain ⟨W4, hW4, a4, B4, -⟩ := boxed W3 36 #[]
  obtain ⟨p4, hp4⟩ : ∃ q, W3.heap.size = q := ⟨_, rfl⟩
  have o4 : Hid (OpsP W4 W3.heap.size (.slice (some ⟨p4, 0, none⟩) 0 0) 0 (fun _ => undef) (fun _ => undef) A) := hp4 ▸ opsP_new a4
  obtain ⟨_, _, ex1, sx1⟩ := t1.src
  obtain ⟨_, _, ex2, sx2⟩ := t2.src
  cases ex1
  cases ex2
  have SB1 : Hid (Src W3 x1 9 (backD o).f) := sx1.below B3
  have SB2 : Hid (Src W3 x2 3 (backD o).h) := sx2.below B3
  have S1 : Hid (Src W3 a 9 o.f) := s1.below BW
  have S2 : Hid (Src W3 b 3 o.h) := s2.below BW
  have HL : Hid (OpsL W3 g n A) := hL.below BW
  have Q13 : Hid (At 36 W3 q1 #[.slice a 9 c1, .slice b 3 c2]) := (Q1.below b2).below B3
  have Q63 : Hid (At 36 W3 q6 #[.slice x1 9 l1, .slice x2 3 l2]) := Q6
  have HBW := hid_of BW
  have HTI : Hid (TurI A o 0 A) := TurI.start A o A
  clear HR0 Q6 Q1 t1 t2 BW HB1 B1 B3 b2 hL s1 s2 sx1 sx2 a4 ap
  go_wp2
  clear hW1 hq1 hW3 hq6 hW4 hp4
  go_loopw [8, 9] (fun v s wr => ∃ (i : Nat) (X Y : Nat → Value) (E : Nat → OpD), i ≤ n ∧ s = .int .i64 (i : Int) ∧ Hid (OpsP wr W3.heap.size v i X Y E) ∧ Hid (TurI A o i E) ∧ Below W3.heap.size W3 wr) (fun _ s _ => n - (intOf s).toNat)
  case atStart => exact ⟨0, _, _, A, Nat.zero_le _, rfl, o4, HTI, B4⟩
  case round =>
    clear o4 HTI B4
    obtain ⟨i, X, Y, E, hi, rfl, own, TI, B⟩ := hrel
    by_cases hlt : i < n
    rotate_left
    · obtain rfl : i = n := by omega
      have hlt' : ¬ (i : Int) < (i : Int) := by omega
      obtain ⟨g', c', e', H⟩ := own.out.opsR
      subst e'
      have FI : Hid (TurE w i A o (.returned (.tuple #[.slice (some ⟨g', 0, none⟩) i c', .bool true])) wr) :=
        ⟨⟨g', i, c', true, E, rfl, H.lower HBW.out.size, .inl ⟨rfl, rfl, h192, ⟨HG.out, HO.out, HBK.out, TI.out.all⟩, TI.out⟩⟩, HBW.out.trans (B.mono HBW.out.size)⟩
      clear NO own TI B H
      go_wp2
      refine bodyPost_ret (v := .tuple #[.slice (some ⟨g', 0, none⟩) i c', .bool true]) (by simp [results, Try.results12, go_sem]) rfl FI.out
    have hlt' : (i : Int) < (n : Int) := by omega
    have ok := HG.out.2.1 i hlt
    have hLr := HL.out.below B
    obtain ⟨a1, e1, a2, e2, f1, f2, s3, s4⟩ := hLr.2 i hlt
    rw [ok.1] at f1 s3
    rw [ok.2.1] at f2 s4
    have CLi : Hid (∀ wq, Kb wr wq → wq.cell? ⟨g, i * 2, none⟩ = some (.slice a1 9 e1) ∧ wq.cell? ⟨g, i * 2 + 1, none⟩ = some (.slice a2 3 e2)) := fun wq hq => ⟨(hq.cell (p := ⟨g, i * 2, none⟩) hLr.1).trans f1, (hq.cell (p := ⟨g, i * 2 + 1, none⟩) hLr.1).trans f2⟩
    have s5 := S1.out.below B
    have s6 := S2.out.below B
    obtain ⟨R, hR⟩ : ∃ R, decide (mulOk 9 o.f 3 o.h 9 (A i).f 3 (A i).h) = R := ⟨_, rfl⟩
    have HR : Hid (R = true ↔ (mulD o (A i)).ok) := by
      rw [← hR, decide_eq_true_iff]
      exact ⟨fun h => ⟨rfl, rfl, h.2.2⟩, fun h => ⟨⟨rfl, rfl, HO.out.2.2⟩, ⟨rfl, rfl, ok.2.2⟩, h.2.2⟩⟩
    have CP : Hid (∀ wq, Kb wr wq → Calls Try.prog 28 #[.agg #[.slice a 9 c1, .slice b 3 c2], .agg #[.slice a1 9 e1, .slice a2 3 e2]] wq fun e w' => ∃ x1 n1 l1 x2 n2 l2, e = .returned (.tuple #[.agg #[.slice x1 n1 l1, .slice x2 n2 l2], .bool R]) ∧ Told w' wr.heap.size w'.heap.size (.agg #[.slice x1 n1 l1, .slice x2 n2 l2]) R (mulM o.f (A i).f) (behV o.f o.h (A i).h) ∧ Below wq.heap.size wq w') := fun wq hq => by
      refine (specMul_any c1 c2 e1 e2 (s5.below hq) (s6.below hq) (s3.below hq) (s4.below hq)).mono ?_
      rintro e w' ⟨o, rfl, ⟨v1, v2, rfl, t1, t2, ap⟩, b⟩
      rw [hR] at t1 t2
      obtain ⟨x1, l1, rfl, -⟩ := t1.src
      obtain ⟨x2, l2, rfl, -⟩ := t2.src
      exact ⟨x1, _, l1, x2, _, l2, by rw [hR], ⟨_, _, rfl, t1.wide hq.size (Nat.le_refl _), t2.wide hq.size (Nat.le_refl _), ap⟩, b⟩
    have Q1r := Q13.out.below B
    have HB := hid_of B
    clear f1 f2 s3 s4 s5 s6 hR ok hLr B
    go_wp2_with fail
    go_cut [10, 11] from 29 to 37 (fun s10 s11 wc => CutC wr R (mulM o.f (A i).f) (behV o.f o.h (A i).h) s10 s11 wc)
    case first =>
      obtain ⟨u0, hu0, bb⟩ : ∃ uu, wr.drew = uu ∧ Below wr.heap.size wr uu := ⟨_, rfl, (Below.refl _ _).drew⟩
      have Q1u := Q1r.below bb
      have bk0 : Kb wr u0 := bb
      clear bb
      refine wp_region_held_drew (S := Kb u0) (by kernel_rfl) (by rw [hu0]; exact Below.refl _ _) (fun hHeld => ?_)
      rw [hu0] at hHeld ⊢
      clear hu0
      have bu : Kb u0 u0 := Below.refl _ _
      change wpAnyH _ _ _ _ _ 12 #[false, false, false, false, false, false, false, false, false, false, false, false] _ _
      refine wpAnyH_take (i := 0) (v := .agg #[.slice a 9 c1, .slice b 3 c2]) rfl (by kernel_rfl) (by kernel_rfl) (by kernel_rfl) (fun _ _ _ h => h) (Or.inl ⟨by kernel_rfl, ?_⟩) hHeld ?_
      · intro w' hSw; obtain ⟨z0, z1, -⟩ := (Q1u.below hSw).open2; go_simp
      try simp only [Act.put, List.setIfInBounds_toArray, List.set_cons_zero, List.set_cons_succ, List.getElem_toArray, List.getElem_cons_zero]
      refine wpAnyH_take (i := 1) (v := .slice ((some ⟨g, 0, none⟩)) n c) rfl (by kernel_rfl) (by kernel_rfl) (by kernel_rfl) (fun _ _ _ h => h) (Or.inl ⟨by kernel_rfl, ?_⟩) hHeld ?_
      · intro w' hSw; go_simp
      try simp only [Act.put, List.setIfInBounds_toArray, List.set_cons_zero, List.set_cons_succ, List.getElem_toArray, List.getElem_cons_succ, List.getElem_cons_zero]
      refine wpAnyH_take (i := 2) (v := .int .i64 ((i : Int))) rfl (by kernel_rfl) (by kernel_rfl) (by kernel_rfl) (fun _ _ _ h => h) (Or.inl ⟨by kernel_rfl, ?_⟩) hHeld ?_
      · intro w' hSw; go_simp
      try simp only [Act.put, List.setIfInBounds_toArray, List.set_cons_zero, List.set_cons_succ, List.getElem_toArray, List.getElem_cons_succ, List.getElem_cons_zero]
      refine wpAnyH_take (i := 3) (v := .pointer (some ⟨g, i * 2, none⟩)) rfl (by kernel_rfl) (by kernel_rfl) (by kernel_rfl) (fun _ _ _ h => h) (Or.inl ⟨by kernel_rfl, ?_⟩) hHeld ?_
      · intro w' hSw; go_simp
      try simp only [Act.put, List.setIfInBounds_toArray, List.set_cons_zero, List.set_cons_succ, List.getElem_toArray, List.getElem_cons_succ, List.getElem_cons_zero]
      refine wpAnyH_take (i := 4) (v := .agg #[.slice a1 9 e1, .slice a2 3 e2]) rfl (by kernel_rfl) (by kernel_rfl) (by kernel_rfl) (fun _ _ _ h => h) (Or.inl ⟨by kernel_rfl, ?_⟩) hHeld ?_
      · intro w' hSw; obtain ⟨z0, z1⟩ := CLi.out _ (bk0.trans (Below.mono hSw bk0.size)); go_simp
      try simp only [Act.put, List.setIfInBounds_toArray, List.set_cons_zero, List.set_cons_succ, List.getElem_toArray, List.getElem_cons_succ, List.getElem_cons_zero]
      refine wpAnyH_ready (rs := [5, 9]) (by kernel_rfl) (by simp) ?_
      refine AllReadyH.cons rfl (fun KK hK' => ?_) (AllReadyH.cons rfl (fun KK hK' => ?_) AllReadyH.nil)
      · go_simp
        refine (CP.out _ (bk0.trans (Below.mono bu bk0.size))).mono ?_
        rintro e u1 ⟨x7, n7, l7, x8, n8, l8, rfl, T, bb⟩
        replace bu : Kb u0 u1 := bu.trans (bb.mono bu.size)
        clear bb
        try go_wp2_with fail
        clear hHeld
        refine hK'.out _ _ (bu) (fun hHeld => ?_)
        clear hK' KK
        try simp only [List.setIfInBounds_toArray, List.set_cons_zero, List.set_cons_succ]
        refine wpAnyH_take (i := 6) (v := .tuple #[.agg #[.slice x7 n7 l7, .slice x8 n8 l8], .bool R]) rfl (by kernel_rfl) (by kernel_rfl) (by kernel_rfl) (fun _ _ _ h => h) (Or.inl ⟨by kernel_rfl, ?_⟩) hHeld ?_
        · intro w' hSw; go_simp
        try simp only [Act.put, List.setIfInBounds_toArray, List.set_cons_zero, List.set_cons_succ, List.getElem_toArray, List.getElem_cons_succ, List.getElem_cons_zero]
        refine wpAnyH_take (i := 7) (v := .agg #[.slice x7 n7 l7, .slice x8 n8 l8]) rfl (by kernel_rfl) (by kernel_rfl) (by kernel_rfl) (fun _ _ _ h => h) (Or.inl ⟨by kernel_rfl, ?_⟩) hHeld ?_
        · intro w' hSw; go_simp
        try simp only [Act.put, List.setIfInBounds_toArray, List.set_cons_zero, List.set_cons_succ, List.getElem_toArray, List.getElem_cons_succ, List.getElem_cons_zero]
        refine wpAnyH_take (i := 8) (v := .bool R) rfl (by kernel_rfl) (by kernel_rfl) (by kernel_rfl) (fun _ _ _ h => h) (Or.inl ⟨by kernel_rfl, ?_⟩) hHeld ?_
        · intro w' hSw; go_simp
        try simp only [Act.put, List.setIfInBounds_toArray, List.set_cons_zero, List.set_cons_succ, List.getElem_toArray, List.getElem_cons_succ, List.getElem_cons_zero]
        refine wpAnyH_ready (rs := [9]) (by kernel_rfl) (by simp) ?_
        refine AllReadyH.cons rfl (fun KK hK' => ?_) AllReadyH.nil
        go_simp
        obtain ⟨u2, h6, G6, bb, -⟩ := boxed u1 36 #[.slice none 0 0, .slice none 0 0]
        rw [h6]
        clear h6
        obtain ⟨g6, hg6⟩ : ∃ q, u1.heap.size = q := ⟨_, rfl⟩
        rw [hg6] at G6 ⊢
        have hgu : u0.heap.size ≤ g6 := by have := bu.size; omega
        clear hg6
        replace T := T.up bb
        replace bu : Kb u0 u2 := bu.trans (bb.mono bu.size)
        clear bb
        clear hHeld
        refine hK'.out _ _ (bu) (fun hHeld => ?_)
        clear hK' KK
        try simp only [List.setIfInBounds_toArray, List.set_cons_zero, List.set_cons_succ]
        refine wpAnyH_ready (rs := [10]) (by kernel_rfl) (by simp) ?_
        refine AllReadyH.cons rfl (fun KK hK' => ?_) AllReadyH.nil
        obtain ⟨y0, y1, y2, y3⟩ := G6.open2
        go_simp
        have G7 := put2_at G6 (.slice x7 n7 l7) (.slice x8 n8 l8)
        have T7 := T.put (u1 := .slice x7 n7 l7) (u2 := .slice x8 n8 l8) G6
        replace bu : Kb u0 ((u2.setCell ⟨g6, 0, none⟩ (.slice x7 n7 l7)).setCell ⟨g6, 1, none⟩ (.slice x8 n8 l8)) := (bu.setCell hgu _).setCell hgu _
        obtain ⟨u3, hv⟩ : ∃ V, (u2.setCell ⟨g6, 0, none⟩ (.slice x7 n7 l7)).setCell ⟨g6, 1, none⟩ (.slice x8 n8 l8) = V := ⟨_, rfl⟩
        rw [hv] at G7 T7 bu ⊢
        clear hv T G6 y0 y1 y2 y3
        clear hHeld
        refine hK'.out _ _ (bu) (fun hHeld => ?_)
        clear hK' KK
        try simp only [List.setIfInBounds_toArray, List.set_cons_zero, List.set_cons_succ]
        refine wpAnyH_take (i := 11) (v := .bool R) rfl (by kernel_rfl) (by kernel_rfl) (by kernel_rfl) (fun _ _ _ h => h) (Or.inl ⟨by kernel_rfl, ?_⟩) hHeld ?_
        · intro w' hSw; go_simp
        try simp only [Act.put, List.setIfInBounds_toArray, List.set_cons_zero, List.set_cons_succ, List.getElem_toArray, List.getElem_cons_succ, List.getElem_cons_zero]
        refine wpAnyH_done (by kernel_rfl) ?_ _
        clear hHeld
        have bz := bk0.trans (Below.mono bu bk0.size)
        have hg7 : wr.heap.size ≤ g6 := by have := bk0.size; omega
        go_wp2_with fail
        go_meet
        case rel => exact ⟨g6, _, _, rfl, rfl, hg7, G7, T7, bz⟩
      · go_simp
        obtain ⟨u1, h6, G6, bb, -⟩ := boxed u0 36 #[.slice none 0 0, .slice none 0 0]
        rw [h6]
        clear h6
        obtain ⟨g6, hg6⟩ : ∃ q, u0.heap.size = q := ⟨_, rfl⟩
        rw [hg6] at G6 ⊢
        have hgu : u0.heap.size ≤ g6 := by have := bu.size; omega
        clear hg6
        replace bu : Kb u0 u1 := bu.trans (bb.mono bu.size)
        clear bb
        clear hHeld
        refine hK'.out _ _ (bu) (fun hHeld => ?_)
        clear hK' KK
        try simp only [List.setIfInBounds_toArray, List.set_cons_zero, List.set_cons_succ]
        refine wpAnyH_ready (rs := [5]) (by kernel_rfl) (by simp) ?_
        refine AllReadyH.cons rfl (fun KK hK' => ?_) AllReadyH.nil
        go_simp
        refine (CP.out _ (bk0.trans (Below.mono bu bk0.size))).mono ?_
        rintro e u2 ⟨x7, n7, l7, x8, n8, l8, rfl, T, bb⟩
        replace G6 := G6.below bb
        replace bu : Kb u0 u2 := bu.trans (bb.mono bu.size)
        clear bb
        try go_wp2_with fail
        clear hHeld
        refine hK'.out _ _ (bu) (fun hHeld => ?_)
        clear hK' KK
        try simp only [List.setIfInBounds_toArray, List.set_cons_zero, List.set_cons_succ]
        refine wpAnyH_take (i := 6) (v := .tuple #[.agg #[.slice x7 n7 l7, .slice x8 n8 l8], .bool R]) rfl (by kernel_rfl) (by kernel_rfl) (by kernel_rfl) (fun _ _ _ h => h) (Or.inl ⟨by kernel_rfl, ?_⟩) hHeld ?_
        · intro w' hSw; go_simp
        try simp only [Act.put, List.setIfInBounds_toArray, List.set_cons_zero, List.set_cons_succ, List.getElem_toArray, List.getElem_cons_succ, List.getElem_cons_zero]
        refine wpAnyH_take (i := 7) (v := .agg #[.slice x7 n7 l7, .slice x8 n8 l8]) rfl (by kernel_rfl) (by kernel_rfl) (by kernel_rfl) (fun _ _ _ h => h) (Or.inl ⟨by kernel_rfl, ?_⟩) hHeld ?_
        · intro w' hSw; go_simp
        try simp only [Act.put, List.setIfInBounds_toArray, List.set_cons_zero, List.set_cons_succ, List.getElem_toArray, List.getElem_cons_succ, List.getElem_cons_zero]
        refine wpAnyH_take (i := 8) (v := .bool R) rfl (by kernel_rfl) (by kernel_rfl) (by kernel_rfl) (fun _ _ _ h => h) (Or.inl ⟨by kernel_rfl, ?_⟩) hHeld ?_
        · intro w' hSw; go_simp
        try simp only [Act.put, List.setIfInBounds_toArray, List.set_cons_zero, List.set_cons_succ, List.getElem_toArray, List.getElem_cons_succ, List.getElem_cons_zero]
        refine wpAnyH_ready (rs := [10]) (by kernel_rfl) (by simp) ?_
        refine AllReadyH.cons rfl (fun KK hK' => ?_) AllReadyH.nil
        obtain ⟨y0, y1, y2, y3⟩ := G6.open2
        go_simp
        have G7 := put2_at G6 (.slice x7 n7 l7) (.slice x8 n8 l8)
        have T7 := T.put (u1 := .slice x7 n7 l7) (u2 := .slice x8 n8 l8) G6
        replace bu : Kb u0 ((u2.setCell ⟨g6, 0, none⟩ (.slice x7 n7 l7)).setCell ⟨g6, 1, none⟩ (.slice x8 n8 l8)) := (bu.setCell hgu _).setCell hgu _
        obtain ⟨u3, hv⟩ : ∃ V, (u2.setCell ⟨g6, 0, none⟩ (.slice x7 n7 l7)).setCell ⟨g6, 1, none⟩ (.slice x8 n8 l8) = V := ⟨_, rfl⟩
        rw [hv] at G7 T7 bu ⊢
        clear hv T G6 y0 y1 y2 y3
        clear hHeld
        refine hK'.out _ _ (bu) (fun hHeld => ?_)
        clear hK' KK
        try simp only [List.setIfInBounds_toArray, List.set_cons_zero, List.set_cons_succ]
        refine wpAnyH_take (i := 11) (v := .bool R) rfl (by kernel_rfl) (by kernel_rfl) (by kernel_rfl) (fun _ _ _ h => h) (Or.inl ⟨by kernel_rfl, ?_⟩) hHeld ?_
        · intro w' hSw; go_simp
        try simp only [Act.put, List.setIfInBounds_toArray, List.set_cons_zero, List.set_cons_succ, List.getElem_toArray, List.getElem_cons_succ, List.getElem_cons_zero]
        refine wpAnyH_done (by kernel_rfl) ?_ _
        clear hHeld
        have bz := bk0.trans (Below.mono bu bk0.size)
        have hg7 : wr.heap.size ≤ g6 := by have := bk0.size; omega
        go_wp2_with fail
        go_meet
        case rel => exact ⟨g6, _, _, rfl, rfl, hg7, G7, T7, bz⟩
    case rest =>
      obtain ⟨q7, v1, v2, rfl, rfl, hq7, Q7, T7, b7⟩ := hcut
      rename World => w7
      clear CP CLi Q1r
      have B7 := HB.out.trans (b7.mono HB.out.size)
      have BW7 := HBW.out.trans (B7.mono HBW.out.size)
      cases R
      · have N0 := hid_of (NO.out _ BW7 (fun h => absurd (HR.out.2 (h.2.2.2 i hlt).1) (by decide)))
        clear NO HL Q7 T7 b7 B7 BW7 own TI HB HR hlt' hn'
        go_wp2
        refine bodyPost_ret (v := .tuple #[.slice (some ⟨_, 0, none⟩) 0 0, .bool false]) (by simp [results, Try.results12, go_sem]) rfl N0.out
      have HP1 := hid_of (HR.out.1 rfl)
      obtain ⟨t1, t2⟩ : Arr w7 W3.heap.size w7.heap.size v1 9 (mulD o (A i)).f ∧ Arr w7 W3.heap.size w7.heap.size v2 3 (mulD o (A i)).h := by
        obtain ⟨_, _, ee, t1, t2, -⟩ := T7
        cases ee
        exact ⟨t1.wide HB.out.size (Nat.le_refl _), t2.wide HB.out.size (Nat.le_refl _)⟩
      obtain ⟨y1, m1, rfl, sy1⟩ := t1.src
      obtain ⟨y2, m2, rfl, sy2⟩ := t2.src
      have sb1 := SB1.out.below B7
      have sb2 := SB2.out.below B7
      have Q67 := Q63.out.below B7
      obtain ⟨z0, z1, -⟩ := Q7.open2
      obtain ⟨z2, z3, -⟩ := Q67.open2
      have own7 := hid_of (own.out.below b7)
      clear own T7 t1 t2 HR
      go_wp2_with fail
      refine (specMul_any m1 m2 l1 l2 sy1 sy2 sb1 sb2).mono ?_
      rintro e w8 ⟨o8, rfl, ⟨v3, v4, rfl, t3, t4, ap⟩, b8⟩
      obtain ⟨R2, hR2⟩ : ∃ R, decide (mulOk 9 (mulD o (A i)).f 3 (mulD o (A i)).h 9 (backD o).f 3 (backD o).h) = R := ⟨_, rfl⟩
      have HR2 : Hid (R2 = true ↔ (wholeD o A i).ok) := by
        rw [← hR2, decide_eq_true_iff]
        exact ⟨fun h => ⟨rfl, rfl, h.2.2⟩, fun h => ⟨HP1.out, HBK.out, h.2.2⟩⟩
      rw [hR2] at t3 t4 ⊢
      clear hR2 z0 z1 z2 z3 sb1 sb2 Q67 sy1 sy2 Q7 ap
      obtain ⟨x3, l3, rfl, -⟩ := t3.src
      obtain ⟨x4, l4, rfl, -⟩ := t4.src
      obtain ⟨W9, hW9, Q9, b9, -⟩ := boxed w8 36 #[.slice x3 (if R2 = true then 9 else 0) l3, .slice x4 (if R2 = true then 3 else 0) l4]
      obtain ⟨q9, hq9⟩ : ∃ q, w8.heap.size = q := ⟨_, rfl⟩
      rw [hq9] at Q9
      have b89 := b8.trans (b9.mono b8.size)
      have B9 := B7.trans (b89.mono B7.size)
      have BW9 := HBW.out.trans (B9.mono HBW.out.size)
      cases R2
      · have N0 := hid_of (NO.out _ BW9 (fun h => absurd (HR2.out.2 (h.2.2.2 i hlt).2) (by decide)))
        simp only [Bool.false_eq_true, if_false] at hW9 ⊢
        clear NO HL Q9 t3 t4 b7 b8 b9 b89 B9 BW9 B7 BW7 own7 TI HB HR2 hlt' hn'
        go_wp2
        refine bodyPost_ret (v := .tuple #[.slice (some ⟨_, 0, none⟩) 0 0, .bool false]) (by simp [results, Try.results12, go_sem]) rfl N0.out
      have HP2 := hid_of (HR2.out.1 rfl)
      simp only [if_true] at hW9 Q9 t3 t4 ⊢
      have T3 : Arr W9 W3.heap.size W9.heap.size (.slice x3 9 l3) 9 (wholeD o A i).f := (t3.below b9).wide B7.size b9.size
      have T4 : Arr W9 W3.heap.size W9.heap.size (.slice x4 3 l4) 3 (wholeD o A i).h := (t4.below b9).wide B7.size b9.size
      have own9 := own7.out.below b89
      obtain ⟨z0, z1, -⟩ := Q9.open2
      have HB9 := hid_of B9
      obtain ⟨g9, c9, _, e9, hg9, -⟩ := own9.open
      subst e9
      clear own7 t3 t4 b8 b9 b89 BW9 HR2 B7 BW7 b7
      go_wp2_with fail
      refine (l4Put_any own9 B9.size T3 T4 ⟨rfl, rfl⟩ (by omega)).mono ?_
      rintro e w10 ⟨v10, cI, rfl, P8⟩
      have OF := hid_of P8.ops
      have TF := hid_of (TI.out.add HP1.out HP2.out P8.le P8.over P8.under)
      have BF : Below W3.heap.size W3 w10 := HB9.out.grown P8.grown HB9.out.size (fun q hq => by
        simp only [Value.ownBlock, Option.some.injEq] at hq
        omega)
      clear P8 own9 T3 T4 HB9 B9 Q9 hW9 hq9 z0 z1 TI HB
      go_wp2
      exact ⟨⟨i + 1, _, _, _, by omega, by go_num, OF, TF, BF⟩, by simp [intOf]; omega⟩
end Go.Proofs.Ytgjhbkpocbihbaa
