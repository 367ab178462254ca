/-
  The law of Act, walked.
-/
import Derived.Test.YtninblhahjldcaaQe
namespace Go.Proofs.Ytninblhahjldcaa
open Go.RowKit
/-- What the law keeps: the two boxes, the operator that came in. -/
def Aw (w : World) (a b : Option Addr) (n k cap cap' : Nat) (f h : Nat → Int) (x y z : Int) (wr : World) : Prop :=
  At 37 wr w.heap.size #[.slice a n cap, .slice b k cap'] ∧ At 39 wr (w.heap.size + 1) #[.int .i64 x, .int .i64 y, .int .i64 z] ∧ Src wr a n f ∧ Src wr b k h ∧ Below w.heap.size w wr
theorem Aw.below {w wr wr' : World} {a b : Option Addr} {n k cap cap' : Nat} {f h : Nat → Int} {x y z : Int} (F : Aw w a b n k cap cap' f h x y z wr) (bb : Below wr.heap.size wr wr') : Aw w a b n k cap cap' f h x y z wr' := by
  obtain ⟨f1, f2, f3, f4, f5⟩ := F
  exact ⟨f1.below bb, f2.below bb, f3.below bb, f4.below bb, f5.trans (bb.mono f5.size)⟩
/-- Aw, and what stands of V. -/
def Av (w : World) (a b : Option Addr) (n k cap cap' : Nat) (f h : Nat → Int) (x y z : Int) (V wr : World) : Prop := Aw w a b n k cap cap' f h x y z V ∧ Below V.heap.size V wr
theorem Av.aw {w V wr : World} {a b : Option Addr} {n k cap cap' : Nat} {f h : Nat → Int} {x y z : Int} (F : Av w a b n k cap cap' f h x y z V wr) : Aw w a b n k cap cap' f h x y z wr := F.1.below F.2
theorem Av.below {w V wr wr' : World} {a b : Option Addr} {n k cap cap' : Nat} {f h : Nat → Int} {x y z : Int} (F : Av w a b n k cap cap' f h x y z V wr) (bb : Below wr.heap.size wr wr') : Av w a b n k cap cap' f h x y z V wr' := ⟨F.1, F.2.trans (bb.mono F.2.size)⟩
theorem a_lt {w V wr : World} {a b : Option Addr} {n k cap cap' : Nat} {f h : Nat → Int} {x y z : Int} (F : Av w a b n k cap cap' f h x y z V wr) : V.heap.size ≤ wr.heap.size := F.2.size
theorem below_put3 {V wr : World} {p : Nat} (bb : Below V.heap.size V wr) (hp : V.heap.size ≤ p) (v0 v1 v2 : Value) : Below V.heap.size V (((wr.setCell ⟨p, 0, none⟩ v0).setCell ⟨p, 1, none⟩ v1).setCell ⟨p, 2, none⟩ v2) := ((bb.setCell hp _).setCell hp _).setCell hp _
theorem a_fill {w V wr : World} {a b : Option Addr} {n k cap cap' p : Nat} {f h : Nat → Int} {x y z : Int} {t : TypeId} {u0 u1 u2 : Value} (F : Av w a b n k cap cap' f h x y z V wr) (hp : V.heap.size ≤ p) (rb : At t wr p #[u0, u1, u2]) (v0 v1 v2 : Value) :
    ∃ u, ((wr.setCell ⟨p, 0, none⟩ v0).setCell ⟨p, 1, none⟩ v1).setCell ⟨p, 2, none⟩ v2 = u ∧ At t u p #[v0, v1, v2] ∧ Av w a b n k cap cap' f h x y z V u :=
  ⟨_, rfl, by simpa using ((rb.set 0 v0).set 1 v1).set 2 v2, F.1, below_put3 F.2 hp _ _ _⟩
/-- The two boxes' cells. -/
def Ra (q : Nat) (v0 v1 : Value) (x y z : Int) (w : World) : Prop := (w.cell? ⟨q, 0, none⟩ = some v0 ∧ w.cell? ⟨q, 1, none⟩ = some v1) ∧ w.cell? ⟨q + 1, 0, none⟩ = some (.int .i64 x) ∧ w.cell? ⟨q + 1, 1, none⟩ = some (.int .i64 y) ∧ w.cell? ⟨q + 1, 2, none⟩ = some (.int .i64 z)
theorem ra_of {w V wr : World} {a b : Option Addr} {n k cap cap' : Nat} {f h : Nat → Int} {x y z : Int} (F : Av w a b n k cap cap' f h x y z V wr) : Ra w.heap.size (.slice a n cap) (.slice b k cap') x y z wr := by
  obtain ⟨b0, b1, b2, -⟩ := F.aw.2.1.open3
  exact ⟨⟨F.aw.1.cell 0 rfl, F.aw.1.cell 1 rfl⟩, b0, b1, b2⟩
/-- The cells of the operator's box and of the point's. -/
def Rx (q : Nat) (v0 v1 : Value) (q' : Nat) (x y z : Int) (w : World) : Prop := (w.cell? ⟨q, 0, none⟩ = some v0 ∧ w.cell? ⟨q, 1, none⟩ = some v1) ∧ w.cell? ⟨q', 0, none⟩ = some (.int .i64 x) ∧ w.cell? ⟨q', 1, none⟩ = some (.int .i64 y) ∧ w.cell? ⟨q', 2, none⟩ = some (.int .i64 z)
theorem rx_of {w V wr : World} {a b : Option Addr} {n k cap cap' p : Nat} {f h : Nat → Int} {x y z : Int} {t : TypeId} {v0 v1 : Value} (F : Av w a b n k cap cap' f h x y z V wr) (a7 : At t V p #[v0, v1]) : Rx p v0 v1 (w.heap.size + 1) x y z wr := by
  obtain ⟨b0, b1, b2, -⟩ := F.aw.2.1.open3
  exact ⟨⟨(a7.below F.2).cell 0 rfl, (a7.below F.2).cell 1 rfl⟩, b0, b1, b2⟩
theorem actT_some (n k : Nat) (f h : Nat → Int) (x y z : Int) : ∃ p q r v, actT n k f h x y z = .tuple #[.agg #[.int .i64 p, .int .i64 q, .int .i64 r], .bool v] := by
  unfold actT
  split
  · exact ⟨_, _, _, _, rfl⟩
  · exact ⟨_, _, _, _, rfl⟩
set_option maxRecDepth 100000 in
set_option maxHeartbeats 3200000 in
theorem exactAct_walk {w : World} {a b : Option Addr} {n k cap cap' : Nat} {f h : Nat → Int} (hs : Src w a n f) (ht : Src w b k h) (hn : n ≤ maxLen) (hk : k ≤ maxLen) (x y z : Int) :
    Calls Try.prog 5 #[.agg #[.slice a n cap, .slice b k cap'], pV x y z] w fun e w' => e = .returned (.bool true) ∧ Below w.heap.size w w' := by
  obtain ⟨W1, hW1, a1, bW1, z1⟩ := boxed w 37 #[.slice a n cap, .slice b k cap']
  obtain ⟨W2, hW2, a2, bW2, z2⟩ := boxed W1 39 #[.int .i64 x, .int .i64 y, .int .i64 z]
  rw [z1] at a2 bW2 z2
  replace a1 := a1.belowN bW2 (by omega)
  replace bW1 := bW1.trans (bW2.mono (by omega))
  obtain ⟨c0, c1, -⟩ := a1.open2
  unfold pV
  go_enter Try.func5, Try.ntmps5
  go_wp2_with fail
  refine (szOp_any a b n cap k cap' 1048576 _ hn hk (by omega)).mono ?_
  rintro e w2 ⟨r, rfl, hr, b2⟩
  replace a1 := a1.below b2
  replace a2 := a2.below b2
  replace bW1 := bW1.trans (b2.mono bW1.size)
  clear c0 c1 b2
  rcases hr with rfl | ⟨hr, hr0⟩
  · go_wp2
    go_ret
    exact ⟨rfl, bW1⟩
  have hn1 : n ≤ 1048576 := by omega
  have hk1 : k ≤ 1048576 := by omega
  have hr1 : ¬ r < 0 := by omega
  have G : Aw w a b n k cap cap' f h x y z w2 := ⟨a1, a2, hs.below bW1, ht.below bW1, bW1⟩
  clear hr a1 a2 bW1 bW2 z1 z2 hW1 hW2
  obtain ⟨p0, q0, r0, v0, hT⟩ := actT_some n k f h x y z
  go_wp2_with fail
  go_cut [6, 7] from 16 to 24 (fun s6 s7 wc => ∃ g, s6 = .pointer (some ⟨g, 0, none⟩) ∧ s7 = .bool v0 ∧ At 41 wc g #[.int .i64 p0, .int .i64 q0, .int .i64 r0] ∧ Aw w a b n k cap cap' f h x y z wc)
  case first =>
    have F : Av w a b n k cap cap' f h x y z w2 w2 := ⟨G, Below.refl _ _⟩
    clear G
    obtain ⟨u0, hu0, bb⟩ : ∃ u0, w2.drew = u0 ∧ Below w2.heap.size w2 u0 := ⟨_, rfl, (Below.refl _ _).drew⟩
    replace F := F.below bb
    clear bb
    refine wp_region_held_drew (S := Ra w.heap.size (.slice a n cap) (.slice b k cap') x y z) (by kernel_rfl) (by rw [hu0]; exact ra_of F) (fun hHeld => ?_)
    rw [hu0] at hHeld ⊢
    clear hu0
    change wpAnyH _ _ _ _ _ 11 #[false, false, false, false, false, false, false, false, false, false, false] _ _
    refine wpAnyH_take (i := 0) (v := .agg #[.slice a n cap, .slice b k cap']) rfl (by kernel_rfl) (by kernel_rfl) (by kernel_rfl) (fun _ _ _ h => h) (Or.inl ⟨by kernel_rfl, ?_⟩) hHeld ?_
    · intro w' hSw; obtain ⟨⟨z0, z1⟩, z2, z3, z4⟩ := hSw; go_simp
    try simp only [Act.put, List.setIfInBounds_toArray, List.set_cons_zero, List.set_cons_succ, List.getElem_toArray, List.getElem_cons_zero]
    refine wpAnyH_take (i := 2) (v := .agg #[.int .i64 x, .int .i64 y, .int .i64 z]) rfl (by kernel_rfl) (by kernel_rfl) (by kernel_rfl) (fun _ _ _ h => h) (Or.inl ⟨by kernel_rfl, ?_⟩) hHeld ?_
    · intro w' hSw; obtain ⟨⟨z0, z1⟩, z2, z3, z4⟩ := hSw; go_simp
    try simp only [Act.put, List.setIfInBounds_toArray, List.set_cons_zero, List.set_cons_succ, List.getElem_toArray, List.getElem_cons_succ, List.getElem_cons_zero]
    refine wpAnyH_ready (rs := [1, 8]) (by kernel_rfl) (by simp) ?_
    refine AllReadyH.cons rfl (fun KK hK' => ?_) (AllReadyH.cons rfl (fun KK hK' => ?_) AllReadyH.nil)
    · go_simp
      refine (toOp_any F.aw.2.2.1 F.aw.2.2.2.1 hn1 hk1).mono ?_
      rintro e u1 ⟨o, rfl, Q, bb⟩
      obtain ⟨v1, v2, rfl, m1, m2, -⟩ := Q
      obtain ⟨d1, e1, rfl, s1⟩ := m1.src
      obtain ⟨d2, e2, rfl, s2⟩ := m2.src
      clear m1 m2
      replace F := F.below bb
      clear bb
      try go_wp2_with fail
      clear hHeld
      refine hK'.out _ _ (ra_of F) (fun hHeld => ?_)
      clear hK' KK
      try simp only [List.setIfInBounds_toArray, List.set_cons_zero, List.set_cons_succ]
      refine wpAnyH_ready (rs := [3, 8]) (by kernel_rfl) (by simp) ?_
      refine AllReadyH.cons rfl (fun KK hK' => ?_) (AllReadyH.cons rfl (fun KK hK' => ?_) AllReadyH.nil)
      · go_simp
        refine (toPoint_any x y z _).mono ?_
        rintro e u2 ⟨rfl, bb⟩
        replace F := F.below bb
        replace s1 := s1.below bb
        replace s2 := s2.below bb
        clear bb
        try go_wp2_with fail
        clear hHeld
        refine hK'.out _ _ (ra_of F) (fun hHeld => ?_)
        clear hK' KK
        try simp only [List.setIfInBounds_toArray, List.set_cons_zero, List.set_cons_succ]
        refine wpAnyH_ready (rs := [4, 8]) (by kernel_rfl) (by simp) ?_
        refine AllReadyH.cons rfl (fun KK hK' => ?_) (AllReadyH.cons rfl (fun KK hK' => ?_) AllReadyH.nil)
        · go_simp
          refine (specAct_any e1 e2 s1 s2 x y z).mono ?_
          rintro e u3 ⟨he, bb⟩
          rw [hT] at he
          subst he
          replace F := F.below bb
          replace s1 := s1.below bb
          replace s2 := s2.below bb
          clear bb
          try go_wp2_with fail
          clear hHeld
          refine hK'.out _ _ (ra_of F) (fun hHeld => ?_)
          clear hK' KK
          try simp only [List.setIfInBounds_toArray, List.set_cons_zero, List.set_cons_succ]
          refine wpAnyH_take (i := 5) (v := .tuple #[.agg #[.int .i64 p0, .int .i64 q0, .int .i64 r0], .bool v0]) rfl (by kernel_rfl) (by kernel_rfl) (by kernel_rfl) (fun _ _ _ h => h) (Or.inl ⟨by kernel_rfl, ?_⟩) hHeld ?_
          · intro w' hSw; go_simp
          try simp only [Act.put, List.setIfInBounds_toArray, List.set_cons_zero, List.set_cons_succ, List.getElem_toArray, List.getElem_cons_succ, List.getElem_cons_zero]
          refine wpAnyH_take (i := 6) (v := .agg #[.int .i64 p0, .int .i64 q0, .int .i64 r0]) rfl (by kernel_rfl) (by kernel_rfl) (by kernel_rfl) (fun _ _ _ h => h) (Or.inl ⟨by kernel_rfl, ?_⟩) hHeld ?_
          · intro w' hSw; go_simp
          try simp only [Act.put, List.setIfInBounds_toArray, List.set_cons_zero, List.set_cons_succ, List.getElem_toArray, List.getElem_cons_succ, List.getElem_cons_zero]
          refine wpAnyH_take (i := 7) (v := .bool v0) rfl (by kernel_rfl) (by kernel_rfl) (by kernel_rfl) (fun _ _ _ h => h) (Or.inl ⟨by kernel_rfl, ?_⟩) hHeld ?_
          · intro w' hSw; go_simp
          try simp only [Act.put, List.setIfInBounds_toArray, List.set_cons_zero, List.set_cons_succ, List.getElem_toArray, List.getElem_cons_succ, List.getElem_cons_zero]
          refine wpAnyH_ready (rs := [8]) (by kernel_rfl) (by simp) ?_
          refine AllReadyH.cons rfl (fun KK hK' => ?_) AllReadyH.nil
          go_simp
          obtain ⟨V3, hV, rb, bb, -⟩ := boxed u3 41 #[.int .i64 0, .int .i64 0, .int .i64 0]
          rw [hV]
          have hp := a_lt F
          obtain ⟨p, hpp⟩ : ∃ p, u3.heap.size = p := ⟨_, rfl⟩
          rw [hpp] at hp rb ⊢
          clear hV hpp
          replace F := F.below bb
          replace s1 := s1.below bb
          replace s2 := s2.below bb
          clear bb
          clear hHeld
          refine hK'.out _ _ (ra_of F) (fun hHeld => ?_)
          clear hK' KK
          try simp only [List.setIfInBounds_toArray, List.set_cons_zero, List.set_cons_succ]
          refine wpAnyH_ready (rs := [9]) (by kernel_rfl) (by simp) ?_
          refine AllReadyH.cons rfl (fun KK hK' => ?_) AllReadyH.nil
          obtain ⟨y0, y1, y2, g0, g1, g2⟩ := rb.open3
          go_simp
          obtain ⟨u9, hu9, rb9, F9⟩ := a_fill F hp rb (.int .i64 p0) (.int .i64 q0) (.int .i64 r0)
          rw [hu9]
          clear hu9 rb y0 y1 y2 g0 g1 g2 F
          have F := F9
          have rb := rb9
          clear F9 rb9
          clear hHeld
          refine hK'.out _ _ (ra_of F) (fun hHeld => ?_)
          clear hK' KK
          try simp only [List.setIfInBounds_toArray, List.set_cons_zero, List.set_cons_succ]
          refine wpAnyH_take (i := 10) (v := .bool v0) rfl (by kernel_rfl) (by kernel_rfl) (by kernel_rfl) (fun _ _ _ h => h) (Or.inl ⟨by kernel_rfl, ?_⟩) hHeld ?_
          · intro w' hSw; go_simp
          try simp only [Act.put, List.setIfInBounds_toArray, List.set_cons_zero, List.set_cons_succ, List.getElem_toArray, List.getElem_cons_succ, List.getElem_cons_zero]
          refine wpAnyH_done (by kernel_rfl) ?_ _
          go_wp2_with fail
          go_meet
          case rel => exact ⟨p, rfl, rfl, rb, F.aw⟩
        · go_simp
          obtain ⟨V2, hV, rb, bb, -⟩ := boxed u2 41 #[.int .i64 0, .int .i64 0, .int .i64 0]
          rw [hV]
          have hp := a_lt F
          obtain ⟨p, hpp⟩ : ∃ p, u2.heap.size = p := ⟨_, rfl⟩
          rw [hpp] at hp rb ⊢
          clear hV hpp
          replace F := F.below bb
          replace s1 := s1.below bb
          replace s2 := s2.below bb
          clear bb
          clear hHeld
          refine hK'.out _ _ (ra_of F) (fun hHeld => ?_)
          clear hK' KK
          try simp only [List.setIfInBounds_toArray, List.set_cons_zero, List.set_cons_succ]
          refine wpAnyH_ready (rs := [4]) (by kernel_rfl) (by simp) ?_
          refine AllReadyH.cons rfl (fun KK hK' => ?_) AllReadyH.nil
          go_simp
          refine (specAct_any e1 e2 s1 s2 x y z).mono ?_
          rintro e u3 ⟨he, bb⟩
          rw [hT] at he
          subst he
          replace F := F.below bb
          replace s1 := s1.below bb
          replace s2 := s2.below bb
          replace rb := rb.below bb
          clear bb
          try go_wp2_with fail
          clear hHeld
          refine hK'.out _ _ (ra_of F) (fun hHeld => ?_)
          clear hK' KK
          try simp only [List.setIfInBounds_toArray, List.set_cons_zero, List.set_cons_succ]
          refine wpAnyH_take (i := 5) (v := .tuple #[.agg #[.int .i64 p0, .int .i64 q0, .int .i64 r0], .bool v0]) rfl (by kernel_rfl) (by kernel_rfl) (by kernel_rfl) (fun _ _ _ h => h) (Or.inl ⟨by kernel_rfl, ?_⟩) hHeld ?_
          · intro w' hSw; go_simp
          try simp only [Act.put, List.setIfInBounds_toArray, List.set_cons_zero, List.set_cons_succ, List.getElem_toArray, List.getElem_cons_succ, List.getElem_cons_zero]
          refine wpAnyH_take (i := 6) (v := .agg #[.int .i64 p0, .int .i64 q0, .int .i64 r0]) rfl (by kernel_rfl) (by kernel_rfl) (by kernel_rfl) (fun _ _ _ h => h) (Or.inl ⟨by kernel_rfl, ?_⟩) hHeld ?_
          · intro w' hSw; go_simp
          try simp only [Act.put, List.setIfInBounds_toArray, List.set_cons_zero, List.set_cons_succ, List.getElem_toArray, List.getElem_cons_succ, List.getElem_cons_zero]
          refine wpAnyH_take (i := 7) (v := .bool v0) rfl (by kernel_rfl) (by kernel_rfl) (by kernel_rfl) (fun _ _ _ h => h) (Or.inl ⟨by kernel_rfl, ?_⟩) hHeld ?_
          · intro w' hSw; go_simp
          try simp only [Act.put, List.setIfInBounds_toArray, List.set_cons_zero, List.set_cons_succ, List.getElem_toArray, List.getElem_cons_succ, List.getElem_cons_zero]
          refine wpAnyH_ready (rs := [9]) (by kernel_rfl) (by simp) ?_
          refine AllReadyH.cons rfl (fun KK hK' => ?_) AllReadyH.nil
          obtain ⟨y0, y1, y2, g0, g1, g2⟩ := rb.open3
          go_simp
          obtain ⟨u9, hu9, rb9, F9⟩ := a_fill F hp rb (.int .i64 p0) (.int .i64 q0) (.int .i64 r0)
          rw [hu9]
          clear hu9 rb y0 y1 y2 g0 g1 g2 F
          have F := F9
          have rb := rb9
          clear F9 rb9
          clear hHeld
          refine hK'.out _ _ (ra_of F) (fun hHeld => ?_)
          clear hK' KK
          try simp only [List.setIfInBounds_toArray, List.set_cons_zero, List.set_cons_succ]
          refine wpAnyH_take (i := 10) (v := .bool v0) rfl (by kernel_rfl) (by kernel_rfl) (by kernel_rfl) (fun _ _ _ h => h) (Or.inl ⟨by kernel_rfl, ?_⟩) hHeld ?_
          · intro w' hSw; go_simp
          try simp only [Act.put, List.setIfInBounds_toArray, List.set_cons_zero, List.set_cons_succ, List.getElem_toArray, List.getElem_cons_succ, List.getElem_cons_zero]
          refine wpAnyH_done (by kernel_rfl) ?_ _
          go_wp2_with fail
          go_meet
          case rel => exact ⟨p, rfl, rfl, rb, F.aw⟩
      · go_simp
        obtain ⟨V1, hV, rb, bb, -⟩ := boxed u1 41 #[.int .i64 0, .int .i64 0, .int .i64 0]
        rw [hV]
        have hp := a_lt F
        obtain ⟨p, hpp⟩ : ∃ p, u1.heap.size = p := ⟨_, rfl⟩
        rw [hpp] at hp rb ⊢
        clear hV hpp
        replace F := F.below bb
        replace s1 := s1.below bb
        replace s2 := s2.below bb
        clear bb
        clear hHeld
        refine hK'.out _ _ (ra_of F) (fun hHeld => ?_)
        clear hK' KK
        try simp only [List.setIfInBounds_toArray, List.set_cons_zero, List.set_cons_succ]
        refine wpAnyH_ready (rs := [3]) (by kernel_rfl) (by simp) ?_
        refine AllReadyH.cons rfl (fun KK hK' => ?_) AllReadyH.nil
        go_simp
        refine (toPoint_any x y z _).mono ?_
        rintro e u2 ⟨rfl, bb⟩
        replace F := F.below bb
        replace s1 := s1.below bb
        replace s2 := s2.below bb
        replace rb := rb.below bb
        clear bb
        try go_wp2_with fail
        clear hHeld
        refine hK'.out _ _ (ra_of F) (fun hHeld => ?_)
        clear hK' KK
        try simp only [List.setIfInBounds_toArray, List.set_cons_zero, List.set_cons_succ]
        refine wpAnyH_ready (rs := [4]) (by kernel_rfl) (by simp) ?_
        refine AllReadyH.cons rfl (fun KK hK' => ?_) AllReadyH.nil
        go_simp
        refine (specAct_any e1 e2 s1 s2 x y z).mono ?_
        rintro e u3 ⟨he, bb⟩
        rw [hT] at he
        subst he
        replace F := F.below bb
        replace s1 := s1.below bb
        replace s2 := s2.below bb
        replace rb := rb.below bb
        clear bb
        try go_wp2_with fail
        clear hHeld
        refine hK'.out _ _ (ra_of F) (fun hHeld => ?_)
        clear hK' KK
        try simp only [List.setIfInBounds_toArray, List.set_cons_zero, List.set_cons_succ]
        refine wpAnyH_take (i := 5) (v := .tuple #[.agg #[.int .i64 p0, .int .i64 q0, .int .i64 r0], .bool v0]) rfl (by kernel_rfl) (by kernel_rfl) (by kernel_rfl) (fun _ _ _ h => h) (Or.inl ⟨by kernel_rfl, ?_⟩) hHeld ?_
        · intro w' hSw; go_simp
        try simp only [Act.put, List.setIfInBounds_toArray, List.set_cons_zero, List.set_cons_succ, List.getElem_toArray, List.getElem_cons_succ, List.getElem_cons_zero]
        refine wpAnyH_take (i := 6) (v := .agg #[.int .i64 p0, .int .i64 q0, .int .i64 r0]) rfl (by kernel_rfl) (by kernel_rfl) (by kernel_rfl) (fun _ _ _ h => h) (Or.inl ⟨by kernel_rfl, ?_⟩) hHeld ?_
        · intro w' hSw; go_simp
        try simp only [Act.put, List.setIfInBounds_toArray, List.set_cons_zero, List.set_cons_succ, List.getElem_toArray, List.getElem_cons_succ, List.getElem_cons_zero]
        refine wpAnyH_take (i := 7) (v := .bool v0) rfl (by kernel_rfl) (by kernel_rfl) (by kernel_rfl) (fun _ _ _ h => h) (Or.inl ⟨by kernel_rfl, ?_⟩) hHeld ?_
        · intro w' hSw; go_simp
        try simp only [Act.put, List.setIfInBounds_toArray, List.set_cons_zero, List.set_cons_succ, List.getElem_toArray, List.getElem_cons_succ, List.getElem_cons_zero]
        refine wpAnyH_ready (rs := [9]) (by kernel_rfl) (by simp) ?_
        refine AllReadyH.cons rfl (fun KK hK' => ?_) AllReadyH.nil
        obtain ⟨y0, y1, y2, g0, g1, g2⟩ := rb.open3
        go_simp
        obtain ⟨u9, hu9, rb9, F9⟩ := a_fill F hp rb (.int .i64 p0) (.int .i64 q0) (.int .i64 r0)
        rw [hu9]
        clear hu9 rb y0 y1 y2 g0 g1 g2 F
        have F := F9
        have rb := rb9
        clear F9 rb9
        clear hHeld
        refine hK'.out _ _ (ra_of F) (fun hHeld => ?_)
        clear hK' KK
        try simp only [List.setIfInBounds_toArray, List.set_cons_zero, List.set_cons_succ]
        refine wpAnyH_take (i := 10) (v := .bool v0) rfl (by kernel_rfl) (by kernel_rfl) (by kernel_rfl) (fun _ _ _ h => h) (Or.inl ⟨by kernel_rfl, ?_⟩) hHeld ?_
        · intro w' hSw; go_simp
        try simp only [Act.put, List.setIfInBounds_toArray, List.set_cons_zero, List.set_cons_succ, List.getElem_toArray, List.getElem_cons_succ, List.getElem_cons_zero]
        refine wpAnyH_done (by kernel_rfl) ?_ _
        go_wp2_with fail
        go_meet
        case rel => exact ⟨p, rfl, rfl, rb, F.aw⟩
    · go_simp
      obtain ⟨V0, hV, rb, bb, -⟩ := boxed u0 41 #[.int .i64 0, .int .i64 0, .int .i64 0]
      rw [hV]
      have hp := a_lt F
      obtain ⟨p, hpp⟩ : ∃ p, u0.heap.size = p := ⟨_, rfl⟩
      rw [hpp] at hp rb ⊢
      clear hV hpp
      replace F := F.below bb
      clear bb
      clear hHeld
      refine hK'.out _ _ (ra_of F) (fun hHeld => ?_)
      clear hK' KK
      try simp only [List.setIfInBounds_toArray, List.set_cons_zero, List.set_cons_succ]
      refine wpAnyH_ready (rs := [1]) (by kernel_rfl) (by simp) ?_
      refine AllReadyH.cons rfl (fun KK hK' => ?_) AllReadyH.nil
      go_simp
      refine (toOp_any F.aw.2.2.1 F.aw.2.2.2.1 hn1 hk1).mono ?_
      rintro e u1 ⟨o, rfl, Q, bb⟩
      obtain ⟨v1, v2, rfl, m1, m2, -⟩ := Q
      obtain ⟨d1, e1, rfl, s1⟩ := m1.src
      obtain ⟨d2, e2, rfl, s2⟩ := m2.src
      clear m1 m2
      replace F := F.below bb
      replace rb := rb.below bb
      clear bb
      try go_wp2_with fail
      clear hHeld
      refine hK'.out _ _ (ra_of F) (fun hHeld => ?_)
      clear hK' KK
      try simp only [List.setIfInBounds_toArray, List.set_cons_zero, List.set_cons_succ]
      refine wpAnyH_ready (rs := [3]) (by kernel_rfl) (by simp) ?_
      refine AllReadyH.cons rfl (fun KK hK' => ?_) AllReadyH.nil
      go_simp
      refine (toPoint_any x y z _).mono ?_
      rintro e u2 ⟨rfl, bb⟩
      replace F := F.below bb
      replace rb := rb.below bb
      replace s1 := s1.below bb
      replace s2 := s2.below bb
      clear bb
      try go_wp2_with fail
      clear hHeld
      refine hK'.out _ _ (ra_of F) (fun hHeld => ?_)
      clear hK' KK
      try simp only [List.setIfInBounds_toArray, List.set_cons_zero, List.set_cons_succ]
      refine wpAnyH_ready (rs := [4]) (by kernel_rfl) (by simp) ?_
      refine AllReadyH.cons rfl (fun KK hK' => ?_) AllReadyH.nil
      go_simp
      refine (specAct_any e1 e2 s1 s2 x y z).mono ?_
      rintro e u3 ⟨he, bb⟩
      rw [hT] at he
      subst he
      replace F := F.below bb
      replace rb := rb.below bb
      replace s1 := s1.below bb
      replace s2 := s2.below bb
      clear bb
      try go_wp2_with fail
      clear hHeld
      refine hK'.out _ _ (ra_of F) (fun hHeld => ?_)
      clear hK' KK
      try simp only [List.setIfInBounds_toArray, List.set_cons_zero, List.set_cons_succ]
      refine wpAnyH_take (i := 5) (v := .tuple #[.agg #[.int .i64 p0, .int .i64 q0, .int .i64 r0], .bool v0]) rfl (by kernel_rfl) (by kernel_rfl) (by kernel_rfl) (fun _ _ _ h => h) (Or.inl ⟨by kernel_rfl, ?_⟩) hHeld ?_
      · intro w' hSw; go_simp
      try simp only [Act.put, List.setIfInBounds_toArray, List.set_cons_zero, List.set_cons_succ, List.getElem_toArray, List.getElem_cons_succ, List.getElem_cons_zero]
      refine wpAnyH_take (i := 6) (v := .agg #[.int .i64 p0, .int .i64 q0, .int .i64 r0]) rfl (by kernel_rfl) (by kernel_rfl) (by kernel_rfl) (fun _ _ _ h => h) (Or.inl ⟨by kernel_rfl, ?_⟩) hHeld ?_
      · intro w' hSw; go_simp
      try simp only [Act.put, List.setIfInBounds_toArray, List.set_cons_zero, List.set_cons_succ, List.getElem_toArray, List.getElem_cons_succ, List.getElem_cons_zero]
      refine wpAnyH_take (i := 7) (v := .bool v0) rfl (by kernel_rfl) (by kernel_rfl) (by kernel_rfl) (fun _ _ _ h => h) (Or.inl ⟨by kernel_rfl, ?_⟩) hHeld ?_
      · intro w' hSw; go_simp
      try simp only [Act.put, List.setIfInBounds_toArray, List.set_cons_zero, List.set_cons_succ, List.getElem_toArray, List.getElem_cons_succ, List.getElem_cons_zero]
      refine wpAnyH_ready (rs := [9]) (by kernel_rfl) (by simp) ?_
      refine AllReadyH.cons rfl (fun KK hK' => ?_) AllReadyH.nil
      obtain ⟨y0, y1, y2, g0, g1, g2⟩ := rb.open3
      go_simp
      obtain ⟨u9, hu9, rb9, F9⟩ := a_fill F hp rb (.int .i64 p0) (.int .i64 q0) (.int .i64 r0)
      rw [hu9]
      clear hu9 rb y0 y1 y2 g0 g1 g2 F
      have F := F9
      have rb := rb9
      clear F9 rb9
      clear hHeld
      refine hK'.out _ _ (ra_of F) (fun hHeld => ?_)
      clear hK' KK
      try simp only [List.setIfInBounds_toArray, List.set_cons_zero, List.set_cons_succ]
      refine wpAnyH_take (i := 10) (v := .bool v0) rfl (by kernel_rfl) (by kernel_rfl) (by kernel_rfl) (fun _ _ _ h => h) (Or.inl ⟨by kernel_rfl, ?_⟩) hHeld ?_
      · intro w' hSw; go_simp
      try simp only [Act.put, List.setIfInBounds_toArray, List.set_cons_zero, List.set_cons_succ, List.getElem_toArray, List.getElem_cons_succ, List.getElem_cons_zero]
      refine wpAnyH_done (by kernel_rfl) ?_ _
      go_wp2_with fail
      go_meet
      case rel => exact ⟨p, rfl, rfl, rb, F.aw⟩
  case rest =>
    obtain ⟨g, rfl, rfl, rg, G⟩ := hcut
    obtain ⟨c0, c1, -⟩ := G.1.open2
    go_wp2_with fail
    refine (toOp_any G.2.2.1 G.2.2.2.1 hn1 hk1).mono ?_
    rintro e w5 ⟨o5, rfl, q5, b5⟩
    replace G := G.below b5
    replace rg := rg.below b5
    clear c0 c1 b5
    have q5' := q5
    obtain ⟨v1, v2, rfl, m1, m2, -⟩ := q5
    obtain ⟨d1, e1, rfl, s1⟩ := m1.src
    obtain ⟨d2, e2, rfl, s2⟩ := m2.src
    obtain ⟨W6, hW6, W7, hW7, a7, bW7, z0, z1, y0, y1⟩ := boxed2 w5 (.slice d1 n e1) (.slice d2 k e2)
    replace G := G.below bW7
    replace rg := rg.below bW7
    replace q5' := q5'.below bW7
    replace s1 := s1.below bW7
    replace s2 := s2.below bW7
    clear m1 m2
    go_wp2_with fail
    go_cut [9, 10] from 26 to 33 (fun s9 s10 wc => ∃ g', s9 = .pointer (some ⟨g', 0, none⟩) ∧ s10 = .bool v0 ∧ At 41 wc g' #[.int .i64 p0, .int .i64 q0, .int .i64 r0] ∧ Av w a b n k cap cap' f h x y z W7 wc)
    case first =>
      have F : Av w a b n k cap cap' f h x y z W7 W7 := ⟨G, Below.refl _ _⟩
      clear G z0 z1 y0 y1 hW6 hW7 bW7
      obtain ⟨u0, hu0, bb⟩ : ∃ u0, W7.drew = u0 ∧ Below W7.heap.size W7 u0 := ⟨_, rfl, (Below.refl _ _).drew⟩
      replace F := F.below bb
      clear bb
      refine wp_region_held_drew (S := Rx w5.heap.size (.slice d1 n e1) (.slice d2 k e2) (w.heap.size + 1) x y z) (by kernel_rfl) (by rw [hu0]; exact rx_of F a7) (fun hHeld => ?_)
      rw [hu0] at hHeld ⊢
      clear hu0
      change wpAnyH _ _ _ _ _ 10 #[false, false, false, false, false, false, false, false, false, false] _ _
      refine wpAnyH_take (i := 0) (v := .agg #[.slice d1 n e1, .slice d2 k e2]) rfl (by kernel_rfl) (by kernel_rfl) (by kernel_rfl) (fun _ _ _ h => h) (Or.inl ⟨by kernel_rfl, ?_⟩) hHeld ?_
      · intro w' hSw; obtain ⟨⟨z0, z1⟩, z2, z3, z4⟩ := hSw; go_simp
      try simp only [Act.put, List.setIfInBounds_toArray, List.set_cons_zero, List.set_cons_succ, List.getElem_toArray, List.getElem_cons_zero]
      refine wpAnyH_take (i := 1) (v := .agg #[.int .i64 x, .int .i64 y, .int .i64 z]) rfl (by kernel_rfl) (by kernel_rfl) (by kernel_rfl) (fun _ _ _ h => h) (Or.inl ⟨by kernel_rfl, ?_⟩) hHeld ?_
      · intro w' hSw; obtain ⟨⟨z0, z1⟩, z2, z3, z4⟩ := hSw; go_simp
      try simp only [Act.put, List.setIfInBounds_toArray, List.set_cons_zero, List.set_cons_succ, List.getElem_toArray, List.getElem_cons_succ, List.getElem_cons_zero]
      refine wpAnyH_ready (rs := [2, 7]) (by kernel_rfl) (by simp) ?_
      refine AllReadyH.cons rfl (fun KK hK' => ?_) (AllReadyH.cons rfl (fun KK hK' => ?_) AllReadyH.nil)
      · go_simp
        refine (toPoint_any x y z _).mono ?_
        rintro e u1 ⟨rfl, bb⟩
        replace F := F.below bb
        clear bb
        try go_wp2_with fail
        clear hHeld
        refine hK'.out _ _ (rx_of F a7) (fun hHeld => ?_)
        clear hK' KK
        try simp only [List.setIfInBounds_toArray, List.set_cons_zero, List.set_cons_succ]
        refine wpAnyH_ready (rs := [3, 7]) (by kernel_rfl) (by simp) ?_
        refine AllReadyH.cons rfl (fun KK hK' => ?_) (AllReadyH.cons rfl (fun KK hK' => ?_) AllReadyH.nil)
        · go_simp
          refine (implAct_any e1 e2 (s1.below F.2) (s2.below F.2) x y z).mono ?_
          rintro e u2 ⟨he, bb⟩
          rw [hT] at he
          subst he
          replace F := F.below bb
          clear bb
          try go_wp2_with fail
          clear hHeld
          refine hK'.out _ _ (rx_of F a7) (fun hHeld => ?_)
          clear hK' KK
          try simp only [List.setIfInBounds_toArray, List.set_cons_zero, List.set_cons_succ]
          refine wpAnyH_take (i := 4) (v := .tuple #[.agg #[.int .i64 p0, .int .i64 q0, .int .i64 r0], .bool v0]) rfl (by kernel_rfl) (by kernel_rfl) (by kernel_rfl) (fun _ _ _ h => h) (Or.inl ⟨by kernel_rfl, ?_⟩) hHeld ?_
          · intro w' hSw; go_simp
          try simp only [Act.put, List.setIfInBounds_toArray, List.set_cons_zero, List.set_cons_succ, List.getElem_toArray, List.getElem_cons_succ, List.getElem_cons_zero]
          refine wpAnyH_take (i := 5) (v := .agg #[.int .i64 p0, .int .i64 q0, .int .i64 r0]) rfl (by kernel_rfl) (by kernel_rfl) (by kernel_rfl) (fun _ _ _ h => h) (Or.inl ⟨by kernel_rfl, ?_⟩) hHeld ?_
          · intro w' hSw; go_simp
          try simp only [Act.put, List.setIfInBounds_toArray, List.set_cons_zero, List.set_cons_succ, List.getElem_toArray, List.getElem_cons_succ, List.getElem_cons_zero]
          refine wpAnyH_take (i := 6) (v := .bool v0) rfl (by kernel_rfl) (by kernel_rfl) (by kernel_rfl) (fun _ _ _ h => h) (Or.inl ⟨by kernel_rfl, ?_⟩) hHeld ?_
          · intro w' hSw; go_simp
          try simp only [Act.put, List.setIfInBounds_toArray, List.set_cons_zero, List.set_cons_succ, List.getElem_toArray, List.getElem_cons_succ, List.getElem_cons_zero]
          refine wpAnyH_ready (rs := [7]) (by kernel_rfl) (by simp) ?_
          refine AllReadyH.cons rfl (fun KK hK' => ?_) AllReadyH.nil
          go_simp
          obtain ⟨V2, hV, rb, bb, -⟩ := boxed u2 41 #[.int .i64 0, .int .i64 0, .int .i64 0]
          rw [hV]
          have hp := a_lt F
          obtain ⟨p, hpp⟩ : ∃ p, u2.heap.size = p := ⟨_, rfl⟩
          rw [hpp] at hp rb ⊢
          clear hV hpp
          replace F := F.below bb
          clear bb
          clear hHeld
          refine hK'.out _ _ (rx_of F a7) (fun hHeld => ?_)
          clear hK' KK
          try simp only [List.setIfInBounds_toArray, List.set_cons_zero, List.set_cons_succ]
          refine wpAnyH_ready (rs := [8]) (by kernel_rfl) (by simp) ?_
          refine AllReadyH.cons rfl (fun KK hK' => ?_) AllReadyH.nil
          obtain ⟨y0, y1, y2, g0, g1, g2⟩ := rb.open3
          go_simp
          obtain ⟨u9, hu9, rb9, F9⟩ := a_fill F hp rb (.int .i64 p0) (.int .i64 q0) (.int .i64 r0)
          rw [hu9]
          clear hu9 rb y0 y1 y2 g0 g1 g2 F
          have F := F9
          have rb := rb9
          clear F9 rb9
          clear hHeld
          refine hK'.out _ _ (rx_of F a7) (fun hHeld => ?_)
          clear hK' KK
          try simp only [List.setIfInBounds_toArray, List.set_cons_zero, List.set_cons_succ]
          refine wpAnyH_take (i := 9) (v := .bool v0) rfl (by kernel_rfl) (by kernel_rfl) (by kernel_rfl) (fun _ _ _ h => h) (Or.inl ⟨by kernel_rfl, ?_⟩) hHeld ?_
          · intro w' hSw; go_simp
          try simp only [Act.put, List.setIfInBounds_toArray, List.set_cons_zero, List.set_cons_succ, List.getElem_toArray, List.getElem_cons_succ, List.getElem_cons_zero]
          refine wpAnyH_done (by kernel_rfl) ?_ _
          go_wp2_with fail
          go_meet
          case rel => exact ⟨p, rfl, rfl, rb, F⟩
        · go_simp
          obtain ⟨V1, hV, rb, bb, -⟩ := boxed u1 41 #[.int .i64 0, .int .i64 0, .int .i64 0]
          rw [hV]
          have hp := a_lt F
          obtain ⟨p, hpp⟩ : ∃ p, u1.heap.size = p := ⟨_, rfl⟩
          rw [hpp] at hp rb ⊢
          clear hV hpp
          replace F := F.below bb
          clear bb
          clear hHeld
          refine hK'.out _ _ (rx_of F a7) (fun hHeld => ?_)
          clear hK' KK
          try simp only [List.setIfInBounds_toArray, List.set_cons_zero, List.set_cons_succ]
          refine wpAnyH_ready (rs := [3]) (by kernel_rfl) (by simp) ?_
          refine AllReadyH.cons rfl (fun KK hK' => ?_) AllReadyH.nil
          go_simp
          refine (implAct_any e1 e2 (s1.below F.2) (s2.below F.2) x y z).mono ?_
          rintro e u2 ⟨he, bb⟩
          rw [hT] at he
          subst he
          replace F := F.below bb
          replace rb := rb.below bb
          clear bb
          try go_wp2_with fail
          clear hHeld
          refine hK'.out _ _ (rx_of F a7) (fun hHeld => ?_)
          clear hK' KK
          try simp only [List.setIfInBounds_toArray, List.set_cons_zero, List.set_cons_succ]
          refine wpAnyH_take (i := 4) (v := .tuple #[.agg #[.int .i64 p0, .int .i64 q0, .int .i64 r0], .bool v0]) rfl (by kernel_rfl) (by kernel_rfl) (by kernel_rfl) (fun _ _ _ h => h) (Or.inl ⟨by kernel_rfl, ?_⟩) hHeld ?_
          · intro w' hSw; go_simp
          try simp only [Act.put, List.setIfInBounds_toArray, List.set_cons_zero, List.set_cons_succ, List.getElem_toArray, List.getElem_cons_succ, List.getElem_cons_zero]
          refine wpAnyH_take (i := 5) (v := .agg #[.int .i64 p0, .int .i64 q0, .int .i64 r0]) rfl (by kernel_rfl) (by kernel_rfl) (by kernel_rfl) (fun _ _ _ h => h) (Or.inl ⟨by kernel_rfl, ?_⟩) hHeld ?_
          · intro w' hSw; go_simp
          try simp only [Act.put, List.setIfInBounds_toArray, List.set_cons_zero, List.set_cons_succ, List.getElem_toArray, List.getElem_cons_succ, List.getElem_cons_zero]
          refine wpAnyH_take (i := 6) (v := .bool v0) rfl (by kernel_rfl) (by kernel_rfl) (by kernel_rfl) (fun _ _ _ h => h) (Or.inl ⟨by kernel_rfl, ?_⟩) hHeld ?_
          · intro w' hSw; go_simp
          try simp only [Act.put, List.setIfInBounds_toArray, List.set_cons_zero, List.set_cons_succ, List.getElem_toArray, List.getElem_cons_succ, List.getElem_cons_zero]
          refine wpAnyH_ready (rs := [8]) (by kernel_rfl) (by simp) ?_
          refine AllReadyH.cons rfl (fun KK hK' => ?_) AllReadyH.nil
          obtain ⟨y0, y1, y2, g0, g1, g2⟩ := rb.open3
          go_simp
          obtain ⟨u9, hu9, rb9, F9⟩ := a_fill F hp rb (.int .i64 p0) (.int .i64 q0) (.int .i64 r0)
          rw [hu9]
          clear hu9 rb y0 y1 y2 g0 g1 g2 F
          have F := F9
          have rb := rb9
          clear F9 rb9
          clear hHeld
          refine hK'.out _ _ (rx_of F a7) (fun hHeld => ?_)
          clear hK' KK
          try simp only [List.setIfInBounds_toArray, List.set_cons_zero, List.set_cons_succ]
          refine wpAnyH_take (i := 9) (v := .bool v0) rfl (by kernel_rfl) (by kernel_rfl) (by kernel_rfl) (fun _ _ _ h => h) (Or.inl ⟨by kernel_rfl, ?_⟩) hHeld ?_
          · intro w' hSw; go_simp
          try simp only [Act.put, List.setIfInBounds_toArray, List.set_cons_zero, List.set_cons_succ, List.getElem_toArray, List.getElem_cons_succ, List.getElem_cons_zero]
          refine wpAnyH_done (by kernel_rfl) ?_ _
          go_wp2_with fail
          go_meet
          case rel => exact ⟨p, rfl, rfl, rb, F⟩
      · go_simp
        obtain ⟨V0, hV, rb, bb, -⟩ := boxed u0 41 #[.int .i64 0, .int .i64 0, .int .i64 0]
        rw [hV]
        have hp := a_lt F
        obtain ⟨p, hpp⟩ : ∃ p, u0.heap.size = p := ⟨_, rfl⟩
        rw [hpp] at hp rb ⊢
        clear hV hpp
        replace F := F.below bb
        clear bb
        clear hHeld
        refine hK'.out _ _ (rx_of F a7) (fun hHeld => ?_)
        clear hK' KK
        try simp only [List.setIfInBounds_toArray, List.set_cons_zero, List.set_cons_succ]
        refine wpAnyH_ready (rs := [2]) (by kernel_rfl) (by simp) ?_
        refine AllReadyH.cons rfl (fun KK hK' => ?_) AllReadyH.nil
        go_simp
        refine (toPoint_any x y z _).mono ?_
        rintro e u1 ⟨rfl, bb⟩
        replace F := F.below bb
        replace rb := rb.below bb
        clear bb
        try go_wp2_with fail
        clear hHeld
        refine hK'.out _ _ (rx_of F a7) (fun hHeld => ?_)
        clear hK' KK
        try simp only [List.setIfInBounds_toArray, List.set_cons_zero, List.set_cons_succ]
        refine wpAnyH_ready (rs := [3]) (by kernel_rfl) (by simp) ?_
        refine AllReadyH.cons rfl (fun KK hK' => ?_) AllReadyH.nil
        go_simp
        refine (implAct_any e1 e2 (s1.below F.2) (s2.below F.2) x y z).mono ?_
        rintro e u2 ⟨he, bb⟩
        rw [hT] at he
        subst he
        replace F := F.below bb
        replace rb := rb.below bb
        clear bb
        try go_wp2_with fail
        clear hHeld
        refine hK'.out _ _ (rx_of F a7) (fun hHeld => ?_)
        clear hK' KK
        try simp only [List.setIfInBounds_toArray, List.set_cons_zero, List.set_cons_succ]
        refine wpAnyH_take (i := 4) (v := .tuple #[.agg #[.int .i64 p0, .int .i64 q0, .int .i64 r0], .bool v0]) rfl (by kernel_rfl) (by kernel_rfl) (by kernel_rfl) (fun _ _ _ h => h) (Or.inl ⟨by kernel_rfl, ?_⟩) hHeld ?_
        · intro w' hSw; go_simp
        try simp only [Act.put, List.setIfInBounds_toArray, List.set_cons_zero, List.set_cons_succ, List.getElem_toArray, List.getElem_cons_succ, List.getElem_cons_zero]
        refine wpAnyH_take (i := 5) (v := .agg #[.int .i64 p0, .int .i64 q0, .int .i64 r0]) rfl (by kernel_rfl) (by kernel_rfl) (by kernel_rfl) (fun _ _ _ h => h) (Or.inl ⟨by kernel_rfl, ?_⟩) hHeld ?_
        · intro w' hSw; go_simp
        try simp only [Act.put, List.setIfInBounds_toArray, List.set_cons_zero, List.set_cons_succ, List.getElem_toArray, List.getElem_cons_succ, List.getElem_cons_zero]
        refine wpAnyH_take (i := 6) (v := .bool v0) rfl (by kernel_rfl) (by kernel_rfl) (by kernel_rfl) (fun _ _ _ h => h) (Or.inl ⟨by kernel_rfl, ?_⟩) hHeld ?_
        · intro w' hSw; go_simp
        try simp only [Act.put, List.setIfInBounds_toArray, List.set_cons_zero, List.set_cons_succ, List.getElem_toArray, List.getElem_cons_succ, List.getElem_cons_zero]
        refine wpAnyH_ready (rs := [8]) (by kernel_rfl) (by simp) ?_
        refine AllReadyH.cons rfl (fun KK hK' => ?_) AllReadyH.nil
        obtain ⟨y0, y1, y2, g0, g1, g2⟩ := rb.open3
        go_simp
        obtain ⟨u9, hu9, rb9, F9⟩ := a_fill F hp rb (.int .i64 p0) (.int .i64 q0) (.int .i64 r0)
        rw [hu9]
        clear hu9 rb y0 y1 y2 g0 g1 g2 F
        have F := F9
        have rb := rb9
        clear F9 rb9
        clear hHeld
        refine hK'.out _ _ (rx_of F a7) (fun hHeld => ?_)
        clear hK' KK
        try simp only [List.setIfInBounds_toArray, List.set_cons_zero, List.set_cons_succ]
        refine wpAnyH_take (i := 9) (v := .bool v0) rfl (by kernel_rfl) (by kernel_rfl) (by kernel_rfl) (fun _ _ _ h => h) (Or.inl ⟨by kernel_rfl, ?_⟩) hHeld ?_
        · intro w' hSw; go_simp
        try simp only [Act.put, List.setIfInBounds_toArray, List.set_cons_zero, List.set_cons_succ, List.getElem_toArray, List.getElem_cons_succ, List.getElem_cons_zero]
        refine wpAnyH_done (by kernel_rfl) ?_ _
        go_wp2_with fail
        go_meet
        case rel => exact ⟨p, rfl, rfl, rb, F⟩
    case rest =>
      obtain ⟨g', rfl, rfl, rg', F⟩ := hcut
      replace rg := rg.below F.2
      replace a7 := a7.below F.2
      replace q5' := q5'.below F.2
      have G := F.aw
      clear F s1 s2 z0 z1 y0 y1 hW6 hW7 bW7
      obtain ⟨i0, i1, i2, -⟩ := rg.open3
      obtain ⟨j0, j1, j2, -⟩ := rg'.open3
      have hvv := bne_self_eq_false v0
      go_wp2_with (go_at_call 23; refine (eqPoint_any _ _ _ _).mono ?_; rintro e w8 ⟨rfl, b8⟩)
      replace G := G.below b8
      replace a7 := a7.below b8
      have q5 := q5'.below b8
      clear q5' rg rg' i0 i1 i2 j0 j1 j2 hvv b8
      obtain ⟨w0, hw0, b0⟩ : ∃ w0, w8.drew = w0 ∧ Below w8.heap.size w8 w0 := ⟨_, rfl, (Below.refl _ _).drew⟩
      replace G := G.below b0
      replace a7 := a7.below b0
      replace q5 := q5.below b0
      refine wp_region_held_drew (S := Two2 w.heap.size (.slice a n cap) (.slice b k cap') w5.heap.size (.slice d1 n e1) (.slice d2 k e2)) (by kernel_rfl) (by rw [hw0]; exact two2_mk G.1 a7) (fun hHeld => ?_)
      rw [hw0] at hHeld ⊢
      clear hw0 b0
      change wpAnyH _ _ _ _ _ 5 #[false, false, false, false, false] _ _
      refine wpAnyH_take (i := 0) (v := .agg #[.slice d1 n e1, .slice d2 k e2]) rfl (by kernel_rfl) (by kernel_rfl) (by kernel_rfl) (fun _ _ _ h => h) (Or.inl ⟨by kernel_rfl, ?_⟩) hHeld ?_
      · intro w' hSw; obtain ⟨-, -, z0, z1⟩ := hSw; go_simp
      try simp only [Act.put]
      refine wpAnyH_take (i := 1) (v := .agg #[.slice a n cap, .slice b k cap']) rfl (by kernel_rfl) (by kernel_rfl) (by kernel_rfl) (fun _ _ _ h => h) (Or.inl ⟨by kernel_rfl, ?_⟩) hHeld ?_
      · intro w' hSw; obtain ⟨z0, z1, -, -⟩ := hSw; go_simp
      try simp only [Act.put]
      refine wpAnyH_ready (rs := [2]) (by kernel_rfl) (by simp) ?_
      refine AllReadyH.cons rfl (fun K hK => ?_) AllReadyH.nil
      go_simp
      refine (toOp_any G.2.2.1 G.2.2.2.1 hn1 hk1).mono ?_
      rintro e w9 ⟨o9, rfl, q9, b9⟩
      replace G := G.below b9
      replace a7 := a7.below b9
      replace q5 := q5.below b9
      try go_wp2_with fail
      clear hHeld
      refine hK.out _ _ (two2_mk G.1 a7) (fun hHeld => ?_)
      clear hK K
      try simp only [List.setIfInBounds_toArray, List.set_cons_zero, List.set_cons_succ]
      refine wpAnyH_ready (rs := [3]) (by kernel_rfl) (by simp) ?_
      refine AllReadyH.cons rfl (fun K hK => ?_) AllReadyH.nil
      go_simp
      refine (eqOp_true q5 q9 hn1 hk1).mono ?_
      rintro e w10 ⟨rfl, b10⟩
      replace G := G.below b10
      replace a7 := a7.below b10
      try go_wp2_with fail
      clear hHeld
      refine hK.out _ _ (two2_mk G.1 a7) (fun hHeld => ?_)
      clear hK K
      try simp only [List.setIfInBounds_toArray, List.set_cons_zero, List.set_cons_succ]
      refine wpAnyH_take (i := 4) (v := .bool false) rfl (by kernel_rfl) (by kernel_rfl) (by kernel_rfl) (fun _ _ _ h => h) (Or.inl ⟨by kernel_rfl, ?_⟩) hHeld ?_
      · intro w' hSw; go_simp
      try simp only [Act.put]
      refine wpAnyH_done (by kernel_rfl) ?_ _
      go_wp2
      go_ret
      exact ⟨rfl, G.2.2.2.2⟩
theorem act_of {w : World} {a b : Option Addr} {n k cap cap' : Nat} {zs ys : List Int} (h1 : IsRow .i64 w a n cap zs) (h2 : IsRow .i64 w b k cap' ys) (x y z : Int) :
    Calls Try.prog 5 #[.agg #[.slice a n cap, .slice b k cap'], .agg #[.int .i64 x, .int .i64 y, .int .i64 z]] w fun e w' => e = .returned (.bool true) ∧ Below w.heap.size w w' := by
  obtain ⟨f, hs, hn, -⟩ := src_of h1
  obtain ⟨h, ht, hk, -⟩ := src_of h2
  exact exactAct_walk hs ht hn hk x y z
end Go.Proofs.Ytninblhahjldcaa
