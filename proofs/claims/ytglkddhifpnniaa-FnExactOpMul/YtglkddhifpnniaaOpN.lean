/-
  The law on products of operators, walked.
-/
import Derived.Test.YtglkddhifpnniaaOpM
namespace Go.Proofs.Ytglkddhifpnniaa
open Go.RowKit

theorem OpAt.srcs {w : World} {lo hi : Nat} {a b : Option Addr} {n c k d n' k' : Nat} {f h : Nat → Int} (ho : OpAt w lo hi (.agg #[.slice a n' c, .slice b k' d]) n f k h) : Src w a n f ∧ Src w b k h := by
  obtain ⟨v1, v2, e, m1, m2, -⟩ := ho
  obtain ⟨a1, c1, rfl, s1⟩ := m1.src
  obtain ⟨a2, c2, rfl, s2⟩ := m2.src
  simp only [Value.agg.injEq, Array.mk.injEq, List.cons.injEq, Value.slice.injEq] at e
  obtain ⟨⟨rfl, -, -⟩, ⟨rfl, -, -⟩, -⟩ := e
  exact ⟨s1, s2⟩
/-- Behind a region that tells an operator and a bool into new variables. -/
def RegAt (V : World) (n : Nat) (f : Nat → Int) (k : Nat) (h : Nat → Int) (p : Bool) (s t : Value) (wc : World) : Prop :=
  ∃ q lo hi d1 e1 d2 e2, s = .pointer (some ⟨q, 0, none⟩) ∧ t = .bool p ∧ (V.heap.size ≤ q ∧ V.heap.size ≤ lo ∧ hi ≤ wc.heap.size ∧ (q < lo ∨ hi ≤ q)) ∧ At 26 wc q #[.slice d1 n e1, .slice d2 k e2] ∧ OpAt wc lo hi (.agg #[.slice d1 n e1, .slice d2 k e2]) n f k h ∧ Below V.heap.size V wc
theorem OpAt.store' {w : World} {lo hi q : Nat} {o : Value} {n k : Nat} {f h : Nat → Int} (ho : OpAt w lo hi o n f k h) (hq : q < lo ∨ hi ≤ q) (v1 v2 : Value) : OpAt ((w.setCell ⟨q, 0, none⟩ v1).setCell ⟨q, 1, none⟩ v2) lo hi o n f k h :=
  ho.turn (turn_set2 w q v1 v2) (by omega)
theorem regAt_mk {V u : World} {n k q lo hi c1 c2 : Nat} {f h : Nat → Int} {p : Bool} {d1 d2 : Option Addr} (hz : V.heap.size ≤ q ∧ V.heap.size ≤ lo ∧ hi ≤ u.heap.size ∧ (q < lo ∨ hi ≤ q)) (A : At 26 u q #[.slice none 0 0, .slice none 0 0]) (O : OpAt u lo hi (.agg #[.slice d1 n c1, .slice d2 k c2]) n f k h) (Z : Below V.heap.size V u) :
    RegAt V n f k h p (.pointer (some ⟨q, 0, none⟩)) (.bool p) ((u.setCell ⟨q, 0, none⟩ (.slice d1 n c1)).setCell ⟨q, 1, none⟩ (.slice d2 k c2)) :=
  ⟨q, lo, hi, d1, c1, d2, c2, rfl, rfl, ⟨hz.1, hz.2.1, by rw [size_set2]; exact hz.2.2.1, hz.2.2.2⟩, nil2_at A _ _, O.store' hz.2.2.2 _ _, (Z.setCell (show V.heap.size ≤ q from hz.1) _).setCell (show V.heap.size ≤ q from hz.1) _⟩
def One2 (q : Nat) (x0 x1 : Value) (w' : World) : Prop := w'.cell? ⟨q, 0, none⟩ = some x0 ∧ w'.cell? ⟨q, 1, none⟩ = some x1
theorem one2_mk {t : TypeId} {w' : World} {q : Nat} {x0 x1 : Value} (a : At t w' q #[x0, x1]) : One2 q x0 x1 w' := ⟨a.open2.1, a.open2.2.1⟩
set_option maxRecDepth 100000 in
set_option maxHeartbeats 4000000 in
theorem exactOpMul_walk {w : World} {a b a' b' : Option Addr} {n k cap cap' n' k' cap2 cap3 : Nat} {f h f' h' : Nat → Int} (hs : Src w a n f) (ht : Src w b k h) (hs' : Src w a' n' f') (ht' : Src w b' k' h') (hn : n ≤ maxLen) (hk : k ≤ maxLen) (hn' : n' ≤ maxLen) (hk' : k' ≤ maxLen) :
    Calls Try.prog 3 #[.agg #[.slice a n cap, .slice b k cap'], .agg #[.slice a' n' cap2, .slice b' k' cap3]] w fun e w' => e = .returned (.bool true) ∧ Below w.heap.size w w' := by
  obtain ⟨p, hp⟩ : ∃ p, decide (mulOk n f k h n' f' k' h') = p := ⟨_, rfl⟩
  obtain ⟨N, hN⟩ : ∃ N : Nat, (if p then 9 else 0) = N := ⟨_, rfl⟩
  obtain ⟨K, hK⟩ : ∃ N : Nat, (if p then 3 else 0) = N := ⟨_, rfl⟩
  have hN9 : N ≤ 9 := by rw [← hN]; split <;> omega
  have hK9 : K ≤ 3 := by rw [← hK]; split <;> omega
  have hpp : (p != p) = false := by cases p <;> rfl
  obtain ⟨W1, hW1, b_A, B, -⟩ := boxed w 24 #[.slice a n cap, .slice b k cap']
  have q_A := b_A.lt
  obtain ⟨W2, hW2, b_B, BB, -⟩ := boxed W1 24 #[.slice a' n' cap2, .slice b' k' cap3]
  replace b_A := b_A.below BB
  have zW2 := BB.size
  replace B := B.trans (BB.mono B.size)
  clear BB
  have q_B := b_B.lt
  go_enter Try.func3, Try.ntmps3
  obtain ⟨c00, c01, -⟩ := b_A.open2
  go_wp2_with fail
  refine (szOp_any a b n cap k cap' 1048576 _ hn hk (by omega)).mono ?_
  rintro e w3 ⟨rA, rfl, hrA, BB⟩
  clear c00 c01 hW1 hW2
  replace b_A := b_A.below BB
  replace b_B := b_B.below BB
  have zw3 := BB.size
  replace B := B.trans (BB.mono B.size)
  clear BB
  rcases hrA with rfl | ⟨hrA, hrA0⟩
  · go_wp2
    go_ret
    exact ⟨rfl, B⟩
  replace hrA : (n : Int) + k + rA ≤ 1048576 := by omega
  have hrA1 : ¬ rA < 0 := by omega
  have hn1 : n ≤ 1048576 := by omega
  have hk1 : k ≤ 1048576 := by omega
  obtain ⟨c00, c01, -⟩ := b_B.open2
  go_wp2_with fail
  refine (szOp_any a' b' n' cap2 k' cap3 rA _ hn' hk' (by omega)).mono ?_
  rintro e w4 ⟨rB, rfl, hrB, BB⟩
  clear c00 c01
  replace b_A := b_A.below BB
  replace b_B := b_B.below BB
  have zw4 := BB.size
  replace B := B.trans (BB.mono B.size)
  clear BB
  rcases hrB with rfl | ⟨hrB, hrB0⟩
  · go_wp2
    go_ret
    exact ⟨rfl, B⟩
  replace hrB : (n' : Int) + k' + rB ≤ rA := by omega
  have hrB1 : ¬ rB < 0 := by omega
  have hn'1 : n' ≤ 1048576 := by omega
  have hk'1 : k' ≤ 1048576 := by omega
  have h200 : n + k + n' + k' ≤ 1048576 := by omega
  clear hrA hrB
  have hN1 : N ≤ 1048576 := by omega
  have hK1 : K ≤ 1048576 := by omega
  go_wp2_with fail
  go_cut [6, 7] from 17 (fun s t wc => RegAt w4 N (mulM f f') K (behV f h h') p s t wc)
  case first =>
    obtain ⟨u0, hu0, A_A, A_B, Z⟩ : ∃ u0, w4.drew = u0 ∧ At 24 u0 w.heap.size #[.slice a n cap, .slice b k cap'] ∧ At 24 u0 W1.heap.size #[.slice a' n' cap2, .slice b' k' cap3] ∧ Below w4.heap.size w4 u0 := ⟨_, rfl, b_A, b_B, (Below.refl _ _).drew⟩
    have zu0 := Z.size
    refine wp_region_held_drew (S := Two2 w.heap.size (.slice a n cap) (.slice b k cap') W1.heap.size (.slice a' n' cap2) (.slice b' k' cap3)) (by kernel_rfl) (by rw [hu0]; exact two2_mk A_A A_B) (fun hHeld => ?_)
    rw [hu0] at hHeld ⊢
    clear hu0
    change wpAnyH _ _ _ _ _ 11 #[false, false, false, false, false, false, false, false, false, false, false] _ _
    refine wpAnyH_take (i := 0) (v := .agg #[.slice a n cap, .slice b k cap']) rfl (by kernel_rfl) (by kernel_rfl) (by kernel_rfl) (fun _ _ _ h => h) (Or.inl ⟨by kernel_rfl, ?_⟩) hHeld ?_
    · intro w' hSw; obtain ⟨z0, z1, -, -⟩ := hSw; go_simp
    try simp only [Act.put, List.setIfInBounds_toArray, List.set_cons_zero]
    refine wpAnyH_take (i := 2) (v := .agg #[.slice a' n' cap2, .slice b' k' cap3]) rfl (by kernel_rfl) (by kernel_rfl) (by kernel_rfl) (fun _ _ _ h => h) (Or.inl ⟨by kernel_rfl, ?_⟩) hHeld ?_
    · intro w' hSw; obtain ⟨-, -, z0, z1⟩ := hSw; go_simp
    try simp only [Act.put, List.setIfInBounds_toArray, List.set_cons_zero, List.set_cons_succ]
    refine wpAnyH_ready (rs := [1, 8]) (by kernel_rfl) (by simp) ?_
    refine AllReadyH.cons rfl (fun KK hK' => ?_) ?_
    · go_simp
      refine (toOp_any (hs.below (B.trans (Z.mono B.size))) (ht.below (B.trans (Z.mono B.size))) hn1 hk1).mono ?_
      rintro e u1 ⟨o, rfl, O_A, b'⟩
      replace A_A := A_A.below b'
      replace A_B := A_B.below b'
      have zu1 := b'.size
      replace Z := Z.trans (b'.mono Z.size)
      clear b'
      obtain ⟨dA, eA, gA, iA, rfl, -, -⟩ := O_A.src
      try go_wp2_with fail
      clear hHeld
      refine hK'.out _ _ (two2_mk A_A A_B) (fun hHeld => ?_)
      clear hK' KK
      try simp only [List.setIfInBounds_toArray, List.set_cons_zero, List.set_cons_succ]
      refine wpAnyH_ready (rs := [3, 8]) (by kernel_rfl) (by simp) ?_
      refine AllReadyH.cons rfl (fun KK hK' => ?_) ?_
      · go_simp
        refine (toOp_any (hs'.below (B.trans (Z.mono B.size))) (ht'.below (B.trans (Z.mono B.size))) hn'1 hk'1).mono ?_
        rintro e u2 ⟨o, rfl, O_B, b'⟩
        replace A_A := A_A.below b'
        replace A_B := A_B.below b'
        replace O_A := O_A.below b'
        have zu2 := b'.size
        replace Z := Z.trans (b'.mono Z.size)
        clear b'
        obtain ⟨dB, eB, gB, iB, rfl, -, -⟩ := O_B.src
        try go_wp2_with fail
        clear hHeld
        refine hK'.out _ _ (two2_mk A_A A_B) (fun hHeld => ?_)
        clear hK' KK
        try simp only [List.setIfInBounds_toArray, List.set_cons_zero, List.set_cons_succ]
        refine wpAnyH_ready (rs := [4, 8]) (by kernel_rfl) (by simp) ?_
        refine AllReadyH.cons rfl (fun KK hK' => ?_) ?_
        · go_simp
          refine (specMul_any _ _ _ _ O_A.srcs.1 O_A.srcs.2 O_B.srcs.1 O_B.srcs.2).mono ?_
          rintro e u3 ⟨o, rfl, O_R, b'⟩
          rw [hp] at O_R ⊢
          unfold Told at O_R
          rw [hN, hK] at O_R
          have zR : w4.heap.size ≤ u2.heap.size := by omega
          replace A_A := A_A.below b'
          replace A_B := A_B.below b'
          replace O_A := O_A.below b'
          replace O_B := O_B.below b'
          have zu3 := b'.size
          replace Z := Z.trans (b'.mono Z.size)
          clear b'
          obtain ⟨dr, er, gr, ir, rfl, -, -⟩ := O_R.src
          try go_wp2_with fail
          clear hHeld
          refine hK'.out _ _ (two2_mk A_A A_B) (fun hHeld => ?_)
          clear hK' KK
          try simp only [List.setIfInBounds_toArray, List.set_cons_zero, List.set_cons_succ]
          refine wpAnyH_take (i := 5) (v := .tuple #[.agg #[.slice dr N er, .slice gr K ir], .bool p]) rfl (by kernel_rfl) (by kernel_rfl) (by kernel_rfl) (fun _ _ _ h => h) (Or.inl ⟨by kernel_rfl, ?_⟩) hHeld ?_
          · intro w' hSw; go_simp
          try simp only [Act.put, List.setIfInBounds_toArray, List.set_cons_zero, List.set_cons_succ]
          refine wpAnyH_take (i := 6) (v := .agg #[.slice dr N er, .slice gr K ir]) rfl (by kernel_rfl) (by kernel_rfl) (by kernel_rfl) (fun _ _ _ h => h) (Or.inl ⟨by kernel_rfl, ?_⟩) hHeld ?_
          · intro w' hSw; go_simp
          try simp only [Act.put, List.setIfInBounds_toArray, List.set_cons_zero, List.set_cons_succ]
          refine wpAnyH_take (i := 7) (v := .bool p) rfl (by kernel_rfl) (by kernel_rfl) (by kernel_rfl) (fun _ _ _ h => h) (Or.inl ⟨by kernel_rfl, ?_⟩) hHeld ?_
          · intro w' hSw; go_simp
          try simp only [Act.put, List.setIfInBounds_toArray, List.set_cons_zero, List.set_cons_succ]
          refine wpAnyH_ready (rs := [8]) (by kernel_rfl) (by simp) ?_
          refine AllReadyH.cons rfl (fun KK hK' => ?_) AllReadyH.nil
          go_simp
          obtain ⟨u4, h6, A5', b', z6⟩ := boxed u3 26 #[.slice none 0 0, .slice none 0 0]
          rw [h6]
          clear h6
          replace A_A := A_A.below b'
          replace A_B := A_B.below b'
          replace O_A := O_A.below b'
          replace O_B := O_B.below b'
          replace O_R := O_R.below b'
          have zu4 := b'.size
          replace Z := Z.trans (b'.mono Z.size)
          clear b'
          obtain ⟨q, hq⟩ : ∃ q, u3.heap.size = q := ⟨_, rfl⟩
          have q1 : w4.heap.size ≤ q ∧ q < u4.heap.size := by omega
          rw [hq] at A5'
          try rw [hq]
          have A5 := A5'
          clear A5' z6
          clear hHeld
          refine hK'.out _ _ (two2_mk A_A A_B) (fun hHeld => ?_)
          clear hK' KK
          try simp only [List.setIfInBounds_toArray, List.set_cons_zero, List.set_cons_succ]
          refine wpAnyH_ready (rs := [9]) (by kernel_rfl) (by simp) ?_
          refine AllReadyH.cons rfl (fun KK hK' => ?_) AllReadyH.nil
          obtain ⟨x0, x1, y0, y1⟩ := A5.open2
          go_simp
          clear x0 x1 y0 y1 hHeld
          replace A_A := (A_A.setOther (p := q) (i := 0) (by omega) (.slice dr N er)).setOther (p := q) (i := 1) (by omega) (.slice gr K ir)
          replace A_B := (A_B.setOther (p := q) (i := 0) (by omega) (.slice dr N er)).setOther (p := q) (i := 1) (by omega) (.slice gr K ir)
          refine hK'.out _ _ (two2_mk A_A A_B) (fun hHeld => ?_)
          clear hK' KK
          try simp only [List.setIfInBounds_toArray, List.set_cons_zero, List.set_cons_succ]
          refine wpAnyH_ready (rs := [10]) (by kernel_rfl) (by simp) ?_
          refine AllReadyH.cons rfl (fun KK hK' => ?_) AllReadyH.nil
          go_simp
          clear hHeld
          refine hK'.out _ _ (two2_mk A_A A_B) (fun hHeld => ?_)
          clear hK' KK hHeld
          try simp only [List.setIfInBounds_toArray, List.set_cons_zero, List.set_cons_succ]
          refine wpAnyH_done (by kernel_rfl) ?_ _
          go_wp2_with fail
          go_meet
          case rel => exact regAt_mk (by omega) A5 O_R Z
        refine AllReadyH.cons rfl (fun KK hK' => ?_) AllReadyH.nil
        go_simp
        obtain ⟨u3, h6, A5', b', z6⟩ := boxed u2 26 #[.slice none 0 0, .slice none 0 0]
        rw [h6]
        clear h6
        replace A_A := A_A.below b'
        replace A_B := A_B.below b'
        replace O_A := O_A.below b'
        replace O_B := O_B.below b'
        have zu3 := b'.size
        replace Z := Z.trans (b'.mono Z.size)
        clear b'
        obtain ⟨q, hq⟩ : ∃ q, u2.heap.size = q := ⟨_, rfl⟩
        have q1 : w4.heap.size ≤ q ∧ q < u3.heap.size := by omega
        rw [hq] at A5'
        try rw [hq]
        have A5 := A5'
        clear A5' z6
        clear hHeld
        refine hK'.out _ _ (two2_mk A_A A_B) (fun hHeld => ?_)
        clear hK' KK
        try simp only [List.setIfInBounds_toArray, List.set_cons_zero, List.set_cons_succ]
        refine wpAnyH_ready (rs := [4]) (by kernel_rfl) (by simp) ?_
        refine AllReadyH.cons rfl (fun KK hK' => ?_) AllReadyH.nil
        go_simp
        refine (specMul_any _ _ _ _ O_A.srcs.1 O_A.srcs.2 O_B.srcs.1 O_B.srcs.2).mono ?_
        rintro e u4 ⟨o, rfl, O_R, b'⟩
        rw [hp] at O_R ⊢
        unfold Told at O_R
        rw [hN, hK] at O_R
        have zR : w4.heap.size ≤ u3.heap.size := by omega
        replace A_A := A_A.below b'
        replace A_B := A_B.below b'
        replace O_A := O_A.below b'
        replace O_B := O_B.below b'
        replace A5 := A5.below b'
        have zu4 := b'.size
        replace Z := Z.trans (b'.mono Z.size)
        clear b'
        obtain ⟨dr, er, gr, ir, rfl, -, -⟩ := O_R.src
        try go_wp2_with fail
        clear hHeld
        refine hK'.out _ _ (two2_mk A_A A_B) (fun hHeld => ?_)
        clear hK' KK
        try simp only [List.setIfInBounds_toArray, List.set_cons_zero, List.set_cons_succ]
        refine wpAnyH_take (i := 5) (v := .tuple #[.agg #[.slice dr N er, .slice gr K ir], .bool p]) rfl (by kernel_rfl) (by kernel_rfl) (by kernel_rfl) (fun _ _ _ h => h) (Or.inl ⟨by kernel_rfl, ?_⟩) hHeld ?_
        · intro w' hSw; go_simp
        try simp only [Act.put, List.setIfInBounds_toArray, List.set_cons_zero, List.set_cons_succ]
        refine wpAnyH_take (i := 6) (v := .agg #[.slice dr N er, .slice gr K ir]) rfl (by kernel_rfl) (by kernel_rfl) (by kernel_rfl) (fun _ _ _ h => h) (Or.inl ⟨by kernel_rfl, ?_⟩) hHeld ?_
        · intro w' hSw; go_simp
        try simp only [Act.put, List.setIfInBounds_toArray, List.set_cons_zero, List.set_cons_succ]
        refine wpAnyH_take (i := 7) (v := .bool p) rfl (by kernel_rfl) (by kernel_rfl) (by kernel_rfl) (fun _ _ _ h => h) (Or.inl ⟨by kernel_rfl, ?_⟩) hHeld ?_
        · intro w' hSw; go_simp
        try simp only [Act.put, List.setIfInBounds_toArray, List.set_cons_zero, List.set_cons_succ]
        refine wpAnyH_ready (rs := [9]) (by kernel_rfl) (by simp) ?_
        refine AllReadyH.cons rfl (fun KK hK' => ?_) AllReadyH.nil
        obtain ⟨x0, x1, y0, y1⟩ := A5.open2
        go_simp
        clear x0 x1 y0 y1 hHeld
        replace A_A := (A_A.setOther (p := q) (i := 0) (by omega) (.slice dr N er)).setOther (p := q) (i := 1) (by omega) (.slice gr K ir)
        replace A_B := (A_B.setOther (p := q) (i := 0) (by omega) (.slice dr N er)).setOther (p := q) (i := 1) (by omega) (.slice gr K ir)
        refine hK'.out _ _ (two2_mk A_A A_B) (fun hHeld => ?_)
        clear hK' KK
        try simp only [List.setIfInBounds_toArray, List.set_cons_zero, List.set_cons_succ]
        refine wpAnyH_ready (rs := [10]) (by kernel_rfl) (by simp) ?_
        refine AllReadyH.cons rfl (fun KK hK' => ?_) AllReadyH.nil
        go_simp
        clear hHeld
        refine hK'.out _ _ (two2_mk A_A A_B) (fun hHeld => ?_)
        clear hK' KK hHeld
        try simp only [List.setIfInBounds_toArray, List.set_cons_zero, List.set_cons_succ]
        refine wpAnyH_done (by kernel_rfl) ?_ _
        go_wp2_with fail
        go_meet
        case rel => exact regAt_mk (by omega) A5 O_R Z
      refine AllReadyH.cons rfl (fun KK hK' => ?_) AllReadyH.nil
      go_simp
      obtain ⟨u2, h6, A5', b', z6⟩ := boxed u1 26 #[.slice none 0 0, .slice none 0 0]
      rw [h6]
      clear h6
      replace A_A := A_A.below b'
      replace A_B := A_B.below b'
      replace O_A := O_A.below b'
      have zu2 := b'.size
      replace Z := Z.trans (b'.mono Z.size)
      clear b'
      obtain ⟨q, hq⟩ : ∃ q, u1.heap.size = q := ⟨_, rfl⟩
      have q1 : w4.heap.size ≤ q ∧ q < u2.heap.size := by omega
      rw [hq] at A5'
      try rw [hq]
      have A5 := A5'
      clear A5' z6
      clear hHeld
      refine hK'.out _ _ (two2_mk A_A A_B) (fun hHeld => ?_)
      clear hK' KK
      try simp only [List.setIfInBounds_toArray, List.set_cons_zero, List.set_cons_succ]
      refine wpAnyH_ready (rs := [3]) (by kernel_rfl) (by simp) ?_
      refine AllReadyH.cons rfl (fun KK hK' => ?_) AllReadyH.nil
      go_simp
      refine (toOp_any (hs'.below (B.trans (Z.mono B.size))) (ht'.below (B.trans (Z.mono B.size))) hn'1 hk'1).mono ?_
      rintro e u3 ⟨o, rfl, O_B, b'⟩
      replace A_A := A_A.below b'
      replace A_B := A_B.below b'
      replace O_A := O_A.below b'
      replace A5 := A5.below b'
      have zu3 := b'.size
      replace Z := Z.trans (b'.mono Z.size)
      clear b'
      obtain ⟨dB, eB, gB, iB, rfl, -, -⟩ := O_B.src
      try go_wp2_with fail
      clear hHeld
      refine hK'.out _ _ (two2_mk A_A A_B) (fun hHeld => ?_)
      clear hK' KK
      try simp only [List.setIfInBounds_toArray, List.set_cons_zero, List.set_cons_succ]
      refine wpAnyH_ready (rs := [4]) (by kernel_rfl) (by simp) ?_
      refine AllReadyH.cons rfl (fun KK hK' => ?_) AllReadyH.nil
      go_simp
      refine (specMul_any _ _ _ _ O_A.srcs.1 O_A.srcs.2 O_B.srcs.1 O_B.srcs.2).mono ?_
      rintro e u4 ⟨o, rfl, O_R, b'⟩
      rw [hp] at O_R ⊢
      unfold Told at O_R
      rw [hN, hK] at O_R
      have zR : w4.heap.size ≤ u3.heap.size := by omega
      replace A_A := A_A.below b'
      replace A_B := A_B.below b'
      replace O_A := O_A.below b'
      replace O_B := O_B.below b'
      replace A5 := A5.below b'
      have zu4 := b'.size
      replace Z := Z.trans (b'.mono Z.size)
      clear b'
      obtain ⟨dr, er, gr, ir, rfl, -, -⟩ := O_R.src
      try go_wp2_with fail
      clear hHeld
      refine hK'.out _ _ (two2_mk A_A A_B) (fun hHeld => ?_)
      clear hK' KK
      try simp only [List.setIfInBounds_toArray, List.set_cons_zero, List.set_cons_succ]
      refine wpAnyH_take (i := 5) (v := .tuple #[.agg #[.slice dr N er, .slice gr K ir], .bool p]) rfl (by kernel_rfl) (by kernel_rfl) (by kernel_rfl) (fun _ _ _ h => h) (Or.inl ⟨by kernel_rfl, ?_⟩) hHeld ?_
      · intro w' hSw; go_simp
      try simp only [Act.put, List.setIfInBounds_toArray, List.set_cons_zero, List.set_cons_succ]
      refine wpAnyH_take (i := 6) (v := .agg #[.slice dr N er, .slice gr K ir]) rfl (by kernel_rfl) (by kernel_rfl) (by kernel_rfl) (fun _ _ _ h => h) (Or.inl ⟨by kernel_rfl, ?_⟩) hHeld ?_
      · intro w' hSw; go_simp
      try simp only [Act.put, List.setIfInBounds_toArray, List.set_cons_zero, List.set_cons_succ]
      refine wpAnyH_take (i := 7) (v := .bool p) rfl (by kernel_rfl) (by kernel_rfl) (by kernel_rfl) (fun _ _ _ h => h) (Or.inl ⟨by kernel_rfl, ?_⟩) hHeld ?_
      · intro w' hSw; go_simp
      try simp only [Act.put, List.setIfInBounds_toArray, List.set_cons_zero, List.set_cons_succ]
      refine wpAnyH_ready (rs := [9]) (by kernel_rfl) (by simp) ?_
      refine AllReadyH.cons rfl (fun KK hK' => ?_) AllReadyH.nil
      obtain ⟨x0, x1, y0, y1⟩ := A5.open2
      go_simp
      clear x0 x1 y0 y1 hHeld
      replace A_A := (A_A.setOther (p := q) (i := 0) (by omega) (.slice dr N er)).setOther (p := q) (i := 1) (by omega) (.slice gr K ir)
      replace A_B := (A_B.setOther (p := q) (i := 0) (by omega) (.slice dr N er)).setOther (p := q) (i := 1) (by omega) (.slice gr K ir)
      refine hK'.out _ _ (two2_mk A_A A_B) (fun hHeld => ?_)
      clear hK' KK
      try simp only [List.setIfInBounds_toArray, List.set_cons_zero, List.set_cons_succ]
      refine wpAnyH_ready (rs := [10]) (by kernel_rfl) (by simp) ?_
      refine AllReadyH.cons rfl (fun KK hK' => ?_) AllReadyH.nil
      go_simp
      clear hHeld
      refine hK'.out _ _ (two2_mk A_A A_B) (fun hHeld => ?_)
      clear hK' KK hHeld
      try simp only [List.setIfInBounds_toArray, List.set_cons_zero, List.set_cons_succ]
      refine wpAnyH_done (by kernel_rfl) ?_ _
      go_wp2_with fail
      go_meet
      case rel => exact regAt_mk (by omega) A5 O_R Z
    refine AllReadyH.cons rfl (fun KK hK' => ?_) AllReadyH.nil
    go_simp
    obtain ⟨u1, h6, A5', b', z6⟩ := boxed u0 26 #[.slice none 0 0, .slice none 0 0]
    rw [h6]
    clear h6
    replace A_A := A_A.below b'
    replace A_B := A_B.below b'
    have zu1 := b'.size
    replace Z := Z.trans (b'.mono Z.size)
    clear b'
    obtain ⟨q, hq⟩ : ∃ q, u0.heap.size = q := ⟨_, rfl⟩
    have q1 : w4.heap.size ≤ q ∧ q < u1.heap.size := by omega
    rw [hq] at A5'
    try rw [hq]
    have A5 := A5'
    clear A5' z6
    clear hHeld
    refine hK'.out _ _ (two2_mk A_A A_B) (fun hHeld => ?_)
    clear hK' KK
    try simp only [List.setIfInBounds_toArray, List.set_cons_zero, List.set_cons_succ]
    refine wpAnyH_ready (rs := [1]) (by kernel_rfl) (by simp) ?_
    refine AllReadyH.cons rfl (fun KK hK' => ?_) AllReadyH.nil
    go_simp
    refine (toOp_any (hs.below (B.trans (Z.mono B.size))) (ht.below (B.trans (Z.mono B.size))) hn1 hk1).mono ?_
    rintro e u2 ⟨o, rfl, O_A, b'⟩
    replace A_A := A_A.below b'
    replace A_B := A_B.below b'
    replace A5 := A5.below b'
    have zu2 := b'.size
    replace Z := Z.trans (b'.mono Z.size)
    clear b'
    obtain ⟨dA, eA, gA, iA, rfl, -, -⟩ := O_A.src
    try go_wp2_with fail
    clear hHeld
    refine hK'.out _ _ (two2_mk A_A A_B) (fun hHeld => ?_)
    clear hK' KK
    try simp only [List.setIfInBounds_toArray, List.set_cons_zero, List.set_cons_succ]
    refine wpAnyH_ready (rs := [3]) (by kernel_rfl) (by simp) ?_
    refine AllReadyH.cons rfl (fun KK hK' => ?_) AllReadyH.nil
    go_simp
    refine (toOp_any (hs'.below (B.trans (Z.mono B.size))) (ht'.below (B.trans (Z.mono B.size))) hn'1 hk'1).mono ?_
    rintro e u3 ⟨o, rfl, O_B, b'⟩
    replace A_A := A_A.below b'
    replace A_B := A_B.below b'
    replace O_A := O_A.below b'
    replace A5 := A5.below b'
    have zu3 := b'.size
    replace Z := Z.trans (b'.mono Z.size)
    clear b'
    obtain ⟨dB, eB, gB, iB, rfl, -, -⟩ := O_B.src
    try go_wp2_with fail
    clear hHeld
    refine hK'.out _ _ (two2_mk A_A A_B) (fun hHeld => ?_)
    clear hK' KK
    try simp only [List.setIfInBounds_toArray, List.set_cons_zero, List.set_cons_succ]
    refine wpAnyH_ready (rs := [4]) (by kernel_rfl) (by simp) ?_
    refine AllReadyH.cons rfl (fun KK hK' => ?_) AllReadyH.nil
    go_simp
    refine (specMul_any _ _ _ _ O_A.srcs.1 O_A.srcs.2 O_B.srcs.1 O_B.srcs.2).mono ?_
    rintro e u4 ⟨o, rfl, O_R, b'⟩
    rw [hp] at O_R ⊢
    unfold Told at O_R
    rw [hN, hK] at O_R
    have zR : w4.heap.size ≤ u3.heap.size := by omega
    replace A_A := A_A.below b'
    replace A_B := A_B.below b'
    replace O_A := O_A.below b'
    replace O_B := O_B.below b'
    replace A5 := A5.below b'
    have zu4 := b'.size
    replace Z := Z.trans (b'.mono Z.size)
    clear b'
    obtain ⟨dr, er, gr, ir, rfl, -, -⟩ := O_R.src
    try go_wp2_with fail
    clear hHeld
    refine hK'.out _ _ (two2_mk A_A A_B) (fun hHeld => ?_)
    clear hK' KK
    try simp only [List.setIfInBounds_toArray, List.set_cons_zero, List.set_cons_succ]
    refine wpAnyH_take (i := 5) (v := .tuple #[.agg #[.slice dr N er, .slice gr K ir], .bool p]) rfl (by kernel_rfl) (by kernel_rfl) (by kernel_rfl) (fun _ _ _ h => h) (Or.inl ⟨by kernel_rfl, ?_⟩) hHeld ?_
    · intro w' hSw; go_simp
    try simp only [Act.put, List.setIfInBounds_toArray, List.set_cons_zero, List.set_cons_succ]
    refine wpAnyH_take (i := 6) (v := .agg #[.slice dr N er, .slice gr K ir]) rfl (by kernel_rfl) (by kernel_rfl) (by kernel_rfl) (fun _ _ _ h => h) (Or.inl ⟨by kernel_rfl, ?_⟩) hHeld ?_
    · intro w' hSw; go_simp
    try simp only [Act.put, List.setIfInBounds_toArray, List.set_cons_zero, List.set_cons_succ]
    refine wpAnyH_take (i := 7) (v := .bool p) rfl (by kernel_rfl) (by kernel_rfl) (by kernel_rfl) (fun _ _ _ h => h) (Or.inl ⟨by kernel_rfl, ?_⟩) hHeld ?_
    · intro w' hSw; go_simp
    try simp only [Act.put, List.setIfInBounds_toArray, List.set_cons_zero, List.set_cons_succ]
    refine wpAnyH_ready (rs := [9]) (by kernel_rfl) (by simp) ?_
    refine AllReadyH.cons rfl (fun KK hK' => ?_) AllReadyH.nil
    obtain ⟨x0, x1, y0, y1⟩ := A5.open2
    go_simp
    clear x0 x1 y0 y1 hHeld
    replace A_A := (A_A.setOther (p := q) (i := 0) (by omega) (.slice dr N er)).setOther (p := q) (i := 1) (by omega) (.slice gr K ir)
    replace A_B := (A_B.setOther (p := q) (i := 0) (by omega) (.slice dr N er)).setOther (p := q) (i := 1) (by omega) (.slice gr K ir)
    refine hK'.out _ _ (two2_mk A_A A_B) (fun hHeld => ?_)
    clear hK' KK
    try simp only [List.setIfInBounds_toArray, List.set_cons_zero, List.set_cons_succ]
    refine wpAnyH_ready (rs := [10]) (by kernel_rfl) (by simp) ?_
    refine AllReadyH.cons rfl (fun KK hK' => ?_) AllReadyH.nil
    go_simp
    clear hHeld
    refine hK'.out _ _ (two2_mk A_A A_B) (fun hHeld => ?_)
    clear hK' KK hHeld
    try simp only [List.setIfInBounds_toArray, List.set_cons_zero, List.set_cons_succ]
    refine wpAnyH_done (by kernel_rfl) ?_ _
    go_wp2_with fail
    go_meet
    case rel => exact regAt_mk (by omega) A5 O_R Z
  case rest =>
    rename World => ww0
    obtain ⟨qw0, low0, hiw0, dw0, ew0, gw0, iw0, rfl, rfl, zqw0, b_w0, o_w0, BB⟩ := hcut
    replace b_A := b_A.below BB
    replace b_B := b_B.below BB
    have zww0 := BB.size
    replace B := B.trans (BB.mono B.size)
    clear BB
    have q_w0 := b_w0.lt
    obtain ⟨c00, c01, -⟩ := b_A.open2
    go_wp2_with fail
    refine (toOp_any (hs.below B) (ht.below B) hn1 hk1).mono ?_
    rintro e w5 ⟨o, rfl, o_x0, BB⟩
    clear c00 c01
    replace b_A := b_A.below BB
    replace b_B := b_B.below BB
    replace b_w0 := b_w0.below BB
    replace o_w0 := o_w0.below BB
    have zw5 := BB.size
    replace B := B.trans (BB.mono B.size)
    clear BB
    obtain ⟨dx0, ex0, gx0, ix0, rfl, -, -⟩ := o_x0.src
    obtain ⟨Xx0, hXx0, w6, hYx0, b_x0, BB, xx00, xx01, yx00, yx01⟩ := boxed2 w5 (.slice dx0 n ex0) (.slice gx0 k ix0)
    replace b_A := b_A.below BB
    replace b_B := b_B.below BB
    replace b_w0 := b_w0.below BB
    replace o_w0 := o_w0.below BB
    replace o_x0 := o_x0.below BB
    have zw6 := BB.size
    replace B := B.trans (BB.mono B.size)
    clear BB
    have q_x0 := b_x0.lt
    obtain ⟨c00, c01, -⟩ := b_B.open2
    go_wp2_with fail
    refine (toOp_any (hs'.below B) (ht'.below B) hn'1 hk'1).mono ?_
    rintro e w7 ⟨o, rfl, o_x1, BB⟩
    clear c00 c01 hXx0 hYx0 xx00 xx01 yx00 yx01
    replace b_A := b_A.below BB
    replace b_B := b_B.below BB
    replace b_w0 := b_w0.below BB
    replace b_x0 := b_x0.below BB
    replace o_w0 := o_w0.below BB
    replace o_x0 := o_x0.below BB
    have zw7 := BB.size
    replace B := B.trans (BB.mono B.size)
    clear BB
    obtain ⟨dx1, ex1, gx1, ix1, rfl, -, -⟩ := o_x1.src
    obtain ⟨Xx1, hXx1, w8, hYx1, b_x1, BB, xx10, xx11, yx10, yx11⟩ := boxed2 w7 (.slice dx1 n' ex1) (.slice gx1 k' ix1)
    replace b_A := b_A.below BB
    replace b_B := b_B.below BB
    replace b_w0 := b_w0.below BB
    replace b_x0 := b_x0.below BB
    replace o_w0 := o_w0.below BB
    replace o_x0 := o_x0.below BB
    replace o_x1 := o_x1.below BB
    have zw8 := BB.size
    replace B := B.trans (BB.mono B.size)
    clear BB
    have q_x1 := b_x1.lt
    obtain ⟨c00, c01, -⟩ := b_x0.open2
    obtain ⟨c10, c11, -⟩ := b_x1.open2
    go_wp2_with fail
    refine (implMul_any _ _ _ _ o_x0.srcs.1 o_x0.srcs.2 o_x1.srcs.1 o_x1.srcs.2).mono ?_
    rintro e w9 ⟨o, rfl, o_g0, BB⟩
    clear c00 c01 c10 c11 hXx1 hYx1 xx10 xx11 yx10 yx11
    replace b_A := b_A.below BB
    replace b_B := b_B.below BB
    replace b_w0 := b_w0.below BB
    replace b_x0 := b_x0.below BB
    replace b_x1 := b_x1.below BB
    replace o_w0 := o_w0.below BB
    replace o_x0 := o_x0.below BB
    replace o_x1 := o_x1.below BB
    have zw9 := BB.size
    replace B := B.trans (BB.mono B.size)
    clear BB
    rw [hp] at o_g0 ⊢
    unfold Told at o_g0
    rw [hN, hK] at o_g0
    obtain ⟨dg0, eg0, gg0, ig0, rfl, -, -⟩ := o_g0.src
    obtain ⟨Xg0, hXg0, w10, hYg0, b_g0, BB, xg00, xg01, yg00, yg01⟩ := boxed2 w9 (.slice dg0 N eg0) (.slice gg0 K ig0)
    replace b_A := b_A.below BB
    replace b_B := b_B.below BB
    replace b_w0 := b_w0.below BB
    replace b_x0 := b_x0.below BB
    replace b_x1 := b_x1.below BB
    replace o_w0 := o_w0.below BB
    replace o_x0 := o_x0.below BB
    replace o_x1 := o_x1.below BB
    replace o_g0 := o_g0.below BB
    have zw10 := BB.size
    replace B := B.trans (BB.mono B.size)
    clear BB
    have q_g0 := b_g0.lt
    obtain ⟨c00, c01, -⟩ := b_g0.open2
    obtain ⟨c10, c11, -⟩ := b_w0.open2
    go_wp2_with fail
    refine (eqOp_true o_g0 o_w0 hN1 hK1).mono ?_
    rintro e w11 ⟨rfl, BB⟩
    clear c00 c01 c10 c11 hXg0 hYg0 xg00 xg01 yg00 yg01
    replace b_A := b_A.below BB
    replace b_B := b_B.below BB
    replace b_w0 := b_w0.below BB
    replace b_x0 := b_x0.below BB
    replace b_x1 := b_x1.below BB
    replace b_g0 := b_g0.below BB
    replace o_w0 := o_w0.below BB
    replace o_x0 := o_x0.below BB
    replace o_x1 := o_x1.below BB
    replace o_g0 := o_g0.below BB
    have zw11 := BB.size
    replace B := B.trans (BB.mono B.size)
    clear BB
    go_wp2_with fail
    obtain ⟨u0, hu0, A1, A7, O7, Z⟩ : ∃ u0, w11.drew = u0 ∧ At 24 u0 w.heap.size #[.slice a n cap, .slice b k cap'] ∧ At 26 u0 w5.heap.size #[.slice dx0 n ex0, .slice gx0 k ix0] ∧ OpAt u0 ww0.heap.size w5.heap.size (.agg #[.slice dx0 n ex0, .slice gx0 k ix0]) n f k h ∧ Below w11.heap.size w11 u0 := ⟨_, rfl, b_A, b_x0, o_x0.below (Below.refl _ _).drew, (Below.refl _ _).drew⟩
    refine wp_region_held_drew (S := Two2 w.heap.size (.slice a n cap) (.slice b k cap') w5.heap.size (.slice dx0 n ex0) (.slice gx0 k ix0)) (by kernel_rfl) (by rw [hu0]; exact two2_mk A1 A7) (fun hHeld => ?_)
    rw [hu0] at hHeld ⊢
    clear hu0
    change wpAnyH _ _ _ _ _ 5 #[false, false, false, false, false] _ _
    refine wpAnyH_take (i := 0) (v := .agg #[.slice dx0 n ex0, .slice gx0 k ix0]) rfl (by kernel_rfl) (by kernel_rfl) (by kernel_rfl) (fun _ _ _ h => h) (Or.inl ⟨by kernel_rfl, ?_⟩) hHeld ?_
    · intro w' hSw; obtain ⟨-, -, z0, z1⟩ := hSw; go_simp
    try simp only [Act.put, List.setIfInBounds_toArray, List.set_cons_zero]
    refine wpAnyH_take (i := 1) (v := .agg #[.slice a n cap, .slice b k cap']) rfl (by kernel_rfl) (by kernel_rfl) (by kernel_rfl) (fun _ _ _ h => h) (Or.inl ⟨by kernel_rfl, ?_⟩) hHeld ?_
    · intro w' hSw; obtain ⟨z0, z1, -, -⟩ := hSw; go_simp
    try simp only [Act.put, List.setIfInBounds_toArray, List.set_cons_zero, List.set_cons_succ]
    refine wpAnyH_ready (rs := [2]) (by kernel_rfl) (by simp) ?_
    refine AllReadyH.cons rfl (fun KK hK' => ?_) AllReadyH.nil
    go_simp
    refine (toOp_any (hs.below (B.trans (Z.mono B.size))) (ht.below (B.trans (Z.mono B.size))) hn1 hk1).mono ?_
    rintro e w12 ⟨o9, rfl, O9, b'⟩
    replace A1 := A1.below b'
    replace A7 := A7.below b'
    replace O7 := O7.below b'
    replace Z := Z.trans (b'.mono Z.size)
    clear b'
    try go_wp2_with fail
    clear hHeld
    refine hK'.out _ _ (two2_mk A1 A7) (fun hHeld => ?_)
    clear hK' KK
    try simp only [List.setIfInBounds_toArray, List.set_cons_zero, List.set_cons_succ]
    refine wpAnyH_ready (rs := [3]) (by kernel_rfl) (by simp) ?_
    refine AllReadyH.cons rfl (fun KK hK' => ?_) AllReadyH.nil
    go_simp
    refine (eqOp_true O7 O9 hn1 hk1).mono ?_
    rintro e w13 ⟨rfl, b'⟩
    replace A1 := A1.below b'
    replace A7 := A7.below b'
    replace O7 := O7.below b'
    replace Z := Z.trans (b'.mono Z.size)
    clear b'
    try go_wp2_with fail
    clear hHeld
    refine hK'.out _ _ (two2_mk A1 A7) (fun hHeld => ?_)
    clear hK' KK
    try simp only [List.setIfInBounds_toArray, List.set_cons_zero, List.set_cons_succ]
    refine wpAnyH_ready (rs := [4]) (by kernel_rfl) (by simp) ?_
    refine AllReadyH.cons rfl (fun KK hK' => ?_) AllReadyH.nil
    go_simp
    clear hHeld
    refine hK'.out _ _ (two2_mk A1 A7) (fun hHeld => ?_)
    clear hK' KK
    try simp only [List.setIfInBounds_toArray, List.set_cons_zero, List.set_cons_succ]
    refine wpAnyH_done (by kernel_rfl) ?_ _
    clear hHeld A1 A7 O7 O9
    replace b_A := b_A.below Z
    replace b_B := b_B.below Z
    replace b_w0 := b_w0.below Z
    replace b_x0 := b_x0.below Z
    replace b_x1 := b_x1.below Z
    replace b_g0 := b_g0.below Z
    replace o_w0 := o_w0.below Z
    replace o_x0 := o_x0.below Z
    replace o_x1 := o_x1.below Z
    replace o_g0 := o_g0.below Z
    have zw13 := Z.size
    replace B := B.trans (Z.mono B.size)
    clear Z
    go_wp2_with fail
    obtain ⟨u0, hu0, A1, A7, O7, Z⟩ : ∃ u0, w13.drew = u0 ∧ At 24 u0 W1.heap.size #[.slice a' n' cap2, .slice b' k' cap3] ∧ At 26 u0 w7.heap.size #[.slice dx1 n' ex1, .slice gx1 k' ix1] ∧ OpAt u0 w6.heap.size w7.heap.size (.agg #[.slice dx1 n' ex1, .slice gx1 k' ix1]) n' f' k' h' ∧ Below w13.heap.size w13 u0 := ⟨_, rfl, b_B, b_x1, o_x1.below (Below.refl _ _).drew, (Below.refl _ _).drew⟩
    refine wp_region_held_drew (S := Two2 W1.heap.size (.slice a' n' cap2) (.slice b' k' cap3) w7.heap.size (.slice dx1 n' ex1) (.slice gx1 k' ix1)) (by kernel_rfl) (by rw [hu0]; exact two2_mk A1 A7) (fun hHeld => ?_)
    rw [hu0] at hHeld ⊢
    clear hu0
    change wpAnyH _ _ _ _ _ 5 #[false, false, false, false, false] _ _
    refine wpAnyH_take (i := 0) (v := .agg #[.slice dx1 n' ex1, .slice gx1 k' ix1]) rfl (by kernel_rfl) (by kernel_rfl) (by kernel_rfl) (fun _ _ _ h => h) (Or.inl ⟨by kernel_rfl, ?_⟩) hHeld ?_
    · intro w' hSw; obtain ⟨-, -, z0, z1⟩ := hSw; go_simp
    try simp only [Act.put, List.setIfInBounds_toArray, List.set_cons_zero]
    refine wpAnyH_take (i := 1) (v := .agg #[.slice a' n' cap2, .slice b' k' cap3]) rfl (by kernel_rfl) (by kernel_rfl) (by kernel_rfl) (fun _ _ _ h => h) (Or.inl ⟨by kernel_rfl, ?_⟩) hHeld ?_
    · intro w' hSw; obtain ⟨z0, z1, -, -⟩ := hSw; go_simp
    try simp only [Act.put, List.setIfInBounds_toArray, List.set_cons_zero, List.set_cons_succ]
    refine wpAnyH_ready (rs := [2]) (by kernel_rfl) (by simp) ?_
    refine AllReadyH.cons rfl (fun KK hK' => ?_) AllReadyH.nil
    go_simp
    refine (toOp_any (hs'.below (B.trans (Z.mono B.size))) (ht'.below (B.trans (Z.mono B.size))) hn'1 hk'1).mono ?_
    rintro e w14 ⟨o9, rfl, O9, b'⟩
    replace A1 := A1.below b'
    replace A7 := A7.below b'
    replace O7 := O7.below b'
    replace Z := Z.trans (b'.mono Z.size)
    clear b'
    try go_wp2_with fail
    clear hHeld
    refine hK'.out _ _ (two2_mk A1 A7) (fun hHeld => ?_)
    clear hK' KK
    try simp only [List.setIfInBounds_toArray, List.set_cons_zero, List.set_cons_succ]
    refine wpAnyH_ready (rs := [3]) (by kernel_rfl) (by simp) ?_
    refine AllReadyH.cons rfl (fun KK hK' => ?_) AllReadyH.nil
    go_simp
    refine (eqOp_true O7 O9 hn'1 hk'1).mono ?_
    rintro e w15 ⟨rfl, b'⟩
    replace A1 := A1.below b'
    replace A7 := A7.below b'
    replace O7 := O7.below b'
    replace Z := Z.trans (b'.mono Z.size)
    clear b'
    try go_wp2_with fail
    clear hHeld
    refine hK'.out _ _ (two2_mk A1 A7) (fun hHeld => ?_)
    clear hK' KK
    try simp only [List.setIfInBounds_toArray, List.set_cons_zero, List.set_cons_succ]
    refine wpAnyH_ready (rs := [4]) (by kernel_rfl) (by simp) ?_
    refine AllReadyH.cons rfl (fun KK hK' => ?_) AllReadyH.nil
    go_simp
    clear hHeld
    refine hK'.out _ _ (two2_mk A1 A7) (fun hHeld => ?_)
    clear hK' KK
    try simp only [List.setIfInBounds_toArray, List.set_cons_zero, List.set_cons_succ]
    refine wpAnyH_done (by kernel_rfl) ?_ _
    clear hHeld A1 A7 O7 O9
    replace b_A := b_A.below Z
    replace b_B := b_B.below Z
    replace b_w0 := b_w0.below Z
    replace b_x0 := b_x0.below Z
    replace b_x1 := b_x1.below Z
    replace b_g0 := b_g0.below Z
    replace o_w0 := o_w0.below Z
    replace o_x0 := o_x0.below Z
    replace o_x1 := o_x1.below Z
    replace o_g0 := o_g0.below Z
    have zw15 := Z.size
    replace B := B.trans (Z.mono B.size)
    clear Z
    obtain ⟨c00, c01, -⟩ := b_x0.open2
    go_wp2_with fail
    refine (markOp_any o_x0 hn1 hk1 1 (by omega) (by omega)).mono ?_
    rintro e w16 ⟨rfl, o_x0', TT⟩
    clear c00 c01
    replace b_A := b_A.turn TT (by omega)
    replace b_B := b_B.turn TT (by omega)
    replace b_w0 := b_w0.turn TT (by omega)
    replace b_x0 := b_x0.turn TT (by omega)
    replace b_x1 := b_x1.turn TT (by omega)
    replace b_g0 := b_g0.turn TT (by omega)
    replace o_w0 := o_w0.turn TT (by omega)
    replace o_x1 := o_x1.turn TT (by omega)
    replace o_g0 := o_g0.turn TT (by omega)
    clear o_x0
    have o_x0 := o_x0'
    clear o_x0'
    have zw16 := TT.size
    replace B := TT.below B (by omega) (by omega)
    clear TT
    obtain ⟨k0, hk0⟩ : ∃ x : Nat, 1 + n + k = x := ⟨_, rfl⟩
    rw [hk0]
    obtain ⟨c00, c01, -⟩ := b_x1.open2
    go_wp2_with fail
    refine (markOp_any o_x1 hn'1 hk'1 k0 (by omega) (by omega)).mono ?_
    rintro e w17 ⟨rfl, o_x1', TT⟩
    clear c00 c01
    replace b_A := b_A.turn TT (by omega)
    replace b_B := b_B.turn TT (by omega)
    replace b_w0 := b_w0.turn TT (by omega)
    replace b_x0 := b_x0.turn TT (by omega)
    replace b_x1 := b_x1.turn TT (by omega)
    replace b_g0 := b_g0.turn TT (by omega)
    replace o_w0 := o_w0.turn TT (by omega)
    replace o_x0 := o_x0.turn TT (by omega)
    replace o_g0 := o_g0.turn TT (by omega)
    clear o_x1
    have o_x1 := o_x1'
    clear o_x1'
    have zw17 := TT.size
    replace B := TT.below B (by omega) (by omega)
    clear TT
    obtain ⟨k1, hk1⟩ : ∃ x : Nat, k0 + n' + k' = x := ⟨_, rfl⟩
    rw [hk1]
    have hkk : k1 ≤ 2000000 := by omega
    have hkn : ¬ (k1 : Int) < 0 := by omega
    clear hk0 hk1
    obtain ⟨c00, c01, -⟩ := b_g0.open2
    obtain ⟨c10, c11, -⟩ := b_w0.open2
    go_wp2_with fail
    refine (eqOp_true o_g0 o_w0 hN1 hK1).mono ?_
    rintro e w18 ⟨rfl, BB⟩
    clear c00 c01 c10 c11
    replace b_A := b_A.below BB
    replace b_B := b_B.below BB
    replace b_w0 := b_w0.below BB
    replace b_x0 := b_x0.below BB
    replace b_x1 := b_x1.below BB
    replace b_g0 := b_g0.below BB
    replace o_w0 := o_w0.below BB
    replace o_x0 := o_x0.below BB
    replace o_x1 := o_x1.below BB
    replace o_g0 := o_g0.below BB
    have zw18 := BB.size
    replace B := B.trans (BB.mono B.size)
    clear BB
    obtain ⟨c00, c01, -⟩ := b_g0.open2
    go_wp2_with fail
    refine (markOp_any o_g0 hN1 hK1 1 (by omega) (by omega)).mono ?_
    rintro e w19 ⟨rfl, o_g0', TT⟩
    clear c00 c01
    replace b_A := b_A.turn TT (by omega)
    replace b_B := b_B.turn TT (by omega)
    replace b_w0 := b_w0.turn TT (by omega)
    replace b_x0 := b_x0.turn TT (by omega)
    replace b_x1 := b_x1.turn TT (by omega)
    replace b_g0 := b_g0.turn TT (by omega)
    replace o_w0 := o_w0.turn TT (by omega)
    replace o_x0 := o_x0.turn TT (by omega)
    replace o_x1 := o_x1.turn TT (by omega)
    clear o_g0
    have o_g0 := o_g0'
    clear o_g0'
    have zw19 := TT.size
    replace B := TT.below B (by omega) (by omega)
    clear TT
    obtain ⟨M, hM⟩ : ∃ x : Nat, 1 + N + K = x := ⟨_, rfl⟩
    rw [hM]
    have hM0 : ¬ (M : Int) < 0 := by omega
    have HM : Hid (1 + N + K = M) := hM
    clear hM
    obtain ⟨c00, c01, -⟩ := b_g0.open2
    go_wp2_with fail
    refine (heldOp_any 1 o_g0 hN1 hK1 (by omega)).mono ?_
    rintro e w20 ⟨rfl, BB⟩
    clear c00 c01
    replace b_A := b_A.below BB
    replace b_B := b_B.below BB
    replace b_w0 := b_w0.below BB
    replace b_x0 := b_x0.below BB
    replace b_x1 := b_x1.below BB
    replace b_g0 := b_g0.below BB
    replace o_w0 := o_w0.below BB
    replace o_x0 := o_x0.below BB
    replace o_x1 := o_x1.below BB
    replace o_g0 := o_g0.below BB
    have zw20 := BB.size
    replace B := B.trans (BB.mono B.size)
    clear BB
    rw [HM.out]
    go_wp2_with fail
    go_cut [15, 16] from 17 (fun s t wc => RegAt w20 N (mulM f f') K (behV f h h') p s t wc)
    case first =>
      obtain ⟨u0, hu0, A_A, A_B, Z⟩ : ∃ u0, w20.drew = u0 ∧ At 24 u0 w.heap.size #[.slice a n cap, .slice b k cap'] ∧ At 24 u0 W1.heap.size #[.slice a' n' cap2, .slice b' k' cap3] ∧ Below w20.heap.size w20 u0 := ⟨_, rfl, b_A, b_B, (Below.refl _ _).drew⟩
      have zu0 := Z.size
      refine wp_region_held_drew (S := Two2 w.heap.size (.slice a n cap) (.slice b k cap') W1.heap.size (.slice a' n' cap2) (.slice b' k' cap3)) (by kernel_rfl) (by rw [hu0]; exact two2_mk A_A A_B) (fun hHeld => ?_)
      rw [hu0] at hHeld ⊢
      clear hu0
      change wpAnyH _ _ _ _ _ 11 #[false, false, false, false, false, false, false, false, false, false, false] _ _
      refine wpAnyH_take (i := 0) (v := .agg #[.slice a n cap, .slice b k cap']) rfl (by kernel_rfl) (by kernel_rfl) (by kernel_rfl) (fun _ _ _ h => h) (Or.inl ⟨by kernel_rfl, ?_⟩) hHeld ?_
      · intro w' hSw; obtain ⟨z0, z1, -, -⟩ := hSw; go_simp
      try simp only [Act.put, List.setIfInBounds_toArray, List.set_cons_zero]
      refine wpAnyH_take (i := 2) (v := .agg #[.slice a' n' cap2, .slice b' k' cap3]) rfl (by kernel_rfl) (by kernel_rfl) (by kernel_rfl) (fun _ _ _ h => h) (Or.inl ⟨by kernel_rfl, ?_⟩) hHeld ?_
      · intro w' hSw; obtain ⟨-, -, z0, z1⟩ := hSw; go_simp
      try simp only [Act.put, List.setIfInBounds_toArray, List.set_cons_zero, List.set_cons_succ]
      refine wpAnyH_ready (rs := [1, 8]) (by kernel_rfl) (by simp) ?_
      refine AllReadyH.cons rfl (fun KK hK' => ?_) ?_
      · go_simp
        refine (toOp_any (hs.below (B.trans (Z.mono B.size))) (ht.below (B.trans (Z.mono B.size))) hn1 hk1).mono ?_
        rintro e u1 ⟨o, rfl, O_A, b'⟩
        replace A_A := A_A.below b'
        replace A_B := A_B.below b'
        have zu1 := b'.size
        replace Z := Z.trans (b'.mono Z.size)
        clear b'
        obtain ⟨dA, eA, gA, iA, rfl, -, -⟩ := O_A.src
        try go_wp2_with fail
        clear hHeld
        refine hK'.out _ _ (two2_mk A_A A_B) (fun hHeld => ?_)
        clear hK' KK
        try simp only [List.setIfInBounds_toArray, List.set_cons_zero, List.set_cons_succ]
        refine wpAnyH_ready (rs := [3, 8]) (by kernel_rfl) (by simp) ?_
        refine AllReadyH.cons rfl (fun KK hK' => ?_) ?_
        · go_simp
          refine (toOp_any (hs'.below (B.trans (Z.mono B.size))) (ht'.below (B.trans (Z.mono B.size))) hn'1 hk'1).mono ?_
          rintro e u2 ⟨o, rfl, O_B, b'⟩
          replace A_A := A_A.below b'
          replace A_B := A_B.below b'
          replace O_A := O_A.below b'
          have zu2 := b'.size
          replace Z := Z.trans (b'.mono Z.size)
          clear b'
          obtain ⟨dB, eB, gB, iB, rfl, -, -⟩ := O_B.src
          try go_wp2_with fail
          clear hHeld
          refine hK'.out _ _ (two2_mk A_A A_B) (fun hHeld => ?_)
          clear hK' KK
          try simp only [List.setIfInBounds_toArray, List.set_cons_zero, List.set_cons_succ]
          refine wpAnyH_ready (rs := [4, 8]) (by kernel_rfl) (by simp) ?_
          refine AllReadyH.cons rfl (fun KK hK' => ?_) ?_
          · go_simp
            refine (implMul_any _ _ _ _ O_A.srcs.1 O_A.srcs.2 O_B.srcs.1 O_B.srcs.2).mono ?_
            rintro e u3 ⟨o, rfl, O_R, b'⟩
            rw [hp] at O_R ⊢
            unfold Told at O_R
            rw [hN, hK] at O_R
            have zR : w20.heap.size ≤ u2.heap.size := by omega
            replace A_A := A_A.below b'
            replace A_B := A_B.below b'
            replace O_A := O_A.below b'
            replace O_B := O_B.below b'
            have zu3 := b'.size
            replace Z := Z.trans (b'.mono Z.size)
            clear b'
            obtain ⟨dr, er, gr, ir, rfl, -, -⟩ := O_R.src
            try go_wp2_with fail
            clear hHeld
            refine hK'.out _ _ (two2_mk A_A A_B) (fun hHeld => ?_)
            clear hK' KK
            try simp only [List.setIfInBounds_toArray, List.set_cons_zero, List.set_cons_succ]
            refine wpAnyH_take (i := 5) (v := .tuple #[.agg #[.slice dr N er, .slice gr K ir], .bool p]) rfl (by kernel_rfl) (by kernel_rfl) (by kernel_rfl) (fun _ _ _ h => h) (Or.inl ⟨by kernel_rfl, ?_⟩) hHeld ?_
            · intro w' hSw; go_simp
            try simp only [Act.put, List.setIfInBounds_toArray, List.set_cons_zero, List.set_cons_succ]
            refine wpAnyH_take (i := 6) (v := .agg #[.slice dr N er, .slice gr K ir]) rfl (by kernel_rfl) (by kernel_rfl) (by kernel_rfl) (fun _ _ _ h => h) (Or.inl ⟨by kernel_rfl, ?_⟩) hHeld ?_
            · intro w' hSw; go_simp
            try simp only [Act.put, List.setIfInBounds_toArray, List.set_cons_zero, List.set_cons_succ]
            refine wpAnyH_take (i := 7) (v := .bool p) rfl (by kernel_rfl) (by kernel_rfl) (by kernel_rfl) (fun _ _ _ h => h) (Or.inl ⟨by kernel_rfl, ?_⟩) hHeld ?_
            · intro w' hSw; go_simp
            try simp only [Act.put, List.setIfInBounds_toArray, List.set_cons_zero, List.set_cons_succ]
            refine wpAnyH_ready (rs := [8]) (by kernel_rfl) (by simp) ?_
            refine AllReadyH.cons rfl (fun KK hK' => ?_) AllReadyH.nil
            go_simp
            obtain ⟨u4, h6, A5', b', z6⟩ := boxed u3 26 #[.slice none 0 0, .slice none 0 0]
            rw [h6]
            clear h6
            replace A_A := A_A.below b'
            replace A_B := A_B.below b'
            replace O_A := O_A.below b'
            replace O_B := O_B.below b'
            replace O_R := O_R.below b'
            have zu4 := b'.size
            replace Z := Z.trans (b'.mono Z.size)
            clear b'
            obtain ⟨q, hq⟩ : ∃ q, u3.heap.size = q := ⟨_, rfl⟩
            have q1 : w20.heap.size ≤ q ∧ q < u4.heap.size := by omega
            rw [hq] at A5'
            try rw [hq]
            have A5 := A5'
            clear A5' z6
            clear hHeld
            refine hK'.out _ _ (two2_mk A_A A_B) (fun hHeld => ?_)
            clear hK' KK
            try simp only [List.setIfInBounds_toArray, List.set_cons_zero, List.set_cons_succ]
            refine wpAnyH_ready (rs := [9]) (by kernel_rfl) (by simp) ?_
            refine AllReadyH.cons rfl (fun KK hK' => ?_) AllReadyH.nil
            obtain ⟨x0, x1, y0, y1⟩ := A5.open2
            go_simp
            clear x0 x1 y0 y1 hHeld
            replace A_A := (A_A.setOther (p := q) (i := 0) (by omega) (.slice dr N er)).setOther (p := q) (i := 1) (by omega) (.slice gr K ir)
            replace A_B := (A_B.setOther (p := q) (i := 0) (by omega) (.slice dr N er)).setOther (p := q) (i := 1) (by omega) (.slice gr K ir)
            refine hK'.out _ _ (two2_mk A_A A_B) (fun hHeld => ?_)
            clear hK' KK
            try simp only [List.setIfInBounds_toArray, List.set_cons_zero, List.set_cons_succ]
            refine wpAnyH_ready (rs := [10]) (by kernel_rfl) (by simp) ?_
            refine AllReadyH.cons rfl (fun KK hK' => ?_) AllReadyH.nil
            go_simp
            clear hHeld
            refine hK'.out _ _ (two2_mk A_A A_B) (fun hHeld => ?_)
            clear hK' KK hHeld
            try simp only [List.setIfInBounds_toArray, List.set_cons_zero, List.set_cons_succ]
            refine wpAnyH_done (by kernel_rfl) ?_ _
            go_wp2_with fail
            go_meet
            case rel => exact regAt_mk (by omega) A5 O_R Z
          refine AllReadyH.cons rfl (fun KK hK' => ?_) AllReadyH.nil
          go_simp
          obtain ⟨u3, h6, A5', b', z6⟩ := boxed u2 26 #[.slice none 0 0, .slice none 0 0]
          rw [h6]
          clear h6
          replace A_A := A_A.below b'
          replace A_B := A_B.below b'
          replace O_A := O_A.below b'
          replace O_B := O_B.below b'
          have zu3 := b'.size
          replace Z := Z.trans (b'.mono Z.size)
          clear b'
          obtain ⟨q, hq⟩ : ∃ q, u2.heap.size = q := ⟨_, rfl⟩
          have q1 : w20.heap.size ≤ q ∧ q < u3.heap.size := by omega
          rw [hq] at A5'
          try rw [hq]
          have A5 := A5'
          clear A5' z6
          clear hHeld
          refine hK'.out _ _ (two2_mk A_A A_B) (fun hHeld => ?_)
          clear hK' KK
          try simp only [List.setIfInBounds_toArray, List.set_cons_zero, List.set_cons_succ]
          refine wpAnyH_ready (rs := [4]) (by kernel_rfl) (by simp) ?_
          refine AllReadyH.cons rfl (fun KK hK' => ?_) AllReadyH.nil
          go_simp
          refine (implMul_any _ _ _ _ O_A.srcs.1 O_A.srcs.2 O_B.srcs.1 O_B.srcs.2).mono ?_
          rintro e u4 ⟨o, rfl, O_R, b'⟩
          rw [hp] at O_R ⊢
          unfold Told at O_R
          rw [hN, hK] at O_R
          have zR : w20.heap.size ≤ u3.heap.size := by omega
          replace A_A := A_A.below b'
          replace A_B := A_B.below b'
          replace O_A := O_A.below b'
          replace O_B := O_B.below b'
          replace A5 := A5.below b'
          have zu4 := b'.size
          replace Z := Z.trans (b'.mono Z.size)
          clear b'
          obtain ⟨dr, er, gr, ir, rfl, -, -⟩ := O_R.src
          try go_wp2_with fail
          clear hHeld
          refine hK'.out _ _ (two2_mk A_A A_B) (fun hHeld => ?_)
          clear hK' KK
          try simp only [List.setIfInBounds_toArray, List.set_cons_zero, List.set_cons_succ]
          refine wpAnyH_take (i := 5) (v := .tuple #[.agg #[.slice dr N er, .slice gr K ir], .bool p]) rfl (by kernel_rfl) (by kernel_rfl) (by kernel_rfl) (fun _ _ _ h => h) (Or.inl ⟨by kernel_rfl, ?_⟩) hHeld ?_
          · intro w' hSw; go_simp
          try simp only [Act.put, List.setIfInBounds_toArray, List.set_cons_zero, List.set_cons_succ]
          refine wpAnyH_take (i := 6) (v := .agg #[.slice dr N er, .slice gr K ir]) rfl (by kernel_rfl) (by kernel_rfl) (by kernel_rfl) (fun _ _ _ h => h) (Or.inl ⟨by kernel_rfl, ?_⟩) hHeld ?_
          · intro w' hSw; go_simp
          try simp only [Act.put, List.setIfInBounds_toArray, List.set_cons_zero, List.set_cons_succ]
          refine wpAnyH_take (i := 7) (v := .bool p) rfl (by kernel_rfl) (by kernel_rfl) (by kernel_rfl) (fun _ _ _ h => h) (Or.inl ⟨by kernel_rfl, ?_⟩) hHeld ?_
          · intro w' hSw; go_simp
          try simp only [Act.put, List.setIfInBounds_toArray, List.set_cons_zero, List.set_cons_succ]
          refine wpAnyH_ready (rs := [9]) (by kernel_rfl) (by simp) ?_
          refine AllReadyH.cons rfl (fun KK hK' => ?_) AllReadyH.nil
          obtain ⟨x0, x1, y0, y1⟩ := A5.open2
          go_simp
          clear x0 x1 y0 y1 hHeld
          replace A_A := (A_A.setOther (p := q) (i := 0) (by omega) (.slice dr N er)).setOther (p := q) (i := 1) (by omega) (.slice gr K ir)
          replace A_B := (A_B.setOther (p := q) (i := 0) (by omega) (.slice dr N er)).setOther (p := q) (i := 1) (by omega) (.slice gr K ir)
          refine hK'.out _ _ (two2_mk A_A A_B) (fun hHeld => ?_)
          clear hK' KK
          try simp only [List.setIfInBounds_toArray, List.set_cons_zero, List.set_cons_succ]
          refine wpAnyH_ready (rs := [10]) (by kernel_rfl) (by simp) ?_
          refine AllReadyH.cons rfl (fun KK hK' => ?_) AllReadyH.nil
          go_simp
          clear hHeld
          refine hK'.out _ _ (two2_mk A_A A_B) (fun hHeld => ?_)
          clear hK' KK hHeld
          try simp only [List.setIfInBounds_toArray, List.set_cons_zero, List.set_cons_succ]
          refine wpAnyH_done (by kernel_rfl) ?_ _
          go_wp2_with fail
          go_meet
          case rel => exact regAt_mk (by omega) A5 O_R Z
        refine AllReadyH.cons rfl (fun KK hK' => ?_) AllReadyH.nil
        go_simp
        obtain ⟨u2, h6, A5', b', z6⟩ := boxed u1 26 #[.slice none 0 0, .slice none 0 0]
        rw [h6]
        clear h6
        replace A_A := A_A.below b'
        replace A_B := A_B.below b'
        replace O_A := O_A.below b'
        have zu2 := b'.size
        replace Z := Z.trans (b'.mono Z.size)
        clear b'
        obtain ⟨q, hq⟩ : ∃ q, u1.heap.size = q := ⟨_, rfl⟩
        have q1 : w20.heap.size ≤ q ∧ q < u2.heap.size := by omega
        rw [hq] at A5'
        try rw [hq]
        have A5 := A5'
        clear A5' z6
        clear hHeld
        refine hK'.out _ _ (two2_mk A_A A_B) (fun hHeld => ?_)
        clear hK' KK
        try simp only [List.setIfInBounds_toArray, List.set_cons_zero, List.set_cons_succ]
        refine wpAnyH_ready (rs := [3]) (by kernel_rfl) (by simp) ?_
        refine AllReadyH.cons rfl (fun KK hK' => ?_) AllReadyH.nil
        go_simp
        refine (toOp_any (hs'.below (B.trans (Z.mono B.size))) (ht'.below (B.trans (Z.mono B.size))) hn'1 hk'1).mono ?_
        rintro e u3 ⟨o, rfl, O_B, b'⟩
        replace A_A := A_A.below b'
        replace A_B := A_B.below b'
        replace O_A := O_A.below b'
        replace A5 := A5.below b'
        have zu3 := b'.size
        replace Z := Z.trans (b'.mono Z.size)
        clear b'
        obtain ⟨dB, eB, gB, iB, rfl, -, -⟩ := O_B.src
        try go_wp2_with fail
        clear hHeld
        refine hK'.out _ _ (two2_mk A_A A_B) (fun hHeld => ?_)
        clear hK' KK
        try simp only [List.setIfInBounds_toArray, List.set_cons_zero, List.set_cons_succ]
        refine wpAnyH_ready (rs := [4]) (by kernel_rfl) (by simp) ?_
        refine AllReadyH.cons rfl (fun KK hK' => ?_) AllReadyH.nil
        go_simp
        refine (implMul_any _ _ _ _ O_A.srcs.1 O_A.srcs.2 O_B.srcs.1 O_B.srcs.2).mono ?_
        rintro e u4 ⟨o, rfl, O_R, b'⟩
        rw [hp] at O_R ⊢
        unfold Told at O_R
        rw [hN, hK] at O_R
        have zR : w20.heap.size ≤ u3.heap.size := by omega
        replace A_A := A_A.below b'
        replace A_B := A_B.below b'
        replace O_A := O_A.below b'
        replace O_B := O_B.below b'
        replace A5 := A5.below b'
        have zu4 := b'.size
        replace Z := Z.trans (b'.mono Z.size)
        clear b'
        obtain ⟨dr, er, gr, ir, rfl, -, -⟩ := O_R.src
        try go_wp2_with fail
        clear hHeld
        refine hK'.out _ _ (two2_mk A_A A_B) (fun hHeld => ?_)
        clear hK' KK
        try simp only [List.setIfInBounds_toArray, List.set_cons_zero, List.set_cons_succ]
        refine wpAnyH_take (i := 5) (v := .tuple #[.agg #[.slice dr N er, .slice gr K ir], .bool p]) rfl (by kernel_rfl) (by kernel_rfl) (by kernel_rfl) (fun _ _ _ h => h) (Or.inl ⟨by kernel_rfl, ?_⟩) hHeld ?_
        · intro w' hSw; go_simp
        try simp only [Act.put, List.setIfInBounds_toArray, List.set_cons_zero, List.set_cons_succ]
        refine wpAnyH_take (i := 6) (v := .agg #[.slice dr N er, .slice gr K ir]) rfl (by kernel_rfl) (by kernel_rfl) (by kernel_rfl) (fun _ _ _ h => h) (Or.inl ⟨by kernel_rfl, ?_⟩) hHeld ?_
        · intro w' hSw; go_simp
        try simp only [Act.put, List.setIfInBounds_toArray, List.set_cons_zero, List.set_cons_succ]
        refine wpAnyH_take (i := 7) (v := .bool p) rfl (by kernel_rfl) (by kernel_rfl) (by kernel_rfl) (fun _ _ _ h => h) (Or.inl ⟨by kernel_rfl, ?_⟩) hHeld ?_
        · intro w' hSw; go_simp
        try simp only [Act.put, List.setIfInBounds_toArray, List.set_cons_zero, List.set_cons_succ]
        refine wpAnyH_ready (rs := [9]) (by kernel_rfl) (by simp) ?_
        refine AllReadyH.cons rfl (fun KK hK' => ?_) AllReadyH.nil
        obtain ⟨x0, x1, y0, y1⟩ := A5.open2
        go_simp
        clear x0 x1 y0 y1 hHeld
        replace A_A := (A_A.setOther (p := q) (i := 0) (by omega) (.slice dr N er)).setOther (p := q) (i := 1) (by omega) (.slice gr K ir)
        replace A_B := (A_B.setOther (p := q) (i := 0) (by omega) (.slice dr N er)).setOther (p := q) (i := 1) (by omega) (.slice gr K ir)
        refine hK'.out _ _ (two2_mk A_A A_B) (fun hHeld => ?_)
        clear hK' KK
        try simp only [List.setIfInBounds_toArray, List.set_cons_zero, List.set_cons_succ]
        refine wpAnyH_ready (rs := [10]) (by kernel_rfl) (by simp) ?_
        refine AllReadyH.cons rfl (fun KK hK' => ?_) AllReadyH.nil
        go_simp
        clear hHeld
        refine hK'.out _ _ (two2_mk A_A A_B) (fun hHeld => ?_)
        clear hK' KK hHeld
        try simp only [List.setIfInBounds_toArray, List.set_cons_zero, List.set_cons_succ]
        refine wpAnyH_done (by kernel_rfl) ?_ _
        go_wp2_with fail
        go_meet
        case rel => exact regAt_mk (by omega) A5 O_R Z
      refine AllReadyH.cons rfl (fun KK hK' => ?_) AllReadyH.nil
      go_simp
      obtain ⟨u1, h6, A5', b', z6⟩ := boxed u0 26 #[.slice none 0 0, .slice none 0 0]
      rw [h6]
      clear h6
      replace A_A := A_A.below b'
      replace A_B := A_B.below b'
      have zu1 := b'.size
      replace Z := Z.trans (b'.mono Z.size)
      clear b'
      obtain ⟨q, hq⟩ : ∃ q, u0.heap.size = q := ⟨_, rfl⟩
      have q1 : w20.heap.size ≤ q ∧ q < u1.heap.size := by omega
      rw [hq] at A5'
      try rw [hq]
      have A5 := A5'
      clear A5' z6
      clear hHeld
      refine hK'.out _ _ (two2_mk A_A A_B) (fun hHeld => ?_)
      clear hK' KK
      try simp only [List.setIfInBounds_toArray, List.set_cons_zero, List.set_cons_succ]
      refine wpAnyH_ready (rs := [1]) (by kernel_rfl) (by simp) ?_
      refine AllReadyH.cons rfl (fun KK hK' => ?_) AllReadyH.nil
      go_simp
      refine (toOp_any (hs.below (B.trans (Z.mono B.size))) (ht.below (B.trans (Z.mono B.size))) hn1 hk1).mono ?_
      rintro e u2 ⟨o, rfl, O_A, b'⟩
      replace A_A := A_A.below b'
      replace A_B := A_B.below b'
      replace A5 := A5.below b'
      have zu2 := b'.size
      replace Z := Z.trans (b'.mono Z.size)
      clear b'
      obtain ⟨dA, eA, gA, iA, rfl, -, -⟩ := O_A.src
      try go_wp2_with fail
      clear hHeld
      refine hK'.out _ _ (two2_mk A_A A_B) (fun hHeld => ?_)
      clear hK' KK
      try simp only [List.setIfInBounds_toArray, List.set_cons_zero, List.set_cons_succ]
      refine wpAnyH_ready (rs := [3]) (by kernel_rfl) (by simp) ?_
      refine AllReadyH.cons rfl (fun KK hK' => ?_) AllReadyH.nil
      go_simp
      refine (toOp_any (hs'.below (B.trans (Z.mono B.size))) (ht'.below (B.trans (Z.mono B.size))) hn'1 hk'1).mono ?_
      rintro e u3 ⟨o, rfl, O_B, b'⟩
      replace A_A := A_A.below b'
      replace A_B := A_B.below b'
      replace O_A := O_A.below b'
      replace A5 := A5.below b'
      have zu3 := b'.size
      replace Z := Z.trans (b'.mono Z.size)
      clear b'
      obtain ⟨dB, eB, gB, iB, rfl, -, -⟩ := O_B.src
      try go_wp2_with fail
      clear hHeld
      refine hK'.out _ _ (two2_mk A_A A_B) (fun hHeld => ?_)
      clear hK' KK
      try simp only [List.setIfInBounds_toArray, List.set_cons_zero, List.set_cons_succ]
      refine wpAnyH_ready (rs := [4]) (by kernel_rfl) (by simp) ?_
      refine AllReadyH.cons rfl (fun KK hK' => ?_) AllReadyH.nil
      go_simp
      refine (implMul_any _ _ _ _ O_A.srcs.1 O_A.srcs.2 O_B.srcs.1 O_B.srcs.2).mono ?_
      rintro e u4 ⟨o, rfl, O_R, b'⟩
      rw [hp] at O_R ⊢
      unfold Told at O_R
      rw [hN, hK] at O_R
      have zR : w20.heap.size ≤ u3.heap.size := by omega
      replace A_A := A_A.below b'
      replace A_B := A_B.below b'
      replace O_A := O_A.below b'
      replace O_B := O_B.below b'
      replace A5 := A5.below b'
      have zu4 := b'.size
      replace Z := Z.trans (b'.mono Z.size)
      clear b'
      obtain ⟨dr, er, gr, ir, rfl, -, -⟩ := O_R.src
      try go_wp2_with fail
      clear hHeld
      refine hK'.out _ _ (two2_mk A_A A_B) (fun hHeld => ?_)
      clear hK' KK
      try simp only [List.setIfInBounds_toArray, List.set_cons_zero, List.set_cons_succ]
      refine wpAnyH_take (i := 5) (v := .tuple #[.agg #[.slice dr N er, .slice gr K ir], .bool p]) rfl (by kernel_rfl) (by kernel_rfl) (by kernel_rfl) (fun _ _ _ h => h) (Or.inl ⟨by kernel_rfl, ?_⟩) hHeld ?_
      · intro w' hSw; go_simp
      try simp only [Act.put, List.setIfInBounds_toArray, List.set_cons_zero, List.set_cons_succ]
      refine wpAnyH_take (i := 6) (v := .agg #[.slice dr N er, .slice gr K ir]) rfl (by kernel_rfl) (by kernel_rfl) (by kernel_rfl) (fun _ _ _ h => h) (Or.inl ⟨by kernel_rfl, ?_⟩) hHeld ?_
      · intro w' hSw; go_simp
      try simp only [Act.put, List.setIfInBounds_toArray, List.set_cons_zero, List.set_cons_succ]
      refine wpAnyH_take (i := 7) (v := .bool p) rfl (by kernel_rfl) (by kernel_rfl) (by kernel_rfl) (fun _ _ _ h => h) (Or.inl ⟨by kernel_rfl, ?_⟩) hHeld ?_
      · intro w' hSw; go_simp
      try simp only [Act.put, List.setIfInBounds_toArray, List.set_cons_zero, List.set_cons_succ]
      refine wpAnyH_ready (rs := [9]) (by kernel_rfl) (by simp) ?_
      refine AllReadyH.cons rfl (fun KK hK' => ?_) AllReadyH.nil
      obtain ⟨x0, x1, y0, y1⟩ := A5.open2
      go_simp
      clear x0 x1 y0 y1 hHeld
      replace A_A := (A_A.setOther (p := q) (i := 0) (by omega) (.slice dr N er)).setOther (p := q) (i := 1) (by omega) (.slice gr K ir)
      replace A_B := (A_B.setOther (p := q) (i := 0) (by omega) (.slice dr N er)).setOther (p := q) (i := 1) (by omega) (.slice gr K ir)
      refine hK'.out _ _ (two2_mk A_A A_B) (fun hHeld => ?_)
      clear hK' KK
      try simp only [List.setIfInBounds_toArray, List.set_cons_zero, List.set_cons_succ]
      refine wpAnyH_ready (rs := [10]) (by kernel_rfl) (by simp) ?_
      refine AllReadyH.cons rfl (fun KK hK' => ?_) AllReadyH.nil
      go_simp
      clear hHeld
      refine hK'.out _ _ (two2_mk A_A A_B) (fun hHeld => ?_)
      clear hK' KK hHeld
      try simp only [List.setIfInBounds_toArray, List.set_cons_zero, List.set_cons_succ]
      refine wpAnyH_done (by kernel_rfl) ?_ _
      go_wp2_with fail
      go_meet
      case rel => exact regAt_mk (by omega) A5 O_R Z
    case rest =>
      rename World => wh0
      obtain ⟨qh0, loh0, hih0, dh0, eh0, gh0, ih0, rfl, rfl, zqh0, b_h0, o_h0, BB⟩ := hcut
      replace b_A := b_A.below BB
      replace b_B := b_B.below BB
      replace b_w0 := b_w0.below BB
      replace b_x0 := b_x0.below BB
      replace b_x1 := b_x1.below BB
      replace b_g0 := b_g0.below BB
      replace o_w0 := o_w0.below BB
      replace o_x0 := o_x0.below BB
      replace o_x1 := o_x1.below BB
      replace o_g0 := o_g0.below BB
      have zwh0 := BB.size
      replace B := B.trans (BB.mono B.size)
      clear BB
      have q_h0 := b_h0.lt
      obtain ⟨c00, c01, -⟩ := b_h0.open2
      obtain ⟨c10, c11, -⟩ := b_w0.open2
      go_wp2_with fail
      refine (eqOp_true o_h0 o_w0 hN1 hK1).mono ?_
      rintro e w21 ⟨rfl, BB⟩
      clear c00 c01 c10 c11
      replace b_A := b_A.below BB
      replace b_B := b_B.below BB
      replace b_w0 := b_w0.below BB
      replace b_x0 := b_x0.below BB
      replace b_x1 := b_x1.below BB
      replace b_g0 := b_g0.below BB
      replace b_h0 := b_h0.below BB
      replace o_w0 := o_w0.below BB
      replace o_x0 := o_x0.below BB
      replace o_x1 := o_x1.below BB
      replace o_g0 := o_g0.below BB
      replace o_h0 := o_h0.below BB
      have zw21 := BB.size
      replace B := B.trans (BB.mono B.size)
      clear BB
      obtain ⟨c00, c01, -⟩ := b_g0.open2
      go_wp2_with fail
      refine (heldOp_any 1 o_g0 hN1 hK1 (by omega)).mono ?_
      rintro e w22 ⟨rfl, BB⟩
      clear c00 c01
      replace b_A := b_A.below BB
      replace b_B := b_B.below BB
      replace b_w0 := b_w0.below BB
      replace b_x0 := b_x0.below BB
      replace b_x1 := b_x1.below BB
      replace b_g0 := b_g0.below BB
      replace b_h0 := b_h0.below BB
      replace o_w0 := o_w0.below BB
      replace o_x0 := o_x0.below BB
      replace o_x1 := o_x1.below BB
      replace o_g0 := o_g0.below BB
      replace o_h0 := o_h0.below BB
      have zw22 := BB.size
      replace B := B.trans (BB.mono B.size)
      clear BB
      rw [HM.out]
      go_wp2
      go_ret
      exact ⟨rfl, B⟩
theorem opMul_of {w : World} {a b a' b' : Option Addr} {n k cap cap' n' k' cap2 cap3 : Nat} {zs ys zs' ys' : List Int} (h1 : IsRow .i64 w a n cap zs) (h2 : IsRow .i64 w b k cap' ys) (h3 : IsRow .i64 w a' n' cap2 zs') (h4 : IsRow .i64 w b' k' cap3 ys') :
    Calls Try.prog 3 #[.agg #[.slice a n cap, .slice b k cap'], .agg #[.slice a' n' cap2, .slice b' k' cap3]] w fun e w' => e = .returned (.bool true) ∧ Below w.heap.size w w' := by
  obtain ⟨f, hs, hn, -⟩ := src_of h1
  obtain ⟨h, ht, hk, -⟩ := src_of h2
  obtain ⟨f', hs', hn', -⟩ := src_of h3
  obtain ⟨h', ht', hk', -⟩ := src_of h4
  exact exactOpMul_walk hs ht hs' ht' hn hk hn' hk'
end Go.Proofs.Ytglkddhifpnniaa
