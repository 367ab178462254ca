/-
  Nets: sized, taken over, compared, marked and held, walked.
-/
import Derived.Test.YthpmfjhhaolklaaNa
namespace Go.Proofs.Ythpmfjhhaolklaa
open Go.RowKit

theorem szNet_any (W H : Int) (a a' : Option Addr) (lr lu cr cu : Nat) (w : World) (hlr : lr ≤ maxLen) (hlu : lu ≤ maxLen) :
    Calls Try.prog 9 #[nV W H (.slice a lr cr) (.slice a' lu cu), .int .i64 1048576] w fun e w' => ∃ r : Int, e = .returned (.int .i64 r) ∧ (r = -1 ∨ (r = 1048576 - lr - lu ∧ 0 ≤ r)) ∧ Below w.heap.size w w' := by
  obtain ⟨W1, hW1, a1, bW1, z1⟩ := boxed w 24 #[.int .i64 W, .int .i64 H, .slice a lr cr, .slice a' lu cu]
  obtain ⟨c0, c1, c2, c3, -⟩ := a1.open4
  by_cases h1 : (1048576 : Int) < lr
  · have r1 : (if (1048576 : Int) < (lr : Int) then -1 else (1048576 : Int) - lr) = -1 := if_pos h1
    go_enter Try.func9, Try.ntmps9
    go_wp2_with (go_at_call 32; refine (szI_any _ _ _ _ _ (by assumption) (by omega)).mono ?_; rintro e w2 ⟨rfl, rfl⟩; rw [r1])
    go_ret
    exact ⟨_, rfl, .inl rfl, bW1⟩
  · obtain ⟨L, hL⟩ : ∃ L, 1048576 - (lr : Int) = L := ⟨_, rfl⟩
    have hL1 : 0 ≤ L ∧ L ≤ 1048576 := by omega
    have r1 : (if (1048576 : Int) < (lr : Int) then -1 else (1048576 : Int) - lr) = L := (if_neg h1).trans hL
    by_cases h2 : L < lu
    · have r2 : (if L < (lu : Int) then -1 else L - lu) = -1 := if_pos h2
      go_enter Try.func9, Try.ntmps9
      go_wp2_with (go_at_call 32; refine (szI_any _ _ _ _ _ (by assumption) (by omega)).mono ?_; rintro e w2 ⟨rfl, rfl⟩; first | rw [r1] | rw [r2])
      go_ret
      exact ⟨_, rfl, .inl rfl, bW1⟩
    · obtain ⟨M, hM⟩ : ∃ M, L - (lu : Int) = M := ⟨_, rfl⟩
      have hM1 : 0 ≤ M ∧ M ≤ 1048576 := by omega
      have r2 : (if L < (lu : Int) then -1 else L - lu) = M := (if_neg h2).trans hM
      go_enter Try.func9, Try.ntmps9
      go_wp2_with (go_at_call 32; refine (szI_any _ _ _ _ _ (by assumption) (by omega)).mono ?_; rintro e w2 ⟨rfl, rfl⟩; first | rw [r1] | rw [r2])
      go_ret
      exact ⟨_, rfl, .inr ⟨by omega, hM1.1⟩, bW1⟩
/-- A net of its own memory. -/
def NetAt (w : World) (lo hi : Nat) (m : Value) (W H : Int) (lr : Nat) (r : Nat → Int) (lu : Nat) (u : Nat → Int) : Prop := ∃ v v', m = nV W H v v' ∧ Arr w lo hi v lr r ∧ Arr w lo hi v' lu u ∧ Apart v v'
theorem NetAt.below {w w' : World} {lo hi : Nat} {m : Value} {W H : Int} {lr lu : Nat} {r u : Nat → Int} (h : NetAt w lo hi m W H lr r lu u) (hb : Below w.heap.size w w') : NetAt w' lo hi m W H lr r lu u := by
  obtain ⟨v, v', e, h1, h2, h3⟩ := h
  exact ⟨v, v', e, h1.below hb, h2.below hb, h3⟩
theorem NetAt.wide {w : World} {lo hi lo' hi' : Nat} {m : Value} {W H : Int} {lr lu : Nat} {r u : Nat → Int} (h : NetAt w lo hi m W H lr r lu u) (h1 : lo' ≤ lo) (h2 : hi ≤ hi') : NetAt w lo' hi' m W H lr r lu u := by
  obtain ⟨v, v', e, h3, h4, h5⟩ := h
  exact ⟨v, v', e, h3.wide h1 h2, h4.wide h1 h2, h5⟩
theorem NetAt.turn {w w' : World} {lo hi a b : Nat} {m : Value} {W H : Int} {lr lu : Nat} {r u : Nat → Int} (h : NetAt w a b m W H lr r lu u) (ht : Turn lo hi w w') (hd : b ≤ lo ∨ hi ≤ a) : NetAt w' a b m W H lr r lu u := by
  obtain ⟨v, v', e, h3, h4, h5⟩ := h
  exact ⟨v, v', e, h3.turn ht hd, h4.turn ht hd, h5⟩
theorem toNet_any {w : World} {a a' : Option Addr} {lr lu cr cu : Nat} {r u : Nat → Int} (W H : Int) (hr : Src w a lr r) (hu : Src w a' lu u) (hlr : lr ≤ 1048576) (hlu : lu ≤ 1048576) :
    Calls Try.prog 11 #[nV W H (.slice a lr cr) (.slice a' lu cu)] w fun e w' => ∃ m, e = .returned m ∧ NetAt w' w.heap.size w'.heap.size m W H lr r lu u ∧ Below w.heap.size w w' := by
  obtain ⟨W1, hW1, a1, bW1, -⟩ := boxed w 24 #[.int .i64 W, .int .i64 H, .slice a lr cr, .slice a' lu cu]
  obtain ⟨W2, hW2, a2, bW2, -⟩ := boxed W1 27 #[.int .i64 0, .int .i64 0, .slice none 0 0, .slice none 0 0]
  obtain ⟨W3, hW3, a3, bW3, -⟩ := boxed W2 27 #[.int .i64 0, .int .i64 0, .slice none 0 0, .slice none 0 0]
  have s2 := a2.lt
  have s1 := a1.lt
  have s3 := a3.lt
  replace a1 := (a1.below bW2).below bW3
  replace a2 := a2.below bW3
  replace bW1 := (bW1.trans (bW2.mono bW1.size)).trans (bW3.mono (by omega))
  obtain ⟨c0, c1, c2, c3, -⟩ := a1.open4
  obtain ⟨d0, d1, d2, d3, e0, e1, e2, e3⟩ := a3.open4
  go_enter Try.func11, Try.ntmps11
  go_wp2_with fail
  obtain ⟨V, hV, v1, v2, v3, bV, sV⟩ : ∃ V, (W3.setCell ⟨W2.heap.size, 0, none⟩ (.int .i64 W)).setCell ⟨W2.heap.size, 1, none⟩ (.int .i64 H) = V ∧ At 24 V w.heap.size #[.int .i64 W, .int .i64 H, .slice a lr cr, .slice a' lu cu] ∧ At 27 V W1.heap.size #[.int .i64 0, .int .i64 0, .slice none 0 0, .slice none 0 0] ∧ At 27 V W2.heap.size #[.int .i64 W, .int .i64 H, .slice none 0 0, .slice none 0 0] ∧ Below w.heap.size w V ∧ W3.heap.size ≤ V.heap.size := by
    refine ⟨_, rfl, (a1.setOther (by omega) _).setOther (by omega) _, (a2.setOther (by omega) _).setOther (by omega) _, by simpa using (a3.set 0 (.int .i64 W)).set 1 (.int .i64 H), (bW1.setCell (show w.heap.size ≤ W2.heap.size by omega) _).setCell (show w.heap.size ≤ W2.heap.size by omega) _, by simp [World.setCell]⟩
  rw [hV]
  clear c0 c1 c2 c3 d0 d1 d2 d3 e0 e1 e2 e3 a1 a2 a3 hV hW1 hW2 hW3 bW2 bW3
  refine (toInts_any (hr.below bV) hlr).mono ?_
  rintro e w1 ⟨g1, rfl, hg1, o1, b1⟩
  replace v1 := v1.below b1
  replace v2 := v2.below b1
  replace v3 := v3.below b1
  replace bV := bV.trans (b1.mono bV.size)
  have s4 := b1.size
  have s5 := o1.lt
  clear b1
  obtain ⟨d0, d1, d2, d3, e0, e1, e2, e3⟩ := v3.open4
  obtain ⟨c0, c1, c2, c3, -⟩ := v1.open4
  go_wp2_with fail
  obtain ⟨W4, hW4, a34, a24, a14, o14, bW4, s6⟩ : ∃ W4, w1.setCell ⟨W2.heap.size, 2, none⟩ (.slice (some ⟨g1, 0, none⟩) lr lr) = W4 ∧ At 27 W4 W2.heap.size #[.int .i64 W, .int .i64 H, .slice (some ⟨g1, 0, none⟩) lr lr, .slice none 0 0] ∧ At 27 W4 W1.heap.size #[.int .i64 0, .int .i64 0, .slice none 0 0, .slice none 0 0] ∧ At 24 W4 w.heap.size #[.int .i64 W, .int .i64 H, .slice a lr cr, .slice a' lu cu] ∧ Own W4 g1 lr r ∧ Below w.heap.size w W4 ∧ w1.heap.size ≤ W4.heap.size := by
    refine ⟨_, rfl, by simpa using v3.set 2 (.slice (some ⟨g1, 0, none⟩) lr lr), v2.setOther (by omega) _, v1.setOther (by omega) _, Made.setOther o1 (by omega) _, bV.setCell (show w.heap.size ≤ W2.heap.size by omega) _, by simp [World.setCell]⟩
  rw [hW4]
  clear c0 c1 c2 c3 d0 d1 d2 d3 e0 e1 e2 e3 v1 v2 v3 hW4 bV o1
  refine (toInts_any (hu.below bW4) hlu).mono ?_
  rintro e w5 ⟨g2, rfl, hg2, o2, b5⟩
  replace a34 := a34.below b5
  replace a24 := a24.below b5
  replace o14 := o14.below b5
  replace bW4 := bW4.trans (b5.mono bW4.size)
  have s7 := b5.size
  have s8 := o2.lt
  clear b5 a14
  obtain ⟨d0, d1, d2, d3, e0, e1, e2, e3⟩ := a34.open4
  obtain ⟨W6, hW6, a36, a26, o16, o26, bW6⟩ : ∃ W6, w5.setCell ⟨W2.heap.size, 3, none⟩ (.slice (some ⟨g2, 0, none⟩) lu lu) = W6 ∧ At 27 W6 W2.heap.size #[.int .i64 W, .int .i64 H, .slice (some ⟨g1, 0, none⟩) lr lr, .slice (some ⟨g2, 0, none⟩) lu lu] ∧ At 27 W6 W1.heap.size #[.int .i64 0, .int .i64 0, .slice none 0 0, .slice none 0 0] ∧ Own W6 g1 lr r ∧ Own W6 g2 lu u ∧ Below w.heap.size w W6 := by
    refine ⟨_, rfl, by simpa using a34.set 3 (.slice (some ⟨g2, 0, none⟩) lu lu), a24.setOther (by omega) _, Made.setOther o14 (by omega) _, Made.setOther o2 (by omega) _, bW4.setCell (show w.heap.size ≤ W2.heap.size by omega) _⟩
  clear d0 d1 d2
  obtain ⟨c0, c1, c2, c3, -⟩ := a36.open4
  obtain ⟨f0, f1, f2, f3, r0, r1, r2, r3⟩ := a26.open4
  go_wp2
  have a7 := put4_at a26 (.int .i64 W) (.int .i64 H) (.slice (some ⟨g1, 0, none⟩) lr lr) (.slice (some ⟨g2, 0, none⟩) lu lu)
  obtain ⟨p0, p1, p2, p3, -⟩ := a7.open4
  refine bodyPost_ret (v := nV W H (.slice (some ⟨g1, 0, none⟩) lr lr) (.slice (some ⟨g2, 0, none⟩) lu lu)) (by simp [results, Try.results11, go_sem, p0, p1, p2, p3]) rfl ?_
  have q1 : Own ((((W6.setCell ⟨W1.heap.size, 0, none⟩ (.int .i64 W)).setCell ⟨W1.heap.size, 1, none⟩ (.int .i64 H)).setCell ⟨W1.heap.size, 2, none⟩ (.slice (some ⟨g1, 0, none⟩) lr lr)).setCell ⟨W1.heap.size, 3, none⟩ (.slice (some ⟨g2, 0, none⟩) lu lu)) g1 lr r := Made.setOther (Made.setOther (Made.setOther (Made.setOther o16 (by omega) _) (by omega) _) (by omega) _) (by omega) _
  have q2 : Own ((((W6.setCell ⟨W1.heap.size, 0, none⟩ (.int .i64 W)).setCell ⟨W1.heap.size, 1, none⟩ (.int .i64 H)).setCell ⟨W1.heap.size, 2, none⟩ (.slice (some ⟨g1, 0, none⟩) lr lr)).setCell ⟨W1.heap.size, 3, none⟩ (.slice (some ⟨g2, 0, none⟩) lu lu)) g2 lu u := Made.setOther (Made.setOther (Made.setOther (Made.setOther o26 (by omega) _) (by omega) _) (by omega) _) (by omega) _
  refine ⟨_, rfl, ⟨_, _, rfl, arr_of_own q1 (by omega), arr_of_own q2 (by omega), ?_⟩, below_put4 bW6 (by omega) _ _ _ _⟩
  intro k e1 e2
  simp [Value.ownBlock] at e1 e2
  omega
theorem eqNet_true {w : World} {lo1 hi1 lo2 hi2 : Nat} {m1 m2 : Value} {W H : Int} {lr lu : Nat} {r u : Nat → Int} (h1 : NetAt w lo1 hi1 m1 W H lr r lu u) (h2 : NetAt w lo2 hi2 m2 W H lr r lu u) (hlr : lr ≤ 1048576) (hlu : lu ≤ 1048576) :
    Calls Try.prog 13 #[m1, m2] w fun e w' => e = .returned (.bool true) ∧ Below w.heap.size w w' := by
  obtain ⟨v1, v1', rfl, m1, m1', -⟩ := h1
  obtain ⟨v2, v2', rfl, m2, m2', -⟩ := h2
  obtain ⟨W1, hW1, a1, bW1, -⟩ := boxed w 27 #[.int .i64 W, .int .i64 H, v1, v1']
  obtain ⟨W2, hW2, a2, bW2, -⟩ := boxed W1 27 #[.int .i64 W, .int .i64 H, v2, v2']
  have s1 := a1.lt
  replace a1 := a1.below bW2
  replace m1 := (m1.below bW1).below bW2
  replace m2 := (m2.below bW1).below bW2
  replace m1' := (m1'.below bW1).below bW2
  replace m2' := (m2'.below bW1).below bW2
  replace bW1 := bW1.trans (bW2.mono bW1.size)
  obtain ⟨d1, e1, rfl, -⟩ := m1.src
  obtain ⟨d2, e2, rfl, -⟩ := m2.src
  obtain ⟨d3, e3, rfl, -⟩ := m1'.src
  obtain ⟨d4, e4, rfl, -⟩ := m2'.src
  obtain ⟨c0, c1, c2, c3, -⟩ := a1.open4
  obtain ⟨c4, c5, c6, c7, -⟩ := a2.open4
  go_enter Try.func13, Try.ntmps13
  go_wp2_with fail
  refine (eqArr_true m1 m2 hlr).mono ?_
  rintro e w3 ⟨rfl, b3⟩
  replace a1 := a1.below b3
  replace a2 := a2.below b3
  replace m1' := m1'.below b3
  replace m2' := m2'.below b3
  replace bW1 := bW1.trans (b3.mono bW1.size)
  clear c0 c1 c2 c3 c4 c5 c6 c7
  obtain ⟨c0, c1, c2, c3, -⟩ := a1.open4
  obtain ⟨c4, c5, c6, c7, -⟩ := a2.open4
  go_wp2_with fail
  refine (eqArr_true m1' m2' hlu).mono ?_
  rintro e w4 ⟨rfl, b4⟩
  go_wp2
  go_ret
  exact ⟨rfl, bW1.trans (b4.mono bW1.size)⟩
theorem markNet_any {w : World} {lo hi : Nat} {m : Value} {W H : Int} {lr lu : Nat} {r u : Nat → Int} (ho : NetAt w lo hi m W H lr r lu u) (hlr : lr ≤ 1048576) (hlu : lu ≤ 1048576) (x : Nat) (hx : x ≤ 5000000) :
    Calls Try.prog 20 #[m, .int .i64 (x : Int)] w fun e w' => e = .returned (.int .i64 ((x + lr + lu : Nat) : Int)) ∧ NetAt w' lo hi m W H lr (fun i => (x + i : Nat)) lu (fun i => (x + lr + i : Nat)) ∧ Turn lo hi w w' := by
  obtain ⟨v1, v2, rfl, m1, m2, hap⟩ := ho
  have hb1 : ∀ k, v1.ownBlock = some k → k < w.heap.size := fun k e => (m1.lt e).2.2
  obtain ⟨W1, hW1, a1, bW1, -⟩ := boxed w 27 #[.int .i64 W, .int .i64 H, v1, v2]
  replace m1 := m1.below bW1
  replace m2 := m2.below bW1
  have tW : Turn lo hi w W1 := .of_below bW1
  obtain ⟨c0, c1, c2, c3, -⟩ := a1.open4
  go_enter Try.func20, Try.ntmps20
  go_wp2_with fail
  refine (markArr_any m1 hlr x (by omega)).mono ?_
  rintro e w3 ⟨rfl, m1', o3⟩
  have t3 := Turn.of_only o3 m1
  have m2' := m2.only o3 hap
  have a3 : At 27 w3 w.heap.size #[.int .i64 W, .int .i64 H, v1, v2] := (o3.block _ a1.lt (fun e => absurd (hb1 _ e) (Nat.lt_irrefl _))).trans a1
  clear c0 c1 c2 c3
  obtain ⟨c0, c1, c2, c3, -⟩ := a3.open4
  go_wp2_with fail
  refine (markArr_any m2' hlu (x + lr) (by omega)).mono ?_
  rintro e w4 ⟨rfl, m2'', o4⟩
  have t4 := Turn.of_only o4 m2'
  have m1'' := m1'.only o4 hap.symm
  go_wp2
  go_ret
  exact ⟨rfl, ⟨_, _, rfl, m1'', m2'', hap⟩, (tW.trans t3).trans t4⟩
theorem heldNet_any {w : World} {lo hi : Nat} {m : Value} {W H : Int} {lr lu : Nat} (x : Nat) (ho : NetAt w lo hi m W H lr (fun i => (x + i : Nat)) lu (fun i => (x + lr + i : Nat))) (hlr : lr ≤ 1048576) (hlu : lu ≤ 1048576) (hx : x ≤ 5000000) :
    Calls Try.prog 21 #[m, .int .i64 (x : Int)] w fun e w' => e = .returned (.int .i64 ((x + lr + lu : Nat) : Int)) ∧ Below w.heap.size w w' := by
  obtain ⟨v1, v2, rfl, m1, m2, -⟩ := ho
  obtain ⟨W1, hW1, a1, bW1, -⟩ := boxed w 27 #[.int .i64 W, .int .i64 H, v1, v2]
  replace m1 := m1.below bW1
  replace m2 := m2.below bW1
  obtain ⟨c0, c1, c2, c3, -⟩ := a1.open4
  obtain ⟨d1, e1, rfl, -⟩ := m1.src
  obtain ⟨d2, e2, rfl, -⟩ := m2.src
  go_enter Try.func21, Try.ntmps21
  go_wp2_with fail
  refine (heldArr_any x m1 hlr (by omega)).mono ?_
  rintro e w3 ⟨rfl, b3⟩
  have p1 : ¬ ((x + lr : Nat) : Int) < 0 := by omega
  replace a1 := a1.below b3
  replace m2 := m2.below b3
  replace bW1 := bW1.trans (b3.mono bW1.size)
  clear c0 c1 c2 c3
  obtain ⟨c0, c1, c2, c3, -⟩ := a1.open4
  go_wp2_with fail
  refine (heldArr_any (x + lr) m2 hlu (by omega)).mono ?_
  rintro e w4 ⟨rfl, b4⟩
  have p2 : ¬ ((x + lr + lu : Nat) : Int) < 0 := by omega
  go_wp2
  go_ret
  exact ⟨rfl, bW1.trans (b4.mono bW1.size)⟩
end Go.Proofs.Ythpmfjhhaolklaa
