/-
  Conjugates, by the program: walked.
-/
import Derived.Test.YtbninbeccgdemaaDoorCn
namespace Go.Proofs.YtbninbeccgdemaaDoor
open Go.RowKit

/-- The counts behind k rounds. -/
def cn (a b c d : Int) (k : Nat) : Nat → Int := fun j => match j with
  | 0 => if 0 < k then a else 0
  | 9 => if 3 < k then d else 0
  | 10 => if 2 < k then c else 0
  | 11 => if 1 < k then b else 0
  | _ => 0
theorem conj_sums (a b c d : Int) : psum (term (cn a b c d 4) 0) 12 = a + c ∧ psum (term (cn a b c d 4) 1) 12 = b ∧ psum (term (cn a b c d 4) 2) 12 = -c ∧ psum (term (cn a b c d 4) 3) 12 = -b - d := by
  refine ⟨?_, ?_, ?_, ?_⟩ <;> simp [psum, term, cn, rp] <;> omega
theorem conj_fits {a b c d : Int} (ha : -1000000000000 ≤ a ∧ a ≤ 1000000000000) (hb : -1000000000000 ≤ b ∧ b ≤ 1000000000000) (hc : -1000000000000 ≤ c ∧ c ≤ 1000000000000) (hd : -1000000000000 ≤ d ∧ d ≤ 1000000000000) :
    ∀ i, i < 4 → ∀ k, k ≤ 12 → is64 (psum (term (cn a b c d 4) i) k) := by
  intro i hi k hk
  rcases (by omega : i = 0 ∨ i = 1 ∨ i = 2 ∨ i = 3) with rfl | rfl | rfl | rfl <;>
  rcases (by omega : k = 0 ∨ k = 1 ∨ k = 2 ∨ k = 3 ∨ k = 4 ∨ k = 5 ∨ k = 6 ∨ k = 7 ∨ k = 8 ∨ k = 9 ∨ k = 10 ∨ k = 11 ∨ k = 12) with rfl | rfl | rfl | rfl | rfl | rfl | rfl | rfl | rfl | rfl | rfl | rfl | rfl <;> simp [psum, term, cn, rp, is64] <;> omega
theorem cn_num {a b c d : Int} (ha : -1000000000000 ≤ a ∧ a ≤ 1000000000000) (hb : -1000000000000 ≤ b ∧ b ≤ 1000000000000) (hc : -1000000000000 ≤ c ∧ c ≤ 1000000000000) (hd : -1000000000000 ≤ d ∧ d ≤ 1000000000000) :
    ∀ k, k < 12 → -9000000000000000000 ≤ cn a b c d 4 k ∧ cn a b c d 4 k ≤ 9000000000000000000 := by
  intro k hk
  rcases (by omega : k = 0 ∨ k = 1 ∨ k = 2 ∨ k = 3 ∨ k = 4 ∨ k = 5 ∨ k = 6 ∨ k = 7 ∨ k = 8 ∨ k = 9 ∨ k = 10 ∨ k = 11) with rfl | rfl | rfl | rfl | rfl | rfl | rfl | rfl | rfl | rfl | rfl | rfl <;> simp [cn] <;> omega
theorem conj_round (a b c d : Int) (k : Nat) (hk : k < 4) : ∃ m : Nat, m < 12 ∧ (-(k : Int)) % 12 = (m : Int) ∧ (a12 (cn a b c d k))[m]? = some (.int .i64 0) ∧ (a12 (cn a b c d k)).setIfInBounds m (.int .i64 (pt a b c d k)) = a12 (cn a b c d (k + 1)) := by
  rcases (by omega : k = 0 ∨ k = 1 ∨ k = 2 ∨ k = 3) with rfl | rfl | rfl | rfl
  · exact ⟨0, by decide, by decide, rfl, rfl⟩
  · exact ⟨11, by decide, by decide, rfl, rfl⟩
  · exact ⟨10, by decide, by decide, rfl, rfl⟩
  · exact ⟨9, by decide, by decide, rfl, rfl⟩
theorem Tab.set {w : World} {q i : Nat} (h : Tab w) (hq : q ≠ 0) (v : Value) : Tab (w.setCell ⟨q, i, none⟩ v) :=
  ⟨by simp [World.setCell]; exact h.1, fun j hj => (World.cell?_of_block (w := w) (Below.heap_setCell _ _ _ _ (Ne.symm hq))).trans (h.2 j hj)⟩
set_option maxHeartbeats 1600000 in
theorem implConj_any (a b c d : Int) (w : World) (ht : Tab w) : Calls Tryd.prog 13 #[cV a b c d] w fun e w' => e = .returned (conjT a b c d) ∧ Below w.heap.size w w' := by
  obtain ⟨W, hW, b0, b1, bW, -⟩ := boxed2 w 33 33 #[.int .i64 a, .int .i64 b, .int .i64 c, .int .i64 d] #[.int .i64 0, .int .i64 0, .int .i64 0, .int .i64 0]
  obtain ⟨c0, c1, c2, c3, -⟩ := b0.open4
  have t := ht.below bW
  unfold conjT
  cases h1 : cOk a b c d
  · rw [if_neg (by simp)]
    go_enter Tryd.func13, Tryd.ntmps13
    go_wp2_with (go_at_call 39; refine (implOk_any _ _ _ _ _).mono ?_; rintro e w2 ⟨rfl, hb2⟩; rw [h1]; clear c0 c1 c2 c3; replace b0 := b0.below hb2; replace b1 := b1.below hb2; replace bW := bW.trans (hb2.mono bW.size); obtain ⟨e0, e1, e2, e3, f0, f1, f2, f3⟩ := b1.open4; clear hb2)
    obtain ⟨p0, p1, p2, p3, -⟩ := (put4_at b1 (.int .i64 0) (.int .i64 0) (.int .i64 0) (.int .i64 0)).open4
    exact bodyPost_ret (by simp [results, Tryd.results13, go_sem, p0, p1, p2, p3]) rfl ⟨rfl, below_put4 bW (by omega) _ _ _ _⟩
  obtain ⟨i1, i2, i3, i4⟩ := cOk_in h1
  go_enter Tryd.func13, Tryd.ntmps13
  go_wp2_with (first
    | (go_at_call 39; refine (implOk_any _ _ _ _ _).mono ?_; rintro e w2 ⟨rfl, hb2⟩; rw [h1]; clear c0 c1 c2 c3; replace b0 := b0.below hb2; replace b1 := b1.below hb2; replace t := t.below hb2; replace bW := bW.trans (hb2.mono bW.size); have l0 := b0.lt; obtain ⟨c0, c1, c2, c3, -⟩ := b0.open4; clear hb2)
    | (go_at_call 44; refine (numbers_any _ _ _ _ _).mono ?_; rintro e w3 ⟨rfl, hb3⟩))
  have b2 := (at_new 60 w2 #[.int .i64 0, .int .i64 0, .int .i64 0, .int .i64 0, .int .i64 0, .int .i64 0, .int .i64 0, .int .i64 0, .int .i64 0, .int .i64 0, .int .i64 0, .int .i64 0]).below hb3
  have hb : Below w2.heap.size w2 w3 := (below_alloc _ _).trans (hb3.mono (by simp))
  have l1 := b1.lt
  replace b1 := b1.below hb
  replace t := t.below hb
  have lw := bW.size
  replace bW := bW.trans (hb.mono bW.size)
  obtain ⟨q, hq⟩ : ∃ q, w2.heap.size = q := ⟨_, rfl⟩
  rw [hq] at b2 l1 lw ⊢
  clear hb hb3 hW c0 c1 c2 c3 b0 l0 hq ht
  go_loopw [14] (fun s wr => ∃ k : Nat, k ≤ 4 ∧ s = .int .i64 k ∧ At 60 wr q (a12 (cn a b c d k)) ∧ At 33 wr (w.heap.size + 1) #[.int .i64 0, .int .i64 0, .int .i64 0, .int .i64 0] ∧ Tab wr ∧ Below w.heap.size w wr) (fun s _ => 4 - (intOf s).toNat)
  case atStart => exact ⟨0, Nat.zero_le _, rfl, b2, b1, t, bW⟩
  case round =>
    clear b1 b2 t bW
    obtain ⟨k, hk, rfl, b2, b1, t, bW⟩ := hrel
    by_cases hlt : k < 4
    · have hlt' : (k : Int) < 4 := by omega
      have hix := fun w => ix4 a b c d k hlt w
      obtain ⟨m, hm, hp, hx, hset⟩ := conj_round a b c d k hlt
      have hv : -1000000000000 ≤ pt a b c d k ∧ pt a b c d k ≤ 1000000000000 := (cOk_iff a b c d).1 h1 k hlt
      have A := add_any (w := wr) (q := q) m (-(k : Int)) (pt a b c d k) 0 ⟨by omega, by omega⟩ hm hp ⟨by omega, by omega⟩ b2 hx
      simp only [Int.zero_add] at A
      have HS : Hid ((a12 (cn a b c d k)).setIfInBounds m (.int .i64 (pt a b c d k)) = a12 (cn a b c d (k + 1))) := hset
      have H2 : Hid (At 60 wr q (a12 (cn a b c d k))) := b2
      clear hset hx b2
      go_wp2_with (go_at_call 34; refine A.mono ?_; rintro e w4 ⟨rfl, dd, rfl⟩)
      refine ⟨⟨k + 1, by omega, by go_num, ?_, b1.setOther (by omega) _, t.set (by omega) _, below_drewN (bW.setCell (by show _ ≤ q; omega) _) _⟩, by simp [intOf]; omega⟩
      have := H2.out.set m (.int .i64 (pt a b c d k))
      rw [HS.out] at this
      exact this
    · have hlt' : ¬ (k : Int) < 4 := by omega
      obtain rfl : k = 4 := by omega
      obtain ⟨s0, s1, s2, s3⟩ := conj_sums a b c d
      have C := fun (w' : World) (h : Tab w') => cyc_any (w := w') (cn a b c d 4) h (cn_num i1 i2 i3 i4) (conj_fits i1 i2 i3 i4)
      rw [s0, s1, s2, s3] at C
      have g0 := b2.cell 0 (a12_get (cn a b c d 4) 0 (by decide))
      have g1 := b2.cell 1 (a12_get (cn a b c d 4) 1 (by decide))
      have g2 := b2.cell 2 (a12_get (cn a b c d 4) 2 (by decide))
      have g3 := b2.cell 3 (a12_get (cn a b c d 4) 3 (by decide))
      have g4 := b2.cell 4 (a12_get (cn a b c d 4) 4 (by decide))
      have g5 := b2.cell 5 (a12_get (cn a b c d 4) 5 (by decide))
      have g6 := b2.cell 6 (a12_get (cn a b c d 4) 6 (by decide))
      have g7 := b2.cell 7 (a12_get (cn a b c d 4) 7 (by decide))
      have g8 := b2.cell 8 (a12_get (cn a b c d 4) 8 (by decide))
      have g9 := b2.cell 9 (a12_get (cn a b c d 4) 9 (by decide))
      have g10 := b2.cell 10 (a12_get (cn a b c d 4) 10 (by decide))
      have g11 := b2.cell 11 (a12_get (cn a b c d 4) 11 (by decide))
      go_wp2_with (fail)
      refine (C _ t).mono ?_
      rintro e w5 ⟨rfl, hb5⟩
      replace b1 := b1.below hb5
      replace bW := bW.trans (hb5.mono bW.size)
      clear hb5 C g0 g1 g2 g3 g4 g5 g6 g7 g8 g9 g10 g11 b2 t s0 s1 s2 s3
      go_wp2_with (fail)
      refine (inRange_any _ _ _ _ _).mono ?_
      rintro e w6 ⟨rfl, hb6⟩
      replace b1 := b1.below hb6
      replace bW := bW.trans (hb6.mono bW.size)
      have l6 := b1.lt
      obtain ⟨d0, d1, d2, d3, f0, f1, f2, f3⟩ := b1.open4
      clear hb6
      unfold told
      cases h2 : cOk (a + c) b (-c) (-b - d)
      · rw [if_neg (by simp)]
        go_wp2
        all_goals first
          | contradiction
          | (have B := below_put4 bW (q := w.heap.size + 1) (by omega) (.int .i64 0) (.int .i64 0) (.int .i64 0) (.int .i64 0)
             obtain ⟨p0, p1, p2, p3, -⟩ := ((put4_at b1 (.int .i64 0) (.int .i64 0) (.int .i64 0) (.int .i64 0)).below (below_alloc _ (.cells #[.int .i64 0, .int .i64 0, .int .i64 0, .int .i64 0] 33))).open4
             exact bodyPost_ret (by simp [results, Tryd.results13, go_sem, p0, p1, p2, p3]) rfl ⟨rfl, B.alloc B.size _⟩)
      · rw [if_pos rfl]
        go_wp2
        all_goals first
          | contradiction
          | (have B := below_put4 bW (q := w.heap.size + 1) (by omega) (.int .i64 (a + c)) (.int .i64 b) (.int .i64 (-c)) (.int .i64 (-b - d))
             obtain ⟨p0, p1, p2, p3, -⟩ := ((put4_at b1 (.int .i64 (a + c)) (.int .i64 b) (.int .i64 (-c)) (.int .i64 (-b - d))).below (below_alloc _ (.cells #[.int .i64 (a + c), .int .i64 b, .int .i64 (-c), .int .i64 (-b - d)] 33))).open4
             exact bodyPost_ret (by simp [results, Tryd.results13, go_sem, p0, p1, p2, p3]) rfl ⟨rfl, B.alloc B.size _⟩)
theorem conjT_parts (a b c d : Int) : ∃ p q r s, conjT a b c d = cV p q r s := by
  unfold conjT
  split
  · exact ⟨_, _, _, _, rfl⟩
  · exact ⟨_, _, _, _, rfl⟩
end Go.Proofs.YtbninbeccgdemaaDoor
