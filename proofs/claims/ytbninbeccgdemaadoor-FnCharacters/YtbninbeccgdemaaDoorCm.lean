/-
  What counts of the root's powers come to: walked.
-/
import Derived.Test.YtbninbeccgdemaaDoorCl
import Derived.Deep.MidRow
import Derived.BigRegion
namespace Go.Proofs.YtbninbeccgdemaaDoor
open Go.RowKit

abbrev a12 (n : Nat → Int) : Array Value := #[.int .i64 (n 0), .int .i64 (n 1), .int .i64 (n 2), .int .i64 (n 3), .int .i64 (n 4), .int .i64 (n 5), .int .i64 (n 6), .int .i64 (n 7), .int .i64 (n 8), .int .i64 (n 9), .int .i64 (n 10), .int .i64 (n 11)]
/-- What power k brings to number i. -/
def term (n : Nat → Int) (i k : Nat) : Int := n k * rp (k * 4 + i)
/-- The table's cells. -/
def tabL : List Value := (List.range 48).map fun i => .int .i64 (rp i)
theorem tab_range {w : World} (h : Tab w) : w.rangeAt 0 0 tabL := by
  intro j v hj
  have hl : j < 48 := by
    have := (List.getElem?_eq_some_iff.1 hj).1
    simpa [tabL] using this
  have e : v = .int .i64 (rp j) := by
    simp [tabL, hl] at hj
    exact hj.symm
  rw [e, Nat.zero_add]
  exact h.2 j hl
theorem size47 : (Tryd.prog.info? 90).map (·.size) = some tabL.length := by kernel_rfl
theorem ix12 (k : Nat) (hk : k < 12) (w : World) : (Instr.index 90 (.agg tabL.toArray) (.int .i64 (k : Int))).run Tryd.prog w = .ok (rV k) w := by
  rcases (by omega : k = 0 ∨ k = 1 ∨ k = 2 ∨ k = 3 ∨ k = 4 ∨ k = 5 ∨ k = 6 ∨ k = 7 ∨ k = 8 ∨ k = 9 ∨ k = 10 ∨ k = 11) with rfl | rfl | rfl | rfl | rfl | rfl | rfl | rfl | rfl | rfl | rfl | rfl <;> kernel_rfl
/-- The terms that stand: all of the powers below k, and of power k those of the numbers below i. -/
def Trm (w : World) (q : Nat) (n : Nat → Int) (k i : Nat) : Prop :=
  ∃ cs : Array Value, At 89 w q cs ∧ cs.size = 48 ∧ ∀ a b, a < 4 → b < 12 → (b < k ∨ (b = k ∧ a < i)) → cs[a * 12 + b]? = some (.int .i64 (term n a b))
theorem Trm.below {w w' : World} {q k i : Nat} {n : Nat → Int} (h : Trm w q n k i) (hb : Below w.heap.size w w') : Trm w' q n k i := by
  obtain ⟨cs, h1, h2, h3⟩ := h
  exact ⟨cs, h1.below hb, h2, h3⟩
theorem Trm.open {w : World} {q k i : Nat} {n : Nat → Int} (h : Trm w q n k i) (o : Nat) (ho : o < 48) : w.cell? ⟨q, o, none⟩ = some (cv w q o) ∧ w.frozen? ⟨q, o, none⟩ = false := by
  obtain ⟨cs, h1, h2, -⟩ := h
  have := h1.cell o (Array.getElem?_eq_getElem (by omega))
  exact ⟨by simp [cv, this], h1.frozen o⟩
theorem Trm.set {w : World} {q k i : Nat} {n : Nat → Int} (h : Trm w q n k i) (hi : i < 4) (hk : k < 12) : Trm (w.setCell ⟨q, i * 12 + k, none⟩ (.int .i64 (term n i k))) q n k (i + 1) := by
  obtain ⟨cs, h1, h2, h3⟩ := h
  refine ⟨_, h1.set _ _, by simpa using h2, fun a b ha hb hc => ?_⟩
  by_cases e : a = i ∧ b = k
  · obtain ⟨rfl, rfl⟩ := e
    rw [Array.getElem?_setIfInBounds_self_of_lt (by omega)]
  · rw [Array.getElem?_setIfInBounds_ne (by omega)]
    exact h3 a b ha hb (by omega)
theorem Trm.ints {w : World} {q : Nat} {n : Nat → Int} (h : Trm w q n 12 0) (a : Nat) (ha : a < 4) : Ints w q (a * 12) 12 (term n a) := by
  obtain ⟨cs, h1, h2, h3⟩ := h
  exact fun j hj => h1.cell _ (h3 a j ha hj (.inl hj))
theorem ints_heap {w w' : World} {b off n : Nat} {f : Nat → Int} (e : w'.heap = w.heap) (h : Ints w b off n f) : Ints w' b off n f := fun i hi => by
  have := h i hi
  unfold World.cell? at this ⊢
  rw [e]
  exact this
theorem Trm.next {w : World} {q k : Nat} {n : Nat → Int} (h : Trm w q n k 4) : Trm w q n (k + 1) 0 := by
  obtain ⟨cs, h1, h2, h3⟩ := h
  exact ⟨cs, h1, h2, fun a b ha hb hc => h3 a b ha hb (by omega)⟩
theorem pt_rp (k i : Nat) (hi : i < 4) : pt (rp (k * 4)) (rp (k * 4 + 1)) (rp (k * 4 + 2)) (rp (k * 4 + 3)) i = rp (k * 4 + i) := by
  rcases (by omega : i = 0 ∨ i = 1 ∨ i = 2 ∨ i = 3) with rfl | rfl | rfl | rfl <;> rfl
theorem a12_get (n : Nat → Int) (k : Nat) (hk : k < 12) : (a12 n)[k]? = some (.int .i64 (n k)) := by
  rcases (by omega : k = 0 ∨ k = 1 ∨ k = 2 ∨ k = 3 ∨ k = 4 ∨ k = 5 ∨ k = 6 ∨ k = 7 ∨ k = 8 ∨ k = 9 ∨ k = 10 ∨ k = 11) with rfl | rfl | rfl | rfl | rfl | rfl | rfl | rfl | rfl | rfl | rfl | rfl <;> rfl
theorem term_wrap {x r : Int} (hx : -9000000000000000000 ≤ x ∧ x ≤ 9000000000000000000) (hr : -1 ≤ r ∧ r ≤ 1) : IntKind.i64.wrap (x * r) = x * r := by
  rw [IntKind.wrap_i64]
  rcases (by omega : r = -1 ∨ r = 0 ∨ r = 1) with rfl | rfl | rfl <;> omega
set_option maxHeartbeats 1000000 in
theorem cyc_any {w : World} (n : Nat → Int) (ht : Tab w) (hn : ∀ k, k < 12 → -9000000000000000000 ≤ n k ∧ n k ≤ 9000000000000000000) (hs : ∀ i, i < 4 → ∀ k, k ≤ 12 → is64 (psum (term n i) k)) :
    Calls Tryd.prog 36 #[.agg (a12 n)] w fun e w' => e = .returned (cV (psum (term n 0) 12) (psum (term n 1) 12) (psum (term n 2) 12) (psum (term n 3) 12)) ∧ Below w.heap.size w w' := by
  obtain ⟨W, hW, b0, b1, b2, bW, -⟩ := boxed3 w 60 33 89 (a12 n) #[.int .i64 0, .int .i64 0, .int .i64 0, .int .i64 0] #[.int .i64 0, .int .i64 0, .int .i64 0, .int .i64 0, .int .i64 0, .int .i64 0, .int .i64 0, .int .i64 0, .int .i64 0, .int .i64 0, .int .i64 0, .int .i64 0, .int .i64 0, .int .i64 0, .int .i64 0, .int .i64 0, .int .i64 0, .int .i64 0, .int .i64 0, .int .i64 0, .int .i64 0, .int .i64 0, .int .i64 0, .int .i64 0, .int .i64 0, .int .i64 0, .int .i64 0, .int .i64 0, .int .i64 0, .int .i64 0, .int .i64 0, .int .i64 0, .int .i64 0, .int .i64 0, .int .i64 0, .int .i64 0, .int .i64 0, .int .i64 0, .int .i64 0, .int .i64 0, .int .i64 0, .int .i64 0, .int .i64 0, .int .i64 0, .int .i64 0, .int .i64 0, .int .i64 0, .int .i64 0]
  have t := ht.below bW
  go_enter Tryd.func36, Tryd.ntmps36
  go_upto_region 2 with (fail)
  refine wp_region_list ?_
  refine wpList_load_mid rfl 90 _ rfl 0 0 rfl tabL _ (tab_range t) Tryd.underlying90 rfl size47 ?_
  clear hW ht
  go_wp2_with (fail)
  have T0 : Trm W (w.heap.size + 1 + 1) n 0 0 := ⟨_, b2, rfl, fun a b _ _ hc => by omega⟩
  clear b2 t
  go_loopw [9] (fun s wr => ∃ k : Nat, k ≤ 12 ∧ s = .int .i64 k ∧ At 60 wr w.heap.size (a12 n) ∧ At 33 wr (w.heap.size + 1) #[.int .i64 0, .int .i64 0, .int .i64 0, .int .i64 0] ∧ Trm wr (w.heap.size + 1 + 1) n k 0 ∧ Below w.heap.size w wr) (fun s _ => 12 - (intOf s).toNat)
  case atStart => exact ⟨0, Nat.zero_le _, rfl, b0, b1, T0, bW⟩
  case round =>
    clear b0 b1 T0 bW
    obtain ⟨k, hk, rfl, b0, b1, T0, bW⟩ := hrel
    by_cases hlt : k < 12
    · have hlt' : (k : Int) < 12 := by omega
      have hix := ix12 k hlt
      have hnk := hn k hlt
      go_wp2_with (go_at_call 44; refine (numbers_any _ _ _ _ _).mono ?_; rintro e w2 ⟨rfl, hb2⟩)
      have hb : Below wr.heap.size wr w2 := (below_alloc _ _).trans (hb2.mono (by simp))
      replace b0 := b0.below hb
      replace b1 := b1.below hb
      replace T0 := T0.below hb
      replace bW := bW.trans (hb.mono bW.size)
      clear hb hb2 hix
      go_loopw [15] (fun s wi => ∃ i : Nat, i ≤ 4 ∧ s = .int .i64 i ∧ At 60 wi w.heap.size (a12 n) ∧ At 33 wi (w.heap.size + 1) #[.int .i64 0, .int .i64 0, .int .i64 0, .int .i64 0] ∧ Trm wi (w.heap.size + 1 + 1) n k i ∧ Below w.heap.size w wi) (fun s _ => 4 - (intOf s).toNat)
      case atStart => exact ⟨0, Nat.zero_le _, rfl, b0, b1, T0, bW⟩
      case round =>
        clear b0 b1 T0 bW
        obtain ⟨i, hi, rfl, b0, b1, T0, bW⟩ := hrel
        by_cases hli : i < 4
        · have hli' : (i : Int) < 4 := by omega
          have hi4 := fun w => ix4 (rp (k * 4)) (rp (k * 4 + 1)) (rp (k * 4 + 2)) (rp (k * 4 + 3)) i hli w
          rw [pt_rp k i hli] at hi4
          have c0 := b0.cell k (a12_get n k hlt)
          obtain ⟨z0, y0⟩ := T0.open (i * 12 + k) (by omega)
          have hw := term_wrap hnk (rp_num (k * 4 + i) (by omega))
          have HT : Hid (Trm _ (w.heap.size + 1 + 1) n k i) := T0
          have H0 : Hid (At 60 _ w.heap.size (a12 n)) := b0
          have H1 : Hid (At 33 _ (w.heap.size + 1) #[.int .i64 0, .int .i64 0, .int .i64 0, .int .i64 0]) := b1
          clear T0 b0 b1
          go_wp2_with (fail)
          go_region
          go_wp2
          go_roundw
          case rel =>
            refine ⟨i + 1, by omega, by go_num, H0.out.setOther (by omega) _, H1.out.setOther (by omega) _, ?_, (bW.setCell (by show _ ≤ w.heap.size + 1 + 1; omega) _).drew⟩
            exact HT.out.set hli hlt
          case measure => simp [intOf]; omega
        · have hli' : ¬ (i : Int) < 4 := by omega
          obtain rfl : i = 4 := by omega
          have T1 := T0.next
          clear T0
          go_wp2
          exact ⟨⟨k + 1, by omega, by go_num, b0, b1, T1, bW⟩, by simp [intOf]; omega⟩
    · have hlt' : ¬ (k : Int) < 12 := by omega
      obtain rfl : k = 12 := by omega
      have P0 := sumOf_any (w := wr.drew) (b := w.heap.size + 1 + 1) (off := 0) (cap := 12) (n := 12) (f := term n 0) (ints_heap (w := wr) rfl (T0.ints 0 (by decide))) (by decide) (hs 0 (by decide))
      have P1 := sumOf_any (w := wr.drew) (b := w.heap.size + 1 + 1) (off := 12) (cap := 12) (n := 12) (f := term n 1) (ints_heap (w := wr) rfl (T0.ints 1 (by decide))) (by decide) (hs 1 (by decide))
      have P2 := sumOf_any (w := wr.drew) (b := w.heap.size + 1 + 1) (off := 24) (cap := 12) (n := 12) (f := term n 2) (ints_heap (w := wr) rfl (T0.ints 2 (by decide))) (by decide) (hs 2 (by decide))
      have P3 := sumOf_any (w := wr.drew) (b := w.heap.size + 1 + 1) (off := 36) (cap := 12) (n := 12) (f := term n 3) (ints_heap (w := wr) rfl (T0.ints 3 (by decide))) (by decide) (hs 3 (by decide))
      obtain ⟨d0, d1, d2, d3, f0, f1, f2, f3⟩ := b1.open4
      go_wp2_with (fail)
      go_region_with (first | (go_at_call_of 63 (Value.slice (some { block := w.heap.size + 1 + 1, off := 0 }) 12 12); refine P0.mono ?_; rintro e w3 ⟨rfl, rfl⟩) | (go_at_call_of 63 (Value.slice (some { block := w.heap.size + 1 + 1, off := 12 }) 12 12); refine P1.mono ?_; rintro e w3 ⟨rfl, rfl⟩) | (go_at_call_of 63 (Value.slice (some { block := w.heap.size + 1 + 1, off := 24 }) 12 12); refine P2.mono ?_; rintro e w3 ⟨rfl, rfl⟩) | (go_at_call_of 63 (Value.slice (some { block := w.heap.size + 1 + 1, off := 36 }) 12 12); refine P3.mono ?_; rintro e w3 ⟨rfl, rfl⟩))
      obtain ⟨p0, p1, p2, p3, -⟩ := (put4_at b1 (.int .i64 (psum (term n 0) 12)) (.int .i64 (psum (term n 1) 12)) (.int .i64 (psum (term n 2) 12)) (.int .i64 (psum (term n 3) 12))).open4
      clear P0 P1 P2 P3 hs hn T0 d0 d1 d2 d3 f0 f1 f2 f3
      all_goals
        go_wp2
        exact bodyPost_ret (v := cV (psum (term n 0) 12) (psum (term n 1) 12) (psum (term n 2) 12) (psum (term n 3) 12)) (by simp [results, Tryd.results36, go_sem, p0, p1, p2, p3]) rfl ⟨rfl, (below_put4 bW (by omega) _ _ _ _).drew⟩
end Go.Proofs.YtbninbeccgdemaaDoor
