/-
  Lists joined by the program and the specification, walked.
-/
import Derived.Test.YtpcdnggcojalpabCmp
import Derived.Test.YtpcdnggcojalpabOpH
import Derived.Lib.AppendZeros
import Derived.Lib.SliceRun
namespace Go.Proofs.Ytpcdnggcojalpab
open Go.RowKit

theorem toOp2_any {w : World} {a b : Option Addr} {n cap k cap' : Nat} {f h : Nat → Int} (hs : Src w a n f) (ht : Src w b k h) (hn : n ≤ 1048576) (hk : k ≤ 1048576) :
    Calls Try.prog 6 #[.agg #[.slice a n cap, .slice b k cap']] w fun e w' => ∃ g1 g2, e = .returned (.agg #[.slice (some ⟨g1, 0, none⟩) n n, .slice (some ⟨g2, 0, none⟩) k k]) ∧ Own w' g1 n f ∧ Own w' g2 k h ∧ (w.heap.size ≤ g1 ∧ w.heap.size ≤ g2 ∧ g1 ≠ g2) ∧ Below w.heap.size w w' := by
  obtain ⟨W1, hW1, a1, bW1, -⟩ := boxed w 24 #[.slice a n cap, .slice b k cap']
  obtain ⟨W2, hW2, a2, bW2, -⟩ := boxed W1 27 #[.slice none 0 0, .slice none 0 0]
  obtain ⟨W3, hW3, a3, bW3, -⟩ := boxed W2 27 #[.slice none 0 0, .slice none 0 0]
  have s2 := a2.lt
  have s1 := a1.lt
  have s3 := a3.lt
  replace a1 := (a1.below bW2).below bW3
  replace a2 := a2.below bW3
  replace bW1 := (bW1.trans (bW2.mono bW1.size)).trans (bW3.mono (by omega))
  obtain ⟨c0, c1, -⟩ := a1.open2
  go_enter Try.func6, Try.ntmps6
  go_wp2_with fail
  refine (toInts_any (hs.below bW1) hn).mono ?_
  rintro e w1 ⟨g1, rfl, hg1, o1, b1⟩
  replace a1 := a1.below b1
  replace a2 := a2.below b1
  replace a3 := a3.below b1
  replace bW1 := bW1.trans (b1.mono bW1.size)
  have s4 := b1.size
  clear c0 c1 b1
  obtain ⟨c0, c1, -⟩ := a1.open2
  obtain ⟨d0, d1, e0, e1⟩ := a3.open2
  obtain ⟨W4, hW4, a34, a14, a24, o14, bW4, s5⟩ : ∃ W, w1.setCell ⟨W2.heap.size, 0, none⟩ (.slice (some ⟨g1, 0, none⟩) n n) = W ∧ At 27 W W2.heap.size #[.slice (some ⟨g1, 0, none⟩) n n, .slice none 0 0] ∧ At 24 W w.heap.size #[.slice a n cap, .slice b k cap'] ∧ At 27 W W1.heap.size #[.slice none 0 0, .slice none 0 0] ∧ Own W g1 n f ∧ Below w.heap.size w W ∧ W3.heap.size ≤ W.heap.size := by
    refine ⟨_, rfl, ?_, a1.setOther (by omega) _, a2.setOther (by omega) _, Made.setOther o1 (by omega) _, bW1.setCell (show w.heap.size ≤ W2.heap.size by omega) _, by simpa [World.setCell] using s4⟩
    simpa using a3.set 0 (.slice (some ⟨g1, 0, none⟩) n n)
  clear a1 a2 a3 o1 bW1
  clear c0 c1
  obtain ⟨c0, c1, -⟩ := a14.open2
  go_wp2_with fail
  refine (toInts_any (ht.below bW4) hk).mono ?_
  rintro e w5 ⟨g2, rfl, hg2, o2, b5⟩
  have hg12 : g1 < W4.heap.size := o14.lt
  replace a14 := a14.below b5
  replace a24 := a24.below b5
  replace a34 := a34.below b5
  replace o14 := o14.below b5
  replace bW4 := bW4.trans (b5.mono bW4.size)
  have s6 := b5.size
  clear c0 c1 d0 d1 e0 e1 b5 hW4
  obtain ⟨c0, c1, -⟩ := a14.open2
  obtain ⟨d0, d1, e0, e1⟩ := a34.open2
  obtain ⟨W6, hW6, a36, a26, o16, o26, bW6, s7⟩ : ∃ W, w5.setCell ⟨W2.heap.size, 1, none⟩ (.slice (some ⟨g2, 0, none⟩) k k) = W ∧ At 27 W W2.heap.size #[.slice (some ⟨g1, 0, none⟩) n n, .slice (some ⟨g2, 0, none⟩) k k] ∧ At 27 W W1.heap.size #[.slice none 0 0, .slice none 0 0] ∧ Own W g1 n f ∧ Own W g2 k h ∧ Below w.heap.size w W ∧ W4.heap.size ≤ W.heap.size := by
    refine ⟨_, rfl, ?_, a24.setOther (by omega) _, Made.setOther o14 (by omega) _, Made.setOther o2 (by omega) _, bW4.setCell (show w.heap.size ≤ W2.heap.size by omega) _, by simpa [World.setCell] using s6⟩
    simpa using a34.set 1 (.slice (some ⟨g2, 0, none⟩) k k)
  clear c0 c1 d0
  obtain ⟨c0, c1, -⟩ := a36.open2
  obtain ⟨f0, f1, r0, r1⟩ := a26.open2
  go_wp2
  have a7 : At 27 ((W6.setCell ⟨W1.heap.size, 0, none⟩ (.slice (some ⟨g1, 0, none⟩) n n)).setCell ⟨W1.heap.size, 1, none⟩ (.slice (some ⟨g2, 0, none⟩) k k)) W1.heap.size #[.slice (some ⟨g1, 0, none⟩) n n, .slice (some ⟨g2, 0, none⟩) k k] := by
    simpa using (a26.set 0 (.slice (some ⟨g1, 0, none⟩) n n)).set 1 (.slice (some ⟨g2, 0, none⟩) k k)
  obtain ⟨p0, p1, -⟩ := a7.open2
  refine bodyPost_ret (v := .agg #[.slice (some ⟨g1, 0, none⟩) n n, .slice (some ⟨g2, 0, none⟩) k k]) (by simp [results, Try.results6, go_sem, p0, p1]) rfl ?_
  have q1 : Own ((W6.setCell ⟨W1.heap.size, 0, none⟩ (.slice (some ⟨g1, 0, none⟩) n n)).setCell ⟨W1.heap.size, 1, none⟩ (.slice (some ⟨g2, 0, none⟩) k k)) g1 n f := Made.setOther (Made.setOther o16 (by omega) _) (by omega) _
  have q2 : Own ((W6.setCell ⟨W1.heap.size, 0, none⟩ (.slice (some ⟨g1, 0, none⟩) n n)).setCell ⟨W1.heap.size, 1, none⟩ (.slice (some ⟨g2, 0, none⟩) k k)) g2 k h := Made.setOther (Made.setOther o26 (by omega) _) (by omega) _
  exact ⟨g1, g2, rfl, q1, q2, by omega, (bW6.setCell (show w.heap.size ≤ W1.heap.size by omega) _).setCell (show w.heap.size ≤ W1.heap.size by omega) _⟩
/-- A new list of no numbers, with room. -/
theorem grow_any (n : Nat) (hn : n ≤ 4194304) (w : World) :
    Calls Try.prog 16 #[.slice none 0 0, .int .i64 (n : Int)] w fun e w' => ∃ va vc, e = .returned (.slice va 0 vc) ∧ w'.ownsRow w.heap.size 2 1 (.slice va 0 vc) 0 [] ∧ Below w.heap.size w w' := by
  have hn' : (n : Int) ≤ 4194304 := by omega
  by_cases h0 : n = 0
  · subst h0
    go_enter Try.func16, Try.ntmps16
    go_wp2
    go_ret
    exact ⟨none, 0, rfl, ⟨rfl, .inl ⟨rfl, rfl⟩⟩, Below.refl _ _⟩
  · have h1 : ¬ (n : Int) < 0 := by omega
    have h2 : (0 : Int) < (n : Int) := by omega
    obtain ⟨i0, hi0, hz0, hz1, hz2⟩ := info_parts Try.info2
    have hrun := fun ty => Lib.run_append_nil_zeros (P := Try.prog) w 22 3 ty 2 i0 _ .i64 .i64 Try.underlying22 Try.underlying3 hi0 hz0 n (by omega) (by omega) (by omega) (by rw [hz2]; omega)
    have hG := grownCap_ge w n 0 2
    have hM := grownCap_le_maxLen w n 0 2 (by unfold maxLen; omega)
    obtain ⟨G, hGe⟩ : ∃ G, grownCap w n 0 2 = G := ⟨_, rfl⟩
    rw [hGe] at hrun hG hM
    obtain ⟨C, hC⟩ : ∃ C, Builtin.zeroCells (Value.int .i64 0).cells n ++ Builtin.zeroCells (Value.int .i64 0).cells (G - n) = C := ⟨_, rfl⟩
    have hCs : C.size = G := by rw [← hC]; simp [Builtin.zeroCells, show (Value.int IntKind.i64 0).cells.size = 1 from rfl]; omega
    simp only [hC] at hrun
    clear hC hGe
    have hG' : (n : Int) ≤ (G : Int) := by omega
    go_enter Try.func16, Try.ntmps16
    go_wp2_with (at_builtin; refine Lib.wpList_append_run _ rfl _ _ _ _ rfl _ _ rfl rfl _ _ (hrun _) ?_)
    go_ret
    exact ⟨some ⟨w.heap.size, 0, none⟩, G, rfl, ⟨rfl, .inr ⟨w.heap.size, G, C, rfl, Nat.le_refl _, heap_alloc_new w _, Nat.zero_le _, hM, by simpa using hCs, rfl⟩⟩, (below_alloc w _).drew⟩
/-- Two lists, one behind the other. -/
def cat (n : Nat) (f h : Nat → Int) : Nat → Int := fun i => if i < n then f i else h (i - n)
theorem iCells_cat0 (n : Nat) (f h : Nat → Int) : iCells (cat n f h) n = iCells f n := iCells_congr (fun i hi => by simp [cat, hi])
theorem iCells_cat (n : Nat) (f h : Nat → Int) (k : Nat) : iCells (cat n f h) (n + k) = iCells f n ++ iCells h k := by
  induction k with
  | zero => rw [Nat.add_zero, iCells_cat0]; simp [iCells]
  | succ k ih =>
    show iCells (cat n f h) (n + k) ++ [.int .i64 (cat n f h (n + k))] = _
    rw [ih]
    have : ¬ n + k < n := by omega
    simp [iCells, cat, this]
theorem arr_of_owns {w : World} {base n : Nat} {v : Value} {f : Nat → Int} (h : w.ownsRow base 2 1 v n (iCells f n)) : Arr w base w.heap.size v n f := by
  by_cases hv : v = .slice none 0 0
  · rcases h.2 with ⟨h1, h2⟩ | ⟨g, c, cur, h1, -⟩
    · exact .inl ⟨h1, h2⟩
    · rw [hv] at h1; cases h1
  · obtain ⟨g, c, rfl, hb, hc, hm⟩ := made_of h hv
    exact .inr ⟨g, c, rfl, hb, hm.lt, hc, hm⟩
theorem own_below {w w' : World} {B : Nat} {e : TypeId} {k : Nat} {v : Value} {n : Nat} {xs : List Value} (h : w.ownsRow B e k v n xs) (hb : Below w.heap.size w w') : w'.ownsRow B e k v n xs := by
  refine ⟨h.1, h.2.imp id ?_⟩
  rintro ⟨g, cap, cur, rfl, h1, h2, h3⟩
  exact ⟨g, cap, cur, rfl, h1, (hb.block g (Array.getElem?_eq_some_iff.1 h2).1).trans h2, h3⟩
theorem ownBlock_ge {w : World} {base : Nat} {e : TypeId} {size : Nat} {v : Value} {n : Nat} {xs : List Value} (h : w.ownsRow base e size v n xs) {j : Nat} (hj : v.ownBlock = some j) : base ≤ j := by
  rcases h.2 with ⟨rfl, _⟩ | ⟨g, cap, cur, rfl, hb, _⟩
  · cases hj
  · cases hj; exact hb
theorem own_form {w : World} {base n : Nat} {v : Value} {xs : List Value} (h : w.ownsRow base 2 1 v n xs) : ∃ va vc, v = .slice va n vc := by
  rcases h.2 with ⟨h1, h2⟩ | ⟨g, c, cur, h1, -⟩
  · exact ⟨none, 0, by rw [h1, h2]⟩
  · exact ⟨_, _, h1⟩
def tot (n k : Nat) : Nat → Nat
  | 0 => 0
  | 1 => n
  | _ => n + k
set_option maxRecDepth 100000 in
theorem concat_any {w : World} {p b1 o1 b2 o2 n k c1 c2 : Nat} {f h : Nat → Int} (hp : At 22 w p #[.slice (some ⟨b1, o1, none⟩) n c1, .slice (some ⟨b2, o2, none⟩) k c2]) (hs : Ints w b1 o1 n f) (ht : Ints w b2 o2 k h) (l1 : b1 < w.heap.size) (l2 : b2 < w.heap.size) (hn : n ≤ 1048576) (hk : k ≤ 1048576) :
    Calls Try.prog 13 #[.slice (some ⟨p, 0, none⟩) 2 2] w fun e w' => ∃ v, e = .returned v ∧ Arr w' w.heap.size w'.heap.size v (n + k) (cat n f h) ∧ Below w.heap.size w w' := by
  have hn' : (n : Int) ≤ 1048576 := by omega
  have hk' : (k : Int) ≤ 1048576 := by omega
  obtain ⟨i0, hi0, hz0, hz1, hz2⟩ := info_parts Try.info2
  obtain ⟨c0, c1', -⟩ := hp.open2
  go_enter Try.func13, Try.ntmps13
  go_wp2
  go_loopw [3, 11] (fun sz s wr => ∃ j : Nat, j ≤ 2 ∧ s = .int .i64 j ∧ sz = .int .i64 ((tot n k j : Nat) : Int) ∧ w = wr) (fun _ s _ => 2 - (intOf s).toNat)
  case atStart => exact ⟨0, Nat.zero_le _, rfl, rfl, rfl⟩
  case round =>
    obtain ⟨j, hj, rfl, rfl, rfl⟩ := hrel
    rcases (by omega : j = 0 ∨ j = 1 ∨ j = 2) with rfl | rfl | rfl
    · simp only [tot]
      go_wp2
      exact ⟨⟨1, by omega, rfl, by go_num, by trivial⟩, by simp [intOf]⟩
    · simp only [tot]
      go_wp2
      exact ⟨⟨2, by omega, rfl, by go_num, by trivial⟩, by simp [intOf]⟩
    · simp only [tot]
      go_wp2_with fail
      have hgr := grow_any (n + k) (by omega) w
      rw [Int.natCast_add] at hgr
      refine hgr.mono ?_
      rintro e w1 ⟨va, vc, rfl, o1', bW⟩
      clear c0 c1' hgr
      go_wp2
      go_loopw [6, 27] (fun v s wr => ∃ (j : Nat) (va : Option Addr) (vc : Nat), j ≤ 2 ∧ s = .int .i64 j ∧ v = .slice va (tot n k j) vc ∧ wr.ownsRow w.heap.size 2 1 (.slice va (tot n k j) vc) (tot n k j) (iCells (cat n f h) (tot n k j)) ∧ Below w.heap.size w wr) (fun _ s _ => 2 - (intOf s).toNat)
      case atStart => exact ⟨0, va, vc, Nat.zero_le _, rfl, rfl, o1', bW⟩
      case round =>
        clear o1' bW
        obtain ⟨j, va, vc, hj, rfl, rfl, ow, bW⟩ := hrel
        have hpw := hp.below bW
        have hs1 := hs.below l1 bW
        have ht1 := ht.below l2 bW
        have hbs := bW.size
        obtain ⟨c0, c1', -⟩ := hpw.open2
        rcases (by omega : j = 0 ∨ j = 1 ∨ j = 2) with rfl | rfl | rfl
        · simp only [tot] at ow ⊢
          go_wp2_with (at_builtin; refine wpList_append_own _ rfl _ _ _ rfl w.heap.size 2 i0 _ 1 8 Try.underlying22 hi0 hz0 hz1 hz2 rfl (by omega) (.slice va 0 vc) 0 (iCells (cat n f h) 0) rfl ow ⟨b1, o1, none⟩ n c1 (iCells f n) rfl (by rw [iCells_len]; omega) (ints_news hs1) (iCells_one f n) (by unfold maxLen; omega) (by omega) (by omega) ?_; intro v2 w2 hown2 hgrow2 hne2)
          have ho : w2.ownsRow w.heap.size 2 1 v2 n (iCells (cat n f h) n) := by rw [iCells_cat0]; simpa [iCells] using hown2
          obtain ⟨va2, vc2, rfl⟩ := own_form ho
          refine ⟨⟨1, va2, vc2, by omega, rfl, rfl, ho, ?_⟩, by simp [intOf]⟩
          exact bW.grown hgrow2 (by omega) (fun x hx => ownBlock_ge ow hx)
        · simp only [tot] at ow ⊢
          go_wp2_with (at_builtin; refine wpList_append_own _ rfl _ _ _ rfl w.heap.size 2 i0 _ 1 8 Try.underlying22 hi0 hz0 hz1 hz2 rfl (by omega) (.slice va n vc) n (iCells (cat n f h) n) rfl ow ⟨b2, o2, none⟩ k c2 (iCells h k) rfl (by rw [iCells_len]; omega) (ints_news ht1) (iCells_one h k) (by unfold maxLen; omega) (by omega) (by omega) ?_; intro v2 w2 hown2 hgrow2 hne2)
          have ho : w2.ownsRow w.heap.size 2 1 v2 (n + k) (iCells (cat n f h) (n + k)) := by rw [iCells_cat, ← iCells_cat0 n f h]; exact hown2
          obtain ⟨va2, vc2, rfl⟩ := own_form ho
          refine ⟨⟨2, va2, vc2, by omega, rfl, rfl, ho, ?_⟩, by simp [intOf]⟩
          exact bW.grown hgrow2 (by omega) (fun x hx => ownBlock_ge ow hx)
        · simp only [tot] at ow ⊢
          go_wp2
          go_ret
          exact ⟨_, rfl, arr_of_owns ow, bW⟩
end Go.Proofs.Ytpcdnggcojalpab
