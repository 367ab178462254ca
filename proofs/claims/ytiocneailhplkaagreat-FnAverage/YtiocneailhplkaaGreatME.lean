/-
  Products of operators by the program, whatever is handed in, walked.
-/
import Derived.Test.YtiocneailhplkaaGreatOpK
import Derived.Test.YtiocneailhplkaaGreatMA
import Derived.Test.YtiocneailhplkaaGreatMC
import Derived.Lib.AppendZeros
import Derived.Lib.SliceRun
namespace Go.Proofs.YtiocneailhplkaaGreat
open Go.RowKit

/-- The product is told. -/
def mulOk (n : Nat) (f : Nat → Int) (k : Nat) (h : Nat → Int) (n' : Nat) (f' : Nat → Int) (k' : Nat) (h' : Nat → Int) : Prop := isOp n f k h ∧ isOp n' f' k' h' ∧ isR (mulM f f') (behV f h h')
instance (n : Nat) (f : Nat → Int) (k : Nat) (h : Nat → Int) (n' : Nat) (f' : Nat → Int) (k' : Nat) (h' : Nat → Int) : Decidable (mulOk n f k h n' f' k' h') := by unfold mulOk; infer_instance
/-- An operator of nine and three numbers, or an empty one. -/
def Told (w : World) (lo hi : Nat) (o : Value) (p : Bool) (f h : Nat → Int) : Prop := OpAt w lo hi o (if p then 9 else 0) f (if p then 3 else 0) h
theorem told_none (w : World) (lo hi : Nat) (f h : Nat → Int) : Told w lo hi (.agg #[.slice none 0 0, .slice none 0 0]) false f h :=
  ⟨_, _, rfl, .inl ⟨rfl, rfl⟩, .inl ⟨rfl, rfl⟩, fun k h1 => by cases h1⟩
theorem turn_set2 (w : World) (q : Nat) (v1 v2 : Value) : Turn q (q + 1) w ((w.setCell ⟨q, 0, none⟩ v1).setCell ⟨q, 1, none⟩ v2) :=
  ⟨rfl, rfl, rfl, by simp [World.setCell], fun k _ hk => (Below.heap_setCell _ _ _ _ (show k ≠ q by omega)).trans (Below.heap_setCell _ _ _ _ (show k ≠ q by omega))⟩
theorem OpAt.store {w : World} {lo hi q : Nat} {o : Value} {n k : Nat} {f h : Nat → Int} (ho : OpAt w lo hi o n f k h) (hq : q < lo) (v1 v2 : Value) : OpAt ((w.setCell ⟨q, 0, none⟩ v1).setCell ⟨q, 1, none⟩ v2) lo hi o n f k h :=
  ho.turn (turn_set2 w q v1 v2) (.inr hq)
theorem size_set2 (w : World) (q : Nat) (v1 v2 : Value) : ((w.setCell ⟨q, 0, none⟩ v1).setCell ⟨q, 1, none⟩ v2).heap.size = w.heap.size := by simp [World.setCell]
end Go.Proofs.YtiocneailhplkaaGreat
/-
  Products of operators by the specification, whatever is handed in, walked.
-/
namespace Go.Proofs.YtiocneailhplkaaGreat
open Go.RowKit

theorem OpAt.src {w : World} {lo hi : Nat} {o : Value} {n k : Nat} {f h : Nat → Int} (ho : OpAt w lo hi o n f k h) : ∃ a c b d, o = .agg #[.slice a n c, .slice b k d] ∧ Src w a n f ∧ Src w b k h := by
  obtain ⟨v1, v2, rfl, m1, m2, -⟩ := ho
  obtain ⟨a, c, rfl, s1⟩ := m1.src
  obtain ⟨b, d, rfl, s2⟩ := m2.src
  exact ⟨a, c, b, d, rfl, s1, s2⟩
set_option maxRecDepth 100000 in
set_option maxHeartbeats 800000 in
theorem specMul_any {w : World} {a b a' b' : Option Addr} {n k n' k' : Nat} {f h f' h' : Nat → Int} (cap cap' cap2 cap3 : Nat) (hs : Src w a n f) (ht : Src w b k h) (hs' : Src w a' n' f') (ht' : Src w b' k' h') :
    Calls Tryz.prog 87 #[.agg #[.slice a n cap, .slice b k cap'], .agg #[.slice a' n' cap2, .slice b' k' cap3]] w fun e w' => ∃ o, e = .returned (.tuple #[o, .bool (decide (mulOk n f k h n' f' k' h'))]) ∧ Told w' w.heap.size w'.heap.size o (decide (mulOk n f k h n' f' k' h')) (mulM f f') (behV f h h') ∧ Below w.heap.size w w' := by
  obtain ⟨R, hR⟩ : ∃ R, decide (mulOk n f k h n' f' k' h') = R := ⟨_, rfl⟩
  rw [hR]
  have HR : Hid (decide (mulOk n f k h n' f' k' h') = R) := hR
  clear hR
  obtain ⟨W1, hW1, a1, bW1, -⟩ := boxed w 57 #[.slice a n cap, .slice b k cap']
  obtain ⟨W2, hW2, a2, bW2, -⟩ := boxed W1 57 #[.slice a' n' cap2, .slice b' k' cap3]
  obtain ⟨W3, hW3, a3, bW3, -⟩ := boxed W2 57 #[.slice none 0 0, .slice none 0 0]
  have s1 := a1.lt
  have s2 := a2.lt
  have s3 := a3.lt
  replace a1 := (a1.below bW2).below bW3
  replace a2 := a2.below bW3
  replace bW1 := (bW1.trans (bW2.mono bW1.size)).trans (bW3.mono (by omega))
  replace hs := hs.below bW1
  replace ht := ht.below bW1
  replace hs' := hs'.below bW1
  replace ht' := ht'.below bW1
  obtain ⟨c0, c1, -⟩ := a1.open2
  go_enter Tryz.func87, Tryz.ntmps87
  go_wp2_with fail
  refine (specOk_any cap cap' hs ht).mono ?_
  rintro e w4 ⟨rfl, b4⟩
  replace a1 := a1.below b4
  replace a2 := a2.below b4
  replace a3 := a3.below b4
  replace hs := hs.below b4
  replace ht := ht.below b4
  replace hs' := hs'.below b4
  replace ht' := ht'.below b4
  replace bW1 := bW1.trans (b4.mono bW1.size)
  have s4 := b4.size
  clear c0 c1 b4 hW1 hW2 hW3
  by_cases h1 : isOp n f k h
  · rw [decide_eq_true h1]
    obtain ⟨c0, c1, -⟩ := a2.open2
    go_wp2_with fail
    refine (specOk_any cap2 cap3 hs' ht').mono ?_
    rintro e w5 ⟨rfl, b5⟩
    replace a1 := a1.below b5
    replace a2 := a2.below b5
    replace a3 := a3.below b5
    replace hs := hs.below b5
    replace ht := ht.below b5
    replace hs' := hs'.below b5
    replace ht' := ht'.below b5
    replace bW1 := bW1.trans (b5.mono bW1.size)
    have s5 := b5.size
    clear c0 c1 b5
    by_cases h2 : isOp n' f' k' h'
    · rw [decide_eq_true h2]
      obtain ⟨c0, c1, -⟩ := a1.open2
      obtain ⟨c2, c3, -⟩ := a2.open2
      have h1' := h1
      have h2' := h2
      obtain ⟨rfl, rfl, r1⟩ := h1'
      obtain ⟨rfl, rfl, r2⟩ := h2'
      rcases hs with h0 | ⟨b1, o1, rfl, l1, i1⟩
      · omega
      rcases ht with h0 | ⟨b2, o2, rfl, l2, i2⟩
      · omega
      rcases hs' with h0 | ⟨b3, o3, rfl, l3, i3⟩
      · omega
      rcases ht' with h0 | ⟨b4, o4, rfl, l4, i4⟩
      · omega
      go_wp2_with fail
      refine (l3Mul_any cap cap' cap2 cap3 i1 i2 i3 i4 l1 l2 l3 l4 r1 r2).mono ?_
      rintro e w6 ⟨o, rfl, ho, b6⟩
      replace a3 := a3.below b6
      replace bW1 := bW1.trans (b6.mono bW1.size)
      have s6 := b6.size
      clear c0 c1 c2 c3 a1 a2 i1 i2 i3 i4
      obtain ⟨g1, e1, g2, e2, rfl, z1, z2⟩ := ho.src
      obtain ⟨X, hX, Y, hY, a7, b7, x0, x1, y0, y1⟩ := boxed2 w6 (.slice g1 9 e1) (.slice g2 3 e2)
      replace a3 := a3.below b7
      replace ho := ho.below b7
      replace z1 := z1.below b7
      replace z2 := z2.below b7
      replace bW1 := bW1.trans (b7.mono bW1.size)
      have s7 := a7.lt
      clear b6
      obtain ⟨c0, c1, -⟩ := a7.open2
      go_wp2_with fail
      refine (specOk_any e1 e2 z1 z2).mono ?_
      rintro e w8 ⟨rfl, b8⟩
      replace a3 := a3.below b8
      replace a7 := a7.below b8
      replace ho := ho.below b8
      replace bW1 := bW1.trans (b8.mono bW1.size)
      have s8 := b8.size
      clear c0 c1 hX hY b7 x0 x1 y0 y1 b8 z1 z2
      obtain ⟨d0, d1, f0, f1⟩ := a3.open2
      by_cases hR : isR (mulM f f') (behV f h h')
      · rw [decide_eq_true (show isOp 9 (mulM f f') 3 (behV f h h') from ⟨rfl, rfl, hR⟩)]
        have eR : R = true := HR.out.symm.trans (decide_eq_true ⟨h1, h2, hR⟩)
        subst eR
        obtain ⟨c0, c1, -⟩ := a7.open2
        go_wp2
        have a8 := nil2_at a3 (.slice g1 9 e1) (.slice g2 3 e2)
        obtain ⟨p0, p1, -⟩ := a8.open2
        have ho := (ho.store (q := W2.heap.size) (by omega) (.slice g1 9 e1) (.slice g2 3 e2)).wide (show w.heap.size ≤ w5.heap.size by omega) (show w6.heap.size ≤ ((w8.setCell ⟨W2.heap.size, 0, none⟩ (.slice g1 9 e1)).setCell ⟨W2.heap.size, 1, none⟩ (.slice g2 3 e2)).heap.size by rw [size_set2]; omega)
        exact bodyPost_ret (v := .tuple #[.agg #[.slice g1 9 e1, .slice g2 3 e2], .bool true]) (by simp [results, Tryz.results87, go_sem, p0, p1]) rfl ⟨_, rfl, ho, (bW1.setCell (show w.heap.size ≤ W2.heap.size by omega) _).setCell (show w.heap.size ≤ W2.heap.size by omega) _⟩
      · rw [decide_eq_false (show ¬ isOp 9 (mulM f f') 3 (behV f h h') from fun x => hR x.2.2)]
        have eR : R = false := HR.out.symm.trans (decide_eq_false (fun x => hR x.2.2))
        subst eR
        go_wp2
        have a8 := nil2_at a3 (.slice none 0 0) (.slice none 0 0)
        obtain ⟨p0, p1, -⟩ := a8.open2
        exact bodyPost_ret (v := .tuple #[.agg #[.slice none 0 0, .slice none 0 0], .bool false]) (by simp [results, Tryz.results87, go_sem, p0, p1]) rfl ⟨_, rfl, told_none _ _ _ _ _, (bW1.setCell (show w.heap.size ≤ W2.heap.size by omega) _).setCell (show w.heap.size ≤ W2.heap.size by omega) _⟩
    · rw [decide_eq_false h2]
      have eR : R = false := HR.out.symm.trans (decide_eq_false (fun x => h2 x.2.1))
      subst eR
      obtain ⟨d0, d1, f0, f1⟩ := a3.open2
      go_wp2
      have a8 := nil2_at a3 (.slice none 0 0) (.slice none 0 0)
      obtain ⟨p0, p1, -⟩ := a8.open2
      exact bodyPost_ret (v := .tuple #[.agg #[.slice none 0 0, .slice none 0 0], .bool false]) (by simp [results, Tryz.results87, go_sem, p0, p1]) rfl ⟨_, rfl, told_none _ _ _ _ _, (bW1.setCell (show w.heap.size ≤ W2.heap.size by omega) _).setCell (show w.heap.size ≤ W2.heap.size by omega) _⟩
  · rw [decide_eq_false h1]
    have eR : R = false := HR.out.symm.trans (decide_eq_false (fun x => h1 x.1))
    subst eR
    obtain ⟨d0, d1, f0, f1⟩ := a3.open2
    go_wp2
    have a8 := nil2_at a3 (.slice none 0 0) (.slice none 0 0)
    obtain ⟨p0, p1, -⟩ := a8.open2
    exact bodyPost_ret (v := .tuple #[.agg #[.slice none 0 0, .slice none 0 0], .bool false]) (by simp [results, Tryz.results87, go_sem, p0, p1]) rfl ⟨_, rfl, told_none _ _ _ _ _, (bW1.setCell (show w.heap.size ≤ W2.heap.size by omega) _).setCell (show w.heap.size ≤ W2.heap.size by omega) _⟩
end Go.Proofs.YtiocneailhplkaaGreat
/-
  Numbers and lists compared, by the program and the specification, walked.
-/
namespace Go.Proofs.YtiocneailhplkaaGreat
open Go.RowKit

def cmp3 (x y : Int) : Int := if x < y then -1 else if y < x then 1 else 0
/-- What is told of two lists from number i on, n - i rounds before the first one's end. -/
def cmpF (f h : Nat → Int) (n m : Nat) : Nat → Nat → Int
  | 0, _ => if n < m then -1 else 0
  | k + 1, i => if m ≤ i then 1 else if f i < h i then -1 else if h i < f i then 1 else cmpF f h n m k (i + 1)
theorem cmpF_end {f h : Nat → Int} {n m : Nat} : cmpF f h n m (n - n) n = if n < m then -1 else 0 := by rw [Nat.sub_self]; rfl
theorem cmpF_step {f h : Nat → Int} {n m i : Nat} (hi : i < n) : cmpF f h n m (n - i) i = if m ≤ i then 1 else if f i < h i then -1 else if h i < f i then 1 else cmpF f h n m (n - (i + 1)) (i + 1) := by
  rw [show n - i = (n - (i + 1)) + 1 by omega]; rfl
theorem l3Compare_any {w : World} {a b : Option Addr} {n m c d : Nat} {f h : Nat → Int} (hs : Src w a n f) (ht : Src w b m h) (hn : n ≤ 4194304) (hm : m ≤ 4194304) :
    Calls Tryz.prog 77 #[.slice a n c, .slice b m d] w fun e w' => e = .returned (.int .i64 (cmpF f h n m n 0)) ∧ Below w.heap.size w w' := by
  have hn' : (n : Int) ≤ 4194304 := by omega
  have hm' : (m : Int) ≤ 4194304 := by omega
  obtain ⟨R, hR⟩ : ∃ R, cmpF f h n m n 0 = R := ⟨_, rfl⟩
  rw [hR]
  have hR0 : cmpF f h n m (n - 0) 0 = R := hR
  clear hR
  go_enter Tryz.func77, Tryz.ntmps77
  go_wp2
  go_loopw [5] (fun s wr => ∃ i : Nat, (i ≤ n ∧ i ≤ m) ∧ s = .int .i64 i ∧ Hid (cmpF f h n m (n - i) i = R) ∧ Below w.heap.size w wr) (fun s _ => n - (intOf s).toNat)
  case atStart => exact ⟨0, ⟨Nat.zero_le _, Nat.zero_le _⟩, rfl, hR0, Below.refl _ _⟩
  case round =>
    clear hR0
    obtain ⟨i, ⟨hi, him⟩, rfl, hR, bW⟩ := hrel
    by_cases hlt : i < n
    · have hlt' : (i : Int) < (n : Int) := by omega
      have hst := cmpF_step (f := f) (h := h) (m := m) hlt
      rw [hR.out] at hst
      by_cases hmi : m ≤ i
      · have hmi' : ¬ (i : Int) < (m : Int) := by omega
        have hd1 : ¬ (n : Int) < (m : Int) := by omega
        have hd2 : (m : Int) < (n : Int) := by omega
        rw [if_pos hmi] at hst
        subst hst
        go_wp2
        go_ret
        exact ⟨rfl, bW⟩
      · have hmi' : (i : Int) < (m : Int) := by omega
        rw [if_neg hmi] at hst
        rcases hs.below bW with h0 | ⟨g1, o1, rfl, l1, r1⟩
        · omega
        have c1 := r1 i hlt
        rcases ht.below bW with h0 | ⟨g2, o2, rfl, l2, r2⟩
        · omega
        have c2 := r2 i (by omega)
        obtain ⟨A, hA⟩ : ∃ A, f i = A := ⟨_, rfl⟩
        obtain ⟨C, hC⟩ : ∃ C, h i = C := ⟨_, rfl⟩
        rw [hA] at c1 hst
        rw [hC] at c2 hst
        clear hA hC
        by_cases hx : A < C
        · rw [if_pos hx] at hst
          subst hst
          go_wp2
          go_quiet (fail)
          go_wp2
          go_ret
          exact ⟨rfl, below_drewN bW _⟩
        · rw [if_neg hx] at hst
          by_cases hy : C < A
          · rw [if_pos hy] at hst
            subst hst
            go_wp2
            go_quiet (fail)
            go_wp2
            go_quiet (fail)
            go_wp2
            go_ret
            exact ⟨rfl, below_drewN (below_drewN bW _) _⟩
          · rw [if_neg hy] at hst
            have HS : Hid (cmpF f h n m (n - (i + 1)) (i + 1) = R) := hst.symm
            clear hst hR
            go_wp2
            go_quiet (fail)
            go_wp2
            go_quiet (fail)
            go_wp2
            go_roundw
            case rel => exact ⟨i + 1, by omega, by go_num, HS, below_drewN bW _⟩
            case measure => simp [intOf]; omega
    · have hlt' : ¬ (i : Int) < (n : Int) := by omega
      obtain rfl : i = n := by omega
      have hst := cmpF_end (f := f) (h := h) (n := i) (m := m)
      rw [hR.out] at hst
      have hd2 : ¬ (m : Int) < (i : Int) := by omega
      by_cases hx : i < m
      · have hx' : (i : Int) < (m : Int) := by omega
        rw [if_pos hx] at hst
        subst hst
        go_wp2
        go_ret
        exact ⟨rfl, bW⟩
      · have hx' : ¬ (i : Int) < (m : Int) := by omega
        rw [if_neg hx] at hst
        subst hst
        go_wp2
        go_ret
        exact ⟨rfl, bW⟩
end Go.Proofs.YtiocneailhplkaaGreat
/-
  Lists joined by the program and the specification, walked.
-/
namespace Go.Proofs.YtiocneailhplkaaGreat
open Go.RowKit

/-- Two lists, one behind the other. -/
def cat (n : Nat) (f h : Nat → Int) : Nat → Int := fun i => if i < n then f i else h (i - n)
theorem iCells_cat0 (n : Nat) (f h : Nat → Int) : iCells (cat n f h) n = iCells f n := iCells_congr (fun i hi => by simp [cat, hi])
theorem iCells_cat (n : Nat) (f h : Nat → Int) (k : Nat) : iCells (cat n f h) (n + k) = iCells f n ++ iCells h k := by
  induction k with
  | zero => rw [Nat.add_zero, iCells_cat0]; simp [iCells]
  | succ k ih =>
    show iCells (cat n f h) (n + k) ++ [.int .i64 (cat n f h (n + k))] = _
    rw [ih]
    have : ¬ n + k < n := by omega
    simp [iCells, cat, this]
theorem arr_of_owns {w : World} {base n : Nat} {v : Value} {f : Nat → Int} (h : w.ownsRow base 2 1 v n (iCells f n)) : Arr w base w.heap.size v n f := by
  by_cases hv : v = .slice none 0 0
  · rcases h.2 with ⟨h1, h2⟩ | ⟨g, c, cur, h1, -⟩
    · exact .inl ⟨h1, h2⟩
    · rw [hv] at h1; cases h1
  · obtain ⟨g, c, rfl, hb, hc, hm⟩ := made_of h hv
    exact .inr ⟨g, c, rfl, hb, hm.lt, ⟨hc, own_room h⟩, hm⟩
theorem own_below {w w' : World} {B : Nat} {e : TypeId} {k : Nat} {v : Value} {n : Nat} {xs : List Value} (h : w.ownsRow B e k v n xs) (hb : Below w.heap.size w w') : w'.ownsRow B e k v n xs := by
  refine ⟨h.1, h.2.imp id ?_⟩
  rintro ⟨g, cap, cur, rfl, h1, h2, h3⟩
  exact ⟨g, cap, cur, rfl, h1, (hb.block g (Array.getElem?_eq_some_iff.1 h2).1).trans h2, h3⟩
theorem ownBlock_ge {w : World} {base : Nat} {e : TypeId} {size : Nat} {v : Value} {n : Nat} {xs : List Value} (h : w.ownsRow base e size v n xs) {j : Nat} (hj : v.ownBlock = some j) : base ≤ j := by
  rcases h.2 with ⟨rfl, _⟩ | ⟨g, cap, cur, rfl, hb, _⟩
  · cases hj
  · cases hj; exact hb
theorem own_form {w : World} {base n : Nat} {v : Value} {xs : List Value} (h : w.ownsRow base 2 1 v n xs) : ∃ va vc, v = .slice va n vc := by
  rcases h.2 with ⟨h1, h2⟩ | ⟨g, c, cur, h1, -⟩
  · exact ⟨none, 0, by rw [h1, h2]⟩
  · exact ⟨_, _, h1⟩
def tot (n k : Nat) : Nat → Nat
  | 0 => 0
  | 1 => n
  | _ => n + k
end Go.Proofs.YtiocneailhplkaaGreat
