/-
  Products of operators by the program, whatever is handed in, walked.
-/
import Derived.Test.YtehbpcoiciodhaaOpK
import Derived.Test.YtehbpcoiciodhaaMA
import Derived.Test.YtehbpcoiciodhaaMC
import Derived.Lib.AppendZeros
import Derived.Lib.SliceRun
namespace Go.Proofs.Ytehbpcoiciodhaa
open Go.RowKit

/-- The product is told. -/
def mulOk (n : Nat) (f : Nat → Int) (k : Nat) (h : Nat → Int) (n' : Nat) (f' : Nat → Int) (k' : Nat) (h' : Nat → Int) : Prop := isOp n f k h ∧ isOp n' f' k' h' ∧ isR (mulM f f') (behV f h h')
instance (n : Nat) (f : Nat → Int) (k : Nat) (h : Nat → Int) (n' : Nat) (f' : Nat → Int) (k' : Nat) (h' : Nat → Int) : Decidable (mulOk n f k h n' f' k' h') := by unfold mulOk; infer_instance
/-- An operator of nine and three numbers, or an empty one. -/
def Told (w : World) (lo hi : Nat) (o : Value) (p : Bool) (f h : Nat → Int) : Prop := OpAt w lo hi o (if p then 9 else 0) f (if p then 3 else 0) h
theorem told_none (w : World) (lo hi : Nat) (f h : Nat → Int) : Told w lo hi (.agg #[.slice none 0 0, .slice none 0 0]) false f h :=
  ⟨_, _, rfl, .inl ⟨rfl, rfl⟩, .inl ⟨rfl, rfl⟩, fun k h1 => by cases h1⟩
theorem turn_set2 (w : World) (q : Nat) (v1 v2 : Value) : Turn q (q + 1) w ((w.setCell ⟨q, 0, none⟩ v1).setCell ⟨q, 1, none⟩ v2) :=
  ⟨rfl, rfl, rfl, by simp [World.setCell], fun k _ hk => (Below.heap_setCell _ _ _ _ (show k ≠ q by omega)).trans (Below.heap_setCell _ _ _ _ (show k ≠ q by omega))⟩
theorem OpAt.store {w : World} {lo hi q : Nat} {o : Value} {n k : Nat} {f h : Nat → Int} (ho : OpAt w lo hi o n f k h) (hq : q < lo) (v1 v2 : Value) : OpAt ((w.setCell ⟨q, 0, none⟩ v1).setCell ⟨q, 1, none⟩ v2) lo hi o n f k h :=
  ho.turn (turn_set2 w q v1 v2) (.inr hq)
theorem size_set2 (w : World) (q : Nat) (v1 v2 : Value) : ((w.setCell ⟨q, 0, none⟩ v1).setCell ⟨q, 1, none⟩ v2).heap.size = w.heap.size := by simp [World.setCell]
end Go.Proofs.Ytehbpcoiciodhaa
/-
  Products of operators by the specification, whatever is handed in, walked.
-/
namespace Go.Proofs.Ytehbpcoiciodhaa
open Go.RowKit

theorem OpAt.src {w : World} {lo hi : Nat} {o : Value} {n k : Nat} {f h : Nat → Int} (ho : OpAt w lo hi o n f k h) : ∃ a c b d, o = .agg #[.slice a n c, .slice b k d] ∧ Src w a n f ∧ Src w b k h := by
  obtain ⟨v1, v2, rfl, m1, m2, -⟩ := ho
  obtain ⟨a, c, rfl, s1⟩ := m1.src
  obtain ⟨b, d, rfl, s2⟩ := m2.src
  exact ⟨a, c, b, d, rfl, s1, s2⟩
end Go.Proofs.Ytehbpcoiciodhaa
/-
  Numbers and lists compared, by the program and the specification, walked.
-/
namespace Go.Proofs.Ytehbpcoiciodhaa
open Go.RowKit

def cmp3 (x y : Int) : Int := if x < y then -1 else if y < x then 1 else 0
/-- What is told of two lists from number i on, n - i rounds before the first one's end. -/
def cmpF (f h : Nat → Int) (n m : Nat) : Nat → Nat → Int
  | 0, _ => if n < m then -1 else 0
  | k + 1, i => if m ≤ i then 1 else if f i < h i then -1 else if h i < f i then 1 else cmpF f h n m k (i + 1)
theorem cmpF_end {f h : Nat → Int} {n m : Nat} : cmpF f h n m (n - n) n = if n < m then -1 else 0 := by rw [Nat.sub_self]; rfl
theorem cmpF_step {f h : Nat → Int} {n m i : Nat} (hi : i < n) : cmpF f h n m (n - i) i = if m ≤ i then 1 else if f i < h i then -1 else if h i < f i then 1 else cmpF f h n m (n - (i + 1)) (i + 1) := by
  rw [show n - i = (n - (i + 1)) + 1 by omega]; rfl
theorem l3Compare_any {w : World} {a b : Option Addr} {n m c d : Nat} {f h : Nat → Int} (hs : Src w a n f) (ht : Src w b m h) (hn : n ≤ 4194304) (hm : m ≤ 4194304) :
    Calls Try.prog 70 #[.slice a n c, .slice b m d] w fun e w' => e = .returned (.int .i64 (cmpF f h n m n 0)) ∧ Below w.heap.size w w' := by
  have hn' : (n : Int) ≤ 4194304 := by omega
  have hm' : (m : Int) ≤ 4194304 := by omega
  obtain ⟨R, hR⟩ : ∃ R, cmpF f h n m n 0 = R := ⟨_, rfl⟩
  rw [hR]
  have hR0 : cmpF f h n m (n - 0) 0 = R := hR
  clear hR
  go_enter Try.func70, Try.ntmps70
  go_wp2
  go_loopw [5] (fun s wr => ∃ i : Nat, (i ≤ n ∧ i ≤ m) ∧ s = .int .i64 i ∧ Hid (cmpF f h n m (n - i) i = R) ∧ Below w.heap.size w wr) (fun s _ => n - (intOf s).toNat)
  case atStart => exact ⟨0, ⟨Nat.zero_le _, Nat.zero_le _⟩, rfl, hR0, Below.refl _ _⟩
  case round =>
    clear hR0
    obtain ⟨i, ⟨hi, him⟩, rfl, hR, bW⟩ := hrel
    by_cases hlt : i < n
    · have hlt' : (i : Int) < (n : Int) := by omega
      have hst := cmpF_step (f := f) (h := h) (m := m) hlt
      rw [hR.out] at hst
      by_cases hmi : m ≤ i
      · have hmi' : ¬ (i : Int) < (m : Int) := by omega
        have hd1 : ¬ (n : Int) < (m : Int) := by omega
        have hd2 : (m : Int) < (n : Int) := by omega
        rw [if_pos hmi] at hst
        subst hst
        go_wp2
        go_ret
        exact ⟨rfl, bW⟩
      · have hmi' : (i : Int) < (m : Int) := by omega
        rw [if_neg hmi] at hst
        rcases hs.below bW with h0 | ⟨g1, o1, rfl, l1, r1⟩
        · omega
        have c1 := r1 i hlt
        rcases ht.below bW with h0 | ⟨g2, o2, rfl, l2, r2⟩
        · omega
        have c2 := r2 i (by omega)
        obtain ⟨A, hA⟩ : ∃ A, f i = A := ⟨_, rfl⟩
        obtain ⟨C, hC⟩ : ∃ C, h i = C := ⟨_, rfl⟩
        rw [hA] at c1 hst
        rw [hC] at c2 hst
        clear hA hC
        by_cases hx : A < C
        · rw [if_pos hx] at hst
          subst hst
          go_wp2
          go_quiet (fail)
          go_wp2
          go_ret
          exact ⟨rfl, below_drewN bW _⟩
        · rw [if_neg hx] at hst
          by_cases hy : C < A
          · rw [if_pos hy] at hst
            subst hst
            go_wp2
            go_quiet (fail)
            go_wp2
            go_quiet (fail)
            go_wp2
            go_ret
            exact ⟨rfl, below_drewN (below_drewN bW _) _⟩
          · rw [if_neg hy] at hst
            have HS : Hid (cmpF f h n m (n - (i + 1)) (i + 1) = R) := hst.symm
            clear hst hR
            go_wp2
            go_quiet (fail)
            go_wp2
            go_quiet (fail)
            go_wp2
            go_roundw
            case rel => exact ⟨i + 1, by omega, by go_num, HS, below_drewN bW _⟩
            case measure => simp [intOf]; omega
    · have hlt' : ¬ (i : Int) < (n : Int) := by omega
      obtain rfl : i = n := by omega
      have hst := cmpF_end (f := f) (h := h) (n := i) (m := m)
      rw [hR.out] at hst
      have hd2 : ¬ (m : Int) < (i : Int) := by omega
      by_cases hx : i < m
      · have hx' : (i : Int) < (m : Int) := by omega
        rw [if_pos hx] at hst
        subst hst
        go_wp2
        go_ret
        exact ⟨rfl, bW⟩
      · have hx' : ¬ (i : Int) < (m : Int) := by omega
        rw [if_neg hx] at hst
        subst hst
        go_wp2
        go_ret
        exact ⟨rfl, bW⟩
end Go.Proofs.Ytehbpcoiciodhaa
/-
  Lists joined by the program and the specification, walked.
-/
namespace Go.Proofs.Ytehbpcoiciodhaa
open Go.RowKit

/-- Two lists, one behind the other. -/
def cat (n : Nat) (f h : Nat → Int) : Nat → Int := fun i => if i < n then f i else h (i - n)
theorem iCells_cat0 (n : Nat) (f h : Nat → Int) : iCells (cat n f h) n = iCells f n := iCells_congr (fun i hi => by simp [cat, hi])
theorem iCells_cat (n : Nat) (f h : Nat → Int) (k : Nat) : iCells (cat n f h) (n + k) = iCells f n ++ iCells h k := by
  induction k with
  | zero => rw [Nat.add_zero, iCells_cat0]; simp [iCells]
  | succ k ih =>
    show iCells (cat n f h) (n + k) ++ [.int .i64 (cat n f h (n + k))] = _
    rw [ih]
    have : ¬ n + k < n := by omega
    simp [iCells, cat, this]
theorem arr_of_owns {w : World} {base n : Nat} {v : Value} {f : Nat → Int} (h : w.ownsRow base 2 1 v n (iCells f n)) : Arr w base w.heap.size v n f := by
  by_cases hv : v = .slice none 0 0
  · rcases h.2 with ⟨h1, h2⟩ | ⟨g, c, cur, h1, -⟩
    · exact .inl ⟨h1, h2⟩
    · rw [hv] at h1; cases h1
  · obtain ⟨g, c, rfl, hb, hc, hm⟩ := made_of h hv
    exact .inr ⟨g, c, rfl, hb, hm.lt, hc, hm⟩
theorem own_below {w w' : World} {B : Nat} {e : TypeId} {k : Nat} {v : Value} {n : Nat} {xs : List Value} (h : w.ownsRow B e k v n xs) (hb : Below w.heap.size w w') : w'.ownsRow B e k v n xs := by
  refine ⟨h.1, h.2.imp id ?_⟩
  rintro ⟨g, cap, cur, rfl, h1, h2, h3⟩
  exact ⟨g, cap, cur, rfl, h1, (hb.block g (Array.getElem?_eq_some_iff.1 h2).1).trans h2, h3⟩
theorem ownBlock_ge {w : World} {base : Nat} {e : TypeId} {size : Nat} {v : Value} {n : Nat} {xs : List Value} (h : w.ownsRow base e size v n xs) {j : Nat} (hj : v.ownBlock = some j) : base ≤ j := by
  rcases h.2 with ⟨rfl, _⟩ | ⟨g, cap, cur, rfl, hb, _⟩
  · cases hj
  · cases hj; exact hb
theorem own_form {w : World} {base n : Nat} {v : Value} {xs : List Value} (h : w.ownsRow base 2 1 v n xs) : ∃ va vc, v = .slice va n vc := by
  rcases h.2 with ⟨h1, h2⟩ | ⟨g, c, cur, h1, -⟩
  · exact ⟨none, 0, by rw [h1, h2]⟩
  · exact ⟨_, _, h1⟩
def tot (n k : Nat) : Nat → Nat
  | 0 => 0
  | 1 => n
  | _ => n + k
end Go.Proofs.Ytehbpcoiciodhaa
