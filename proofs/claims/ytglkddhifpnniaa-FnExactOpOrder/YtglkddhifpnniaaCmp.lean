/-
  Numbers and lists compared, by the program and the specification, walked.
-/
import Derived.Test.YtglkddhifpnniaaOpA
namespace Go.Proofs.Ytglkddhifpnniaa
open Go.RowKit

def cmp3 (x y : Int) : Int := if x < y then -1 else if y < x then 1 else 0
/-- What is told of two lists from number i on, n - i rounds before the first one's end. -/
def cmpF (f h : Nat → Int) (n m : Nat) : Nat → Nat → Int
  | 0, _ => if n < m then -1 else 0
  | k + 1, i => if m ≤ i then 1 else if f i < h i then -1 else if h i < f i then 1 else cmpF f h n m k (i + 1)
theorem cmpF_end {f h : Nat → Int} {n m : Nat} : cmpF f h n m (n - n) n = if n < m then -1 else 0 := by rw [Nat.sub_self]; rfl
theorem cmpF_step {f h : Nat → Int} {n m i : Nat} (hi : i < n) : cmpF f h n m (n - i) i = if m ≤ i then 1 else if f i < h i then -1 else if h i < f i then 1 else cmpF f h n m (n - (i + 1)) (i + 1) := by
  rw [show n - i = (n - (i + 1)) + 1 by omega]; rfl
theorem l3Compare_any {w : World} {a b : Option Addr} {n m c d : Nat} {f h : Nat → Int} (hs : Src w a n f) (ht : Src w b m h) (hn : n ≤ 4194304) (hm : m ≤ 4194304) :
    Calls Try.prog 43 #[.slice a n c, .slice b m d] w fun e w' => e = .returned (.int .i64 (cmpF f h n m n 0)) ∧ Below w.heap.size w w' := by
  have hn' : (n : Int) ≤ 4194304 := by omega
  have hm' : (m : Int) ≤ 4194304 := by omega
  obtain ⟨R, hR⟩ : ∃ R, cmpF f h n m n 0 = R := ⟨_, rfl⟩
  rw [hR]
  have hR0 : cmpF f h n m (n - 0) 0 = R := hR
  clear hR
  go_enter Try.func43, Try.ntmps43
  go_wp2
  go_loopw [5] (fun s wr => ∃ i : Nat, (i ≤ n ∧ i ≤ m) ∧ s = .int .i64 i ∧ Hid (cmpF f h n m (n - i) i = R) ∧ Below w.heap.size w wr) (fun s _ => n - (intOf s).toNat)
  case atStart => exact ⟨0, ⟨Nat.zero_le _, Nat.zero_le _⟩, rfl, hR0, Below.refl _ _⟩
  case round =>
    clear hR0
    obtain ⟨i, ⟨hi, him⟩, rfl, hR, bW⟩ := hrel
    by_cases hlt : i < n
    · have hlt' : (i : Int) < (n : Int) := by omega
      have hst := cmpF_step (f := f) (h := h) (m := m) hlt
      rw [hR.out] at hst
      by_cases hmi : m ≤ i
      · have hmi' : ¬ (i : Int) < (m : Int) := by omega
        have hd1 : ¬ (n : Int) < (m : Int) := by omega
        have hd2 : (m : Int) < (n : Int) := by omega
        rw [if_pos hmi] at hst
        subst hst
        go_wp2
        go_ret
        exact ⟨rfl, bW⟩
      · have hmi' : (i : Int) < (m : Int) := by omega
        rw [if_neg hmi] at hst
        rcases hs.below bW with h0 | ⟨g1, o1, rfl, l1, r1⟩
        · omega
        have c1 := r1 i hlt
        rcases ht.below bW with h0 | ⟨g2, o2, rfl, l2, r2⟩
        · omega
        have c2 := r2 i (by omega)
        obtain ⟨A, hA⟩ : ∃ A, f i = A := ⟨_, rfl⟩
        obtain ⟨C, hC⟩ : ∃ C, h i = C := ⟨_, rfl⟩
        rw [hA] at c1 hst
        rw [hC] at c2 hst
        clear hA hC
        by_cases hx : A < C
        · rw [if_pos hx] at hst
          subst hst
          go_wp2
          go_quiet (fail)
          go_wp2
          go_ret
          exact ⟨rfl, below_drewN bW _⟩
        · rw [if_neg hx] at hst
          by_cases hy : C < A
          · rw [if_pos hy] at hst
            subst hst
            go_wp2
            go_quiet (fail)
            go_wp2
            go_quiet (fail)
            go_wp2
            go_ret
            exact ⟨rfl, below_drewN (below_drewN bW _) _⟩
          · rw [if_neg hy] at hst
            have HS : Hid (cmpF f h n m (n - (i + 1)) (i + 1) = R) := hst.symm
            clear hst hR
            go_wp2
            go_quiet (fail)
            go_wp2
            go_quiet (fail)
            go_wp2
            go_roundw
            case rel => exact ⟨i + 1, by omega, by go_num, HS, below_drewN bW _⟩
            case measure => simp [intOf]; omega
    · have hlt' : ¬ (i : Int) < (n : Int) := by omega
      obtain rfl : i = n := by omega
      have hst := cmpF_end (f := f) (h := h) (n := i) (m := m)
      rw [hR.out] at hst
      have hd2 : ¬ (m : Int) < (i : Int) := by omega
      by_cases hx : i < m
      · have hx' : (i : Int) < (m : Int) := by omega
        rw [if_pos hx] at hst
        subst hst
        go_wp2
        go_ret
        exact ⟨rfl, bW⟩
      · have hx' : ¬ (i : Int) < (m : Int) := by omega
        rw [if_neg hx] at hst
        subst hst
        go_wp2
        go_ret
        exact ⟨rfl, bW⟩
end Go.Proofs.Ytglkddhifpnniaa
