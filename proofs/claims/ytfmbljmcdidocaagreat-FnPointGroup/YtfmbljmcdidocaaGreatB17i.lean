/-
  The laws' comparisons of operators, told both ways, and what lies in a list of operators: walked.
-/
import Derived.Test.YtfmbljmcdidocaaGreatNN
import Derived.Test.YtfmbljmcdidocaaGreatMF
import Derived.Test.YtfmbljmcdidocaaGreatMH
namespace Go.Proofs.YtfmbljmcdidocaaGreat
open Go.RowKit

abbrev KbI (u w : World) : Prop := Below u.heap.size u w
theorem hidI {p : Prop} (h : p) : Hid p := h
theorem Src.get {w w' : World} {a : Option Addr} {n k : Nat} {f : Nat → Int} (h : Src w a n f) (hb : Below w.heap.size w w') (hk : k < n) : ∃ g o, a = some ⟨g, o, none⟩ ∧ w'.cell? ⟨g, o + k, none⟩ = some (.int .i64 (f k)) := by
  rcases h with h0 | ⟨g, o, e, l, r⟩
  · omega
  · exact ⟨g, o, e, (hb.cell (p := ⟨g, o + k, none⟩) l).trans (r k hk)⟩
theorem sameInts_any {w : World} {a1 a2 : Option Addr} {n m c1 c2 : Nat} {f h : Nat → Int} (h1 : Src w a1 n f) (h2 : Src w a2 m h) (hn : n ≤ 1048576) (hm : m ≤ 1048576) :
    Calls Tryz.prog 10 #[.slice a1 n c1, .slice a2 m c2] w fun e w' => Tells e (n = m ∧ ∀ i, i < n → f i = h i) ∧ Below w.heap.size w w' := by
  by_cases hnm : n = m
  · subst hnm
    have H1 := hidI h1
    have H2 := hidI h2
    clear h1 h2
    go_enter Tryz.func10, Tryz.ntmps10
    go_wp2
    go_loopw [5] (fun s wr => ∃ k : Nat, k ≤ n ∧ s = .int .i64 k ∧ Hid (∀ i, i < k → f i = h i) ∧ Below w.heap.size w wr) (fun s _ => n - (intOf s).toNat)
    case atStart => exact ⟨0, Nat.zero_le _, rfl, fun i hi => absurd hi (Nat.not_lt_zero _), Below.refl _ _⟩
    case round =>
      obtain ⟨k, hk, rfl, HE, hbel⟩ := hrel
      by_cases hlt : k < n
      · have hlt' : (k : Int) < (n : Int) := by omega
        have hk0 : (0 : Int) ≤ (k : Int) := by omega
        obtain ⟨g1, o1, rfl, q0⟩ := H1.out.get hbel hlt
        obtain ⟨g2, o2, rfl, q1⟩ := H2.out.get hbel hlt
        have HF := hidI (show f k = f k from rfl)
        obtain ⟨x, hx⟩ : ∃ x, f k = x := ⟨_, rfl⟩
        obtain ⟨y, hy⟩ : ∃ x, h k = x := ⟨_, rfl⟩
        have HX := hidI hx
        have HY := hidI hy
        rw [hx] at q0
        rw [hy] at q1
        clear hx hy HF
        by_cases hxy : x = y
        · subst hxy
          have HE2 : Hid (∀ i, i < k + 1 → f i = h i) := fun i hi => by
            by_cases e : i = k
            · rw [e]; exact HX.out.trans HY.out.symm
            · exact HE.out i (by omega)
          clear HE HX HY
          go_wp2
          go_quiet (fail)
          go_wp2
          go_roundw
          case rel => exact ⟨k + 1, by omega, by go_num, HE2, below_drewN hbel _⟩
          case measure => simp [intOf]; omega
        · have NO : Hid (Tells (.returned (.bool false)) (n = n ∧ ∀ i, i < n → f i = h i)) := tells_no (fun z => hxy (HX.out.symm.trans ((z.2 k hlt).trans HY.out)))
          clear HE HX HY
          go_wp2
          go_quiet (fail)
          go_wp2
          go_ret
          exact ⟨NO.out, below_drewN hbel _⟩
      · have hlt' : ¬ (k : Int) < (n : Int) := by omega
        obtain rfl : k = n := by omega
        go_wp2
        go_ret
        first | exact ⟨tells_yes ⟨rfl, HE.out⟩, hbel⟩ | exact ⟨tells_yes HE.out, hbel⟩
  · have hnm' : ¬ (n : Int) = (m : Int) := by omega
    clear h1 h2
    go_enter Tryz.func10, Tryz.ntmps10
    go_wp2
    go_ret
    exact ⟨tells_no (fun z => hnm z.1), Below.refl _ _⟩
/-- Two operators of the same numbers. -/
def sameD (x y : OpD) : Prop := (x.n = y.n ∧ ∀ i, i < x.n → x.f i = y.f i) ∧ (x.k = y.k ∧ ∀ i, i < x.k → x.h i = y.h i)
end Go.Proofs.YtfmbljmcdidocaaGreat
