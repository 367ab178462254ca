/-
  The law on determinants, walked.
-/
import Derived.Test.YtlgkohiempcbhaaRows
import Derived.Test.YtlgkohiempcbhaaWalkF
namespace Go.Proofs.Ytlgkohiempcbhaa
open Go.RowKit

theorem Own.src {w : World} {g n : Nat} {f : Nat → Int} (h : Own w g n f) : Src w (some ⟨g, 0, none⟩) n f := .inr ⟨g, 0, rfl, h.lt, h.row⟩
theorem implDet_any {w : World} {a : Option Addr} {n cap : Nat} {f : Nat → Int} (hs : Src w a n f) :
    Calls Try.prog 21 #[.slice a n cap] w fun e w' => e = .returned (.int .i64 (detOf n f)) ∧ Below w.heap.size w w' := by
  have hdet : ∀ w, Calls Try.prog 40 #[.agg (matA (matOf n f))] w fun e w' => e = .returned (.int .i64 (detOf n f)) ∧ Below w.heap.size w w' := by
    intro w
    have h := det_any (matOf_bound n f) w
    rwa [det3_matOf] at h
  go_enter Try.func21, Try.ntmps21
  go_wp2_with fail
  refine (matrixOf_any hs).mono ?_
  rintro e w1 ⟨rfl, b1⟩
  go_wp2_with fail
  refine (hdet _).mono ?_
  rintro e w2 ⟨rfl, b2⟩
  go_wp2
  go_ret
  exact ⟨rfl, b1.trans (b2.mono b1.size)⟩
theorem exactDet_walk {w : World} {a : Option Addr} {n cap : Nat} {f : Nat → Int} (hs : Src w a n f) (hn : n ≤ maxLen) :
    Calls Try.prog 7 #[.slice a n cap] w fun e w' => e = .returned (.bool true) ∧ Below w.heap.size w w' := by
  by_cases hbig : 1048576 < n
  · have hb' : (1048576 : Int) < (n : Int) := by omega
    have hn2 : (n : Int) ≤ 9223372036854775807 := by unfold maxLen at hn; omega
    go_enter Try.func7, Try.ntmps7
    go_wp2
    go_ret
    exact ⟨rfl, Below.refl _ _⟩
  · have hb' : ¬ (1048576 : Int) < (n : Int) := by omega
    have hn1 : n ≤ 1048576 := by omega
    go_enter Try.func7, Try.ntmps7
    go_wp2_with fail
    refine (toInts_any hs hn1).mono ?_
    rintro e w1 ⟨g1, rfl, -, o1, b1⟩
    replace hs := hs.below b1
    go_wp2_with fail
    refine (specDet_any o1.src).mono ?_
    rintro e w2 ⟨rfl, b2⟩
    replace hs := hs.below b2
    replace b1 := b1.trans (b2.mono b1.size)
    clear o1 b2
    go_wp2_with fail
    refine (toInts_any hs hn1).mono ?_
    rintro e w3 ⟨g3, rfl, -, o3, b3⟩
    replace hs := hs.below b3
    replace b1 := b1.trans (b3.mono b1.size)
    clear b3
    go_wp2_with fail
    refine (implDet_any o3.src).mono ?_
    rintro e w4 ⟨rfl, b4⟩
    replace hs := hs.below b4
    replace o3 := o3.below b4
    replace b1 := b1.trans (b4.mono b1.size)
    clear b4
    go_wp2_with fail
    refine (toInts_any hs hn1).mono ?_
    rintro e w5 ⟨g5, rfl, -, o5, b5⟩
    replace o3 := o3.below b5
    replace b1 := b1.trans (b5.mono b1.size)
    clear b5
    go_wp2_with fail
    refine (eqInts_true o3.row o5.row o3.lt o5.lt hn1).mono ?_
    rintro e w6 ⟨rfl, b6⟩
    replace b1 := b1.trans (b6.mono b1.size)
    go_wp2
    go_ret
    exact ⟨rfl, b1⟩
theorem det_of {w : World} {a : Option Addr} {n cap : Nat} {zs : List Int} (h : IsRow .i64 w a n cap zs) :
    Calls Try.prog 7 #[.slice a n cap] w fun e w' => e = .returned (.bool true) ∧ Below w.heap.size w w' := by
  obtain ⟨f, hs, hn, -⟩ := src_of h
  exact exactDet_walk hs hn
end Go.Proofs.Ytlgkohiempcbhaa
