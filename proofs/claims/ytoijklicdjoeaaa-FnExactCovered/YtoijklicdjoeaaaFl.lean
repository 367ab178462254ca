/-
  Covered, by the specification: walked.
-/
import Derived.Test.YtoijklicdjoeaaaFj
namespace Go.Proofs.Ytoijklicdjoeaaa
open Go.RowKit

set_option linter.unusedVariables false
set_option maxRecDepth 100000 in
set_option maxHeartbeats 8000000 in
theorem specCov_no4 {w : World} {g n c : Nat} {f : Nat → Int} (hn : n ≤ 1048576) (i j k : Int) (b : Bool) (hb : Tells b (CovP f n i j k)) (c0 : ¬ (40 < (n : Int))) (c1 : ¬ (i < 0)) (c2 : ¬ (j < 0)) (c3 : ¬ (k < 0)) (c4 : (n : Int) ≤ i) :
    Calls Try.prog 13 #[.slice (some ⟨g, 0, none⟩) n c, .int .i64 i, .int .i64 j, .int .i64 k] w fun e w' => e = .returned (.bool b) ∧ Below w.heap.size w w' := by
  obtain rfl := CovP.no hb (fun h => by have := h.has0.2.1; omega)
  clear hb
  go_enter Try.func13, Try.ntmps13
  go_wp2
  go_ret
  exact ⟨rfl, Below.refl _ _⟩
set_option maxRecDepth 100000 in
set_option maxHeartbeats 8000000 in
theorem specCov_no5 {w : World} {g n c : Nat} {f : Nat → Int} (hn : n ≤ 1048576) (i j k : Int) (b : Bool) (hb : Tells b (CovP f n i j k)) (c0 : ¬ (40 < (n : Int))) (c1 : ¬ (i < 0)) (c2 : ¬ (j < 0)) (c3 : ¬ (k < 0)) (c4 : ¬ ((n : Int) ≤ i)) (c5 : (n : Int) ≤ j) :
    Calls Try.prog 13 #[.slice (some ⟨g, 0, none⟩) n c, .int .i64 i, .int .i64 j, .int .i64 k] w fun e w' => e = .returned (.bool b) ∧ Below w.heap.size w w' := by
  obtain rfl := CovP.no hb (fun h => by have := h.has1.2.1; omega)
  clear hb
  go_enter Try.func13, Try.ntmps13
  go_wp2
  go_ret
  exact ⟨rfl, Below.refl _ _⟩
set_option maxRecDepth 100000 in
set_option maxHeartbeats 8000000 in
theorem specCov_no6 {w : World} {g n c : Nat} {f : Nat → Int} (hn : n ≤ 1048576) (i j k : Int) (b : Bool) (hb : Tells b (CovP f n i j k)) (c0 : ¬ (40 < (n : Int))) (c1 : ¬ (i < 0)) (c2 : ¬ (j < 0)) (c3 : ¬ (k < 0)) (c4 : ¬ ((n : Int) ≤ i)) (c5 : ¬ ((n : Int) ≤ j)) (c6 : (n : Int) ≤ k) :
    Calls Try.prog 13 #[.slice (some ⟨g, 0, none⟩) n c, .int .i64 i, .int .i64 j, .int .i64 k] w fun e w' => e = .returned (.bool b) ∧ Below w.heap.size w w' := by
  obtain rfl := CovP.no hb (fun h => by have := h.has2.2.1; omega)
  clear hb
  go_enter Try.func13, Try.ntmps13
  go_wp2
  go_ret
  exact ⟨rfl, Below.refl _ _⟩
end Go.Proofs.Ytoijklicdjoeaaa
