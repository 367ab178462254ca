/-
  Covered, by the specification: walked.
-/
import Derived.Test.YtoijklicdjoeaaaFj
namespace Go.Proofs.Ytoijklicdjoeaaa
open Go.RowKit

set_option linter.unusedVariables false
set_option maxRecDepth 100000 in
set_option maxHeartbeats 8000000 in
theorem specCov_no7 {w : World} {g n c : Nat} {f : Nat → Int} (hn : n ≤ 1048576) (i j k : Int) (b : Bool) (hb : Tells b (CovP f n i j k)) (c0 : ¬ (40 < (n : Int))) (c1 : ¬ (i < 0)) (c2 : ¬ (j < 0)) (c3 : ¬ (k < 0)) (c4 : ¬ ((n : Int) ≤ i)) (c5 : ¬ ((n : Int) ≤ j)) (c6 : ¬ ((n : Int) ≤ k)) (c7 : i = j) :
    Calls Try.prog 13 #[.slice (some ⟨g, 0, none⟩) n c, .int .i64 i, .int .i64 j, .int .i64 k] w fun e w' => e = .returned (.bool b) ∧ Below w.heap.size w w' := by
  obtain rfl := CovP.no hb (fun h => h.ne0 c7)
  clear hb
  go_enter Try.func13, Try.ntmps13
  go_wp2
  go_ret
  exact ⟨rfl, Below.refl _ _⟩
set_option maxRecDepth 100000 in
set_option maxHeartbeats 8000000 in
theorem specCov_no8 {w : World} {g n c : Nat} {f : Nat → Int} (hn : n ≤ 1048576) (i j k : Int) (b : Bool) (hb : Tells b (CovP f n i j k)) (c0 : ¬ (40 < (n : Int))) (c1 : ¬ (i < 0)) (c2 : ¬ (j < 0)) (c3 : ¬ (k < 0)) (c4 : ¬ ((n : Int) ≤ i)) (c5 : ¬ ((n : Int) ≤ j)) (c6 : ¬ ((n : Int) ≤ k)) (c7 : ¬ (i = j)) (c8 : i = k) :
    Calls Try.prog 13 #[.slice (some ⟨g, 0, none⟩) n c, .int .i64 i, .int .i64 j, .int .i64 k] w fun e w' => e = .returned (.bool b) ∧ Below w.heap.size w w' := by
  obtain rfl := CovP.no hb (fun h => h.ne2 c8.symm)
  clear hb
  have e7 : (i == j) = false := by rw [beq_eq_false_iff_ne]; exact c7
  go_enter Try.func13, Try.ntmps13
  go_wp2
  go_ret
  exact ⟨rfl, Below.refl _ _⟩
set_option maxRecDepth 100000 in
set_option maxHeartbeats 8000000 in
theorem specCov_no9 {w : World} {g n c : Nat} {f : Nat → Int} (hn : n ≤ 1048576) (i j k : Int) (b : Bool) (hb : Tells b (CovP f n i j k)) (c0 : ¬ (40 < (n : Int))) (c1 : ¬ (i < 0)) (c2 : ¬ (j < 0)) (c3 : ¬ (k < 0)) (c4 : ¬ ((n : Int) ≤ i)) (c5 : ¬ ((n : Int) ≤ j)) (c6 : ¬ ((n : Int) ≤ k)) (c7 : ¬ (i = j)) (c8 : ¬ (i = k)) (c9 : j = k) :
    Calls Try.prog 13 #[.slice (some ⟨g, 0, none⟩) n c, .int .i64 i, .int .i64 j, .int .i64 k] w fun e w' => e = .returned (.bool b) ∧ Below w.heap.size w w' := by
  obtain rfl := CovP.no hb (fun h => h.ne1 c9)
  clear hb
  have e7 : (i == j) = false := by rw [beq_eq_false_iff_ne]; exact c7
  have e8 : (i == k) = false := by rw [beq_eq_false_iff_ne]; exact c8
  go_enter Try.func13, Try.ntmps13
  go_wp2
  go_ret
  exact ⟨rfl, Below.refl _ _⟩
end Go.Proofs.Ytoijklicdjoeaaa
