/-
  Covered, by the specification: walked.
-/
import Derived.Test.YtoijklicdjoeaaaFj
namespace Go.Proofs.Ytoijklicdjoeaaa
open Go.RowKit

set_option linter.unusedVariables false
set_option maxRecDepth 100000 in
set_option maxHeartbeats 8000000 in
theorem specCov_no0 {w : World} {g n c : Nat} {f : Nat → Int} (hn : n ≤ 1048576) (i j k : Int) (b : Bool) (hb : Tells b (CovP f n i j k)) (c0 : 40 < (n : Int)) :
    Calls Try.prog 13 #[.slice (some ⟨g, 0, none⟩) n c, .int .i64 i, .int .i64 j, .int .i64 k] w fun e w' => e = .returned (.bool b) ∧ Below w.heap.size w w' := by
  obtain rfl := CovP.no hb (fun h => by have := h.hi; omega)
  clear hb
  go_enter Try.func13, Try.ntmps13
  go_wp2
  go_ret
  exact ⟨rfl, Below.refl _ _⟩
set_option maxRecDepth 100000 in
set_option maxHeartbeats 8000000 in
theorem specCov_no1 {w : World} {g n c : Nat} {f : Nat → Int} (hn : n ≤ 1048576) (i j k : Int) (b : Bool) (hb : Tells b (CovP f n i j k)) (c0 : ¬ (40 < (n : Int))) (c1 : i < 0) :
    Calls Try.prog 13 #[.slice (some ⟨g, 0, none⟩) n c, .int .i64 i, .int .i64 j, .int .i64 k] w fun e w' => e = .returned (.bool b) ∧ Below w.heap.size w w' := by
  obtain rfl := CovP.no hb (fun h => by have := h.has0.1; omega)
  clear hb
  go_enter Try.func13, Try.ntmps13
  go_wp2
  go_ret
  exact ⟨rfl, Below.refl _ _⟩
set_option maxRecDepth 100000 in
set_option maxHeartbeats 8000000 in
theorem specCov_no2 {w : World} {g n c : Nat} {f : Nat → Int} (hn : n ≤ 1048576) (i j k : Int) (b : Bool) (hb : Tells b (CovP f n i j k)) (c0 : ¬ (40 < (n : Int))) (c1 : ¬ (i < 0)) (c2 : j < 0) :
    Calls Try.prog 13 #[.slice (some ⟨g, 0, none⟩) n c, .int .i64 i, .int .i64 j, .int .i64 k] w fun e w' => e = .returned (.bool b) ∧ Below w.heap.size w w' := by
  obtain rfl := CovP.no hb (fun h => by have := h.has1.1; omega)
  clear hb
  go_enter Try.func13, Try.ntmps13
  go_wp2
  go_ret
  exact ⟨rfl, Below.refl _ _⟩
set_option maxRecDepth 100000 in
set_option maxHeartbeats 8000000 in
theorem specCov_no3 {w : World} {g n c : Nat} {f : Nat → Int} (hn : n ≤ 1048576) (i j k : Int) (b : Bool) (hb : Tells b (CovP f n i j k)) (c0 : ¬ (40 < (n : Int))) (c1 : ¬ (i < 0)) (c2 : ¬ (j < 0)) (c3 : k < 0) :
    Calls Try.prog 13 #[.slice (some ⟨g, 0, none⟩) n c, .int .i64 i, .int .i64 j, .int .i64 k] w fun e w' => e = .returned (.bool b) ∧ Below w.heap.size w w' := by
  obtain rfl := CovP.no hb (fun h => by have := h.has2.1; omega)
  clear hb
  go_enter Try.func13, Try.ntmps13
  go_wp2
  go_ret
  exact ⟨rfl, Below.refl _ _⟩
end Go.Proofs.Ytoijklicdjoeaaa
