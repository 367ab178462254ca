/-
  The order in which the specification's adjugate is reckoned: one walk in the text's order serves every order.
-/
import Derived.Test.YtfmbljmcdidocaaGreatMA
import Derived.StillTailTactics
namespace Go.Proofs.YtfmbljmcdidocaaGreat
open Go.RowKit

/-- The second region of a body. -/
def regOf : Option Code → Array Oper
  | some (.seq _ (.seq (.region _ ops _) _)) => ops
  | _ => #[]
def lexRun (ops : Array Oper) : Nat → Nat → Array Bool → Bool
  | 0, _, _ => true
  | f + 1, k, L => (Region.ready .any ops L).contains k && Region.free .any ops L k && lexRun ops f (k + 1) (L.setIfInBounds k true)
def setRun : Nat → Nat → Array Bool → Array Bool
  | 0, _, L => L
  | f + 1, k, L => setRun f (k + 1) (L.setIfInBounds k true)
theorem lexHead_of_run (ops : Array Oper) (g n : Nat) : ∀ (f k : Nat) (L : Array Bool), lexRun ops f k L = true → Region.lexHead .any ops g n (k + f) (setRun f k L) = true → Region.lexHead .any ops g (n + f) k L = true
  | 0, k, L, _, h => h
  | f + 1, k, L, hr, h => by
    simp only [lexRun, Bool.and_eq_true] at hr
    rw [← Nat.add_assoc]
    simp only [Region.lexHead, Bool.and_eq_true]
    refine ⟨hr.1, lexHead_of_run ops g n f (k + 1) _ hr.2 ?_⟩
    rw [Nat.add_right_comm, Nat.add_assoc]
    exact h
def fst (k : Nat) : Array Bool := (List.replicate k true ++ List.replicate (137 - k) false).toArray
theorem set0 : setRun 15 0 (fst 0) = fst 15 := by kernel_rfl
theorem set15 : setRun 15 15 (fst 15) = fst 30 := by kernel_rfl
theorem set30 : setRun 15 30 (fst 30) = fst 45 := by kernel_rfl
theorem set45 : setRun 15 45 (fst 45) = fst 60 := by kernel_rfl
theorem set60 : setRun 15 60 (fst 60) = fst 75 := by kernel_rfl
theorem set75 : setRun 15 75 (fst 75) = fst 90 := by kernel_rfl
theorem set90 : setRun 15 90 (fst 90) = fst 105 := by kernel_rfl
theorem set105 : setRun 15 105 (fst 105) = fst 120 := by kernel_rfl
theorem set120 : setRun 15 120 (fst 120) = fst 135 := by kernel_rfl
theorem fst0 : Array.replicate 137 false = fst 0 := by kernel_rfl
end Go.Proofs.YtfmbljmcdidocaaGreat
/-
  The specification's adjugate, walked.
-/
namespace Go.Proofs.YtfmbljmcdidocaaGreat
open Go.RowKit

theorem wsub {a b : Int} (ha : -(1000 * 1000) ≤ a ∧ a ≤ 1000 * 1000) (hb : -(1000 * 1000) ≤ b ∧ b ≤ 1000 * 1000) : IntKind.i64.wrap (IntKind.i64.wrap a - IntKind.i64.wrap b) = a - b := by
  rw [IntWalk.i64_in a (by omega), IntWalk.i64_in b (by omega), IntWalk.i64_in _ (by omega)]
end Go.Proofs.YtfmbljmcdidocaaGreat
