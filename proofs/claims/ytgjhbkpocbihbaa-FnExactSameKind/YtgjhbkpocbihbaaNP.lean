/-
  The order in which the specification's adjugate is reckoned: one walk in the text's order serves every order.
-/
import Derived.Test.YtgjhbkpocbihbaaMA
import Derived.StillTailTactics
namespace Go.Proofs.Ytgjhbkpocbihbaa
open Go.RowKit

/-- The second region of a body. -/
def regOf : Option Code → Array Oper
  | some (.seq _ (.seq (.region _ ops _) _)) => ops
  | _ => #[]
theorem ops34_size : (regOf Try.f42.body).size = 137 := by kernel_rfl
def lexRun (ops : Array Oper) : Nat → Nat → Array Bool → Bool
  | 0, _, _ => true
  | f + 1, k, L => (Region.ready .any ops L).contains k && Region.free .any ops L k && lexRun ops f (k + 1) (L.setIfInBounds k true)
def setRun : Nat → Nat → Array Bool → Array Bool
  | 0, _, L => L
  | f + 1, k, L => setRun f (k + 1) (L.setIfInBounds k true)
theorem lexHead_of_run (ops : Array Oper) (g n : Nat) : ∀ (f k : Nat) (L : Array Bool), lexRun ops f k L = true → Region.lexHead .any ops g n (k + f) (setRun f k L) = true → Region.lexHead .any ops g (n + f) k L = true
  | 0, k, L, _, h => h
  | f + 1, k, L, hr, h => by
    simp only [lexRun, Bool.and_eq_true] at hr
    rw [← Nat.add_assoc]
    simp only [Region.lexHead, Bool.and_eq_true]
    refine ⟨hr.1, lexHead_of_run ops g n f (k + 1) _ hr.2 ?_⟩
    rw [Nat.add_right_comm, Nat.add_assoc]
    exact h
def fst (k : Nat) : Array Bool := (List.replicate k true ++ List.replicate (137 - k) false).toArray
theorem run0 : lexRun (regOf Try.f42.body) 15 0 (fst 0) = true := by kernel_rfl
theorem set0 : setRun 15 0 (fst 0) = fst 15 := by kernel_rfl
theorem run15 : lexRun (regOf Try.f42.body) 15 15 (fst 15) = true := by kernel_rfl
theorem set15 : setRun 15 15 (fst 15) = fst 30 := by kernel_rfl
theorem run30 : lexRun (regOf Try.f42.body) 15 30 (fst 30) = true := by kernel_rfl
theorem set30 : setRun 15 30 (fst 30) = fst 45 := by kernel_rfl
theorem run45 : lexRun (regOf Try.f42.body) 15 45 (fst 45) = true := by kernel_rfl
theorem set45 : setRun 15 45 (fst 45) = fst 60 := by kernel_rfl
theorem run60 : lexRun (regOf Try.f42.body) 15 60 (fst 60) = true := by kernel_rfl
theorem set60 : setRun 15 60 (fst 60) = fst 75 := by kernel_rfl
theorem run75 : lexRun (regOf Try.f42.body) 15 75 (fst 75) = true := by kernel_rfl
theorem set75 : setRun 15 75 (fst 75) = fst 90 := by kernel_rfl
theorem run90 : lexRun (regOf Try.f42.body) 15 90 (fst 90) = true := by kernel_rfl
theorem set90 : setRun 15 90 (fst 90) = fst 105 := by kernel_rfl
theorem run105 : lexRun (regOf Try.f42.body) 15 105 (fst 105) = true := by kernel_rfl
theorem set105 : setRun 15 105 (fst 105) = fst 120 := by kernel_rfl
theorem run120 : lexRun (regOf Try.f42.body) 15 120 (fst 120) = true := by kernel_rfl
theorem set120 : setRun 15 120 (fst 120) = fst 135 := by kernel_rfl
theorem seqLast : Region.lexHead .any (regOf Try.f42.body) 2 0 135 (fst 135) = true := by kernel_rfl
theorem head120 : Region.lexHead .any (regOf Try.f42.body) 2 15 120 (fst 120) = true := lexHead_of_run (regOf Try.f42.body) 2 0 15 120 (fst 120) run120 (set120 ▸ seqLast)
theorem head105 : Region.lexHead .any (regOf Try.f42.body) 2 30 105 (fst 105) = true := lexHead_of_run (regOf Try.f42.body) 2 15 15 105 (fst 105) run105 (set105 ▸ head120)
theorem head90 : Region.lexHead .any (regOf Try.f42.body) 2 45 90 (fst 90) = true := lexHead_of_run (regOf Try.f42.body) 2 30 15 90 (fst 90) run90 (set90 ▸ head105)
theorem head75 : Region.lexHead .any (regOf Try.f42.body) 2 60 75 (fst 75) = true := lexHead_of_run (regOf Try.f42.body) 2 45 15 75 (fst 75) run75 (set75 ▸ head90)
theorem head60 : Region.lexHead .any (regOf Try.f42.body) 2 75 60 (fst 60) = true := lexHead_of_run (regOf Try.f42.body) 2 60 15 60 (fst 60) run60 (set60 ▸ head75)
theorem head45 : Region.lexHead .any (regOf Try.f42.body) 2 90 45 (fst 45) = true := lexHead_of_run (regOf Try.f42.body) 2 75 15 45 (fst 45) run45 (set45 ▸ head60)
theorem head30 : Region.lexHead .any (regOf Try.f42.body) 2 105 30 (fst 30) = true := lexHead_of_run (regOf Try.f42.body) 2 90 15 30 (fst 30) run30 (set30 ▸ head45)
theorem head15 : Region.lexHead .any (regOf Try.f42.body) 2 120 15 (fst 15) = true := lexHead_of_run (regOf Try.f42.body) 2 105 15 15 (fst 15) run15 (set15 ▸ head30)
theorem head0 : Region.lexHead .any (regOf Try.f42.body) 2 135 0 (fst 0) = true := lexHead_of_run (regOf Try.f42.body) 2 120 15 0 (fst 0) run0 (set0 ▸ head15)
theorem sel34 : Region.noSelect (regOf Try.f42.body) = true := by kernel_rfl
theorem sink34 : Region.sinkB .any (regOf Try.f42.body) 135 = true := by kernel_rfl
theorem chain34 : Region.chainB .any (regOf Try.f42.body) 135 = true := by kernel_rfl
theorem fst0 : Array.replicate 137 false = fst 0 := by kernel_rfl
theorem tail34 : Region.lexTailB .any (regOf Try.f42.body) 135 = true := by
  unfold Region.lexTailB
  rw [sel34, sink34, chain34, ops34_size, fst0, show 137 - 135 = 2 from rfl, head0]
  rfl
end Go.Proofs.Ytgjhbkpocbihbaa
/-
  The specification's adjugate, walked.
-/
namespace Go.Proofs.Ytgjhbkpocbihbaa
open Go.RowKit

theorem wsub {a b : Int} (ha : -(1000 * 1000) ≤ a ∧ a ≤ 1000 * 1000) (hb : -(1000 * 1000) ≤ b ∧ b ≤ 1000 * 1000) : IntKind.i64.wrap (IntKind.i64.wrap a - IntKind.i64.wrap b) = a - b := by
  rw [IntWalk.i64_in a (by omega), IntWalk.i64_in b (by omega), IntWalk.i64_in _ (by omega)]
set_option maxRecDepth 100000 in
set_option maxHeartbeats 3200000 in
theorem specAdj_any {w : World} {b off cap : Nat} {f : Nat → Int} (h : Ints w b off 9 f) (hb : ∀ i, i < 9 → -1000 ≤ f i ∧ f i ≤ 1000) :
    Calls Try.prog 42 #[.slice (some ⟨b, off, none⟩) 9 cap] w fun e w' => ∃ g, e = .returned (.slice (some ⟨g, 0, none⟩) 9 9) ∧ w.heap.size ≤ g ∧ Own w' g 9 (adj f) ∧ Below w.heap.size w w' := by
  obtain ⟨⟨c0, c1, c2, c3, c4⟩, c5, c6, c7, c8⟩ := h.open9
  have p00 := mul_bound (hb 4 (by decide)) (hb 8 (by decide))
  have p01 := mul_bound (hb 5 (by decide)) (hb 7 (by decide))
  have p02 := mul_bound (hb 2 (by decide)) (hb 7 (by decide))
  have p03 := mul_bound (hb 1 (by decide)) (hb 8 (by decide))
  have p04 := mul_bound (hb 1 (by decide)) (hb 5 (by decide))
  have p05 := mul_bound (hb 2 (by decide)) (hb 4 (by decide))
  have p06 := mul_bound (hb 5 (by decide)) (hb 6 (by decide))
  have p07 := mul_bound (hb 3 (by decide)) (hb 8 (by decide))
  have p08 := mul_bound (hb 0 (by decide)) (hb 8 (by decide))
  have p09 := mul_bound (hb 2 (by decide)) (hb 6 (by decide))
  have p10 := mul_bound (hb 2 (by decide)) (hb 3 (by decide))
  have p11 := mul_bound (hb 0 (by decide)) (hb 5 (by decide))
  have p12 := mul_bound (hb 3 (by decide)) (hb 7 (by decide))
  have p13 := mul_bound (hb 4 (by decide)) (hb 6 (by decide))
  have p14 := mul_bound (hb 1 (by decide)) (hb 6 (by decide))
  have p15 := mul_bound (hb 0 (by decide)) (hb 7 (by decide))
  have p16 := mul_bound (hb 0 (by decide)) (hb 4 (by decide))
  have p17 := mul_bound (hb 1 (by decide)) (hb 3 (by decide))
  clear h
  go_enter Try.func42, Try.ntmps42
  go_wp2_with fail
  dsimp only [List.append]
  have hm : Try.prog.follows .mixedOrders = true := by kernel_rfl
  refine wp_region_still_tail 135 hm ?_ ?_
  · exact tail34
  change wpStill _ _ w.drew _ _ _
  simp only [List.take_succ_cons, List.take_zero, List.drop_succ_cons, List.drop_zero]
  repeat still_step
  refine wpStill_nil ?_
  have e0 := wsub p00 p01
  have e1 := wsub p02 p03
  have e2 := wsub p04 p05
  have e3 := wsub p06 p07
  have e4 := wsub p08 p09
  have e5 := wsub p10 p11
  have e6 := wsub p12 p13
  have e7 := wsub p14 p15
  have e8 := wsub p16 p17
  simp only [e0, e1, e2, e3, e4, e5, e6, e7, e8]
  clear e0 e1 e2 e3 e4 e5 e6 e7 e8 p00 p01 p02 p03 p04 p05 p06 p07 p08 p09 p10 p11 p12 p13 p14 p15 p16 p17 c0 c1 c2 c3 c4 c5 c6 c7 c8 hm
  change wpList _ _ _ _ _ w.drew
  go_wp2
  go_ret
  refine ⟨w.heap.size, rfl, Nat.le_refl _, ⟨_, at_new 2 w _, rfl, fun i hi => ?_⟩, (below_alloc _ _).drew⟩
  rcases (by omega : i = 0 ∨ i = 1 ∨ i = 2 ∨ i = 3 ∨ i = 4 ∨ i = 5 ∨ i = 6 ∨ i = 7 ∨ i = 8) with rfl | rfl | rfl | rfl | rfl | rfl | rfl | rfl | rfl <;> rfl
end Go.Proofs.Ytgjhbkpocbihbaa
