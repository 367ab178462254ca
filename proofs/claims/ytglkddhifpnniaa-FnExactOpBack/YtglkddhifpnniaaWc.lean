/-
  The specification's adjugate, walked.
-/
import Derived.Test.YtglkddhifpnniaaWalkB
import Derived.Test.YtglkddhifpnniaaLx
namespace Go.Proofs.Ytglkddhifpnniaa
open Go.RowKit

theorem wsub {a b : Int} (ha : -(1000 * 1000) ≤ a ∧ a ≤ 1000 * 1000) (hb : -(1000 * 1000) ≤ b ∧ b ≤ 1000 * 1000) : IntKind.i64.wrap (IntKind.i64.wrap a - IntKind.i64.wrap b) = a - b := by
  rw [IntWalk.i64_in a (by omega), IntWalk.i64_in b (by omega), IntWalk.i64_in _ (by omega)]
set_option maxRecDepth 100000 in
set_option maxHeartbeats 3200000 in
theorem specAdj_any {w : World} {b off cap : Nat} {f : Nat → Int} (h : Ints w b off 9 f) (hb : ∀ i, i < 9 → -1000 ≤ f i ∧ f i ≤ 1000) :
    Calls Try.prog 28 #[.slice (some ⟨b, off, none⟩) 9 cap] w fun e w' => ∃ g, e = .returned (.slice (some ⟨g, 0, none⟩) 9 9) ∧ w.heap.size ≤ g ∧ Own w' g 9 (adj f) ∧ Below w.heap.size w w' := by
  obtain ⟨⟨c0, c1, c2, c3, c4⟩, c5, c6, c7, c8⟩ := h.open9
  have p00 := mul_bound (hb 4 (by decide)) (hb 8 (by decide))
  have p01 := mul_bound (hb 5 (by decide)) (hb 7 (by decide))
  have p02 := mul_bound (hb 2 (by decide)) (hb 7 (by decide))
  have p03 := mul_bound (hb 1 (by decide)) (hb 8 (by decide))
  have p04 := mul_bound (hb 1 (by decide)) (hb 5 (by decide))
  have p05 := mul_bound (hb 2 (by decide)) (hb 4 (by decide))
  have p06 := mul_bound (hb 5 (by decide)) (hb 6 (by decide))
  have p07 := mul_bound (hb 3 (by decide)) (hb 8 (by decide))
  have p08 := mul_bound (hb 0 (by decide)) (hb 8 (by decide))
  have p09 := mul_bound (hb 2 (by decide)) (hb 6 (by decide))
  have p10 := mul_bound (hb 2 (by decide)) (hb 3 (by decide))
  have p11 := mul_bound (hb 0 (by decide)) (hb 5 (by decide))
  have p12 := mul_bound (hb 3 (by decide)) (hb 7 (by decide))
  have p13 := mul_bound (hb 4 (by decide)) (hb 6 (by decide))
  have p14 := mul_bound (hb 1 (by decide)) (hb 6 (by decide))
  have p15 := mul_bound (hb 0 (by decide)) (hb 7 (by decide))
  have p16 := mul_bound (hb 0 (by decide)) (hb 4 (by decide))
  have p17 := mul_bound (hb 1 (by decide)) (hb 3 (by decide))
  clear h
  go_enter Try.func28, Try.ntmps28
  go_wp2_with fail
  dsimp only [List.append]
  have hm : Try.prog.follows .mixedOrders = true := by kernel_rfl
  refine wp_region_still_tail 135 hm ?_ ?_
  · exact tail34
  change wpStill _ _ w.drew _ _ _
  simp only [List.take_succ_cons, List.take_zero, List.drop_succ_cons, List.drop_zero]
  repeat still_step
  refine wpStill_nil ?_
  have e0 := wsub p00 p01
  have e1 := wsub p02 p03
  have e2 := wsub p04 p05
  have e3 := wsub p06 p07
  have e4 := wsub p08 p09
  have e5 := wsub p10 p11
  have e6 := wsub p12 p13
  have e7 := wsub p14 p15
  have e8 := wsub p16 p17
  simp only [e0, e1, e2, e3, e4, e5, e6, e7, e8]
  clear e0 e1 e2 e3 e4 e5 e6 e7 e8 p00 p01 p02 p03 p04 p05 p06 p07 p08 p09 p10 p11 p12 p13 p14 p15 p16 p17 c0 c1 c2 c3 c4 c5 c6 c7 c8 hm
  change wpList _ _ _ _ _ w.drew
  go_wp2
  go_ret
  refine ⟨w.heap.size, rfl, Nat.le_refl _, ⟨_, at_new 2 w _, rfl, fun i hi => ?_⟩, (below_alloc _ _).drew⟩
  rcases (by omega : i = 0 ∨ i = 1 ∨ i = 2 ∨ i = 3 ∨ i = 4 ∨ i = 5 ∨ i = 6 ∨ i = 7 ∨ i = 8) with rfl | rfl | rfl | rfl | rfl | rfl | rfl | rfl | rfl <;> rfl
end Go.Proofs.Ytglkddhifpnniaa
