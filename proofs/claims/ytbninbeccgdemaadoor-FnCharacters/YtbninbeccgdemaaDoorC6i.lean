/-
  Traces are told again by how often each row stands: sums of roots undone. No walk.
-/
import Derived.Test.YtbninbeccgdemaaDoorC6b
namespace Go.Proofs.YtbninbeccgdemaaDoor
open Go.RowKit

set_option maxRecDepth 100000 in
set_option maxHeartbeats 4000000 in
theorem inv1 {f q : Nat → Int} (h0 : ∀ k, k < 1 → rs 1 f 1 k 0 = 1 * q k) (h1 : ∀ k, k < 1 → rs 1 f 1 k 1 = 0 ∧ rs 1 f 1 k 2 = 0 ∧ rs 1 f 1 k 3 = 0) : ∀ j, j < 1 → ∀ c, c < 4 → ux 1 q j c 1 = if c = 0 then f j else 0 := by
  have e0_0 : rs 1 f 1 0 0 = 0 + f 0 * (1) := by kernel_rfl
  have e0_1 : rs 1 f 1 0 1 = 0 + f 0 * (0) := by kernel_rfl
  have e0_2 : rs 1 f 1 0 2 = 0 + f 0 * (0) := by kernel_rfl
  have e0_3 : rs 1 f 1 0 3 = 0 + f 0 * (0) := by kernel_rfl
  have z0 := h0 0 (by omega)
  obtain ⟨y0, x0, w0⟩ := h1 0 (by omega)
  rw [e0_0] at z0
  rw [e0_1] at y0
  rw [e0_2] at x0
  rw [e0_3] at w0
  clear e0_0 e0_1 e0_2 e0_3
  clear h0 h1
  intro j hj c hc
  rcases (by omega : j = 0) with rfl
  · rcases (by omega : c = 0 ∨ c = 1 ∨ c = 2 ∨ c = 3) with rfl | rfl | rfl | rfl
    · rw [show ux 1 q 0 0 1 = 0 + q 0 * (1) by kernel_rfl]
      rw [if_pos rfl]
      omega
    · rw [show ux 1 q 0 1 1 = 0 + q 0 * (0) by kernel_rfl]
      rw [if_neg (by omega)]
      omega
    · rw [show ux 1 q 0 2 1 = 0 + q 0 * (0) by kernel_rfl]
      rw [if_neg (by omega)]
      omega
    · rw [show ux 1 q 0 3 1 = 0 + q 0 * (0) by kernel_rfl]
      rw [if_neg (by omega)]
      omega
set_option maxRecDepth 100000 in
set_option maxHeartbeats 4000000 in
theorem inv2 {f q : Nat → Int} (h0 : ∀ k, k < 2 → rs 2 f 2 k 0 = 2 * q k) (h1 : ∀ k, k < 2 → rs 2 f 2 k 1 = 0 ∧ rs 2 f 2 k 2 = 0 ∧ rs 2 f 2 k 3 = 0) : ∀ j, j < 2 → ∀ c, c < 4 → ux 2 q j c 2 = if c = 0 then f j else 0 := by
  have e0_0 : rs 2 f 2 0 0 = 0 + f 0 * (1) + f 1 * (1) := by kernel_rfl
  have e0_1 : rs 2 f 2 0 1 = 0 + f 0 * (0) + f 1 * (0) := by kernel_rfl
  have e0_2 : rs 2 f 2 0 2 = 0 + f 0 * (0) + f 1 * (0) := by kernel_rfl
  have e0_3 : rs 2 f 2 0 3 = 0 + f 0 * (0) + f 1 * (0) := by kernel_rfl
  have z0 := h0 0 (by omega)
  obtain ⟨y0, x0, w0⟩ := h1 0 (by omega)
  rw [e0_0] at z0
  rw [e0_1] at y0
  rw [e0_2] at x0
  rw [e0_3] at w0
  clear e0_0 e0_1 e0_2 e0_3
  have e1_0 : rs 2 f 2 1 0 = 0 + f 0 * (1) + f 1 * (-1) := by kernel_rfl
  have e1_1 : rs 2 f 2 1 1 = 0 + f 0 * (0) + f 1 * (0) := by kernel_rfl
  have e1_2 : rs 2 f 2 1 2 = 0 + f 0 * (0) + f 1 * (0) := by kernel_rfl
  have e1_3 : rs 2 f 2 1 3 = 0 + f 0 * (0) + f 1 * (0) := by kernel_rfl
  have z1 := h0 1 (by omega)
  obtain ⟨y1, x1, w1⟩ := h1 1 (by omega)
  rw [e1_0] at z1
  rw [e1_1] at y1
  rw [e1_2] at x1
  rw [e1_3] at w1
  clear e1_0 e1_1 e1_2 e1_3
  clear h0 h1
  intro j hj c hc
  rcases (by omega : j = 0 ∨ j = 1) with rfl | rfl
  · rcases (by omega : c = 0 ∨ c = 1 ∨ c = 2 ∨ c = 3) with rfl | rfl | rfl | rfl
    · rw [show ux 2 q 0 0 2 = 0 + q 0 * (1) + q 1 * (1) by kernel_rfl]
      rw [if_pos rfl]
      omega
    · rw [show ux 2 q 0 1 2 = 0 + q 0 * (0) + q 1 * (0) by kernel_rfl]
      rw [if_neg (by omega)]
      omega
    · rw [show ux 2 q 0 2 2 = 0 + q 0 * (0) + q 1 * (0) by kernel_rfl]
      rw [if_neg (by omega)]
      omega
    · rw [show ux 2 q 0 3 2 = 0 + q 0 * (0) + q 1 * (0) by kernel_rfl]
      rw [if_neg (by omega)]
      omega
  · rcases (by omega : c = 0 ∨ c = 1 ∨ c = 2 ∨ c = 3) with rfl | rfl | rfl | rfl
    · rw [show ux 2 q 1 0 2 = 0 + q 0 * (1) + q 1 * (-1) by kernel_rfl]
      rw [if_pos rfl]
      omega
    · rw [show ux 2 q 1 1 2 = 0 + q 0 * (0) + q 1 * (0) by kernel_rfl]
      rw [if_neg (by omega)]
      omega
    · rw [show ux 2 q 1 2 2 = 0 + q 0 * (0) + q 1 * (0) by kernel_rfl]
      rw [if_neg (by omega)]
      omega
    · rw [show ux 2 q 1 3 2 = 0 + q 0 * (0) + q 1 * (0) by kernel_rfl]
      rw [if_neg (by omega)]
      omega
set_option maxRecDepth 100000 in
set_option maxHeartbeats 4000000 in
theorem inv3 {f q : Nat → Int} (h0 : ∀ k, k < 3 → rs 3 f 3 k 0 = 3 * q k) (h1 : ∀ k, k < 3 → rs 3 f 3 k 1 = 0 ∧ rs 3 f 3 k 2 = 0 ∧ rs 3 f 3 k 3 = 0) : ∀ j, j < 3 → ∀ c, c < 4 → ux 3 q j c 3 = if c = 0 then f j else 0 := by
  have e0_0 : rs 3 f 3 0 0 = 0 + f 0 * (1) + f 1 * (1) + f 2 * (1) := by kernel_rfl
  have e0_1 : rs 3 f 3 0 1 = 0 + f 0 * (0) + f 1 * (0) + f 2 * (0) := by kernel_rfl
  have e0_2 : rs 3 f 3 0 2 = 0 + f 0 * (0) + f 1 * (0) + f 2 * (0) := by kernel_rfl
  have e0_3 : rs 3 f 3 0 3 = 0 + f 0 * (0) + f 1 * (0) + f 2 * (0) := by kernel_rfl
  have z0 := h0 0 (by omega)
  obtain ⟨y0, x0, w0⟩ := h1 0 (by omega)
  rw [e0_0] at z0
  rw [e0_1] at y0
  rw [e0_2] at x0
  rw [e0_3] at w0
  clear e0_0 e0_1 e0_2 e0_3
  have e1_0 : rs 3 f 3 1 0 = 0 + f 0 * (1) + f 1 * (0) + f 2 * (-1) := by kernel_rfl
  have e1_1 : rs 3 f 3 1 1 = 0 + f 0 * (0) + f 1 * (0) + f 2 * (0) := by kernel_rfl
  have e1_2 : rs 3 f 3 1 2 = 0 + f 0 * (0) + f 1 * (-1) + f 2 * (1) := by kernel_rfl
  have e1_3 : rs 3 f 3 1 3 = 0 + f 0 * (0) + f 1 * (0) + f 2 * (0) := by kernel_rfl
  have z1 := h0 1 (by omega)
  obtain ⟨y1, x1, w1⟩ := h1 1 (by omega)
  rw [e1_0] at z1
  rw [e1_1] at y1
  rw [e1_2] at x1
  rw [e1_3] at w1
  clear e1_0 e1_1 e1_2 e1_3
  have e2_0 : rs 3 f 3 2 0 = 0 + f 0 * (1) + f 1 * (-1) + f 2 * (0) := by kernel_rfl
  have e2_1 : rs 3 f 3 2 1 = 0 + f 0 * (0) + f 1 * (0) + f 2 * (0) := by kernel_rfl
  have e2_2 : rs 3 f 3 2 2 = 0 + f 0 * (0) + f 1 * (1) + f 2 * (-1) := by kernel_rfl
  have e2_3 : rs 3 f 3 2 3 = 0 + f 0 * (0) + f 1 * (0) + f 2 * (0) := by kernel_rfl
  have z2 := h0 2 (by omega)
  obtain ⟨y2, x2, w2⟩ := h1 2 (by omega)
  rw [e2_0] at z2
  rw [e2_1] at y2
  rw [e2_2] at x2
  rw [e2_3] at w2
  clear e2_0 e2_1 e2_2 e2_3
  clear h0 h1
  intro j hj c hc
  rcases (by omega : j = 0 ∨ j = 1 ∨ j = 2) with rfl | rfl | rfl
  · rcases (by omega : c = 0 ∨ c = 1 ∨ c = 2 ∨ c = 3) with rfl | rfl | rfl | rfl
    · rw [show ux 3 q 0 0 3 = 0 + q 0 * (1) + q 1 * (1) + q 2 * (1) by kernel_rfl]
      rw [if_pos rfl]
      omega
    · rw [show ux 3 q 0 1 3 = 0 + q 0 * (0) + q 1 * (0) + q 2 * (0) by kernel_rfl]
      rw [if_neg (by omega)]
      omega
    · rw [show ux 3 q 0 2 3 = 0 + q 0 * (0) + q 1 * (0) + q 2 * (0) by kernel_rfl]
      rw [if_neg (by omega)]
      omega
    · rw [show ux 3 q 0 3 3 = 0 + q 0 * (0) + q 1 * (0) + q 2 * (0) by kernel_rfl]
      rw [if_neg (by omega)]
      omega
  · rcases (by omega : c = 0 ∨ c = 1 ∨ c = 2 ∨ c = 3) with rfl | rfl | rfl | rfl
    · rw [show ux 3 q 1 0 3 = 0 + q 0 * (1) + q 1 * (-1) + q 2 * (0) by kernel_rfl]
      rw [if_pos rfl]
      omega
    · rw [show ux 3 q 1 1 3 = 0 + q 0 * (0) + q 1 * (0) + q 2 * (0) by kernel_rfl]
      rw [if_neg (by omega)]
      omega
    · rw [show ux 3 q 1 2 3 = 0 + q 0 * (0) + q 1 * (1) + q 2 * (-1) by kernel_rfl]
      rw [if_neg (by omega)]
      omega
    · rw [show ux 3 q 1 3 3 = 0 + q 0 * (0) + q 1 * (0) + q 2 * (0) by kernel_rfl]
      rw [if_neg (by omega)]
      omega
  · rcases (by omega : c = 0 ∨ c = 1 ∨ c = 2 ∨ c = 3) with rfl | rfl | rfl | rfl
    · rw [show ux 3 q 2 0 3 = 0 + q 0 * (1) + q 1 * (0) + q 2 * (-1) by kernel_rfl]
      rw [if_pos rfl]
      omega
    · rw [show ux 3 q 2 1 3 = 0 + q 0 * (0) + q 1 * (0) + q 2 * (0) by kernel_rfl]
      rw [if_neg (by omega)]
      omega
    · rw [show ux 3 q 2 2 3 = 0 + q 0 * (0) + q 1 * (-1) + q 2 * (1) by kernel_rfl]
      rw [if_neg (by omega)]
      omega
    · rw [show ux 3 q 2 3 3 = 0 + q 0 * (0) + q 1 * (0) + q 2 * (0) by kernel_rfl]
      rw [if_neg (by omega)]
      omega
set_option maxRecDepth 100000 in
set_option maxHeartbeats 4000000 in
theorem inv4 {f q : Nat → Int} (h0 : ∀ k, k < 4 → rs 4 f 4 k 0 = 4 * q k) (h1 : ∀ k, k < 4 → rs 4 f 4 k 1 = 0 ∧ rs 4 f 4 k 2 = 0 ∧ rs 4 f 4 k 3 = 0) : ∀ j, j < 4 → ∀ c, c < 4 → ux 4 q j c 4 = if c = 0 then f j else 0 := by
  have e0_0 : rs 4 f 4 0 0 = 0 + f 0 * (1) + f 1 * (1) + f 2 * (1) + f 3 * (1) := by kernel_rfl
  have e0_1 : rs 4 f 4 0 1 = 0 + f 0 * (0) + f 1 * (0) + f 2 * (0) + f 3 * (0) := by kernel_rfl
  have e0_2 : rs 4 f 4 0 2 = 0 + f 0 * (0) + f 1 * (0) + f 2 * (0) + f 3 * (0) := by kernel_rfl
  have e0_3 : rs 4 f 4 0 3 = 0 + f 0 * (0) + f 1 * (0) + f 2 * (0) + f 3 * (0) := by kernel_rfl
  have z0 := h0 0 (by omega)
  obtain ⟨y0, x0, w0⟩ := h1 0 (by omega)
  rw [e0_0] at z0
  rw [e0_1] at y0
  rw [e0_2] at x0
  rw [e0_3] at w0
  clear e0_0 e0_1 e0_2 e0_3
  have e1_0 : rs 4 f 4 1 0 = 0 + f 0 * (1) + f 1 * (0) + f 2 * (-1) + f 3 * (0) := by kernel_rfl
  have e1_1 : rs 4 f 4 1 1 = 0 + f 0 * (0) + f 1 * (0) + f 2 * (0) + f 3 * (0) := by kernel_rfl
  have e1_2 : rs 4 f 4 1 2 = 0 + f 0 * (0) + f 1 * (0) + f 2 * (0) + f 3 * (0) := by kernel_rfl
  have e1_3 : rs 4 f 4 1 3 = 0 + f 0 * (0) + f 1 * (-1) + f 2 * (0) + f 3 * (1) := by kernel_rfl
  have z1 := h0 1 (by omega)
  obtain ⟨y1, x1, w1⟩ := h1 1 (by omega)
  rw [e1_0] at z1
  rw [e1_1] at y1
  rw [e1_2] at x1
  rw [e1_3] at w1
  clear e1_0 e1_1 e1_2 e1_3
  have e2_0 : rs 4 f 4 2 0 = 0 + f 0 * (1) + f 1 * (-1) + f 2 * (1) + f 3 * (-1) := by kernel_rfl
  have e2_1 : rs 4 f 4 2 1 = 0 + f 0 * (0) + f 1 * (0) + f 2 * (0) + f 3 * (0) := by kernel_rfl
  have e2_2 : rs 4 f 4 2 2 = 0 + f 0 * (0) + f 1 * (0) + f 2 * (0) + f 3 * (0) := by kernel_rfl
  have e2_3 : rs 4 f 4 2 3 = 0 + f 0 * (0) + f 1 * (0) + f 2 * (0) + f 3 * (0) := by kernel_rfl
  have z2 := h0 2 (by omega)
  obtain ⟨y2, x2, w2⟩ := h1 2 (by omega)
  rw [e2_0] at z2
  rw [e2_1] at y2
  rw [e2_2] at x2
  rw [e2_3] at w2
  clear e2_0 e2_1 e2_2 e2_3
  have e3_0 : rs 4 f 4 3 0 = 0 + f 0 * (1) + f 1 * (0) + f 2 * (-1) + f 3 * (0) := by kernel_rfl
  have e3_1 : rs 4 f 4 3 1 = 0 + f 0 * (0) + f 1 * (0) + f 2 * (0) + f 3 * (0) := by kernel_rfl
  have e3_2 : rs 4 f 4 3 2 = 0 + f 0 * (0) + f 1 * (0) + f 2 * (0) + f 3 * (0) := by kernel_rfl
  have e3_3 : rs 4 f 4 3 3 = 0 + f 0 * (0) + f 1 * (1) + f 2 * (0) + f 3 * (-1) := by kernel_rfl
  have z3 := h0 3 (by omega)
  obtain ⟨y3, x3, w3⟩ := h1 3 (by omega)
  rw [e3_0] at z3
  rw [e3_1] at y3
  rw [e3_2] at x3
  rw [e3_3] at w3
  clear e3_0 e3_1 e3_2 e3_3
  clear h0 h1
  intro j hj c hc
  rcases (by omega : j = 0 ∨ j = 1 ∨ j = 2 ∨ j = 3) with rfl | rfl | rfl | rfl
  · rcases (by omega : c = 0 ∨ c = 1 ∨ c = 2 ∨ c = 3) with rfl | rfl | rfl | rfl
    · rw [show ux 4 q 0 0 4 = 0 + q 0 * (1) + q 1 * (1) + q 2 * (1) + q 3 * (1) by kernel_rfl]
      rw [if_pos rfl]
      omega
    · rw [show ux 4 q 0 1 4 = 0 + q 0 * (0) + q 1 * (0) + q 2 * (0) + q 3 * (0) by kernel_rfl]
      rw [if_neg (by omega)]
      omega
    · rw [show ux 4 q 0 2 4 = 0 + q 0 * (0) + q 1 * (0) + q 2 * (0) + q 3 * (0) by kernel_rfl]
      rw [if_neg (by omega)]
      omega
    · rw [show ux 4 q 0 3 4 = 0 + q 0 * (0) + q 1 * (0) + q 2 * (0) + q 3 * (0) by kernel_rfl]
      rw [if_neg (by omega)]
      omega
  · rcases (by omega : c = 0 ∨ c = 1 ∨ c = 2 ∨ c = 3) with rfl | rfl | rfl | rfl
    · rw [show ux 4 q 1 0 4 = 0 + q 0 * (1) + q 1 * (0) + q 2 * (-1) + q 3 * (0) by kernel_rfl]
      rw [if_pos rfl]
      omega
    · rw [show ux 4 q 1 1 4 = 0 + q 0 * (0) + q 1 * (0) + q 2 * (0) + q 3 * (0) by kernel_rfl]
      rw [if_neg (by omega)]
      omega
    · rw [show ux 4 q 1 2 4 = 0 + q 0 * (0) + q 1 * (0) + q 2 * (0) + q 3 * (0) by kernel_rfl]
      rw [if_neg (by omega)]
      omega
    · rw [show ux 4 q 1 3 4 = 0 + q 0 * (0) + q 1 * (1) + q 2 * (0) + q 3 * (-1) by kernel_rfl]
      rw [if_neg (by omega)]
      omega
  · rcases (by omega : c = 0 ∨ c = 1 ∨ c = 2 ∨ c = 3) with rfl | rfl | rfl | rfl
    · rw [show ux 4 q 2 0 4 = 0 + q 0 * (1) + q 1 * (-1) + q 2 * (1) + q 3 * (-1) by kernel_rfl]
      rw [if_pos rfl]
      omega
    · rw [show ux 4 q 2 1 4 = 0 + q 0 * (0) + q 1 * (0) + q 2 * (0) + q 3 * (0) by kernel_rfl]
      rw [if_neg (by omega)]
      omega
    · rw [show ux 4 q 2 2 4 = 0 + q 0 * (0) + q 1 * (0) + q 2 * (0) + q 3 * (0) by kernel_rfl]
      rw [if_neg (by omega)]
      omega
    · rw [show ux 4 q 2 3 4 = 0 + q 0 * (0) + q 1 * (0) + q 2 * (0) + q 3 * (0) by kernel_rfl]
      rw [if_neg (by omega)]
      omega
  · rcases (by omega : c = 0 ∨ c = 1 ∨ c = 2 ∨ c = 3) with rfl | rfl | rfl | rfl
    · rw [show ux 4 q 3 0 4 = 0 + q 0 * (1) + q 1 * (0) + q 2 * (-1) + q 3 * (0) by kernel_rfl]
      rw [if_pos rfl]
      omega
    · rw [show ux 4 q 3 1 4 = 0 + q 0 * (0) + q 1 * (0) + q 2 * (0) + q 3 * (0) by kernel_rfl]
      rw [if_neg (by omega)]
      omega
    · rw [show ux 4 q 3 2 4 = 0 + q 0 * (0) + q 1 * (0) + q 2 * (0) + q 3 * (0) by kernel_rfl]
      rw [if_neg (by omega)]
      omega
    · rw [show ux 4 q 3 3 4 = 0 + q 0 * (0) + q 1 * (-1) + q 2 * (0) + q 3 * (1) by kernel_rfl]
      rw [if_neg (by omega)]
      omega
set_option maxRecDepth 100000 in
set_option maxHeartbeats 4000000 in
theorem inv6 {f q : Nat → Int} (h0 : ∀ k, k < 6 → rs 6 f 6 k 0 = 6 * q k) (h1 : ∀ k, k < 6 → rs 6 f 6 k 1 = 0 ∧ rs 6 f 6 k 2 = 0 ∧ rs 6 f 6 k 3 = 0) : ∀ j, j < 6 → ∀ c, c < 4 → ux 6 q j c 6 = if c = 0 then f j else 0 := by
  have e0_0 : rs 6 f 6 0 0 = 0 + f 0 * (1) + f 1 * (1) + f 2 * (1) + f 3 * (1) + f 4 * (1) + f 5 * (1) := by kernel_rfl
  have e0_1 : rs 6 f 6 0 1 = 0 + f 0 * (0) + f 1 * (0) + f 2 * (0) + f 3 * (0) + f 4 * (0) + f 5 * (0) := by kernel_rfl
  have e0_2 : rs 6 f 6 0 2 = 0 + f 0 * (0) + f 1 * (0) + f 2 * (0) + f 3 * (0) + f 4 * (0) + f 5 * (0) := by kernel_rfl
  have e0_3 : rs 6 f 6 0 3 = 0 + f 0 * (0) + f 1 * (0) + f 2 * (0) + f 3 * (0) + f 4 * (0) + f 5 * (0) := by kernel_rfl
  have z0 := h0 0 (by omega)
  obtain ⟨y0, x0, w0⟩ := h1 0 (by omega)
  rw [e0_0] at z0
  rw [e0_1] at y0
  rw [e0_2] at x0
  rw [e0_3] at w0
  clear e0_0 e0_1 e0_2 e0_3
  have e1_0 : rs 6 f 6 1 0 = 0 + f 0 * (1) + f 1 * (1) + f 2 * (0) + f 3 * (-1) + f 4 * (-1) + f 5 * (0) := by kernel_rfl
  have e1_1 : rs 6 f 6 1 1 = 0 + f 0 * (0) + f 1 * (0) + f 2 * (0) + f 3 * (0) + f 4 * (0) + f 5 * (0) := by kernel_rfl
  have e1_2 : rs 6 f 6 1 2 = 0 + f 0 * (0) + f 1 * (-1) + f 2 * (-1) + f 3 * (0) + f 4 * (1) + f 5 * (1) := by kernel_rfl
  have e1_3 : rs 6 f 6 1 3 = 0 + f 0 * (0) + f 1 * (0) + f 2 * (0) + f 3 * (0) + f 4 * (0) + f 5 * (0) := by kernel_rfl
  have z1 := h0 1 (by omega)
  obtain ⟨y1, x1, w1⟩ := h1 1 (by omega)
  rw [e1_0] at z1
  rw [e1_1] at y1
  rw [e1_2] at x1
  rw [e1_3] at w1
  clear e1_0 e1_1 e1_2 e1_3
  have e2_0 : rs 6 f 6 2 0 = 0 + f 0 * (1) + f 1 * (0) + f 2 * (-1) + f 3 * (1) + f 4 * (0) + f 5 * (-1) := by kernel_rfl
  have e2_1 : rs 6 f 6 2 1 = 0 + f 0 * (0) + f 1 * (0) + f 2 * (0) + f 3 * (0) + f 4 * (0) + f 5 * (0) := by kernel_rfl
  have e2_2 : rs 6 f 6 2 2 = 0 + f 0 * (0) + f 1 * (-1) + f 2 * (1) + f 3 * (0) + f 4 * (-1) + f 5 * (1) := by kernel_rfl
  have e2_3 : rs 6 f 6 2 3 = 0 + f 0 * (0) + f 1 * (0) + f 2 * (0) + f 3 * (0) + f 4 * (0) + f 5 * (0) := by kernel_rfl
  have z2 := h0 2 (by omega)
  obtain ⟨y2, x2, w2⟩ := h1 2 (by omega)
  rw [e2_0] at z2
  rw [e2_1] at y2
  rw [e2_2] at x2
  rw [e2_3] at w2
  clear e2_0 e2_1 e2_2 e2_3
  have e3_0 : rs 6 f 6 3 0 = 0 + f 0 * (1) + f 1 * (-1) + f 2 * (1) + f 3 * (-1) + f 4 * (1) + f 5 * (-1) := by kernel_rfl
  have e3_1 : rs 6 f 6 3 1 = 0 + f 0 * (0) + f 1 * (0) + f 2 * (0) + f 3 * (0) + f 4 * (0) + f 5 * (0) := by kernel_rfl
  have e3_2 : rs 6 f 6 3 2 = 0 + f 0 * (0) + f 1 * (0) + f 2 * (0) + f 3 * (0) + f 4 * (0) + f 5 * (0) := by kernel_rfl
  have e3_3 : rs 6 f 6 3 3 = 0 + f 0 * (0) + f 1 * (0) + f 2 * (0) + f 3 * (0) + f 4 * (0) + f 5 * (0) := by kernel_rfl
  have z3 := h0 3 (by omega)
  obtain ⟨y3, x3, w3⟩ := h1 3 (by omega)
  rw [e3_0] at z3
  rw [e3_1] at y3
  rw [e3_2] at x3
  rw [e3_3] at w3
  clear e3_0 e3_1 e3_2 e3_3
  have e4_0 : rs 6 f 6 4 0 = 0 + f 0 * (1) + f 1 * (-1) + f 2 * (0) + f 3 * (1) + f 4 * (-1) + f 5 * (0) := by kernel_rfl
  have e4_1 : rs 6 f 6 4 1 = 0 + f 0 * (0) + f 1 * (0) + f 2 * (0) + f 3 * (0) + f 4 * (0) + f 5 * (0) := by kernel_rfl
  have e4_2 : rs 6 f 6 4 2 = 0 + f 0 * (0) + f 1 * (1) + f 2 * (-1) + f 3 * (0) + f 4 * (1) + f 5 * (-1) := by kernel_rfl
  have e4_3 : rs 6 f 6 4 3 = 0 + f 0 * (0) + f 1 * (0) + f 2 * (0) + f 3 * (0) + f 4 * (0) + f 5 * (0) := by kernel_rfl
  have z4 := h0 4 (by omega)
  obtain ⟨y4, x4, w4⟩ := h1 4 (by omega)
  rw [e4_0] at z4
  rw [e4_1] at y4
  rw [e4_2] at x4
  rw [e4_3] at w4
  clear e4_0 e4_1 e4_2 e4_3
  have e5_0 : rs 6 f 6 5 0 = 0 + f 0 * (1) + f 1 * (0) + f 2 * (-1) + f 3 * (-1) + f 4 * (0) + f 5 * (1) := by kernel_rfl
  have e5_1 : rs 6 f 6 5 1 = 0 + f 0 * (0) + f 1 * (0) + f 2 * (0) + f 3 * (0) + f 4 * (0) + f 5 * (0) := by kernel_rfl
  have e5_2 : rs 6 f 6 5 2 = 0 + f 0 * (0) + f 1 * (1) + f 2 * (1) + f 3 * (0) + f 4 * (-1) + f 5 * (-1) := by kernel_rfl
  have e5_3 : rs 6 f 6 5 3 = 0 + f 0 * (0) + f 1 * (0) + f 2 * (0) + f 3 * (0) + f 4 * (0) + f 5 * (0) := by kernel_rfl
  have z5 := h0 5 (by omega)
  obtain ⟨y5, x5, w5⟩ := h1 5 (by omega)
  rw [e5_0] at z5
  rw [e5_1] at y5
  rw [e5_2] at x5
  rw [e5_3] at w5
  clear e5_0 e5_1 e5_2 e5_3
  clear h0 h1
  intro j hj c hc
  rcases (by omega : j = 0 ∨ j = 1 ∨ j = 2 ∨ j = 3 ∨ j = 4 ∨ j = 5) with rfl | rfl | rfl | rfl | rfl | rfl
  · rcases (by omega : c = 0 ∨ c = 1 ∨ c = 2 ∨ c = 3) with rfl | rfl | rfl | rfl
    · rw [show ux 6 q 0 0 6 = 0 + q 0 * (1) + q 1 * (1) + q 2 * (1) + q 3 * (1) + q 4 * (1) + q 5 * (1) by kernel_rfl]
      rw [if_pos rfl]
      omega
    · rw [show ux 6 q 0 1 6 = 0 + q 0 * (0) + q 1 * (0) + q 2 * (0) + q 3 * (0) + q 4 * (0) + q 5 * (0) by kernel_rfl]
      rw [if_neg (by omega)]
      omega
    · rw [show ux 6 q 0 2 6 = 0 + q 0 * (0) + q 1 * (0) + q 2 * (0) + q 3 * (0) + q 4 * (0) + q 5 * (0) by kernel_rfl]
      rw [if_neg (by omega)]
      omega
    · rw [show ux 6 q 0 3 6 = 0 + q 0 * (0) + q 1 * (0) + q 2 * (0) + q 3 * (0) + q 4 * (0) + q 5 * (0) by kernel_rfl]
      rw [if_neg (by omega)]
      omega
  · rcases (by omega : c = 0 ∨ c = 1 ∨ c = 2 ∨ c = 3) with rfl | rfl | rfl | rfl
    · rw [show ux 6 q 1 0 6 = 0 + q 0 * (1) + q 1 * (0) + q 2 * (-1) + q 3 * (-1) + q 4 * (0) + q 5 * (1) by kernel_rfl]
      rw [if_pos rfl]
      omega
    · rw [show ux 6 q 1 1 6 = 0 + q 0 * (0) + q 1 * (0) + q 2 * (0) + q 3 * (0) + q 4 * (0) + q 5 * (0) by kernel_rfl]
      rw [if_neg (by omega)]
      omega
    · rw [show ux 6 q 1 2 6 = 0 + q 0 * (0) + q 1 * (1) + q 2 * (1) + q 3 * (0) + q 4 * (-1) + q 5 * (-1) by kernel_rfl]
      rw [if_neg (by omega)]
      omega
    · rw [show ux 6 q 1 3 6 = 0 + q 0 * (0) + q 1 * (0) + q 2 * (0) + q 3 * (0) + q 4 * (0) + q 5 * (0) by kernel_rfl]
      rw [if_neg (by omega)]
      omega
  · rcases (by omega : c = 0 ∨ c = 1 ∨ c = 2 ∨ c = 3) with rfl | rfl | rfl | rfl
    · rw [show ux 6 q 2 0 6 = 0 + q 0 * (1) + q 1 * (-1) + q 2 * (0) + q 3 * (1) + q 4 * (-1) + q 5 * (0) by kernel_rfl]
      rw [if_pos rfl]
      omega
    · rw [show ux 6 q 2 1 6 = 0 + q 0 * (0) + q 1 * (0) + q 2 * (0) + q 3 * (0) + q 4 * (0) + q 5 * (0) by kernel_rfl]
      rw [if_neg (by omega)]
      omega
    · rw [show ux 6 q 2 2 6 = 0 + q 0 * (0) + q 1 * (1) + q 2 * (-1) + q 3 * (0) + q 4 * (1) + q 5 * (-1) by kernel_rfl]
      rw [if_neg (by omega)]
      omega
    · rw [show ux 6 q 2 3 6 = 0 + q 0 * (0) + q 1 * (0) + q 2 * (0) + q 3 * (0) + q 4 * (0) + q 5 * (0) by kernel_rfl]
      rw [if_neg (by omega)]
      omega
  · rcases (by omega : c = 0 ∨ c = 1 ∨ c = 2 ∨ c = 3) with rfl | rfl | rfl | rfl
    · rw [show ux 6 q 3 0 6 = 0 + q 0 * (1) + q 1 * (-1) + q 2 * (1) + q 3 * (-1) + q 4 * (1) + q 5 * (-1) by kernel_rfl]
      rw [if_pos rfl]
      omega
    · rw [show ux 6 q 3 1 6 = 0 + q 0 * (0) + q 1 * (0) + q 2 * (0) + q 3 * (0) + q 4 * (0) + q 5 * (0) by kernel_rfl]
      rw [if_neg (by omega)]
      omega
    · rw [show ux 6 q 3 2 6 = 0 + q 0 * (0) + q 1 * (0) + q 2 * (0) + q 3 * (0) + q 4 * (0) + q 5 * (0) by kernel_rfl]
      rw [if_neg (by omega)]
      omega
    · rw [show ux 6 q 3 3 6 = 0 + q 0 * (0) + q 1 * (0) + q 2 * (0) + q 3 * (0) + q 4 * (0) + q 5 * (0) by kernel_rfl]
      rw [if_neg (by omega)]
      omega
  · rcases (by omega : c = 0 ∨ c = 1 ∨ c = 2 ∨ c = 3) with rfl | rfl | rfl | rfl
    · rw [show ux 6 q 4 0 6 = 0 + q 0 * (1) + q 1 * (0) + q 2 * (-1) + q 3 * (1) + q 4 * (0) + q 5 * (-1) by kernel_rfl]
      rw [if_pos rfl]
      omega
    · rw [show ux 6 q 4 1 6 = 0 + q 0 * (0) + q 1 * (0) + q 2 * (0) + q 3 * (0) + q 4 * (0) + q 5 * (0) by kernel_rfl]
      rw [if_neg (by omega)]
      omega
    · rw [show ux 6 q 4 2 6 = 0 + q 0 * (0) + q 1 * (-1) + q 2 * (1) + q 3 * (0) + q 4 * (-1) + q 5 * (1) by kernel_rfl]
      rw [if_neg (by omega)]
      omega
    · rw [show ux 6 q 4 3 6 = 0 + q 0 * (0) + q 1 * (0) + q 2 * (0) + q 3 * (0) + q 4 * (0) + q 5 * (0) by kernel_rfl]
      rw [if_neg (by omega)]
      omega
  · rcases (by omega : c = 0 ∨ c = 1 ∨ c = 2 ∨ c = 3) with rfl | rfl | rfl | rfl
    · rw [show ux 6 q 5 0 6 = 0 + q 0 * (1) + q 1 * (1) + q 2 * (0) + q 3 * (-1) + q 4 * (-1) + q 5 * (0) by kernel_rfl]
      rw [if_pos rfl]
      omega
    · rw [show ux 6 q 5 1 6 = 0 + q 0 * (0) + q 1 * (0) + q 2 * (0) + q 3 * (0) + q 4 * (0) + q 5 * (0) by kernel_rfl]
      rw [if_neg (by omega)]
      omega
    · rw [show ux 6 q 5 2 6 = 0 + q 0 * (0) + q 1 * (-1) + q 2 * (-1) + q 3 * (0) + q 4 * (1) + q 5 * (1) by kernel_rfl]
      rw [if_neg (by omega)]
      omega
    · rw [show ux 6 q 5 3 6 = 0 + q 0 * (0) + q 1 * (0) + q 2 * (0) + q 3 * (0) + q 4 * (0) + q 5 * (0) by kernel_rfl]
      rw [if_neg (by omega)]
      omega
set_option maxRecDepth 100000 in
set_option maxHeartbeats 4000000 in
theorem inv12 {f q : Nat → Int} (h0 : ∀ k, k < 12 → rs 12 f 12 k 0 = 12 * q k) (h1 : ∀ k, k < 12 → rs 12 f 12 k 1 = 0 ∧ rs 12 f 12 k 2 = 0 ∧ rs 12 f 12 k 3 = 0) : ∀ j, j < 12 → ∀ c, c < 4 → ux 12 q j c 12 = if c = 0 then f j else 0 := by
  obtain ⟨g5, g7, g11, g10, g9, g8⟩ : f 5 = f 1 ∧ f 7 = f 1 ∧ f 11 = f 1 ∧ f 10 = f 2 ∧ f 9 = f 3 ∧ f 8 = f 4 := by
    clear h0
    obtain ⟨y1, x1, w1⟩ := h1 1 (by omega)
    rw [show rs 12 f 12 1 1 = 0 + f 0 * (0) + f 1 * (1) + f 2 * (0) + f 3 * (0) + f 4 * (0) + f 5 * (-1) + f 6 * (0) + f 7 * (-1) + f 8 * (0) + f 9 * (0) + f 10 * (0) + f 11 * (1) by kernel_rfl] at y1
    rw [show rs 12 f 12 1 2 = 0 + f 0 * (0) + f 1 * (0) + f 2 * (-1) + f 3 * (0) + f 4 * (-1) + f 5 * (0) + f 6 * (0) + f 7 * (0) + f 8 * (1) + f 9 * (0) + f 10 * (1) + f 11 * (0) by kernel_rfl] at x1
    rw [show rs 12 f 12 1 3 = 0 + f 0 * (0) + f 1 * (-1) + f 2 * (0) + f 3 * (-1) + f 4 * (0) + f 5 * (0) + f 6 * (0) + f 7 * (1) + f 8 * (0) + f 9 * (1) + f 10 * (0) + f 11 * (0) by kernel_rfl] at w1
    obtain ⟨y2, x2, w2⟩ := h1 2 (by omega)
    rw [show rs 12 f 12 2 1 = 0 + f 0 * (0) + f 1 * (0) + f 2 * (0) + f 3 * (0) + f 4 * (0) + f 5 * (0) + f 6 * (0) + f 7 * (0) + f 8 * (0) + f 9 * (0) + f 10 * (0) + f 11 * (0) by kernel_rfl] at y2
    rw [show rs 12 f 12 2 2 = 0 + f 0 * (0) + f 1 * (-1) + f 2 * (-1) + f 3 * (0) + f 4 * (1) + f 5 * (1) + f 6 * (0) + f 7 * (-1) + f 8 * (-1) + f 9 * (0) + f 10 * (1) + f 11 * (1) by kernel_rfl] at x2
    rw [show rs 12 f 12 2 3 = 0 + f 0 * (0) + f 1 * (0) + f 2 * (0) + f 3 * (0) + f 4 * (0) + f 5 * (0) + f 6 * (0) + f 7 * (0) + f 8 * (0) + f 9 * (0) + f 10 * (0) + f 11 * (0) by kernel_rfl] at w2
    obtain ⟨y3, x3, w3⟩ := h1 3 (by omega)
    rw [show rs 12 f 12 3 1 = 0 + f 0 * (0) + f 1 * (0) + f 2 * (0) + f 3 * (0) + f 4 * (0) + f 5 * (0) + f 6 * (0) + f 7 * (0) + f 8 * (0) + f 9 * (0) + f 10 * (0) + f 11 * (0) by kernel_rfl] at y3
    rw [show rs 12 f 12 3 2 = 0 + f 0 * (0) + f 1 * (0) + f 2 * (0) + f 3 * (0) + f 4 * (0) + f 5 * (0) + f 6 * (0) + f 7 * (0) + f 8 * (0) + f 9 * (0) + f 10 * (0) + f 11 * (0) by kernel_rfl] at x3
    rw [show rs 12 f 12 3 3 = 0 + f 0 * (0) + f 1 * (-1) + f 2 * (0) + f 3 * (1) + f 4 * (0) + f 5 * (-1) + f 6 * (0) + f 7 * (1) + f 8 * (0) + f 9 * (-1) + f 10 * (0) + f 11 * (1) by kernel_rfl] at w3
    obtain ⟨y4, x4, w4⟩ := h1 4 (by omega)
    rw [show rs 12 f 12 4 1 = 0 + f 0 * (0) + f 1 * (0) + f 2 * (0) + f 3 * (0) + f 4 * (0) + f 5 * (0) + f 6 * (0) + f 7 * (0) + f 8 * (0) + f 9 * (0) + f 10 * (0) + f 11 * (0) by kernel_rfl] at y4
    rw [show rs 12 f 12 4 2 = 0 + f 0 * (0) + f 1 * (-1) + f 2 * (1) + f 3 * (0) + f 4 * (-1) + f 5 * (1) + f 6 * (0) + f 7 * (-1) + f 8 * (1) + f 9 * (0) + f 10 * (-1) + f 11 * (1) by kernel_rfl] at x4
    rw [show rs 12 f 12 4 3 = 0 + f 0 * (0) + f 1 * (0) + f 2 * (0) + f 3 * (0) + f 4 * (0) + f 5 * (0) + f 6 * (0) + f 7 * (0) + f 8 * (0) + f 9 * (0) + f 10 * (0) + f 11 * (0) by kernel_rfl] at w4
    clear h1
    refine ⟨?_, ?_, ?_, ?_, ?_, ?_⟩ <;> omega
  clear h1
  have z0 := h0 0 (by omega)
  rw [show rs 12 f 12 0 0 = 0 + f 0 * (1) + f 1 * (1) + f 2 * (1) + f 3 * (1) + f 4 * (1) + f 5 * (1) + f 6 * (1) + f 7 * (1) + f 8 * (1) + f 9 * (1) + f 10 * (1) + f 11 * (1) by kernel_rfl, g5, g7, g11, g10, g9, g8] at z0
  have z1 := h0 1 (by omega)
  rw [show rs 12 f 12 1 0 = 0 + f 0 * (1) + f 1 * (0) + f 2 * (1) + f 3 * (0) + f 4 * (0) + f 5 * (0) + f 6 * (-1) + f 7 * (0) + f 8 * (-1) + f 9 * (0) + f 10 * (0) + f 11 * (0) by kernel_rfl, g5, g7, g11, g10, g9, g8] at z1
  have z2 := h0 2 (by omega)
  rw [show rs 12 f 12 2 0 = 0 + f 0 * (1) + f 1 * (1) + f 2 * (0) + f 3 * (-1) + f 4 * (-1) + f 5 * (0) + f 6 * (1) + f 7 * (1) + f 8 * (0) + f 9 * (-1) + f 10 * (-1) + f 11 * (0) by kernel_rfl, g5, g7, g11, g10, g9, g8] at z2
  have z3 := h0 3 (by omega)
  rw [show rs 12 f 12 3 0 = 0 + f 0 * (1) + f 1 * (0) + f 2 * (-1) + f 3 * (0) + f 4 * (1) + f 5 * (0) + f 6 * (-1) + f 7 * (0) + f 8 * (1) + f 9 * (0) + f 10 * (-1) + f 11 * (0) by kernel_rfl, g5, g7, g11, g10, g9, g8] at z3
  have z4 := h0 4 (by omega)
  rw [show rs 12 f 12 4 0 = 0 + f 0 * (1) + f 1 * (0) + f 2 * (-1) + f 3 * (1) + f 4 * (0) + f 5 * (-1) + f 6 * (1) + f 7 * (0) + f 8 * (-1) + f 9 * (1) + f 10 * (0) + f 11 * (-1) by kernel_rfl, g5, g7, g11, g10, g9, g8] at z4
  have z5 := h0 5 (by omega)
  rw [show rs 12 f 12 5 0 = 0 + f 0 * (1) + f 1 * (0) + f 2 * (0) + f 3 * (0) + f 4 * (-1) + f 5 * (0) + f 6 * (-1) + f 7 * (0) + f 8 * (0) + f 9 * (0) + f 10 * (1) + f 11 * (0) by kernel_rfl, g5, g7, g11, g10, g9, g8] at z5
  have z6 := h0 6 (by omega)
  rw [show rs 12 f 12 6 0 = 0 + f 0 * (1) + f 1 * (-1) + f 2 * (1) + f 3 * (-1) + f 4 * (1) + f 5 * (-1) + f 6 * (1) + f 7 * (-1) + f 8 * (1) + f 9 * (-1) + f 10 * (1) + f 11 * (-1) by kernel_rfl, g5, g7, g11, g10, g9, g8] at z6
  have z7 := h0 7 (by omega)
  rw [show rs 12 f 12 7 0 = 0 + f 0 * (1) + f 1 * (0) + f 2 * (1) + f 3 * (0) + f 4 * (0) + f 5 * (0) + f 6 * (-1) + f 7 * (0) + f 8 * (-1) + f 9 * (0) + f 10 * (0) + f 11 * (0) by kernel_rfl, g5, g7, g11, g10, g9, g8] at z7
  have z8 := h0 8 (by omega)
  rw [show rs 12 f 12 8 0 = 0 + f 0 * (1) + f 1 * (-1) + f 2 * (0) + f 3 * (1) + f 4 * (-1) + f 5 * (0) + f 6 * (1) + f 7 * (-1) + f 8 * (0) + f 9 * (1) + f 10 * (-1) + f 11 * (0) by kernel_rfl, g5, g7, g11, g10, g9, g8] at z8
  have z9 := h0 9 (by omega)
  rw [show rs 12 f 12 9 0 = 0 + f 0 * (1) + f 1 * (0) + f 2 * (-1) + f 3 * (0) + f 4 * (1) + f 5 * (0) + f 6 * (-1) + f 7 * (0) + f 8 * (1) + f 9 * (0) + f 10 * (-1) + f 11 * (0) by kernel_rfl, g5, g7, g11, g10, g9, g8] at z9
  have z10 := h0 10 (by omega)
  rw [show rs 12 f 12 10 0 = 0 + f 0 * (1) + f 1 * (0) + f 2 * (-1) + f 3 * (-1) + f 4 * (0) + f 5 * (1) + f 6 * (1) + f 7 * (0) + f 8 * (-1) + f 9 * (-1) + f 10 * (0) + f 11 * (1) by kernel_rfl, g5, g7, g11, g10, g9, g8] at z10
  have z11 := h0 11 (by omega)
  rw [show rs 12 f 12 11 0 = 0 + f 0 * (1) + f 1 * (0) + f 2 * (0) + f 3 * (0) + f 4 * (-1) + f 5 * (0) + f 6 * (-1) + f 7 * (0) + f 8 * (0) + f 9 * (0) + f 10 * (1) + f 11 * (0) by kernel_rfl, g5, g7, g11, g10, g9, g8] at z11
  clear h0
  obtain ⟨q5, q7, q11, q10, q9, q8⟩ : q 5 = q 1 ∧ q 7 = q 1 ∧ q 11 = q 1 ∧ q 10 = q 2 ∧ q 9 = q 3 ∧ q 8 = q 4 := by
    refine ⟨?_, ?_, ?_, ?_, ?_, ?_⟩
    · clear g5 g7 g11 g10 g9 g8 z0 z2 z3 z4 z6 z7 z8 z9 z10 z11; omega
    · clear g5 g7 g11 g10 g9 g8 z0 z2 z3 z4 z5 z6 z8 z9 z10 z11; omega
    · clear g5 g7 g11 g10 g9 g8 z0 z2 z3 z4 z5 z6 z7 z8 z9 z10; omega
    · clear g5 g7 g11 g10 g9 g8 z0 z1 z3 z4 z5 z6 z7 z8 z9 z11; omega
    · clear g5 g7 g11 g10 g9 g8 z0 z1 z2 z4 z5 z6 z7 z8 z10 z11; omega
    · clear g5 g7 g11 g10 g9 g8 z0 z1 z2 z3 z5 z6 z7 z9 z10 z11; omega
  clear z5 z7 z11 z10 z9 z8
  intro j hj c hc
  rcases (by omega : j = 0 ∨ j = 1 ∨ j = 2 ∨ j = 3 ∨ j = 4 ∨ j = 5 ∨ j = 6 ∨ j = 7 ∨ j = 8 ∨ j = 9 ∨ j = 10 ∨ j = 11) with rfl | rfl | rfl | rfl | rfl | rfl | rfl | rfl | rfl | rfl | rfl | rfl
  · rcases (by omega : c = 0 ∨ c = 1 ∨ c = 2 ∨ c = 3) with rfl | rfl | rfl | rfl
    · rw [show ux 12 q 0 0 12 = 0 + q 0 * (1) + q 1 * (1) + q 2 * (1) + q 3 * (1) + q 4 * (1) + q 5 * (1) + q 6 * (1) + q 7 * (1) + q 8 * (1) + q 9 * (1) + q 10 * (1) + q 11 * (1) by kernel_rfl, q5, q7, q11, q10, q9, q8]
      rw [if_pos rfl]
      clear q5 q7 q11 q10 q9 q8 g5 g7 g11 g10 g9 g8
      omega
    · rw [show ux 12 q 0 1 12 = 0 + q 0 * (0) + q 1 * (0) + q 2 * (0) + q 3 * (0) + q 4 * (0) + q 5 * (0) + q 6 * (0) + q 7 * (0) + q 8 * (0) + q 9 * (0) + q 10 * (0) + q 11 * (0) by kernel_rfl, q5, q7, q11, q10, q9, q8]
      rw [if_neg (by omega)]
      clear q5 q7 q11 q10 q9 q8 g5 g7 g11 g10 g9 g8
      omega
    · rw [show ux 12 q 0 2 12 = 0 + q 0 * (0) + q 1 * (0) + q 2 * (0) + q 3 * (0) + q 4 * (0) + q 5 * (0) + q 6 * (0) + q 7 * (0) + q 8 * (0) + q 9 * (0) + q 10 * (0) + q 11 * (0) by kernel_rfl, q5, q7, q11, q10, q9, q8]
      rw [if_neg (by omega)]
      clear q5 q7 q11 q10 q9 q8 g5 g7 g11 g10 g9 g8
      omega
    · rw [show ux 12 q 0 3 12 = 0 + q 0 * (0) + q 1 * (0) + q 2 * (0) + q 3 * (0) + q 4 * (0) + q 5 * (0) + q 6 * (0) + q 7 * (0) + q 8 * (0) + q 9 * (0) + q 10 * (0) + q 11 * (0) by kernel_rfl, q5, q7, q11, q10, q9, q8]
      rw [if_neg (by omega)]
      clear q5 q7 q11 q10 q9 q8 g5 g7 g11 g10 g9 g8
      omega
  · rcases (by omega : c = 0 ∨ c = 1 ∨ c = 2 ∨ c = 3) with rfl | rfl | rfl | rfl
    · rw [show ux 12 q 1 0 12 = 0 + q 0 * (1) + q 1 * (0) + q 2 * (0) + q 3 * (0) + q 4 * (-1) + q 5 * (0) + q 6 * (-1) + q 7 * (0) + q 8 * (0) + q 9 * (0) + q 10 * (1) + q 11 * (0) by kernel_rfl, q5, q7, q11, q10, q9, q8]
      rw [if_pos rfl]
      clear q5 q7 q11 q10 q9 q8 g5 g7 g11 g10 g9 g8
      omega
    · rw [show ux 12 q 1 1 12 = 0 + q 0 * (0) + q 1 * (1) + q 2 * (0) + q 3 * (0) + q 4 * (0) + q 5 * (-1) + q 6 * (0) + q 7 * (-1) + q 8 * (0) + q 9 * (0) + q 10 * (0) + q 11 * (1) by kernel_rfl, q5, q7, q11, q10, q9, q8]
      rw [if_neg (by omega)]
      clear q5 q7 q11 q10 q9 q8 g5 g7 g11 g10 g9 g8
      omega
    · rw [show ux 12 q 1 2 12 = 0 + q 0 * (0) + q 1 * (0) + q 2 * (1) + q 3 * (0) + q 4 * (1) + q 5 * (0) + q 6 * (0) + q 7 * (0) + q 8 * (-1) + q 9 * (0) + q 10 * (-1) + q 11 * (0) by kernel_rfl, q5, q7, q11, q10, q9, q8]
      rw [if_neg (by omega)]
      clear q5 q7 q11 q10 q9 q8 g5 g7 g11 g10 g9 g8
      omega
    · rw [show ux 12 q 1 3 12 = 0 + q 0 * (0) + q 1 * (0) + q 2 * (0) + q 3 * (1) + q 4 * (0) + q 5 * (1) + q 6 * (0) + q 7 * (0) + q 8 * (0) + q 9 * (-1) + q 10 * (0) + q 11 * (-1) by kernel_rfl, q5, q7, q11, q10, q9, q8]
      rw [if_neg (by omega)]
      clear q5 q7 q11 q10 q9 q8 g5 g7 g11 g10 g9 g8
      omega
  · rcases (by omega : c = 0 ∨ c = 1 ∨ c = 2 ∨ c = 3) with rfl | rfl | rfl | rfl
    · rw [show ux 12 q 2 0 12 = 0 + q 0 * (1) + q 1 * (0) + q 2 * (-1) + q 3 * (-1) + q 4 * (0) + q 5 * (1) + q 6 * (1) + q 7 * (0) + q 8 * (-1) + q 9 * (-1) + q 10 * (0) + q 11 * (1) by kernel_rfl, q5, q7, q11, q10, q9, q8]
      rw [if_pos rfl]
      clear q5 q7 q11 q10 q9 q8 g5 g7 g11 g10 g9 g8
      omega
    · rw [show ux 12 q 2 1 12 = 0 + q 0 * (0) + q 1 * (0) + q 2 * (0) + q 3 * (0) + q 4 * (0) + q 5 * (0) + q 6 * (0) + q 7 * (0) + q 8 * (0) + q 9 * (0) + q 10 * (0) + q 11 * (0) by kernel_rfl, q5, q7, q11, q10, q9, q8]
      rw [if_neg (by omega)]
      clear q5 q7 q11 q10 q9 q8 g5 g7 g11 g10 g9 g8
      omega
    · rw [show ux 12 q 2 2 12 = 0 + q 0 * (0) + q 1 * (1) + q 2 * (1) + q 3 * (0) + q 4 * (-1) + q 5 * (-1) + q 6 * (0) + q 7 * (1) + q 8 * (1) + q 9 * (0) + q 10 * (-1) + q 11 * (-1) by kernel_rfl, q5, q7, q11, q10, q9, q8]
      rw [if_neg (by omega)]
      clear q5 q7 q11 q10 q9 q8 g5 g7 g11 g10 g9 g8
      omega
    · rw [show ux 12 q 2 3 12 = 0 + q 0 * (0) + q 1 * (0) + q 2 * (0) + q 3 * (0) + q 4 * (0) + q 5 * (0) + q 6 * (0) + q 7 * (0) + q 8 * (0) + q 9 * (0) + q 10 * (0) + q 11 * (0) by kernel_rfl, q5, q7, q11, q10, q9, q8]
      rw [if_neg (by omega)]
      clear q5 q7 q11 q10 q9 q8 g5 g7 g11 g10 g9 g8
      omega
  · rcases (by omega : c = 0 ∨ c = 1 ∨ c = 2 ∨ c = 3) with rfl | rfl | rfl | rfl
    · rw [show ux 12 q 3 0 12 = 0 + q 0 * (1) + q 1 * (0) + q 2 * (-1) + q 3 * (0) + q 4 * (1) + q 5 * (0) + q 6 * (-1) + q 7 * (0) + q 8 * (1) + q 9 * (0) + q 10 * (-1) + q 11 * (0) by kernel_rfl, q5, q7, q11, q10, q9, q8]
      rw [if_pos rfl]
      clear q5 q7 q11 q10 q9 q8 g5 g7 g11 g10 g9 g8
      omega
    · rw [show ux 12 q 3 1 12 = 0 + q 0 * (0) + q 1 * (0) + q 2 * (0) + q 3 * (0) + q 4 * (0) + q 5 * (0) + q 6 * (0) + q 7 * (0) + q 8 * (0) + q 9 * (0) + q 10 * (0) + q 11 * (0) by kernel_rfl, q5, q7, q11, q10, q9, q8]
      rw [if_neg (by omega)]
      clear q5 q7 q11 q10 q9 q8 g5 g7 g11 g10 g9 g8
      omega
    · rw [show ux 12 q 3 2 12 = 0 + q 0 * (0) + q 1 * (0) + q 2 * (0) + q 3 * (0) + q 4 * (0) + q 5 * (0) + q 6 * (0) + q 7 * (0) + q 8 * (0) + q 9 * (0) + q 10 * (0) + q 11 * (0) by kernel_rfl, q5, q7, q11, q10, q9, q8]
      rw [if_neg (by omega)]
      clear q5 q7 q11 q10 q9 q8 g5 g7 g11 g10 g9 g8
      omega
    · rw [show ux 12 q 3 3 12 = 0 + q 0 * (0) + q 1 * (1) + q 2 * (0) + q 3 * (-1) + q 4 * (0) + q 5 * (1) + q 6 * (0) + q 7 * (-1) + q 8 * (0) + q 9 * (1) + q 10 * (0) + q 11 * (-1) by kernel_rfl, q5, q7, q11, q10, q9, q8]
      rw [if_neg (by omega)]
      clear q5 q7 q11 q10 q9 q8 g5 g7 g11 g10 g9 g8
      omega
  · rcases (by omega : c = 0 ∨ c = 1 ∨ c = 2 ∨ c = 3) with rfl | rfl | rfl | rfl
    · rw [show ux 12 q 4 0 12 = 0 + q 0 * (1) + q 1 * (-1) + q 2 * (0) + q 3 * (1) + q 4 * (-1) + q 5 * (0) + q 6 * (1) + q 7 * (-1) + q 8 * (0) + q 9 * (1) + q 10 * (-1) + q 11 * (0) by kernel_rfl, q5, q7, q11, q10, q9, q8]
      rw [if_pos rfl]
      clear q5 q7 q11 q10 q9 q8 g5 g7 g11 g10 g9 g8
      omega
    · rw [show ux 12 q 4 1 12 = 0 + q 0 * (0) + q 1 * (0) + q 2 * (0) + q 3 * (0) + q 4 * (0) + q 5 * (0) + q 6 * (0) + q 7 * (0) + q 8 * (0) + q 9 * (0) + q 10 * (0) + q 11 * (0) by kernel_rfl, q5, q7, q11, q10, q9, q8]
      rw [if_neg (by omega)]
      clear q5 q7 q11 q10 q9 q8 g5 g7 g11 g10 g9 g8
      omega
    · rw [show ux 12 q 4 2 12 = 0 + q 0 * (0) + q 1 * (1) + q 2 * (-1) + q 3 * (0) + q 4 * (1) + q 5 * (-1) + q 6 * (0) + q 7 * (1) + q 8 * (-1) + q 9 * (0) + q 10 * (1) + q 11 * (-1) by kernel_rfl, q5, q7, q11, q10, q9, q8]
      rw [if_neg (by omega)]
      clear q5 q7 q11 q10 q9 q8 g5 g7 g11 g10 g9 g8
      omega
    · rw [show ux 12 q 4 3 12 = 0 + q 0 * (0) + q 1 * (0) + q 2 * (0) + q 3 * (0) + q 4 * (0) + q 5 * (0) + q 6 * (0) + q 7 * (0) + q 8 * (0) + q 9 * (0) + q 10 * (0) + q 11 * (0) by kernel_rfl, q5, q7, q11, q10, q9, q8]
      rw [if_neg (by omega)]
      clear q5 q7 q11 q10 q9 q8 g5 g7 g11 g10 g9 g8
      omega
  · rcases (by omega : c = 0 ∨ c = 1 ∨ c = 2 ∨ c = 3) with rfl | rfl | rfl | rfl
    · rw [show ux 12 q 5 0 12 = 0 + q 0 * (1) + q 1 * (0) + q 2 * (1) + q 3 * (0) + q 4 * (0) + q 5 * (0) + q 6 * (-1) + q 7 * (0) + q 8 * (-1) + q 9 * (0) + q 10 * (0) + q 11 * (0) by kernel_rfl, q5, q7, q11, q10, q9, q8]
      rw [if_pos rfl, g5]
      clear q5 q7 q11 q10 q9 q8 g5 g7 g11 g10 g9 g8
      omega
    · rw [show ux 12 q 5 1 12 = 0 + q 0 * (0) + q 1 * (-1) + q 2 * (0) + q 3 * (0) + q 4 * (0) + q 5 * (1) + q 6 * (0) + q 7 * (1) + q 8 * (0) + q 9 * (0) + q 10 * (0) + q 11 * (-1) by kernel_rfl, q5, q7, q11, q10, q9, q8]
      rw [if_neg (by omega)]
      clear q5 q7 q11 q10 q9 q8 g5 g7 g11 g10 g9 g8
      omega
    · rw [show ux 12 q 5 2 12 = 0 + q 0 * (0) + q 1 * (0) + q 2 * (-1) + q 3 * (0) + q 4 * (-1) + q 5 * (0) + q 6 * (0) + q 7 * (0) + q 8 * (1) + q 9 * (0) + q 10 * (1) + q 11 * (0) by kernel_rfl, q5, q7, q11, q10, q9, q8]
      rw [if_neg (by omega)]
      clear q5 q7 q11 q10 q9 q8 g5 g7 g11 g10 g9 g8
      omega
    · rw [show ux 12 q 5 3 12 = 0 + q 0 * (0) + q 1 * (1) + q 2 * (0) + q 3 * (1) + q 4 * (0) + q 5 * (0) + q 6 * (0) + q 7 * (-1) + q 8 * (0) + q 9 * (-1) + q 10 * (0) + q 11 * (0) by kernel_rfl, q5, q7, q11, q10, q9, q8]
      rw [if_neg (by omega)]
      clear q5 q7 q11 q10 q9 q8 g5 g7 g11 g10 g9 g8
      omega
  · rcases (by omega : c = 0 ∨ c = 1 ∨ c = 2 ∨ c = 3) with rfl | rfl | rfl | rfl
    · rw [show ux 12 q 6 0 12 = 0 + q 0 * (1) + q 1 * (-1) + q 2 * (1) + q 3 * (-1) + q 4 * (1) + q 5 * (-1) + q 6 * (1) + q 7 * (-1) + q 8 * (1) + q 9 * (-1) + q 10 * (1) + q 11 * (-1) by kernel_rfl, q5, q7, q11, q10, q9, q8]
      rw [if_pos rfl]
      clear q5 q7 q11 q10 q9 q8 g5 g7 g11 g10 g9 g8
      omega
    · rw [show ux 12 q 6 1 12 = 0 + q 0 * (0) + q 1 * (0) + q 2 * (0) + q 3 * (0) + q 4 * (0) + q 5 * (0) + q 6 * (0) + q 7 * (0) + q 8 * (0) + q 9 * (0) + q 10 * (0) + q 11 * (0) by kernel_rfl, q5, q7, q11, q10, q9, q8]
      rw [if_neg (by omega)]
      clear q5 q7 q11 q10 q9 q8 g5 g7 g11 g10 g9 g8
      omega
    · rw [show ux 12 q 6 2 12 = 0 + q 0 * (0) + q 1 * (0) + q 2 * (0) + q 3 * (0) + q 4 * (0) + q 5 * (0) + q 6 * (0) + q 7 * (0) + q 8 * (0) + q 9 * (0) + q 10 * (0) + q 11 * (0) by kernel_rfl, q5, q7, q11, q10, q9, q8]
      rw [if_neg (by omega)]
      clear q5 q7 q11 q10 q9 q8 g5 g7 g11 g10 g9 g8
      omega
    · rw [show ux 12 q 6 3 12 = 0 + q 0 * (0) + q 1 * (0) + q 2 * (0) + q 3 * (0) + q 4 * (0) + q 5 * (0) + q 6 * (0) + q 7 * (0) + q 8 * (0) + q 9 * (0) + q 10 * (0) + q 11 * (0) by kernel_rfl, q5, q7, q11, q10, q9, q8]
      rw [if_neg (by omega)]
      clear q5 q7 q11 q10 q9 q8 g5 g7 g11 g10 g9 g8
      omega
  · rcases (by omega : c = 0 ∨ c = 1 ∨ c = 2 ∨ c = 3) with rfl | rfl | rfl | rfl
    · rw [show ux 12 q 7 0 12 = 0 + q 0 * (1) + q 1 * (0) + q 2 * (0) + q 3 * (0) + q 4 * (-1) + q 5 * (0) + q 6 * (-1) + q 7 * (0) + q 8 * (0) + q 9 * (0) + q 10 * (1) + q 11 * (0) by kernel_rfl, q5, q7, q11, q10, q9, q8]
      rw [if_pos rfl, g7]
      clear q5 q7 q11 q10 q9 q8 g5 g7 g11 g10 g9 g8
      omega
    · rw [show ux 12 q 7 1 12 = 0 + q 0 * (0) + q 1 * (-1) + q 2 * (0) + q 3 * (0) + q 4 * (0) + q 5 * (1) + q 6 * (0) + q 7 * (1) + q 8 * (0) + q 9 * (0) + q 10 * (0) + q 11 * (-1) by kernel_rfl, q5, q7, q11, q10, q9, q8]
      rw [if_neg (by omega)]
      clear q5 q7 q11 q10 q9 q8 g5 g7 g11 g10 g9 g8
      omega
    · rw [show ux 12 q 7 2 12 = 0 + q 0 * (0) + q 1 * (0) + q 2 * (1) + q 3 * (0) + q 4 * (1) + q 5 * (0) + q 6 * (0) + q 7 * (0) + q 8 * (-1) + q 9 * (0) + q 10 * (-1) + q 11 * (0) by kernel_rfl, q5, q7, q11, q10, q9, q8]
      rw [if_neg (by omega)]
      clear q5 q7 q11 q10 q9 q8 g5 g7 g11 g10 g9 g8
      omega
    · rw [show ux 12 q 7 3 12 = 0 + q 0 * (0) + q 1 * (0) + q 2 * (0) + q 3 * (-1) + q 4 * (0) + q 5 * (-1) + q 6 * (0) + q 7 * (0) + q 8 * (0) + q 9 * (1) + q 10 * (0) + q 11 * (1) by kernel_rfl, q5, q7, q11, q10, q9, q8]
      rw [if_neg (by omega)]
      clear q5 q7 q11 q10 q9 q8 g5 g7 g11 g10 g9 g8
      omega
  · rcases (by omega : c = 0 ∨ c = 1 ∨ c = 2 ∨ c = 3) with rfl | rfl | rfl | rfl
    · rw [show ux 12 q 8 0 12 = 0 + q 0 * (1) + q 1 * (0) + q 2 * (-1) + q 3 * (1) + q 4 * (0) + q 5 * (-1) + q 6 * (1) + q 7 * (0) + q 8 * (-1) + q 9 * (1) + q 10 * (0) + q 11 * (-1) by kernel_rfl, q5, q7, q11, q10, q9, q8]
      rw [if_pos rfl, g8]
      clear q5 q7 q11 q10 q9 q8 g5 g7 g11 g10 g9 g8
      omega
    · rw [show ux 12 q 8 1 12 = 0 + q 0 * (0) + q 1 * (0) + q 2 * (0) + q 3 * (0) + q 4 * (0) + q 5 * (0) + q 6 * (0) + q 7 * (0) + q 8 * (0) + q 9 * (0) + q 10 * (0) + q 11 * (0) by kernel_rfl, q5, q7, q11, q10, q9, q8]
      rw [if_neg (by omega)]
      clear q5 q7 q11 q10 q9 q8 g5 g7 g11 g10 g9 g8
      omega
    · rw [show ux 12 q 8 2 12 = 0 + q 0 * (0) + q 1 * (-1) + q 2 * (1) + q 3 * (0) + q 4 * (-1) + q 5 * (1) + q 6 * (0) + q 7 * (-1) + q 8 * (1) + q 9 * (0) + q 10 * (-1) + q 11 * (1) by kernel_rfl, q5, q7, q11, q10, q9, q8]
      rw [if_neg (by omega)]
      clear q5 q7 q11 q10 q9 q8 g5 g7 g11 g10 g9 g8
      omega
    · rw [show ux 12 q 8 3 12 = 0 + q 0 * (0) + q 1 * (0) + q 2 * (0) + q 3 * (0) + q 4 * (0) + q 5 * (0) + q 6 * (0) + q 7 * (0) + q 8 * (0) + q 9 * (0) + q 10 * (0) + q 11 * (0) by kernel_rfl, q5, q7, q11, q10, q9, q8]
      rw [if_neg (by omega)]
      clear q5 q7 q11 q10 q9 q8 g5 g7 g11 g10 g9 g8
      omega
  · rcases (by omega : c = 0 ∨ c = 1 ∨ c = 2 ∨ c = 3) with rfl | rfl | rfl | rfl
    · rw [show ux 12 q 9 0 12 = 0 + q 0 * (1) + q 1 * (0) + q 2 * (-1) + q 3 * (0) + q 4 * (1) + q 5 * (0) + q 6 * (-1) + q 7 * (0) + q 8 * (1) + q 9 * (0) + q 10 * (-1) + q 11 * (0) by kernel_rfl, q5, q7, q11, q10, q9, q8]
      rw [if_pos rfl, g9]
      clear q5 q7 q11 q10 q9 q8 g5 g7 g11 g10 g9 g8
      omega
    · rw [show ux 12 q 9 1 12 = 0 + q 0 * (0) + q 1 * (0) + q 2 * (0) + q 3 * (0) + q 4 * (0) + q 5 * (0) + q 6 * (0) + q 7 * (0) + q 8 * (0) + q 9 * (0) + q 10 * (0) + q 11 * (0) by kernel_rfl, q5, q7, q11, q10, q9, q8]
      rw [if_neg (by omega)]
      clear q5 q7 q11 q10 q9 q8 g5 g7 g11 g10 g9 g8
      omega
    · rw [show ux 12 q 9 2 12 = 0 + q 0 * (0) + q 1 * (0) + q 2 * (0) + q 3 * (0) + q 4 * (0) + q 5 * (0) + q 6 * (0) + q 7 * (0) + q 8 * (0) + q 9 * (0) + q 10 * (0) + q 11 * (0) by kernel_rfl, q5, q7, q11, q10, q9, q8]
      rw [if_neg (by omega)]
      clear q5 q7 q11 q10 q9 q8 g5 g7 g11 g10 g9 g8
      omega
    · rw [show ux 12 q 9 3 12 = 0 + q 0 * (0) + q 1 * (-1) + q 2 * (0) + q 3 * (1) + q 4 * (0) + q 5 * (-1) + q 6 * (0) + q 7 * (1) + q 8 * (0) + q 9 * (-1) + q 10 * (0) + q 11 * (1) by kernel_rfl, q5, q7, q11, q10, q9, q8]
      rw [if_neg (by omega)]
      clear q5 q7 q11 q10 q9 q8 g5 g7 g11 g10 g9 g8
      omega
  · rcases (by omega : c = 0 ∨ c = 1 ∨ c = 2 ∨ c = 3) with rfl | rfl | rfl | rfl
    · rw [show ux 12 q 10 0 12 = 0 + q 0 * (1) + q 1 * (1) + q 2 * (0) + q 3 * (-1) + q 4 * (-1) + q 5 * (0) + q 6 * (1) + q 7 * (1) + q 8 * (0) + q 9 * (-1) + q 10 * (-1) + q 11 * (0) by kernel_rfl, q5, q7, q11, q10, q9, q8]
      rw [if_pos rfl, g10]
      clear q5 q7 q11 q10 q9 q8 g5 g7 g11 g10 g9 g8
      omega
    · rw [show ux 12 q 10 1 12 = 0 + q 0 * (0) + q 1 * (0) + q 2 * (0) + q 3 * (0) + q 4 * (0) + q 5 * (0) + q 6 * (0) + q 7 * (0) + q 8 * (0) + q 9 * (0) + q 10 * (0) + q 11 * (0) by kernel_rfl, q5, q7, q11, q10, q9, q8]
      rw [if_neg (by omega)]
      clear q5 q7 q11 q10 q9 q8 g5 g7 g11 g10 g9 g8
      omega
    · rw [show ux 12 q 10 2 12 = 0 + q 0 * (0) + q 1 * (-1) + q 2 * (-1) + q 3 * (0) + q 4 * (1) + q 5 * (1) + q 6 * (0) + q 7 * (-1) + q 8 * (-1) + q 9 * (0) + q 10 * (1) + q 11 * (1) by kernel_rfl, q5, q7, q11, q10, q9, q8]
      rw [if_neg (by omega)]
      clear q5 q7 q11 q10 q9 q8 g5 g7 g11 g10 g9 g8
      omega
    · rw [show ux 12 q 10 3 12 = 0 + q 0 * (0) + q 1 * (0) + q 2 * (0) + q 3 * (0) + q 4 * (0) + q 5 * (0) + q 6 * (0) + q 7 * (0) + q 8 * (0) + q 9 * (0) + q 10 * (0) + q 11 * (0) by kernel_rfl, q5, q7, q11, q10, q9, q8]
      rw [if_neg (by omega)]
      clear q5 q7 q11 q10 q9 q8 g5 g7 g11 g10 g9 g8
      omega
  · rcases (by omega : c = 0 ∨ c = 1 ∨ c = 2 ∨ c = 3) with rfl | rfl | rfl | rfl
    · rw [show ux 12 q 11 0 12 = 0 + q 0 * (1) + q 1 * (0) + q 2 * (1) + q 3 * (0) + q 4 * (0) + q 5 * (0) + q 6 * (-1) + q 7 * (0) + q 8 * (-1) + q 9 * (0) + q 10 * (0) + q 11 * (0) by kernel_rfl, q5, q7, q11, q10, q9, q8]
      rw [if_pos rfl, g11]
      clear q5 q7 q11 q10 q9 q8 g5 g7 g11 g10 g9 g8
      omega
    · rw [show ux 12 q 11 1 12 = 0 + q 0 * (0) + q 1 * (1) + q 2 * (0) + q 3 * (0) + q 4 * (0) + q 5 * (-1) + q 6 * (0) + q 7 * (-1) + q 8 * (0) + q 9 * (0) + q 10 * (0) + q 11 * (1) by kernel_rfl, q5, q7, q11, q10, q9, q8]
      rw [if_neg (by omega)]
      clear q5 q7 q11 q10 q9 q8 g5 g7 g11 g10 g9 g8
      omega
    · rw [show ux 12 q 11 2 12 = 0 + q 0 * (0) + q 1 * (0) + q 2 * (-1) + q 3 * (0) + q 4 * (-1) + q 5 * (0) + q 6 * (0) + q 7 * (0) + q 8 * (1) + q 9 * (0) + q 10 * (1) + q 11 * (0) by kernel_rfl, q5, q7, q11, q10, q9, q8]
      rw [if_neg (by omega)]
      clear q5 q7 q11 q10 q9 q8 g5 g7 g11 g10 g9 g8
      omega
    · rw [show ux 12 q 11 3 12 = 0 + q 0 * (0) + q 1 * (-1) + q 2 * (0) + q 3 * (-1) + q 4 * (0) + q 5 * (0) + q 6 * (0) + q 7 * (1) + q 8 * (0) + q 9 * (1) + q 10 * (0) + q 11 * (0) by kernel_rfl, q5, q7, q11, q10, q9, q8]
      rw [if_neg (by omega)]
      clear q5 q7 q11 q10 q9 q8 g5 g7 g11 g10 g9 g8
      omega
theorem inv_all {n : Int} {N : Nat} {f q : Nat → Int} (hN : (N : Int) = n) (h : side n) (h0 : ∀ k, k < N → rs n f N k 0 = n * q k) (h1 : ∀ k, k < N → rs n f N k 1 = 0 ∧ rs n f N k 2 = 0 ∧ rs n f N k 3 = 0) {j c : Nat} (hj : j < N) (hc : c < 4) : ux n q j c N = if c = 0 then f j else 0 := by
  rcases h with rfl | rfl | rfl | rfl | rfl | rfl
  · obtain rfl : N = 1 := by omega
    exact inv1 h0 h1 j hj c hc
  · obtain rfl : N = 2 := by omega
    exact inv2 h0 h1 j hj c hc
  · obtain rfl : N = 3 := by omega
    exact inv3 h0 h1 j hj c hc
  · obtain rfl : N = 4 := by omega
    exact inv4 h0 h1 j hj c hc
  · obtain rfl : N = 6 := by omega
    exact inv6 h0 h1 j hj c hc
  · obtain rfl : N = 12 := by omega
    exact inv12 h0 h1 j hj c hc
end Go.Proofs.YtbninbeccgdemaaDoor
