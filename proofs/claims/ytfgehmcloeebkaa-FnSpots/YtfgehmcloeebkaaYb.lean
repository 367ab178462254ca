/-
  Steps in groups of seven bits, by the program, walked.
-/
import Derived.Test.YtfgehmcloeebkaaYa
import Derived.Laws.BitsAllLaws
namespace Go.Proofs.Ytfgehmcloeebkaa
open Go.RowKit

theorem i64_and_nat (a b : Nat) (ha : a < 4611686018427387904) (hb : b < 4611686018427387904) : bits .and .i64 (a : Int) (b : Int) = ((a &&& b : Nat) : Int) := by
  have hx : a &&& b < 2 ^ 62 := Nat.and_lt_two_pow _ (by omega)
  show IntKind.i64.wrap ((BitVec.ofInt 64 (a : Int) &&& BitVec.ofInt 64 (b : Int)).toNat : Int) = _
  rw [BitVec.toNat_and, ofInt_u64 a (by omega), ofInt_u64 b (by omega), IntKind.wrap_i64]
  omega
theorem i64_or_nat (a b : Nat) (ha : a < 4611686018427387904) (hb : b < 4611686018427387904) : bits .or .i64 (a : Int) (b : Int) = ((a ||| b : Nat) : Int) := by
  have hx : a ||| b < 2 ^ 62 := Nat.or_lt_two_pow (by omega) (by omega)
  show IntKind.i64.wrap ((BitVec.ofInt 64 (a : Int) ||| BitVec.ofInt 64 (b : Int)).toNat : Int) = _
  rw [BitVec.toNat_or, ofInt_u64 a (by omega), ofInt_u64 b (by omega), IntKind.wrap_i64]
  omega
theorem low7 (m : Nat) (hm : m < 4611686018427387904) : bits .and .i64 (m : Int) 127 = ((m % 128 : Nat) : Int) := by
  have := i64_and_nat m 127 hm (by omega)
  rw [show ((127 : Nat) : Int) = 127 from rfl] at this
  rw [this, show (127 : Nat) = 2 ^ 7 - 1 from rfl, Nat.and_two_pow_sub_one_eq_mod]
theorem or128 (r : Nat) (hr : r < 128) : bits .or .i64 (r : Int) 128 = ((128 + r : Nat) : Int) := by
  have := i64_or_nat r 128 (by omega) (by omega)
  rw [show ((128 : Nat) : Int) = 128 from rfl] at this
  rw [this, Nat.or_comm, nat_join 7 128 r (by decide) (by omega)]
theorem folded_any (s : Int) (w : World) (h : -65535 ≤ s ∧ s ≤ 65535) : Calls Try.prog 42 #[.int .i64 s] w fun e w' => e = .returned (.int .i64 (fo s : Int)) ∧ w = w' := by
  by_cases hs : s < 0
  · have e1 : (fo s : Int) = -2 * s - 1 := by unfold fo; rw [if_pos hs]; omega
    rw [e1]
    go_enter Try.func42, Try.ntmps42
    go_wp2
    go_ret
    exact ⟨rfl, rfl⟩
  · have e1 : (fo s : Int) = 2 * s := by unfold fo; rw [if_neg hs]; omega
    rw [e1]
    go_enter Try.func42, Try.ntmps42
    go_wp2
    go_ret
    exact ⟨rfl, rfl⟩
set_option maxRecDepth 100000 in
set_option maxHeartbeats 4000000 in
theorem groupsOf_any (n : Nat) (w : World) (hn : n ≤ 131070) : Calls Try.prog 41 #[.int .i64 (n : Int)] w fun e w' => ∃ v, e = .returned v ∧ GaB w w' w.heap.size v (gr 2 n) := by
  have hbs : ∀ w, (Instr.buildSlice 22 0 #[]).run Try.prog w = .ok (.slice (some ⟨w.heap.size, 0, none⟩) 0 0) (w.alloc (.cells #[] 5)) := fun _ => by kernel_rfl
  obtain ⟨i0, hi0, hz0, hz1, hz2⟩ := info_parts infoB
  obtain ⟨V, hV, a1, bW, -⟩ := boxed w 5 #[]
  have G : GaB w V w.heap.size (.slice (some ⟨w.heap.size, 0, none⟩) 0 0) [] :=
    ⟨⟨rfl, .inr ⟨w.heap.size, 0, #[], rfl, Nat.le_refl _, a1, Nat.le_refl _, Nat.zero_le _, rfl, rfl⟩⟩, ne_nil _ _ _, bW, Nat.le_refl _, bW.size⟩
  go_enter Try.func41, Try.ntmps41
  go_wp2_with fail
  clear hV a1 bW hbs
  go_loopw [0, 3] (fun s0 s3 wr => ∃ j m : Nat, ∃ L : List Int, s0 = .int .i64 (m : Int) ∧ m < 128 ^ (j + 1) ∧ j ≤ 2 ∧ gr 2 n = L ++ gr j m ∧ GaB w wr w.heap.size s3 L) (fun s0 _ _ => (intOf s0).toNat)
  case atStart => exact ⟨2, n, [], rfl, by omega, Nat.le_refl _, rfl, G⟩
  case round =>
    clear G
    obtain ⟨j, m, L, rfl, hm, hj, hg, G⟩ := hrel
    have hLl : L.length ≤ 3 := by
      have := (gr_len 2 n).2
      rw [hg] at this
      simp at this
      omega
    by_cases hlt : m < 128
    · have hlt' : ¬ (128 : Int) ≤ (m : Int) := by omega
      rw [gr_small hlt] at hg
      obtain ⟨x, hx⟩ : ∃ x, (m : Int) = x := ⟨_, rfl⟩
      rw [hx] at hlt' hg ⊢
      have HG : Hid (gr 2 n = L ++ [x]) := hg
      clear hg
      have hx1 : 0 ≤ x ∧ x ≤ 127 := by omega
      have hb1 : ∀ w, (Instr.buildSlice 22 1 #[(0, .int .u8 x)]).run Try.prog w = .ok (.slice (some ⟨w.heap.size, 0, none⟩) 1 1) (w.alloc (.cells #[.int .u8 x] 5)) := fun _ => by kernel_rfl
      obtain ⟨V9, hV9, A9, bb, -⟩ := boxed wr 5 #[.int .u8 x]
      replace G := G.below bb
      clear bb hx
      go_wp2_with (at_builtin; refine wpList_append_own _ rfl _ _ _ rfl w.heap.size 5 i0 _ 1 1 Try.underlying22 hi0 hz0 hz1 hz2 rfl (by omega) u3 L.length (bCl L) rfl G.own ⟨wr.heap.size, 0, none⟩ 1 1 (bCl [x]) rfl rfl (newsB A9) (bCl_one _) (by unfold maxLen; omega) (by omega) G.o3 ?_; intro v2 w9 hown2 hgrow2 hne2)
      go_ret
      refine ⟨v2, rfl, ?_⟩
      rw [HG.out]
      exact G.grow hown2 hgrow2 (fun e => by have := (hne2.1 e).2; omega)
    · have hlt' : (128 : Int) ≤ (m : Int) := by omega
      obtain ⟨j', rfl⟩ : ∃ j', j = j' + 1 := by
        cases j with
        | zero => simp at hm; omega
        | succ j' => exact ⟨j', rfl⟩
      rw [gr_big hlt] at hg
      have l7 := low7 m (by have : (128 : Nat) ^ (j' + 1 + 1) ≤ 128 ^ 3 := Nat.pow_le_pow_right (by omega) (by omega); omega)
      have o8 := or128 (m % 128) (Nat.mod_lt _ (by omega))
      have hm3 : m < 2097152 := by have : (128 : Nat) ^ (j' + 1 + 1) ≤ 128 ^ 3 := Nat.pow_le_pow_right (by omega) (by omega); omega
      obtain ⟨x, hx⟩ : ∃ x, ((128 + m % 128 : Nat) : Int) = x := ⟨_, rfl⟩
      have hx1 : 0 ≤ x ∧ x ≤ 255 := by omega
      rw [hx] at o8 hg
      generalize hr0 : ((m % 128 : Nat) : Int) = r0 at l7 o8
      have hb1 : ∀ w, (Instr.buildSlice 22 1 #[(0, .int .u8 x)]).run Try.prog w = .ok (.slice (some ⟨w.heap.size, 0, none⟩) 1 1) (w.alloc (.cells #[.int .u8 x] 5)) := fun _ => by kernel_rfl
      obtain ⟨V9, hV9, A9, bb, -⟩ := boxed wr 5 #[.int .u8 x]
      replace G := G.below bb
      clear bb hx hr0
      go_wp2_with (at_builtin; refine wpList_append_own _ rfl _ _ _ rfl w.heap.size 5 i0 _ 1 1 Try.underlying22 hi0 hz0 hz1 hz2 rfl (by omega) u3 L.length (bCl L) rfl G.own ⟨wr.heap.size, 0, none⟩ 1 1 (bCl [x]) rfl rfl (newsB A9) (bCl_one _) (by unfold maxLen; omega) (by omega) G.o3 ?_; intro v2 w9 hown2 hgrow2 hne2)
      refine ⟨⟨j', m / 128, L ++ [x], by simp, ?_, by omega, by rw [hg]; simp, G.grow hown2 hgrow2 (fun e => by have := (hne2.1 e).2; omega)⟩, by simp [intOf]; omega⟩
      refine Nat.div_lt_of_lt_mul ?_
      rw [Nat.mul_comm, ← Nat.pow_succ]
      exact hm
end Go.Proofs.Ytfgehmcloeebkaa
