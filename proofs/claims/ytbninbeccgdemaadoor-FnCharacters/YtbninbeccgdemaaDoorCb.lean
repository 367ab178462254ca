/-
  Which cyclotomic numbers are right, by the program: walked.
-/
import Derived.Test.YtbninbeccgdemaaDoorCa
namespace Go.Proofs.YtbninbeccgdemaaDoor
open Go.RowKit

/-- The four numbers, one by one. -/
def pt (a b c d : Int) (k : Nat) : Int := match k with | 0 => a | 1 => b | 2 => c | _ => d
theorem ix4 (a b c d : Int) (k : Nat) (hk : k < 4) (w : World) : (Instr.index 69 (cV a b c d) (.int .i64 (k : Int))).run Tryd.prog w = .ok (.int .i64 (pt a b c d k)) w := by
  rcases (by omega : k = 0 ∨ k = 1 ∨ k = 2 ∨ k = 3) with rfl | rfl | rfl | rfl <;> kernel_rfl
theorem cOk_iff (a b c d : Int) : cOk a b c d = true ↔ ∀ i, i < 4 → inC (pt a b c d i) := by
  simp only [cOk, Bool.and_eq_true, decide_eq_true_eq]
  constructor
  · rintro ⟨h0, h1, h2, h3⟩ i hi
    rcases (by omega : i = 0 ∨ i = 1 ∨ i = 2 ∨ i = 3) with rfl | rfl | rfl | rfl
    · exact h0
    · exact h1
    · exact h2
    · exact h3
  · intro h
    exact ⟨h 0 (by decide), h 1 (by decide), h 2 (by decide), h 3 (by decide)⟩
theorem implOk_any (a b c d : Int) (w : World) : Calls Tryd.prog 39 #[cV a b c d] w fun e w' => e = .returned (.bool (cOk a b c d)) ∧ Below w.heap.size w w' := by
  obtain ⟨W, hW, b0, bW, -⟩ := boxed w 33 #[.int .i64 a, .int .i64 b, .int .i64 c, .int .i64 d]
  obtain ⟨c0, c1, c2, c3, -⟩ := b0.open4
  go_enter Tryd.func39, Tryd.ntmps39
  go_wp2_with (go_at_call 44; refine (numbers_any _ _ _ _ _).mono ?_; rintro e w2 ⟨rfl, hb2⟩)
  replace bW := bW.trans (hb2.mono bW.size)
  clear hW b0 c0 c1 c2 c3 hb2
  go_loopw [7] (fun s wr => ∃ k : Nat, k ≤ 4 ∧ s = .int .i64 k ∧ w2 = wr ∧ ∀ i, i < k → inC (pt a b c d i)) (fun s _ => 4 - (intOf s).toNat)
  case atStart => exact ⟨0, Nat.zero_le _, rfl, rfl, fun i hi => by omega⟩
  case round =>
    obtain ⟨k, hk, rfl, rfl, hall⟩ := hrel
    by_cases hlt : k < 4
    · have hlt' : (k : Int) < 4 := by omega
      have hix := ix4 a b c d k hlt
      have HA : Hid (∀ i, i < k → inC (pt a b c d i)) := hall
      clear hall
      by_cases hin : inC (pt a b c d k)
      · have hin' : -1000000000000 ≤ pt a b c d k ∧ pt a b c d k ≤ 1000000000000 := hin
        go_wp2_with (go_at_call 50; refine (within_any _ _ _ (by decide) (by decide)).mono ?_; rintro e w3 ⟨rfl, rfl⟩)
        refine ⟨⟨k + 1, by omega, by go_num, by trivial, fun i hi => ?_⟩, by simp [intOf]; omega⟩
        by_cases e : i = k
        · rw [e]; exact hin
        · exact HA.out i (by omega)
      · have hin' : ¬ (-1000000000000 ≤ pt a b c d k ∧ pt a b c d k ≤ 1000000000000) := hin
        go_wp2_with (go_at_call 50; refine (within_any _ _ _ (by decide) (by decide)).mono ?_; rintro e w3 ⟨rfl, rfl⟩)
        go_ret
        refine ⟨?_, bW⟩
        rw [show cOk a b c d = false from by rw [Bool.eq_false_iff]; exact fun h => hin ((cOk_iff a b c d).1 h k hlt)]
        rfl
    · have hlt' : ¬ (k : Int) < 4 := by omega
      obtain rfl : k = 4 := by omega
      go_wp2
      go_ret
      refine ⟨?_, bW⟩
      rw [(cOk_iff a b c d).2 hall]
      rfl
/-- What is told of four numbers that may be none. -/
def told (a b c d : Int) : Value := .tuple #[if cOk a b c d then cV a b c d else cV 0 0 0 0, .bool (cOk a b c d)]
theorem inRange_any (a b c d : Int) (w : World) : Calls Tryd.prog 41 #[cV a b c d] w fun e w' => e = .returned (told a b c d) ∧ Below w.heap.size w w' := by
  obtain ⟨W, hW, b0, b1, bW, sW⟩ := boxed2 w 33 33 #[.int .i64 a, .int .i64 b, .int .i64 c, .int .i64 d] #[.int .i64 0, .int .i64 0, .int .i64 0, .int .i64 0]
  obtain ⟨c0, c1, c2, c3, -⟩ := b0.open4
  unfold told
  cases hk : cOk a b c d
  · rw [if_neg (by decide)]
    go_enter Tryd.func41, Tryd.ntmps41
    go_wp2_with (go_at_call 39; refine (implOk_any _ _ _ _ _).mono ?_; rintro e w2 ⟨rfl, hb2⟩; rw [hk]; clear c0 c1 c2 c3; replace b0 := b0.below hb2; replace b1 := b1.below hb2; replace bW := bW.trans (hb2.mono bW.size); obtain ⟨d0, d1, d2, d3, f0, f1, f2, f3⟩ := b1.open4; clear hb2)
    obtain ⟨p0, p1, p2, p3, -⟩ := (put4_at b1 (.int .i64 0) (.int .i64 0) (.int .i64 0) (.int .i64 0)).open4
    exact bodyPost_ret (by simp [results, Tryd.results41, go_sem, p0, p1, p2, p3]) rfl ⟨rfl, below_put4 bW (by omega) _ _ _ _⟩
  · rw [if_pos rfl]
    go_enter Tryd.func41, Tryd.ntmps41
    go_wp2_with (go_at_call 39; refine (implOk_any _ _ _ _ _).mono ?_; rintro e w2 ⟨rfl, hb2⟩; rw [hk]; clear c0 c1 c2 c3; replace b0 := b0.below hb2; replace b1 := b1.below hb2; replace bW := bW.trans (hb2.mono bW.size); obtain ⟨c0, c1, c2, c3, -⟩ := b0.open4; obtain ⟨d0, d1, d2, d3, f0, f1, f2, f3⟩ := b1.open4; clear hb2)
    obtain ⟨p0, p1, p2, p3, -⟩ := (put4_at b1 (.int .i64 a) (.int .i64 b) (.int .i64 c) (.int .i64 d)).open4
    exact bodyPost_ret (by simp [results, Tryd.results41, go_sem, p0, p1, p2, p3]) rfl ⟨rfl, below_put4 bW (by omega) _ _ _ _⟩
end Go.Proofs.YtbninbeccgdemaaDoor
