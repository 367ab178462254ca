/-
  Powers of the root, by the program and by the specification: walked.
-/
import Derived.Test.YtbninbeccgdemaaDoorCd
import Derived.Test.YtbninbeccgdemaaDoorCb
namespace Go.Proofs.YtbninbeccgdemaaDoor
open Go.RowKit

/-- Number i of the table of powers, four numbers a power. -/
def rp (i : Nat) : Int :=
  match i with
  | 0 => 1 | 5 => 1 | 10 => 1 | 15 => 1 | 16 => -1 | 18 => 1 | 21 => -1 | 23 => 1 | 24 => -1 | 29 => -1 | 34 => -1 | 39 => -1 | 40 => 1 | 42 => -1 | 45 => 1 | 47 => -1
  | _ => 0
/-- The table lies there. -/
def Tab (w : World) : Prop := 0 < w.heap.size ∧ ∀ i, i < 48 → w.cell? ⟨0, i, none⟩ = some (.int .i64 (rp i))
theorem Tab.below {w w' : World} (h : Tab w) (hb : Below w.heap.size w w') : Tab w' := ⟨Nat.lt_of_lt_of_le h.1 hb.size, fun i hi => (hb.cell (p := ⟨0, i, none⟩) h.1).trans (h.2 i hi)⟩
/-- The power k of the root. -/
abbrev rV (m : Nat) : Value := cV (rp (m * 4)) (rp (m * 4 + 1)) (rp (m * 4 + 2)) (rp (m * 4 + 3))
theorem mod12 (k : Int) : ∃ m : Nat, m < 12 ∧ k % 12 = (m : Int) := ⟨(k % 12).toNat, by omega, by omega⟩
theorem implRoot_any (k : Int) (hk : is64 k) (m : Nat) (hm : m < 12) (hkm : k % 12 = (m : Int)) (w : World) (ht : Tab w) : Calls Tryd.prog 38 #[.int .i64 k] w fun e w' => e = .returned (rV m) ∧ Below w.heap.size w w' := by
  have M := fun w => modulo_any k 12 w hk (by omega)
  rw [hkm] at M
  obtain ⟨W, hW, b0, bW, -⟩ := boxed w 33 #[.int .i64 0, .int .i64 0, .int .i64 0, .int .i64 0]
  have t := ht.below bW
  have c0 := t.2 (m * 4) (by omega)
  have c1 := t.2 (m * 4 + 1) (by omega)
  have c2 := t.2 (m * 4 + 2) (by omega)
  have c3 := t.2 (m * 4 + 3) (by omega)
  obtain ⟨d0, d1, d2, d3, f0, f1, f2, f3⟩ := b0.open4
  clear ht t
  go_enter Tryd.func38, Tryd.ntmps38
  go_wp2_with (go_at_call 62; refine (M _).mono ?_; rintro e w2 ⟨rfl, rfl⟩)
  obtain ⟨p0, p1, p2, p3, -⟩ := (put4_at b0 (.int .i64 (rp (m * 4))) (.int .i64 (rp (m * 4 + 1))) (.int .i64 (rp (m * 4 + 2))) (.int .i64 (rp (m * 4 + 3)))).open4
  exact bodyPost_ret (v := rV m) (by simp [results, Tryd.results38, go_sem, p0, p1, p2, p3]) rfl ⟨rfl, below_put4 bW (by omega) _ _ _ _⟩
theorem rp_step : ∀ i, i < 11 → rp ((i + 1) * 4) = -rp (i * 4 + 3) ∧ rp ((i + 1) * 4 + 1) = rp (i * 4) ∧ rp ((i + 1) * 4 + 2) = rp (i * 4 + 1) + rp (i * 4 + 3) ∧ rp ((i + 1) * 4 + 3) = rp (i * 4 + 2) := by decide
theorem rp_num : ∀ i, i < 48 → -1 ≤ rp i ∧ rp i ≤ 1 := by decide
theorem specRoot_any (k : Int) (hk : is64 k) (m : Nat) (hm : m < 12) (hkm : k % 12 = (m : Int)) (w : World) : Calls Tryd.prog 27 #[.int .i64 k] w fun e w' => e = .returned (rV m) ∧ Below w.heap.size w w' := by
  have M := fun w => smod_any k 12 w hk (by omega)
  rw [hkm] at M
  go_enter Tryd.func27, Tryd.ntmps27
  go_wp2_with (go_at_call 55; refine (M _).mono ?_; rintro e w2 ⟨rfl, rfl⟩)
  obtain ⟨W, hW, b0, b1, bW, -⟩ := boxed2 w 33 33 #[.int .i64 0, .int .i64 0, .int .i64 0, .int .i64 0] #[.int .i64 1, .int .i64 0, .int .i64 0, .int .i64 0]
  rw [hW]
  clear hW M
  go_loopw [4] (fun s wr => ∃ j : Nat, j ≤ m ∧ s = .int .i64 j ∧ At 33 wr w.heap.size #[.int .i64 0, .int .i64 0, .int .i64 0, .int .i64 0] ∧ At 33 wr (w.heap.size + 1) #[.int .i64 (rp ((m - j) * 4)), .int .i64 (rp ((m - j) * 4 + 1)), .int .i64 (rp ((m - j) * 4 + 2)), .int .i64 (rp ((m - j) * 4 + 3))] ∧ Below w.heap.size w wr) (fun s _ => (intOf s).toNat)
  case atStart => exact ⟨m, Nat.le_refl _, rfl, b0, by rw [Nat.sub_self]; exact b1, bW⟩
  case round =>
    clear b0 b1 bW
    obtain ⟨j, hj, rfl, b0, b1, bW⟩ := hrel
    obtain ⟨d0, d1, d2, d3, f0, f1, f2, f3⟩ := b1.open4
    by_cases hz : 0 < j
    · have hz' : (0 : Int) < (j : Int) := by omega
      obtain ⟨s0, s1, s2, s3⟩ := rp_step (m - j) (by omega)
      have r1 := rp_num ((m - j) * 4 + 1) (by omega)
      have r3 := rp_num ((m - j) * 4 + 3) (by omega)
      have HB : Hid (At 33 wr w.heap.size #[.int .i64 0, .int .i64 0, .int .i64 0, .int .i64 0]) := b0
      have HC : Hid (At 33 wr (w.heap.size + 1) #[.int .i64 (rp ((m - j) * 4)), .int .i64 (rp ((m - j) * 4 + 1)), .int .i64 (rp ((m - j) * 4 + 2)), .int .i64 (rp ((m - j) * 4 + 3))]) := b1
      have HS : Hid (rp ((m - j + 1) * 4) = -rp ((m - j) * 4 + 3) ∧ rp ((m - j + 1) * 4 + 1) = rp ((m - j) * 4) ∧ rp ((m - j + 1) * 4 + 2) = rp ((m - j) * 4 + 1) + rp ((m - j) * 4 + 3) ∧ rp ((m - j + 1) * 4 + 3) = rp ((m - j) * 4 + 2)) := ⟨s0, s1, s2, s3⟩
      clear b0 b1 s0 s1 s2 s3
      go_wp2
      refine ⟨⟨j - 1, by omega, by go_num, ((((HB.out.setOther (by omega) _).setOther (by omega) _).setOther (by omega) _).setOther (by omega) _), ?_, below_put4 bW (by omega) _ _ _ _⟩, by simp [intOf]; omega⟩
      obtain ⟨s0, s1, s2, s3⟩ := HS.out
      rw [show m - (j - 1) = m - j + 1 by omega, s0, s1, s2, s3]
      exact put4_at HC.out _ _ _ _
    · have hz' : ¬ (0 : Int) < (j : Int) := by omega
      obtain rfl : j = 0 := by omega
      rw [Nat.sub_zero] at b1 d0 d1 d2 d3
      obtain ⟨c0, c1, c2, c3, g0, g1, g2, g3⟩ := b0.open4
      go_wp2
      obtain ⟨p0, p1, p2, p3, -⟩ := (put4_at b0 (.int .i64 (rp (m * 4))) (.int .i64 (rp (m * 4 + 1))) (.int .i64 (rp (m * 4 + 2))) (.int .i64 (rp (m * 4 + 3)))).open4
      exact bodyPost_ret (v := rV m) (by simp [results, Tryd.results27, go_sem, p0, p1, p2, p3]) rfl ⟨rfl, below_put4 bW (by omega) _ _ _ _⟩
end Go.Proofs.YtbninbeccgdemaaDoor
