/-
  Factors where there is nothing to tell: walked.
-/
import Derived.Test.YtnkmiljnilmicaaFd2
namespace Go.Proofs.Ytnkmiljnilmicaa
open Go.RowKit Go.Shelf

/-- An own list of no text. -/
def NoE (w : World) (e : Ending) (w' : World) : Prop := (∃ v, e = .returned v ∧ TxL w' w.heap.size v []) ∧ Below w.heap.size w w'
theorem noE_of {w U1 : World} {gd : Nat} (hgd : w.heap.size = gd) (u1 : At 9 U1 gd #[]) (d1 : Below w.heap.size w U1) : NoE w (.returned (.slice (some ⟨gd, 0, none⟩) 0 0)) U1 :=
  ⟨⟨_, rfl, ⟨rfl, .inr ⟨gd, 0, #[], rfl, by omega, u1, Nat.le_refl _, Nat.zero_le _, rfl, rfl⟩⟩, fun h => by cases h⟩, d1⟩
theorem implFactors_no {w : World} (s : ByteArray) (n : Int) (h : ¬ (rowOk s 1000 = true ∧ 1 ≤ n ∧ n ≤ 40)) :
    Calls Try.prog 8 #[.string s, .int .i64 n] w (NoE w) := by
  have hbs : ∀ w, (Instr.buildSlice 27 0 #[]).run Try.prog w = .ok (.slice (some ⟨w.heap.size, 0, none⟩) 0 0) (w.alloc (.cells #[] 9)) := fun _ => by kernel_rfl
  obtain ⟨gd, hgd⟩ : ∃ q, w.heap.size = q := ⟨_, rfl⟩
  obtain ⟨U1, hU1, u1, d1, -⟩ := boxed w 9 #[]
  rw [hgd] at u1
  have NN := hid_of (noE_of hgd u1 d1)
  clear u1 d1
  have CR := isRow_any s 1000 w (by omega)
  go_enter Try.func8, Try.ntmps8
  go_wp2_with fail
  refine CR.mono ?_
  rintro e w1 ⟨rfl, rfl⟩
  clear CR
  cases hr : rowOk s 1000
  · go_wp2
    go_ret
    exact NN.out
  · have hcs : n < 1 ∨ (¬ n < 1 ∧ 40 < n) := by
      rw [hr] at h
      simp at h
      omega
    rcases hcs with h1 | ⟨h1, h2⟩
    · go_wp2
      go_ret
      exact NN.out
    · go_wp2
      go_ret
      exact NN.out
theorem specFactors_no {w : World} (s : ByteArray) (n : Int) (h : ¬ (rowOk s 1000 = true ∧ 1 ≤ n ∧ n ≤ 40)) :
    Calls Try.prog 10 #[.string s, .int .i64 n] w (NoE w) := by
  have hbs : ∀ w, (Instr.buildSlice 27 0 #[]).run Try.prog w = .ok (.slice (some ⟨w.heap.size, 0, none⟩) 0 0) (w.alloc (.cells #[] 9)) := fun _ => by kernel_rfl
  obtain ⟨gd, hgd⟩ : ∃ q, w.heap.size = q := ⟨_, rfl⟩
  obtain ⟨U1, hU1, u1, d1, -⟩ := boxed w 9 #[]
  rw [hgd] at u1
  have NN := hid_of (noE_of hgd u1 d1)
  clear u1 d1
  have CR := l9Row_any s 1000 U1 (by omega)
  have CI := in64_any n 1 40 U1
  go_enter Try.func10, Try.ntmps10
  go_wp2_with fail
  refine CR.mono ?_
  rintro e w1 ⟨rfl, rfl⟩
  clear CR
  cases hr : rowOk s 1000
  · go_wp2
    go_ret
    exact NN.out
  · have hd : decide ((1 : Int) ≤ n ∧ n ≤ 40) = false := by
      rw [hr] at h
      simp at h
      simp
      omega
    rw [hd] at CI
    go_wp2_with fail
    refine CI.mono ?_
    rintro e w1 ⟨rfl, rfl⟩
    clear CI
    go_wp2
    go_ret
    exact NN.out
end Go.Proofs.Ytnkmiljnilmicaa
