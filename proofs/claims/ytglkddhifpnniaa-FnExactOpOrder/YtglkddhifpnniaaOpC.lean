/-
  Operators taken in by the program, walked.
-/
import Derived.Test.YtglkddhifpnniaaOpB
import Derived.Deep.CutRange
namespace Go.Proofs.Ytglkddhifpnniaa
open Go.RowKit

theorem zero12 : opA (fun _ => 0) (fun _ => 0) = #[.int .i64 0, .int .i64 0, .int .i64 0, .int .i64 0, .int .i64 0, .int .i64 0, .int .i64 0, .int .i64 0, .int .i64 0, .int .i64 0, .int .i64 0, .int .i64 0] := rfl
theorem at53 (a : Option Addr) (cap : Nat) (w : World) : (Instr.arrayAt 41 (.slice a 9 cap)).run Try.prog w = .ok (.pointer a) w := run_arrayAt w 41 _ 9 a 9 cap Try.underlying41 (by decide)
theorem Ints.open3 {w : World} {b off : Nat} {f : Nat → Int} (h : Ints w b off 3 f) : w.cell? ⟨b, off, none⟩ = some (.int .i64 (f 0)) ∧ w.cell? ⟨b, off + 1, none⟩ = some (.int .i64 (f 1)) ∧ w.cell? ⟨b, off + 2, none⟩ = some (.int .i64 (f 2)) :=
  ⟨h 0 (by decide), h 1 (by decide), h 2 (by decide)⟩
theorem At.fro12 {t : TypeId} {w : World} {q : Nat} {vs : Array Value} (x : At t w q vs) : w.frozen? ⟨q, 0, none⟩ = false ∧ w.frozen? ⟨q, 1, none⟩ = false ∧ w.frozen? ⟨q, 2, none⟩ = false ∧ w.frozen? ⟨q, 3, none⟩ = false ∧ w.frozen? ⟨q, 4, none⟩ = false ∧ w.frozen? ⟨q, 5, none⟩ = false ∧ w.frozen? ⟨q, 6, none⟩ = false ∧ w.frozen? ⟨q, 7, none⟩ = false ∧ w.frozen? ⟨q, 8, none⟩ = false ∧ w.frozen? ⟨q, 9, none⟩ = false ∧ w.frozen? ⟨q, 10, none⟩ = false ∧ w.frozen? ⟨q, 11, none⟩ = false :=
  ⟨x.frozen 0, x.frozen 1, x.frozen 2, x.frozen 3, x.frozen 4, x.frozen 5, x.frozen 6, x.frozen 7, x.frozen 8, x.frozen 9, x.frozen 10, x.frozen 11⟩
/-- Twelve numbers stored at block q. -/
abbrev put12 (W : World) (q : Nat) (f h : Nat → Int) : World := ((((((((((((W.setCell ⟨q, 0, none⟩ (.int .i64 (f 0))).setCell ⟨q, 1, none⟩ (.int .i64 (f 1))).setCell ⟨q, 2, none⟩ (.int .i64 (f 2))).setCell ⟨q, 3, none⟩ (.int .i64 (f 3))).setCell ⟨q, 4, none⟩ (.int .i64 (f 4))).setCell ⟨q, 5, none⟩ (.int .i64 (f 5))).setCell ⟨q, 6, none⟩ (.int .i64 (f 6))).setCell ⟨q, 7, none⟩ (.int .i64 (f 7))).setCell ⟨q, 8, none⟩ (.int .i64 (f 8))).setCell ⟨q, 9, none⟩ (.int .i64 (h 0))).setCell ⟨q, 10, none⟩ (.int .i64 (h 1))).setCell ⟨q, 11, none⟩ (.int .i64 (h 2)))
theorem put12_at {t : TypeId} {W : World} {q : Nat} {f' h' : Nat → Int} (x : At t W q (opA f' h')) (f h : Nat → Int) : At t (put12 W q f h) q (opA f h) := by
  have := ((((((((((((x.set 0 (.int .i64 (f 0))).set 1 (.int .i64 (f 1))).set 2 (.int .i64 (f 2))).set 3 (.int .i64 (f 3))).set 4 (.int .i64 (f 4))).set 5 (.int .i64 (f 5))).set 6 (.int .i64 (f 6))).set 7 (.int .i64 (f 7))).set 8 (.int .i64 (f 8))).set 9 (.int .i64 (h 0))).set 10 (.int .i64 (h 1))).set 11 (.int .i64 (h 2)))
  simpa [opA] using this
theorem put12_below {w W : World} {n q : Nat} (x : Below n w W) (hq : n ≤ q) (f h : Nat → Int) : Below n w (put12 W q f h) := ((((((((((((x.setCell hq _).setCell hq _).setCell hq _).setCell hq _).setCell hq _).setCell hq _).setCell hq _).setCell hq _).setCell hq _).setCell hq _).setCell hq _).setCell hq _)
theorem put12_other {t : TypeId} {W : World} {p q : Nat} {vs : Array Value} (x : At t W p vs) (hp : p ≠ q) (f h : Nat → Int) : At t (put12 W q f h) p vs := ((((((((((((x.setOther hp _).setOther hp _).setOther hp _).setOther hp _).setOther hp _).setOther hp _).setOther hp _).setOther hp _).setOther hp _).setOther hp _).setOther hp _).setOther hp _)
set_option maxHeartbeats 1600000 in
theorem operatorOf_bad {w : World} (a b : Option Addr) (n cap k cap' : Nat) (hnk : ¬ (n = 9 ∧ k = 3)) :
    Calls Try.prog 21 #[.agg #[.slice a n cap, .slice b k cap']] w fun e w' => e = .returned (.tuple #[.agg (opA (fun _ => 0) (fun _ => 0)), .bool false]) ∧ Below w.heap.size w w' := by
  obtain ⟨W1, hW1, a1, bW1, -⟩ := boxed w 26 #[.slice a n cap, .slice b k cap']
  obtain ⟨W2, hW2, a2, bW2, -⟩ := boxed W1 45 (opA (fun _ => 0) (fun _ => 0))
  rw [zero12] at hW2
  have s1 := a1.lt
  replace a1 := a1.below bW2
  replace bW1 := bW1.trans (bW2.mono bW1.size)
  obtain ⟨c0, c1, -⟩ := a1.open2
  obtain ⟨⟨d0, d1, d2, d3, d4, d5, d6, d7, d8⟩, d9, d10, d11⟩ := a2.open12
  obtain ⟨f0, f1, f2, f3, f4, f5, f6, f7, f8, f9, f10, f11⟩ := a2.fro12
  obtain ⟨X, hX⟩ : ∃ X, put12 W2 W1.heap.size (fun _ => 0) (fun _ => 0) = X := ⟨_, rfl⟩
  have A3 : Hid (At 45 X W1.heap.size (opA (fun _ => 0) (fun _ => 0))) := hX ▸ put12_at a2 (fun _ => 0) (fun _ => 0)
  have B3 : Below w.heap.size w X := hX ▸ put12_below bW1 (Nat.le_of_lt s1) (fun _ => 0) (fun _ => 0)
  unfold put12 at hX
  dsimp only at hX
  have HX : Hid _ := hX
  clear hX
  by_cases h9 : (n : Int) = 9
  · have h3 : ¬ (k : Int) = 3 := by omega
    go_enter Try.func21, Try.ntmps21
    go_wp2
    have hX := HX.out
    rw [hX]
    obtain ⟨⟨p0, p1, p2, p3, p4, p5, p6, p7, p8⟩, p9, p10, p11⟩ := A3.out.open12
    exact bodyPost_ret (v := .tuple #[.agg (opA (fun _ => 0) (fun _ => 0)), .bool false]) (by simp [results, Try.results21, go_sem, opA, p0, p1, p2, p3, p4, p5, p6, p7, p8, p9, p10, p11]) rfl ⟨rfl, B3⟩
  · go_enter Try.func21, Try.ntmps21
    go_wp2
    have hX := HX.out
    rw [hX]
    obtain ⟨⟨p0, p1, p2, p3, p4, p5, p6, p7, p8⟩, p9, p10, p11⟩ := A3.out.open12
    exact bodyPost_ret (v := .tuple #[.agg (opA (fun _ => 0) (fun _ => 0)), .bool false]) (by simp [results, Try.results21, go_sem, opA, p0, p1, p2, p3, p4, p5, p6, p7, p8, p9, p10, p11]) rfl ⟨rfl, B3⟩
end Go.Proofs.Ytglkddhifpnniaa
