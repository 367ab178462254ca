/-
  Act by the specification; points taken over and compared.
-/
import Derived.Test.YtmjeplhigjlopaaQd
namespace Go.Proofs.Ytmjeplhigjlopaa
open Go.RowKit
theorem toPoint_any (x y z : Int) (w : World) : Calls Try.prog 30 #[pV x y z] w fun e w' => e = .returned (pV x y z) ∧ Below w.heap.size w w' := by
  obtain ⟨W1, hW1, a1, bW1, z1⟩ := boxed w 46 #[.int .i64 x, .int .i64 y, .int .i64 z]
  obtain ⟨W2, hW2, a2, bW2, z2⟩ := boxed W1 48 #[.int .i64 0, .int .i64 0, .int .i64 0]
  obtain ⟨W3, hW3, a3, bW3, z3⟩ := boxed W2 48 #[.int .i64 0, .int .i64 0, .int .i64 0]
  rw [z1] at a2 bW2 z2
  rw [z2] at a3 bW3 z3
  replace a1 := (a1.belowN bW2 (by omega)).belowN bW3 (by omega)
  replace a2 := a2.belowN bW3 (by omega)
  have bW : Below w.heap.size w W3 := (bW1.trans (bW2.mono (by omega))).trans (bW3.mono (by omega))
  clear bW1 bW2 bW3
  obtain ⟨c0, c1, c2, -⟩ := a1.open3
  obtain ⟨d0, d1, d2, f0, f1, f2⟩ := At.open3 a2
  obtain ⟨g0, g1, g2, h0, h1, h2⟩ := At.open3 a3
  unfold pV
  go_enter Try.func30, Try.ntmps30
  go_wp2
  have A2 := (((a2.setOther (p := w.heap.size + 1 + 1) (i := 0) (by omega) (.int .i64 x)).setOther (p := w.heap.size + 1 + 1) (i := 1) (by omega) (.int .i64 y)).setOther (p := w.heap.size + 1 + 1) (i := 2) (by omega) (.int .i64 z))
  obtain ⟨q0, q1, q2, -⟩ := At.open3 (put3e_at A2 (.int .i64 x) (.int .i64 y) (.int .i64 z))
  exact bodyPost_ret (v := .agg #[.int .i64 x, .int .i64 y, .int .i64 z]) (by simp [results, Try.results30, go_sem, q0, q1, q2]) rfl ⟨rfl, put3e_below (put3e_below bW (by omega) _ _ _) (by omega) _ _ _⟩
end Go.Proofs.Ytmjeplhigjlopaa
