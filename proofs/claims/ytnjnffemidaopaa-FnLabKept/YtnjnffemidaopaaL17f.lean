/-
  Labs: measured, taken over, held against each other, marked, the marks held. Walked.
-/
import Derived.Test.YtnjnffemidaopaaQSample
import Derived.Test.YtnjnffemidaopaaQJob
namespace Go.Proofs.Ytnjnffemidaopaa
open Go.RowKit

theorem put3_at {t : TypeId} {w : World} {q : Nat} {u0 u1 u2 : Value} (h : At t w q #[u0, u1, u2]) (v0 v1 v2 : Value) : At t (((w.setCell ⟨q, 0, none⟩ v0).setCell ⟨q, 1, none⟩ v1).setCell ⟨q, 2, none⟩ v2) q #[v0, v1, v2] := by
  have := ((h.set 0 v0).set 1 v1).set 2 v2
  simpa using this
theorem below_put3 {w0 w : World} {q N : Nat} (h : Below N w0 w) (hq : N ≤ q) (v0 v1 v2 : Value) : Below N w0 (((w.setCell ⟨q, 0, none⟩ v0).setCell ⟨q, 1, none⟩ v1).setCell ⟨q, 2, none⟩ v2) :=
  ((h.setCell hq _).setCell hq _).setCell hq _
abbrev lbV (a : Option Addr) (n c : Nat) (b : Option Addr) (m d : Nat) (T : Int) : Value := .agg #[.slice a n c, .slice b m d, .int .i64 T]
abbrev labV (v u : Value) (T : Int) : Value := .agg #[v, u, .int .i64 T]
theorem szLab_any {w : World} {p q : Option Addr} {n c m d : Nat} {T : Int} (hn : n ≤ maxLen) (hm : m ≤ maxLen) :
    Calls Try.prog 18 #[lbV p n c q m d T, .int .i64 1048576] w fun e w' => ∃ r : Int, e = .returned (.int .i64 r) ∧ (r = -1 ∨ (0 ≤ r ∧ n ≤ 1048576 ∧ m ≤ 1048576)) ∧ Below w.heap.size w w' := by
  obtain ⟨W1, hW1, a1, b1, -⟩ := boxed w 48 #[.slice p n c, .slice q m d, .int .i64 T]
  obtain ⟨c0, c1, c2, -⟩ := a1.open3
  go_enter Try.func18, Try.ntmps18
  go_wp2_with fail
  refine (szSample_any 1048576 (by omega) _ hn).mono ?_
  rintro e w1 ⟨⟨r, rfl, hr⟩, rfl⟩
  rcases hr with rfl | ⟨r0, r1, hn2⟩
  · go_wp2
    go_ret
    exact ⟨_, rfl, .inl rfl, b1⟩
  have hr0 : ¬ r < 0 := by omega
  go_wp2_with fail
  refine (szJob_any r (by omega) _ hm).mono ?_
  rintro e w1 ⟨⟨r', rfl, hr'⟩, rfl⟩
  rcases hr' with rfl | ⟨r0', r1', hm2⟩
  · go_wp2
    go_ret
    exact ⟨_, rfl, .inl rfl, b1⟩
  have hr0' : ¬ r' < 0 := by omega
  go_wp2
  go_ret
  exact ⟨_, rfl, .inr ⟨r0', hn2, hm2⟩, b1⟩
/-- A lab taken over: both lists new. -/
def TlP (n m : Nat) (T : Int) (f k : Nat → Int) (w : World) (e : Ending) (w' : World) : Prop := ∃ g h, e = .returned (lbV (some ⟨g, 0, none⟩) n n (some ⟨h, 0, none⟩) m m T) ∧ w.heap.size ≤ g ∧ w.heap.size ≤ h ∧ LaidK 3 37 w' g n n f ∧ LaidK 4 39 w' h m m k ∧ Below w.heap.size w w'
set_option maxHeartbeats 1600000 in
theorem toLab_any {w : World} {p q : Option Addr} {n c m d : Nat} {T : Int} {f k : Nat → Int} (hS : Src w p (n * 3) f) (hJ : Src w q (m * 4) k) (hn : n ≤ 1048576) (hm : m ≤ 1048576) :
    Calls Try.prog 19 #[lbV p n c q m d T] w (TlP n m T f k w) := by
  obtain ⟨W1, hW1, a1, bW1, -⟩ := boxed w 48 #[.slice p n c, .slice q m d, .int .i64 T]
  obtain ⟨W2, hW2, a2, bW2, -⟩ := boxed W1 27 #[.slice none 0 0, .slice none 0 0, .int .i64 0]
  obtain ⟨W3, hW3, a3, bW3, -⟩ := boxed W2 27 #[.slice none 0 0, .slice none 0 0, .int .i64 0]
  have s2 := a2.lt
  have s1 := a1.lt
  have s3 := a3.lt
  replace a1 := (a1.below bW2).below bW3
  replace a2 := a2.below bW3
  replace bW1 := (bW1.trans (bW2.mono bW1.size)).trans (bW3.mono (by omega))
  obtain ⟨c0, c1, c2, -⟩ := a1.open3
  go_enter Try.func19, Try.ntmps19
  go_wp2_with fail
  clear c0 c1 c2
  refine (toSampleS_any (hS.below bW1) hn).mono ?_
  rintro e w1 ⟨g1, rfl, hg1, o1, b1⟩
  replace a1 := a1.below b1
  replace a2 := a2.below b1
  replace a3 := a3.below b1
  replace bW1 := bW1.trans (b1.mono bW1.size)
  have s4 := b1.size
  have s5 := o1.lt
  clear b1
  obtain ⟨c0, c1, c2, -⟩ := a1.open3
  obtain ⟨d0, d1, d2, e0, e1, e2⟩ := a3.open3
  obtain ⟨U, hU, u1, u2, u3, o2, bU, sU⟩ : ∃ U, w1.setCell ⟨W2.heap.size, 0, none⟩ (.slice (some ⟨g1, 0, none⟩) n n) = U ∧ At 48 U w.heap.size #[.slice p n c, .slice q m d, .int .i64 T] ∧ At 27 U W1.heap.size #[.slice none 0 0, .slice none 0 0, .int .i64 0] ∧ At 27 U W2.heap.size #[.slice (some ⟨g1, 0, none⟩) n n, .slice none 0 0, .int .i64 0] ∧ LaidK 3 37 U g1 n n f ∧ Below w.heap.size w U ∧ w1.heap.size ≤ U.heap.size := by
    refine ⟨_, rfl, a1.setOther (by omega) _, a2.setOther (by omega) _, by simpa using a3.set 0 (.slice (some ⟨g1, 0, none⟩) n n), o1.setOther (by omega) _, bW1.setCell (show w.heap.size ≤ W2.heap.size by omega) _, by simp [World.setCell]⟩
  obtain ⟨y0, y1, y2, -⟩ := u1.open3
  go_wp2_with fail
  clear c0 c1 c2 d0 d1 d2 e0 e1 e2 a1 a2 a3 hU o1 y0 y1 y2 hW1 hW2 hW3 bW1 bW2 bW3
  refine (toJobS_any (hJ.below bU) hm).mono ?_
  rintro e w2 ⟨h1, rfl, hh1, l1, b2⟩
  replace u1 := u1.below b2
  replace u2 := u2.below b2
  replace u3 := u3.below b2
  replace o2 := o2.below b2
  replace bU := bU.trans (b2.mono bU.size)
  have s6 := b2.size
  have s7 := l1.lt
  clear b2
  obtain ⟨c0, c1, c2, -⟩ := u1.open3
  obtain ⟨d0, d1, d2, e0, e1, e2⟩ := u3.open3
  obtain ⟨U2, hU2, x1, x2, x3, o3, l3, bU2, sU2⟩ : ∃ U, w2.setCell ⟨W2.heap.size, 1, none⟩ (.slice (some ⟨h1, 0, none⟩) m m) = U ∧ At 48 U w.heap.size #[.slice p n c, .slice q m d, .int .i64 T] ∧ At 27 U W1.heap.size #[.slice none 0 0, .slice none 0 0, .int .i64 0] ∧ At 27 U W2.heap.size #[.slice (some ⟨g1, 0, none⟩) n n, .slice (some ⟨h1, 0, none⟩) m m, .int .i64 0] ∧ LaidK 3 37 U g1 n n f ∧ LaidK 4 39 U h1 m m k ∧ Below w.heap.size w U ∧ w2.heap.size ≤ U.heap.size := by
    refine ⟨_, rfl, u1.setOther (by omega) _, u2.setOther (by omega) _, by simpa using u3.set 1 (.slice (some ⟨h1, 0, none⟩) m m), o2.setOther (by omega) _, l1.setOther (by omega) _, bU.setCell (show w.heap.size ≤ W2.heap.size by omega) _, by simp [World.setCell]⟩
  clear c0 c1 c2
  obtain ⟨c0, c1, c2, -⟩ := x1.open3
  obtain ⟨y0, y1, y2, y3, y4, y5⟩ := x3.open3
  obtain ⟨U3, hU3, z2, z3, o4, l4, bU3, sU3⟩ : ∃ U, U2.setCell ⟨W2.heap.size, 2, none⟩ (.int .i64 T) = U ∧ At 27 U W1.heap.size #[.slice none 0 0, .slice none 0 0, .int .i64 0] ∧ At 27 U W2.heap.size #[.slice (some ⟨g1, 0, none⟩) n n, .slice (some ⟨h1, 0, none⟩) m m, .int .i64 T] ∧ LaidK 3 37 U g1 n n f ∧ LaidK 4 39 U h1 m m k ∧ Below w.heap.size w U ∧ U2.heap.size ≤ U.heap.size := by
    refine ⟨_, rfl, x2.setOther (by omega) _, by simpa using x3.set 2 (.int .i64 T), o3.setOther (by omega) _, l3.setOther (by omega) _, bU2.setCell (show w.heap.size ≤ W2.heap.size by omega) _, by simp [World.setCell]⟩
  obtain ⟨x0, x1', x2', -⟩ := z3.open3
  obtain ⟨f0, f1, f2, r0, r1, r2⟩ := z2.open3
  go_wp2
  have a7 := put3_at z2 (.slice (some ⟨g1, 0, none⟩) n n) (.slice (some ⟨h1, 0, none⟩) m m) (.int .i64 T)
  obtain ⟨p0, p1, p2, -⟩ := a7.open3
  refine bodyPost_ret (v := lbV (some ⟨g1, 0, none⟩) n n (some ⟨h1, 0, none⟩) m m T) (by simp [results, Try.results19, go_sem, p0, p1, p2]) rfl ?_
  exact ⟨_, _, rfl, by omega, by omega, ((o4.setOther (by omega) _).setOther (by omega) _).setOther (by omega) _, ((l4.setOther (by omega) _).setOther (by omega) _).setOther (by omega) _, below_put3 bU3 (by omega) _ _ _⟩
set_option maxHeartbeats 1600000 in
theorem eqLab_true {w : World} {p q p' q' : Option Addr} {n c c' m d d' : Nat} {T : Int} {f k : Nat → Int} (h1 : Ls 3 w p n f) (h2 : Ls 3 w p' n f) (j1 : Ls 4 w q m k) (j2 : Ls 4 w q' m k) (hn : n ≤ 1048576) (hm : m ≤ 1048576) :
    Calls Try.prog 20 #[lbV p n c q m d T, lbV p' n c' q' m d' T] w fun e w' => e = .returned (.bool true) ∧ Below w.heap.size w w' := by
  obtain ⟨W2, hW2, a1, a2, B, -⟩ := bx2 w 27 27 #[.slice p n c, .slice q m d, .int .i64 T] #[.slice p' n c', .slice q' m d', .int .i64 T]
  obtain ⟨q1, hq1⟩ : ∃ q, w.heap.size = q := ⟨_, rfl⟩
  obtain ⟨q2, hq2⟩ : ∃ q, q1 + 1 = q := ⟨_, rfl⟩
  rw [hq1] at a1 a2
  rw [hq2] at a2
  have hne := bne_self_eq_false T
  replace h1 := h1.below B
  replace h2 := h2.below B
  replace j1 := j1.below B
  replace j2 := j2.below B
  obtain ⟨c0, c1, c2, -⟩ := a1.open3
  obtain ⟨d0, d1, d2, -⟩ := a2.open3
  go_enter Try.func20, Try.ntmps20
  go_wp2_with fail
  refine (eqSampleL_true h1 h2 hn).mono ?_
  rintro e w3 ⟨rfl, b3⟩
  replace a1 := a1.below b3
  replace a2 := a2.below b3
  replace j1 := j1.below b3
  replace j2 := j2.below b3
  have B3 := B.trans (b3.mono B.size)
  clear c0 c1 c2 d0 d1 d2 b3 B
  obtain ⟨c0, c1, c2, -⟩ := a1.open3
  obtain ⟨d0, d1, d2, -⟩ := a2.open3
  go_wp2_with fail
  refine (eqJobL_true j1 j2 hm).mono ?_
  rintro e w4 ⟨rfl, b4⟩
  replace a1 := a1.below b4
  replace a2 := a2.below b4
  have B4 := B3.trans (b4.mono B3.size)
  clear c0 c1 c2 d0 d1 d2
  obtain ⟨c0, c1, c2, -⟩ := a1.open3
  obtain ⟨d0, d1, d2, -⟩ := a2.open3
  go_wp2
  go_ret
  exact ⟨rfl, B4⟩
end Go.Proofs.Ytnjnffemidaopaa
