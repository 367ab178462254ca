/-
  A deed done by the program, from a lab that is handed in: walked.
-/
import Derived.Test.YtnjnffemidaopaaL17p
namespace Go.Proofs.Ytnjnffemidaopaa
open Go.RowKit

section
variable {B q : Nat} {w : World} {vS vJ : Value} {n m p j : Nat} {f g : Nat → Int} {T D : Int} {ys yj : Bool}
theorem Wk.updD (h : Wk B q w vS vJ n f m g T D) (x : Int) : Wk B q (w.setCell ⟨q, 3, none⟩ (.int .i64 x)) vS vJ n f m g T x ∧ Bel B w (w.setCell ⟨q, 3, none⟩ (.int .i64 x)) := by
  refine ⟨⟨by simpa using h.bx.set 3 (.int .i64 x), (h.S.only (set_only _ _ _ _) (apart_box (h.S.box h.bx (by decide)))).fit, (h.J.only (set_only _ _ _ _) (apart_box (h.J.box h.bx (by decide)))).fit, h.hq⟩, Bel.set h.bx (by decide) h.hq _⟩
theorem add_any (W : Wk B q w vS vJ n f m g T D) (hD : 0 ≤ D ∧ D ≤ 100000) :
    Calls Try.prog 62 #[.pointer (some ⟨q, 3, none⟩), .int .i64 1] w fun e w' => e = .returned (.int .i64 (D + 1)) ∧ Wk B q w' vS vJ n f m g T (D + 1) ∧ Bel B w w' ∧ Kept q w w' := by
  obtain ⟨c0, c1, c2, c3, -⟩ := Job.box W.bx
  obtain ⟨g0, g1, g2, g3⟩ := Job.boxF W.bx
  obtain ⟨W1, B1⟩ := W.updD (D + 1)
  have hw : IntKind.i64.wrap (D + 1) = D + 1 := by rw [IntKind.wrap_i64]; omega
  have h := run_call_add (P := Try.prog) (f := 76) Try.func76 (by kernel_rfl) (by kernel_rfl) (by kernel_rfl) .i64 (by kernel_rfl) (a := ⟨q, 3, none⟩) (x := D) (y := 1) (s := D + 1) (w := w) c3 g3 (by simp [Op.intArith, hw, Sem.run_pure])
  go_enter Try.func62, Try.ntmps62
  go_wp2
  go_ret
  exact ⟨rfl, W1, B1, Kept.set (Kept.refl _ _) _⟩
set_option maxRecDepth 100000 in
set_option maxHeartbeats 1600000 in
theorem work_any (K s o a : Int) (W : Wk B q w vS vJ n f m g T D) (hD : 0 ≤ D ∧ D ≤ 100000) (HL : Hid (LbOk n f m g T)) (HF : Hid (Fnd n f m g s o p ys j yj)) :
    Calls Try.prog 41 #[.pointer (some ⟨q, 0, none⟩), deedV K s o a] w (OutP B q w (D + 1) (outc n f m g T K s o a p ys j yj)) := by
  obtain ⟨V1, hV1, A1, bb, -⟩ := boxed w 29 #[.int .i64 K, .int .i64 s, .int .i64 o, .int .i64 a]
  have B1 := Bel.of bb W.lt
  have hq1 : vS.ownBlock ≠ some w.heap.size := fun e => by have := W.S.lt e; omega
  have hql := W.bx.lt
  replace W := W.below bb
  obtain ⟨r1, hr1⟩ : ∃ r, w.heap.size = r := ⟨_, rfl⟩
  rw [hr1] at A1 hq1 hql
  clear bb
  obtain ⟨X, hX⟩ : ∃ X, outc n f m g T K s o a p ys j yj = X := ⟨_, rfl⟩
  have DO := fun w' (W' : Wk B q w' vS vJ n f m g T (D + 1)) => do_any K s o a W' HL HF
  rw [hX] at DO ⊢
  clear hX
  go_enter Try.func41, Try.ntmps41
  go_wp2_with fail
  refine (add_any W hD).mono ?_
  rintro e w2 ⟨rfl, W2, b2, k2⟩
  have A2 : At 29 w2 r1 #[.int .i64 K, .int .i64 s, .int .i64 o, .int .i64 a] := (k2.block r1 A1.lt (by omega)).trans A1
  replace B1 := B1.trans b2
  clear A1 W b2 k2 hV1 hr1
  go_wp2_with fail
  obtain ⟨u0, hu0, bb⟩ : ∃ uu, w2.drew = uu ∧ Below w2.heap.size w2 uu := ⟨_, rfl, (Below.refl _ _).drew⟩
  replace A2 := A2.below bb
  replace B1 := B1.trans (Bel.of bb W2.lt)
  replace W2 := W2.below bb
  clear bb
  refine wp_region_held_drew (S := AnyW) (by kernel_rfl) (by rw [hu0]; exact trivial) (fun hHeld => ?_)
  rw [hu0] at hHeld ⊢
  clear hu0
  change wpAnyH _ _ _ _ _ 6 #[false, false, false, false, false, false] _ _
  refine wpAnyH_take (i := 0) (v := .pointer (some ⟨q, 0, none⟩)) rfl (by kernel_rfl) (by kernel_rfl) (by kernel_rfl) (fun _ _ _ h => h) (Or.inl ⟨by kernel_rfl, ?_⟩) hHeld ?_
  · intro w' hSw; go_simp
  try simp only [Act.put, List.setIfInBounds_toArray, List.set_cons_zero, List.set_cons_succ, List.getElem_toArray, List.getElem_cons_zero]
  refine wpAnyH_take (i := 1) (v := .pointer (some ⟨q, 0, none⟩)) rfl (by kernel_rfl) (by kernel_rfl) (by kernel_rfl) (fun _ _ _ h => h) (Or.inl ⟨by kernel_rfl, ?_⟩) hHeld ?_
  · intro w' hSw; go_simp
  try simp only [Act.put, List.setIfInBounds_toArray, List.set_cons_zero, List.set_cons_succ, List.getElem_toArray, List.getElem_cons_succ, List.getElem_cons_zero]
  refine wpAnyH_take (i := 2) (v := .pointer (some ⟨q, 0, none⟩)) rfl (by kernel_rfl) (by kernel_rfl) (by kernel_rfl) (fun _ _ _ h => h) (Or.inl ⟨by kernel_rfl, ?_⟩) hHeld ?_
  · intro w' hSw; go_simp
  try simp only [Act.put, List.setIfInBounds_toArray, List.set_cons_zero, List.set_cons_succ, List.getElem_toArray, List.getElem_cons_succ, List.getElem_cons_zero]
  refine wpAnyH_ready (rs := [3]) (by kernel_rfl) (by simp) ?_
  refine AllReadyH.cons rfl (fun KK hK' => ?_) AllReadyH.nil
  obtain ⟨z0, z1, z2, z3, -⟩ := Job.box A2
  go_simp
  clear z0 z1 z2 z3
  clear hHeld
  refine hK'.out _ _ (trivial) (fun hHeld => ?_)
  clear hK' KK
  try simp only [List.setIfInBounds_toArray, List.set_cons_zero, List.set_cons_succ]
  refine wpAnyH_ready (rs := [4]) (by kernel_rfl) (by simp) ?_
  refine AllReadyH.cons rfl (fun KK hK' => ?_) AllReadyH.nil
  go_simp
  refine (DO _ W2).mono ?_
  rintro e u2 ⟨u, v, rfl, W3, b3⟩
  replace B1 := B1.trans b3
  clear W2 b3
  have W2 := W3
  clear W3
  try go_wp2_with fail
  clear hHeld
  refine hK'.out _ _ (trivial) (fun hHeld => ?_)
  clear hK' KK
  try simp only [List.setIfInBounds_toArray, List.set_cons_zero, List.set_cons_succ]
  refine wpAnyH_take (i := 5) (v := .int .i64 (X.1)) rfl (by kernel_rfl) (by kernel_rfl) (by kernel_rfl) (fun _ _ _ h => h) (Or.inl ⟨by kernel_rfl, ?_⟩) hHeld ?_
  · intro w' hSw; go_simp
  try simp only [Act.put, List.setIfInBounds_toArray, List.set_cons_zero, List.set_cons_succ, List.getElem_toArray, List.getElem_cons_succ, List.getElem_cons_zero]
  refine wpAnyH_done (by kernel_rfl) ?_ _
  clear hHeld
  go_wp2
  go_ret
  exact ⟨_, _, rfl, W2, B1⟩
end
/-- What is told of a lab and a code. -/
def LdP (x : Int × LS) (w : World) (e : Ending) (w' : World) : Prop := ∃ vS vJ, e = .returned (.tuple #[labV vS vJ x.2.T, .int .i64 x.1]) ∧ ArK 3 37 w' w.heap.size w'.heap.size vS x.2.n x.2.f ∧ ArK 4 39 w' w.heap.size w'.heap.size vJ x.2.m x.2.g ∧ Below w.heap.size w w'
/-- The lab with nothing. -/
def noL : LS := ⟨0, fun _ => 0, 0, fun _ => 0, 0⟩
/-- What a deed tells, and of which lab. -/
def ToldD (n : Nat) (f : Nat → Int) (m : Nat) (g : Nat → Int) (T K s o a : Int) (p : Nat) (ys : Bool) (j : Nat) (yj : Bool) (x : Int × LS) : Prop := (LbOk n f m g T ∧ Fnd n f m g s o p ys j yj ∧ x = outc n f m g T K s o a p ys j yj) ∨ (¬ LbOk n f m g T ∧ x = (1, noL))
theorem told_is (n : Nat) (f : Nat → Int) (m : Nat) (g : Nat → Int) (T K s o a : Int) : ∃ p ys j yj x, ToldD n f m g T K s o a p ys j yj x := by
  by_cases h : LbOk n f m g T
  · obtain ⟨p, ys, j, yj, hf⟩ := fnd_is (m := m) (g := g) s o h.1
    exact ⟨p, ys, j, yj, _, .inl ⟨h, hf, rfl⟩⟩
  · exact ⟨0, false, 0, false, _, .inr ⟨h, rfl⟩⟩
theorem bx3 (w : World) (t u v : TypeId) (vs us xs : Array Value) : ∃ W, ((w.alloc (.cells vs t)).alloc (.cells us u)).alloc (.cells xs v) = W ∧ At t W w.heap.size vs ∧ At u W (w.heap.size + 1) us ∧ At v W (w.heap.size + 2) xs ∧ Below w.heap.size w W := by
  obtain ⟨W2, e, a1, a2, b, hl⟩ := bx2 w t u vs us
  have hs : W2.heap.size = w.heap.size + 2 := by rw [← e]; simp
  rw [e]
  have a3 := at_new v W2 xs
  rw [hs] at a3
  exact ⟨_, rfl, a1.below (below_alloc _ _), a2.below (below_alloc _ _), a3, b.trans ((below_alloc _ _).mono (by omega))⟩
set_option maxRecDepth 100000 in
set_option maxHeartbeats 3200000 in
theorem implLabDo_any {w : World} {aj sa : Option Addr} {m c n d p j : Nat} {f g : Nat → Int} {T : Int} {ys yj : Bool} {x : Int × LS} (K s o a : Int) (hs : Ls 3 w sa n f) (hj : Ls 4 w aj m g) (hcS : sa = none → n = 0 ∧ d = 0) (hcJ : aj = none → m = 0 ∧ c = 0) (hn : n ≤ 1048576) (hm : m ≤ 1048576) (hc : m ≤ c) (HX : Hid (ToldD n f m g T K s o a p ys j yj x)) :
    Calls Try.prog 12 #[lbV sa n d aj m c T, deedV K s o a] w (LdP x w) := by
  obtain ⟨W3, hW3, A1, A2, A3, BW⟩ := bx3 w 27 29 27 #[.slice sa n d, .slice aj m c, .int .i64 T] #[.int .i64 K, .int .i64 s, .int .i64 o, .int .i64 a] #[.slice none 0 0, .slice none 0 0, .int .i64 0]
  obtain ⟨q1, hq1⟩ : ∃ q, w.heap.size = q := ⟨_, rfl⟩
  obtain ⟨q2, hq2⟩ : ∃ q, q1 + 1 = q := ⟨_, rfl⟩
  obtain ⟨q3, hq3⟩ : ∃ q, q2 + 1 = q := ⟨_, rfl⟩
  rw [hq1] at A1 A2 A3
  rw [hq2] at A2
  rw [show q1 + 2 = q3 by omega] at A3
  have hq3w : w.heap.size ≤ q3 := by omega
  have L := hs.below BW
  have J := hj.below BW
  obtain ⟨c0, c1, c2, -⟩ := A1.open3
  obtain ⟨y, hy⟩ := bool_of (LbOk n f m g T)
  go_enter Try.func12, Try.ntmps12
  go_wp2_with fail
  refine (implLabOk_any L hn J hm hc y hy).mono ?_
  rintro e w2 ⟨rfl, bb⟩
  replace BW := BW.trans (bb.mono BW.size)
  replace L := L.below bb
  replace J := J.below bb
  replace A1 := A1.below bb
  replace A2 := A2.below bb
  replace A3 := A3.below bb
  clear c0 c1 c2 hW3 hq1 hq2 hq3 bb
  cases y
  · obtain rfl : x = (1, noL) := by
      rcases HX.out with ⟨h, -⟩ | ⟨-, h⟩
      · exact absurd h (iff_no hy)
      · exact h
    clear hy
    obtain ⟨d0, d1, d2, e0, e1, e2⟩ := A3.open3
    go_wp2
    have a7 := put3_at A3 (.slice none 0 0) (.slice none 0 0) (.int .i64 0)
    obtain ⟨p0, p1, p2, -⟩ := a7.open3
    refine bodyPost_ret (v := .tuple #[labV (.slice none 0 0) (.slice none 0 0) 0, .int .i64 1]) (by simp [results, Try.results12, go_sem, p0, p1, p2]) rfl ?_
    exact ⟨_, _, rfl, .inl ⟨rfl, rfl⟩, .inl ⟨rfl, rfl⟩, below_put3 BW hq3w _ _ _⟩
  have HL : Hid (LbOk n f m g T) := hy.1 rfl
  have HF : Hid (Fnd n f m g s o p ys j yj) := by
    rcases HX.out with ⟨-, h, -⟩ | ⟨h, -⟩
    · exact h
    · exact absurd HL.out h
  obtain rfl : x = outc n f m g T K s o a p ys j yj := by
    rcases HX.out with ⟨-, -, h⟩ | ⟨h, -⟩
    · exact h
    · exact absurd HL.out h
  clear hy HX
  have hn1 := HL.out.1.1
  have hm1 := HL.out.2.1.1
  obtain ⟨c0, c1, c2, -⟩ := A1.open3
  obtain ⟨b0, b1, b2, b3, -⟩ := Job.box A2
  go_wp2_with fail
  refine (copied_any L J hcS hcJ (by omega) (by omega)).mono ?_
  rintro e w3 ⟨vS, vJ, rfl, OS, OJ, nS, nJ, bb⟩
  obtain ⟨gS, eS, rfl, -, -, -, -⟩ := OS.nn nS
  obtain ⟨gJ, eJ, rfl, -, -, -, -⟩ := OJ.nn nJ
  have hsz := bb.size
  have hA3l := A3.lt
  replace BW := BW.trans (bb.mono BW.size)
  replace A2 := A2.below bb
  replace A3 := A3.below bb
  clear c0 c1 c2 b0 b1 b2 b3 L J A1
  obtain ⟨b0, b1, b2, b3, -⟩ := Job.box A2
  have hq2l := A2.lt
  go_wp2_with fail
  clear b0 b1 b2 b3
  obtain ⟨V4, hV4, A4, b4, -⟩ := boxed w3 81 #[.slice (some ⟨gS, 0, none⟩) n eS, .slice (some ⟨gJ, 0, none⟩) m eJ, .int .i64 T, .int .i64 0]
  obtain ⟨q4, hq4⟩ : ∃ q, w3.heap.size = q := ⟨_, rfl⟩
  rw [hV4, hq4]
  rw [hq4] at A4
  have hw23 : w2.heap.size ≤ q4 := by omega
  have WK : Wk w2.heap.size q4 V4 (.slice (some ⟨gS, 0, none⟩) n eS) (.slice (some ⟨gJ, 0, none⟩) m eJ) n f m g T 0 := ⟨A4, (OS.below b4).fit, (OJ.below b4).fit, hw23⟩
  replace A3 := A3.below b4
  replace BW := BW.trans (b4.mono BW.size)
  clear b4 OS OJ bb A2 hq2l
  have WO := work_any K s o a WK (by omega) HL HF
  obtain ⟨X, hX⟩ : ∃ X, outc n f m g T K s o a p ys j yj = X := ⟨_, rfl⟩
  rw [hX] at WO
  refine WO.mono ?_
  rintro e w5 ⟨vS, vJ, rfl, W5, b5⟩
  have HXX : Hid (outc n f m g T K s o a p ys j yj = X) := hX
  clear hV4 hq4 WO hX
  have A5 : At 27 w5 q3 #[.slice none 0 0, .slice none 0 0, .int .i64 0] := A3.belowN b5.bel hA3l
  have BW5 : Below w.heap.size w w5 := BW.trans (b5.bel.mono (by have := BW.size; omega))
  clear A3 BW b5
  obtain ⟨sS, cS', rfl, -, LS⟩ := W5.S.ls
  obtain ⟨sJ, cJ', rfl, -, LJ⟩ := W5.J.ls
  obtain ⟨c0, c1, c2, c3, -⟩ := Job.box W5.bx
  obtain ⟨d0, d1, d2, e0, e1, e2⟩ := A5.open3
  go_wp2
  have a7 := put3_at A5 (.slice sS X.2.n cS') (.slice sJ X.2.m cJ') (.int .i64 X.2.T)
  obtain ⟨p0, p1, p2, -⟩ := a7.open3
  refine bodyPost_ret (v := .tuple #[labV (.slice sS X.2.n cS') (.slice sJ X.2.m cJ') X.2.T, .int .i64 X.1]) (by simp [results, Try.results12, go_sem, p0, p1, p2]) rfl ?_
  have hB : w.heap.size ≤ w2.heap.size := by omega
  have U := put3_only w5 q3 (.slice sS X.2.n cS') (.slice sJ X.2.m cJ') (.int .i64 X.2.T)
  rw [HXX.out]
  exact ⟨_, _, rfl, ((W5.S.only U (apart_box (W5.S.box A5 (by decide)))).fit).wide hB (Nat.le_refl _), ((W5.J.only U (apart_box (W5.J.box A5 (by decide)))).fit).wide hB (Nat.le_refl _), below_put3 BW5 hq3w _ _ _⟩
end Go.Proofs.Ytnjnffemidaopaa
