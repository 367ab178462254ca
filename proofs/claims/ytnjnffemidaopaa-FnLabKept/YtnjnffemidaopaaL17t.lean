/-
  A deed in a lab that is handed in, by the specification; labs marked, the marks held. Walked.
-/
import Derived.Test.YtnjnffemidaopaaL17s
namespace Go.Proofs.Ytnjnffemidaopaa
open Go.RowKit

set_option maxRecDepth 100000 in
set_option maxHeartbeats 3200000 in
theorem specLabDo_any {w : World} {aj sa : Option Addr} {m c n d p j : Nat} {f g : Nat → Int} {T : Int} {ys yj : Bool} {x : Int × LS} (K s o a : Int) (hs : Ls 3 w sa n f) (hj : Ls 4 w aj m g) (hcS : sa = none → n = 0 ∧ d = 0) (hcJ : aj = none → m = 0 ∧ c = 0) (hn : n ≤ 1048576) (hm : m ≤ 1048576) (HX : Hid (ToldD n f m g T K s o a p ys j yj x)) :
    Calls Try.prog 14 #[lbV sa n d aj m c T, deedV K s o a] w (LdP x w) := by
  obtain ⟨W3, hW3, A1, A2, A3, BW⟩ := bx3 w 27 29 27 #[.slice sa n d, .slice aj m c, .int .i64 T] #[.int .i64 K, .int .i64 s, .int .i64 o, .int .i64 a] #[.slice none 0 0, .slice none 0 0, .int .i64 0]
  obtain ⟨q1, hq1⟩ : ∃ q, w.heap.size = q := ⟨_, rfl⟩
  obtain ⟨q2, hq2⟩ : ∃ q, q1 + 1 = q := ⟨_, rfl⟩
  obtain ⟨q3, hq3⟩ : ∃ q, q2 + 1 = q := ⟨_, rfl⟩
  rw [hq1] at A1 A2 A3
  rw [hq2] at A2
  rw [show q1 + 2 = q3 by omega] at A3
  have hq3w : w.heap.size ≤ q3 := by omega
  have L := hs.below BW
  have J := hj.below BW
  obtain ⟨c0, c1, c2, -⟩ := A1.open3
  obtain ⟨y, hy⟩ := bool_of (LbOk n f m g T)
  go_enter Try.func14, Try.ntmps14
  go_wp2_with fail
  refine (specLabOk_any L hn J hm y hy).mono ?_
  rintro e w2 ⟨rfl, bb⟩
  replace BW := BW.trans (bb.mono BW.size)
  replace L := L.below bb
  replace J := J.below bb
  replace A1 := A1.below bb
  replace A2 := A2.below bb
  replace A3 := A3.below bb
  clear c0 c1 c2 hW3 hq1 hq2 hq3 bb
  cases y
  · obtain rfl : x = (1, noL) := by
      rcases HX.out with ⟨h, -⟩ | ⟨-, h⟩
      · exact absurd h (iff_no hy)
      · exact h
    clear hy
    obtain ⟨d0, d1, d2, e0, e1, e2⟩ := A3.open3
    go_wp2
    have a7 := put3_at A3 (.slice none 0 0) (.slice none 0 0) (.int .i64 0)
    obtain ⟨p0, p1, p2, -⟩ := a7.open3
    refine bodyPost_ret (v := .tuple #[labV (.slice none 0 0) (.slice none 0 0) 0, .int .i64 1]) (by simp [results, Try.results14, go_sem, p0, p1, p2]) rfl ?_
    exact ⟨_, _, rfl, .inl ⟨rfl, rfl⟩, .inl ⟨rfl, rfl⟩, below_put3 BW hq3w _ _ _⟩
  have HL : Hid (LbOk n f m g T) := hy.1 rfl
  have HF : Hid (Fnd n f m g s o p ys j yj) := by
    rcases HX.out with ⟨-, h, -⟩ | ⟨h, -⟩
    · exact h
    · exact absurd HL.out h
  obtain rfl : x = outc n f m g T K s o a p ys j yj := by
    rcases HX.out with ⟨-, -, h⟩ | ⟨h, -⟩
    · exact h
    · exact absurd HL.out h
  clear hy HX
  obtain ⟨c0, c1, c2, -⟩ := A1.open3
  obtain ⟨b0, b1, b2, b3, -⟩ := Job.box A2
  obtain ⟨X, hX⟩ : ∃ X, outc n f m g T K s o a p ys j yj = X := ⟨_, rfl⟩
  have LD := l17Do_any (d := d) (c := c) K s o a L J hcS hcJ HL HF
  rw [hX] at LD
  have HXX : Hid (outc n f m g T K s o a p ys j yj = X) := hX
  clear hX
  go_wp2_with fail
  refine LD.mono ?_
  rintro e w5 ⟨vS, vJ, rfl, OS, OJ, bb⟩
  have hsz := BW.size
  replace BW := BW.trans (bb.mono BW.size)
  replace A3 := A3.below bb
  clear c0 c1 c2 b0 b1 b2 b3 L J A1 A2 LD bb
  obtain ⟨sS, cS', rfl, -, LS⟩ := OS.ls
  obtain ⟨sJ, cJ', rfl, -, LJ⟩ := OJ.ls
  obtain ⟨d0, d1, d2, e0, e1, e2⟩ := A3.open3
  go_wp2
  have a7 := put3_at A3 (.slice sS X.2.n cS') (.slice sJ X.2.m cJ') (.int .i64 X.2.T)
  obtain ⟨p0, p1, p2, -⟩ := a7.open3
  refine bodyPost_ret (v := .tuple #[labV (.slice sS X.2.n cS') (.slice sJ X.2.m cJ') X.2.T, .int .i64 X.1]) (by simp [results, Try.results14, go_sem, p0, p1, p2]) rfl ?_
  have U := put3_only w5 q3 (.slice sS X.2.n cS') (.slice sJ X.2.m cJ') (.int .i64 X.2.T)
  rw [HXX.out]
  exact ⟨_, _, rfl, ((OS.only U (apart_box (OS.box A3 (by decide)))).fit).wide hsz (Nat.le_refl _), ((OJ.only U (apart_box (OJ.box A3 (by decide)))).fit).wide hsz (Nat.le_refl _), below_put3 BW hq3w _ _ _⟩
/-- Boxes that are no list stay. -/
def Bk (w w' : World) : Prop := ∀ (t : TypeId) (q : Nat) (vs : Array Value), 37 ≠ t → 39 ≠ t → At t w q vs → At t w' q vs
/-- A lab marked: its two lists. -/
theorem markLab_any {w : World} {lo hi : Nat} {vS vJ : Value} {n m : Nat} {T : Int} {f g : Nat → Int} (S : ArK 3 37 w lo hi vS n f) (J : ArK 4 39 w lo hi vJ m g) (hn : n ≤ 1048576) (hm : m ≤ 1048576) (x : Nat) (hx : x ≤ 1000000) :
    Calls Try.prog 22 #[labV vS vJ T, .int .i64 (x : Int)] w fun e w' => e = .returned (.int .i64 ((x + n * 3 + m * 4 : Nat) : Int)) ∧ ArK 3 37 w' lo hi vS n (fun i => (x + i : Nat)) ∧ ArK 4 39 w' lo hi vJ m (fun i => (x + n * 3 + i : Nat)) ∧ Turn lo hi w w' ∧ Bk w w' := by
  obtain ⟨a, c, rfl, -, -⟩ := S.ls
  obtain ⟨b, d, rfl, -, -⟩ := J.ls
  obtain ⟨V1, hV1, A1, bb, -⟩ := boxed w 27 #[.slice a n c, .slice b m d, .int .i64 T]
  have S1 := S.below bb
  have J1 := J.below bb
  obtain ⟨q1, hq1⟩ : ∃ q, w.heap.size = q := ⟨_, rfl⟩
  rw [hq1] at A1
  obtain ⟨c0, c1, c2, -⟩ := A1.open3
  go_enter Try.func22, Try.ntmps22
  go_wp2_with fail
  refine (markSampleK_any S1 hn x (by omega)).mono ?_
  rintro e w2 ⟨rfl, S2, o2⟩
  have J2 := J1.only o2 (S1.apart J1 (by decide))
  have A2 := A1.only o2 (S1.box A1 (by decide))
  have t2 := Turn.trans (Turn.of_below bb) (Turn.of_onlyK o2 S1)
  have k2 : Bk w w2 := fun t q vs h1 h2 h => (h.below bb).only o2 (S1.box (h.below bb) h1)
  clear c0 c1 c2 hV1 hq1 S1 J1 A1
  obtain ⟨c0, c1, c2, -⟩ := A2.open3
  obtain ⟨y, hy⟩ : ∃ y, x + n * 3 = y := ⟨_, rfl⟩
  rw [hy]
  have HY : Hid (x + n * 3 = y) := hy
  have hyb : y ≤ 10000000 := by omega
  clear hy
  go_wp2_with fail
  refine (markJobK_any J2 hm y hyb).mono ?_
  rintro e w3 ⟨rfl, J3, o3⟩
  have S3 := S2.only o3 (J2.apart S2 (by decide))
  have t3 := t2.trans (Turn.of_onlyK o3 J2)
  obtain ⟨z, hz⟩ : ∃ z, y + m * 4 = z := ⟨_, rfl⟩
  rw [hz]
  have HZ : Hid (y + m * 4 = z) := hz
  clear hz
  go_wp2
  go_ret
  have e1 := HY.out
  subst e1
  have e2 := HZ.out
  subst e2
  exact ⟨rfl, S3, J3, t3, fun t q vs h1 h2 h => (k2 t q vs h1 h2 h).only o3 (J2.box (k2 t q vs h1 h2 h) h2)⟩
theorem heldLab_any {w : World} {lo hi : Nat} {vS vJ : Value} {n m : Nat} {T : Int} (x : Nat) (S : ArK 3 37 w lo hi vS n (fun i => (x + i : Nat))) (J : ArK 4 39 w lo hi vJ m (fun i => (x + n * 3 + i : Nat))) (hn : n ≤ 1048576) (hm : m ≤ 1048576) (hx : x ≤ 1000000) :
    Calls Try.prog 23 #[labV vS vJ T, .int .i64 (x : Int)] w fun e w' => e = .returned (.int .i64 ((x + n * 3 + m * 4 : Nat) : Int)) ∧ Below w.heap.size w w' := by
  obtain ⟨a, c, rfl, -, -⟩ := S.ls
  obtain ⟨b, d, rfl, -, -⟩ := J.ls
  obtain ⟨V1, hV1, A1, B1, -⟩ := boxed w 27 #[.slice a n c, .slice b m d, .int .i64 T]
  replace S := S.below B1
  replace J := J.below B1
  obtain ⟨q1, hq1⟩ : ∃ q, w.heap.size = q := ⟨_, rfl⟩
  rw [hq1] at A1
  obtain ⟨c0, c1, c2, -⟩ := A1.open3
  go_enter Try.func23, Try.ntmps23
  go_wp2_with fail
  refine (heldSampleK_any x S hn (by omega)).mono ?_
  rintro e w2 ⟨rfl, bb⟩
  replace B1 := B1.trans (bb.mono B1.size)
  replace J := J.below bb
  replace A1 := A1.below bb
  clear c0 c1 c2 hV1 hq1 bb
  obtain ⟨c0, c1, c2, -⟩ := A1.open3
  obtain ⟨y, hy⟩ : ∃ y, x + n * 3 = y := ⟨_, rfl⟩
  rw [hy] at J ⊢
  have HY : Hid (x + n * 3 = y) := hy
  have hyb : y ≤ 10000000 := by omega
  clear hy
  have hy0 : ¬ (y : Int) < 0 := by omega
  go_wp2_with fail
  refine (heldJobK_any y J hm hyb).mono ?_
  rintro e w3 ⟨rfl, bb⟩
  obtain ⟨z, hz⟩ : ∃ z, y + m * 4 = z := ⟨_, rfl⟩
  rw [hz]
  have HZ : Hid (y + m * 4 = z) := hz
  clear hz
  have hz0 : ¬ (z : Int) < 0 := by omega
  go_wp2
  go_ret
  have e1 := HY.out
  subst e1
  have e2 := HZ.out
  subst e2
  exact ⟨rfl, B1.trans (bb.mono B1.size)⟩
end Go.Proofs.Ytnjnffemidaopaa
