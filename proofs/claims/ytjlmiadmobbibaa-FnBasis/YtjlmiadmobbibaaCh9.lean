/-
  The law on FindBasis, walked.
-/
import Derived.Test.YtjlmiadmobbibaaCg9
namespace Go.Proofs.Ytjlmiadmobbibaa
open Go.RowKit

theorem eqBasis_true (a b c d : Int) (w : World) : Calls Try.prog 18 #[bV a b c d, bV a b c d] w fun e w' => e = .returned (.bool true) ∧ Below w.heap.size w w' := by
  obtain ⟨W, hW, b0, b1, bW, -⟩ := boxed2 w 27 27 #[.int .i64 a, .int .i64 b, .int .i64 c, .int .i64 d] #[.int .i64 a, .int .i64 b, .int .i64 c, .int .i64 d]
  obtain ⟨c0, c1, c2, c3, -⟩ := b0.open4
  obtain ⟨d0, d1, d2, d3, -⟩ := b1.open4
  go_enter Try.func18, Try.ntmps18
  go_wp2
  go_ret
  exact ⟨rfl, bW⟩
set_option maxRecDepth 100000 in
set_option maxHeartbeats 4000000 in
theorem exactFind_walk {w : World} {a : Option Addr} {n cap : Nat} {f : Nat → Int} (hS : Src w a (n * 3) f) (hn : n ≤ maxLen) :
    Calls Try.prog 5 #[.slice a n cap] w fun e w' => e = .returned (.bool true) ∧ Below w.heap.size w w' := by
  go_enter Try.func5, Try.ntmps5
  go_wp2_with fail
  refine (sz_any _ hn).mono ?_
  rintro e w1 ⟨⟨r, rfl, hr⟩, rfl⟩
  rcases hr with rfl | ⟨h0, hsh⟩
  · go_wp2
    go_ret
    exact ⟨rfl, Below.refl _ _⟩
  have h1 : ¬ r < 0 := by omega
  go_wp2_with fail
  refine (toSpotS_any hS hsh).mono ?_
  rintro e w2 ⟨g2, rfl, -, L2, bW⟩
  go_wp2_with fail
  refine (specFind_any L2.trips hsh).mono ?_
  rintro e w3 ⟨⟨ra, rb, rc, rd, rm⟩, rfl, hF, bb⟩
  replace bW := bW.trans (bb.mono bW.size)
  clear bb L2
  obtain ⟨W4, hW4, a4, bb, -⟩ := boxed w3 27 #[.int .i64 ra, .int .i64 rb, .int .i64 rc, .int .i64 rd]
  replace bW := bW.trans (bb.mono bW.size)
  clear bb
  go_wp2_with fail
  refine (toSpotS_any (hS.below bW) hsh).mono ?_
  rintro e w5 ⟨g5, rfl, -, L5, bb⟩
  replace bW := bW.trans (bb.mono bW.size)
  replace a4 := a4.below bb
  clear bb
  go_wp2_with fail
  refine (implFind_any L5.trips hsh).mono ?_
  rintro e w6 ⟨r', rfl, hF', bb⟩
  obtain rfl := hF'.same hF
  replace bW := bW.trans (bb.mono bW.size)
  replace a4 := a4.below bb
  replace L5 := L5.below bb
  clear bb hF hF' hW4
  obtain ⟨W7, hW7, a7, bb, -⟩ := boxed w6 27 #[.int .i64 ra, .int .i64 rb, .int .i64 rc, .int .i64 rd]
  replace bW := bW.trans (bb.mono bW.size)
  replace a4 := a4.below bb
  replace L5 := L5.below bb
  clear bb
  obtain ⟨c0, c1, c2, c3, -⟩ := a4.open4
  obtain ⟨d0, d1, d2, d3, -⟩ := a7.open4
  go_wp2_with fail
  refine (eqBasis_true ra rb rc rd _).mono ?_
  rintro e w8 ⟨rfl, bb⟩
  replace bW := bW.trans (bb.mono bW.size)
  replace L5 := L5.below bb
  clear bb c0 c1 c2 c3 d0 d1 d2 d3 hW7 a4 a7
  go_wp2_with fail
  refine (toSpotS_any (hS.below bW) hsh).mono ?_
  rintro e w9 ⟨g9, rfl, -, L9, bb⟩
  replace bW := bW.trans (bb.mono bW.size)
  replace L5 := L5.below bb
  clear bb
  go_wp2_with fail
  refine (eqSpotS_true L5.trips L9.trips hsh).mono ?_
  rintro e w10 ⟨rfl, bb⟩
  replace bW := bW.trans (bb.mono bW.size)
  clear bb
  go_wp2
  go_ret
  exact ⟨rfl, bW⟩
end Go.Proofs.Ytjlmiadmobbibaa
