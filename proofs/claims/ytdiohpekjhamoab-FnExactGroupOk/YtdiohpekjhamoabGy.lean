/-
  The exact law of GroupOk, walked.
-/
import Derived.Test.YtdiohpekjhamoabGx
import Derived.Test.YtdiohpekjhamoabGf
namespace Go.Proofs.Ytdiohpekjhamoab
open Go.RowKit

set_option maxRecDepth 100000 in
set_option maxHeartbeats 1600000 in
theorem groupLaw_any {w : World} {a : Option Addr} {n cap : Nat} {A : Nat → OpD} (hS : OpsS w a n A) (hn : n ≤ maxLen) :
    Calls Try.prog 3 #[.slice a n cap] w fun e w' => e = .returned (.bool true) ∧ Below w.heap.size w w' := by
  go_enter Try.func3, Try.ntmps3
  go_wp2_with fail
  refine (szOpS_any hS hn).mono ?_
  rintro e w1 ⟨r, rfl, hr, b1⟩
  rcases hr with rfl | ⟨h0, hsh⟩
  · go_wp2
    go_ret
    exact ⟨rfl, b1⟩
  · have h1 : ¬ r < 0 := by omega
    have S1 := hS.below b1
    go_wp2_with fail
    refine (toOpS_any S1 hsh).mono ?_
    rintro e w2 ⟨g2, rfl, L2, b2⟩
    have B2 := b1.trans (b2.mono b1.size)
    go_wp2_with fail
    refine (groupOk_any L2 hsh.1).mono ?_
    rintro e w3 ⟨⟨r3, rfl, hr3⟩, b3⟩
    have B3 := B2.trans (b3.mono B2.size)
    go_wp2_with fail
    refine (toOpS_any (hS.below B3) hsh).mono ?_
    rintro e w4 ⟨g4, rfl, L4, b4⟩
    have B4 := B3.trans (b4.mono B3.size)
    go_wp2_with fail
    refine (implGroupOk_any L4 hsh.1).mono ?_
    rintro e w5 ⟨⟨r5, rfl, hr5⟩, b5⟩
    have L5 := L4.below b5
    have B5 := B4.trans (b5.mono B4.size)
    obtain rfl : r5 = r3 := by
      have : r5 = true ↔ r3 = true := hr5.trans hr3.symm
      cases r5 <;> cases r3 <;> simp_all
    go_wp2_with fail
    refine (toOpS_any (hS.below B5) hsh).mono ?_
    rintro e w6 ⟨g6, rfl, L6, b6⟩
    have B6 := B5.trans (b6.mono B5.size)
    go_wp2_with fail
    refine (eqOpS_true (L5.below b6) L6 hsh).mono ?_
    rintro e w7 ⟨rfl, b7⟩
    have B7 := B6.trans (b7.mono B6.size)
    go_wp2
    go_ret
    exact ⟨rfl, B7⟩
/-- A list that came in, opened. -/
theorem opsS_of {w : World} {x : Addr} {n : Nat} {V0 V1 : Nat → Value} (hc : ∀ i, i < n → w.cell? (x.add (i * 2)) = some (V0 i) ∧ w.cell? (x.add (i * 2 + 1)) = some (V1 i))
    (h0 : ∀ i, i < n → ∃ a len cap zs, V0 i = .slice a len cap ∧ IsRow .i64 w a len cap zs) (h1 : ∀ i, i < n → ∃ a len cap zs, V1 i = .slice a len cap ∧ IsRow .i64 w a len cap zs) : ∃ A, OpsS w (some x) n A := by
  have hch : ∀ i, ∃ D : OpD, i < n → ∃ a c b d, V0 i = .slice a D.n c ∧ V1 i = .slice b D.k d ∧ Src w a D.n D.f ∧ Src w b D.k D.h ∧ D.n ≤ maxLen ∧ D.k ≤ maxLen := by
    intro i
    by_cases hi : i < n
    · obtain ⟨a, l, c, zs, e, hr⟩ := h0 i hi
      obtain ⟨a', l', c', zs', e', hr'⟩ := h1 i hi
      obtain ⟨f, hf, hl, -⟩ := src_of hr
      obtain ⟨f', hf', hl', -⟩ := src_of hr'
      exact ⟨⟨l, f, l', f'⟩, fun _ => ⟨a, c, a', c', e, e', hf, hf', hl, hl'⟩⟩
    · exact ⟨⟨0, fun _ => 0, 0, fun _ => 0⟩, fun h => absurd h hi⟩
  refine ⟨fun i => (hch i).choose, ?_⟩
  by_cases hz : n = 0
  · exact .inl hz
  right
  obtain ⟨b, off, spot⟩ := x
  have hc0 := (hc 0 (by omega)).1
  have hspot : spot = none := by simpa [Addr.add] using World.cell?_spot hc0
  subst hspot
  refine ⟨b, off, rfl, ?_, fun i hi => ?_⟩
  · refine Nat.lt_of_not_le fun hb => ?_
    have : w.heap[b]? = none := Array.getElem?_eq_none hb
    simp [Addr.add, World.cell?, this] at hc0
  · obtain ⟨a, c, b', d, e, e', r⟩ := (hch i).choose_spec hi
    obtain ⟨c0, c1⟩ := hc i hi
    rw [Addr.add_lit, e] at c0
    rw [Addr.add_lit, e', ← Nat.add_assoc] at c1
    exact ⟨a, c, b', d, c0, c1, r⟩
end Go.Proofs.Ytdiohpekjhamoab
