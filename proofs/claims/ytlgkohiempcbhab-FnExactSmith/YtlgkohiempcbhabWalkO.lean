/-
  The law on Smith, walked.
-/
import Derived.Test.YtlgkohiempcbhabWalkN
namespace Go.Proofs.Ytlgkohiempcbhab
open Go.RowKit

theorem Own.kept {w w' : World} {g p n : Nat} {f : Nat → Int} (h : Own w g n f) (hk : Kept p w w') (hne : g ≠ p) : Own w' g n f := by
  obtain ⟨cur, h1, h2⟩ := h
  exact ⟨cur, (hk.block g h1.lt hne).trans h1, h2⟩
set_option maxHeartbeats 1600000 in
theorem exactSmith_walk {w : World} {a : Option Addr} {n cap : Nat} {f : Nat → Int} (hs : Src w a n f) (hn : n ≤ maxLen) :
    Calls Try.prog 5 #[.slice a n cap] w fun e w' => e = .returned (.bool true) ∧ Below w.heap.size w w' := by
  by_cases hbig : 1048576 < n
  · have hb' : (1048576 : Int) < (n : Int) := by omega
    have hn2 : (n : Int) ≤ 9223372036854775807 := by unfold maxLen at hn; omega
    go_enter Try.func5, Try.ntmps5
    go_wp2
    go_ret
    exact ⟨rfl, Below.refl _ _⟩
  · have hb' : ¬ (1048576 : Int) < (n : Int) := by omega
    have hn1 : n ≤ 1048576 := by omega
    obtain ⟨c, hc⟩ : ∃ c, smc n f = c := ⟨_, rfl⟩
    have hc3 : c ≤ 1048576 := by rw [← hc]; unfold smc; split <;> decide
    have hc3' : (c : Int) ≤ 1048576 := by omega
    have hn1' : (n : Int) ≤ 1048576 := by omega
    go_enter Try.func5, Try.ntmps5
    go_wp2_with fail
    refine (toInts_any hs hn1).mono ?_
    rintro e w1 ⟨g1, rfl, -, o1, b1⟩
    go_wp2_with fail
    refine (specSmith_any o1.src).mono ?_
    rw [hc]
    rintro e w2 ⟨gw, rfl, -, ow, b2⟩
    replace b1 := b1.trans (b2.mono b1.size)
    clear o1 b2
    go_wp2_with fail
    refine (toInts_any (hs.below b1) hn1).mono ?_
    rintro e w3 ⟨gx, rfl, hgx, ox, b3⟩
    have nwx : gw ≠ gx := Nat.ne_of_lt (Nat.lt_of_lt_of_le ow.lt hgx)
    have sx : w.heap.size ≤ gx := Nat.le_trans b1.size hgx
    replace ow := ow.below b3
    replace b1 := b1.trans (b3.mono b1.size)
    clear b3 hgx
    go_wp2_with fail
    refine (implSmith_any ox.src).mono ?_
    rw [hc]
    rintro e w4 ⟨gg, rfl, hgg, og, b4⟩
    have nwg : gw ≠ gg := Nat.ne_of_lt (Nat.lt_of_lt_of_le ow.lt hgg)
    have nxg : gx ≠ gg := Nat.ne_of_lt (Nat.lt_of_lt_of_le ox.lt hgg)
    have sg : w.heap.size ≤ gg := Nat.le_trans b1.size hgg
    replace ow := ow.below b4
    replace ox := ox.below b4
    replace b1 := b1.trans (b4.mono b1.size)
    clear b4 hgg
    go_wp2_with fail
    refine (eqInts_true og.row ow.row og.lt ow.lt hc3).mono ?_
    rintro e w5 ⟨rfl, b5⟩
    replace ow := ow.below b5
    replace ox := ox.below b5
    replace og := og.below b5
    replace b1 := b1.trans (b5.mono b1.size)
    clear b5
    go_wp2_with fail
    refine (toInts_any (hs.below b1) hn1).mono ?_
    rintro e w6 ⟨g6, rfl, -, o6, b6⟩
    replace ow := ow.below b6
    replace ox := ox.below b6
    replace og := og.below b6
    replace b1 := b1.trans (b6.mono b1.size)
    clear b6
    go_wp2_with fail
    refine (eqInts_true ox.row o6.row ox.lt o6.lt hn1).mono ?_
    rintro e w7 ⟨rfl, b7⟩
    replace ow := ow.below b7
    replace ox := ox.below b7
    replace og := og.below b7
    replace b1 := b1.trans (b7.mono b1.size)
    clear b7 o6
    go_wp2_with fail
    refine (mark_any ox hn1).mono ?_
    rintro e w8 ⟨rfl, -, k8⟩
    replace ow := ow.kept k8 nwx
    replace og := og.kept k8 (Ne.symm nxg)
    replace b1 := b1.trans (k8.below sx b1.size)
    clear k8 ox
    go_wp2_with fail
    refine (eqInts_true og.row ow.row og.lt ow.lt hc3).mono ?_
    rintro e w9 ⟨rfl, b9⟩
    replace ow := ow.below b9
    replace og := og.below b9
    replace b1 := b1.trans (b9.mono b1.size)
    clear b9
    go_wp2_with fail
    refine (mark_any og hc3).mono ?_
    rintro e w10 ⟨rfl, oh, k10⟩
    replace ow := ow.kept k10 nwg
    replace b1 := b1.trans (k10.below sg b1.size)
    clear k10 og
    go_wp2_with fail
    refine (held_any oh hc3).mono ?_
    rintro e w11 ⟨rfl, b11⟩
    replace ow := ow.below b11
    replace oh := oh.below b11
    replace b1 := b1.trans (b11.mono b1.size)
    clear b11
    go_wp2_with fail
    refine (toInts_any (hs.below b1) hn1).mono ?_
    rintro e w12 ⟨g12, rfl, -, o12, b12⟩
    replace ow := ow.below b12
    replace oh := oh.below b12
    replace b1 := b1.trans (b12.mono b1.size)
    clear b12
    go_wp2_with fail
    refine (implSmith_any o12.src).mono ?_
    rw [hc]
    rintro e w13 ⟨gh, rfl, -, o13, b13⟩
    replace ow := ow.below b13
    replace oh := oh.below b13
    replace b1 := b1.trans (b13.mono b1.size)
    clear b13 o12
    go_wp2_with fail
    refine (eqInts_true o13.row ow.row o13.lt ow.lt hc3).mono ?_
    rintro e w14 ⟨rfl, b14⟩
    replace oh := oh.below b14
    replace b1 := b1.trans (b14.mono b1.size)
    clear b14 o13 ow
    go_wp2_with fail
    refine (held_any oh hc3).mono ?_
    rintro e w15 ⟨rfl, b15⟩
    replace b1 := b1.trans (b15.mono b1.size)
    go_wp2
    go_ret
    exact ⟨rfl, b1⟩
theorem smith_of {w : World} {a : Option Addr} {n cap : Nat} {zs : List Int} (h : IsRow .i64 w a n cap zs) :
    Calls Try.prog 5 #[.slice a n cap] w fun e w' => e = .returned (.bool true) ∧ Below w.heap.size w w' := by
  obtain ⟨f, hs, hn, -⟩ := src_of h
  exact exactSmith_walk hs hn
end Go.Proofs.Ytlgkohiempcbhab
