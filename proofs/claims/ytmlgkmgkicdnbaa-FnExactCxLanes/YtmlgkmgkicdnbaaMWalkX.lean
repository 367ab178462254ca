/-
  The law on the sums in lanes, walked.
-/
import Derived.Test.YtmlgkmgkicdnbaaMWalkV
import Derived.Test.YtmlgkmgkicdnbaaMWalkW
namespace Go.Proofs.Ytmlgkmgkicdnbaa
open Go.RowKit Fl

/-- The sum as both sides tell it. -/
def told (f : Nat → Nat × Nat) (n : Nat) : Option Nat × Option Nat := if n ≤ 4096 then total f n else (ab .f64 0, ab .f64 0)
theorem implTold {w : World} {g n cap : Nat} {f : Nat → Nat × Nat} (hr : CxRow w g 0 n f) (hg : g < w.heap.size) :
    Calls Try.prog 8 #[.slice (some ⟨g, 0, none⟩) n cap] w fun e w' => ∃ re im, e = .returned (.agg #[.float .f64 re, .float .f64 im]) ∧ (ab .f64 re, ab .f64 im) = told f n ∧ Below w.heap.size w w' := by
  unfold told
  by_cases h : n ≤ 4096
  · rw [if_pos h]; exact lanes_any hr hg h
  · rw [if_neg h]
    exact (lanes_big _ _ _ _ (by omega)).mono fun e w' ⟨he, hb⟩ => ⟨0, 0, he, rfl, hb⟩
theorem specTold {w : World} {g n cap : Nat} {f : Nat → Nat × Nat} (hr : CxRow w g 0 n f) (hg : g < w.heap.size) :
    Calls Try.prog 21 #[.slice (some ⟨g, 0, none⟩) n cap] w fun e w' => ∃ re im, e = .returned (.agg #[.float .f64 re, .float .f64 im]) ∧ (ab .f64 re, ab .f64 im) = told f n ∧ Below w.heap.size w w' := by
  unfold told
  by_cases h : n ≤ 4096
  · rw [if_pos h]; exact specLanes_any hr hg h
  · rw [if_neg h]
    exact (specLanes_big _ _ _ _ (by omega)).mono fun e w' ⟨he, hb⟩ => ⟨0, 0, he, rfl, hb⟩

theorem told_same {a b c d : Nat} {t : Option Nat × Option Nat} (h1 : (ab .f64 a, ab .f64 b) = t) (h2 : (ab .f64 c, ab .f64 d) = t) : ab .f64 c = ab .f64 a ∧ ab .f64 d = ab .f64 b := by
  subst h1
  simp only [Prod.mk.injEq] at h2
  exact h2

theorem cxLanes_walk {w : World} {a : Option Addr} {n cap : Nat} {f : Nat → Nat × Nat} (hs : SrcRow w a n f) (hm : n ≤ maxLen) :
    Calls Try.prog 5 #[.slice a n cap] w fun e w' => e = .returned (.bool true) ∧ Below w.heap.size w w' := by
  by_cases hbig : 1048576 < n
  · clear hs
    go_enter Try.func5, Try.ntmps5
    go_wp2_with (go_at_call 20; refine (szCxS_big _ _ _ _ hbig hm).mono ?_; rintro e w1 ⟨rfl, rfl⟩)
    go_ret
    exact ⟨rfl, Below.refl _ _⟩
  have hn : n ≤ 1048576 := by omega
  have hn1 : ¬ (1048576 : Int) - (n : Int) < 0 := by omega
  have HS : Hid (SrcRow w a n f) := hs
  clear hs hm hbig
  go_enter Try.func5, Try.ntmps5
  go_wp2_with fail
  refine (szCxS_small _ _ _ _ hn).mono ?_
  rintro e w1 ⟨rfl, rfl⟩
  go_wp2_with fail
  refine (toCxS_any HS.out hn).mono ?_
  rintro e w1 ⟨g, rfl, ⟨hg1, hg2⟩, hr, HB⟩
  replace HS : Hid (SrcRow w1 a n f) := HS.out.below HB
  clear hg1 hn1
  go_wp2_with fail
  refine (specTold hr hg2).mono ?_
  rintro e w2 ⟨re, im, rfl, ht, hb⟩
  have HT : Hid ((ab .f64 re, ab .f64 im) = told f n) := ht
  replace HS : Hid (SrcRow w2 a n f) := HS.out.below hb
  replace HB := HB.trans (hb.mono HB.size)
  clear hb hr hg2 ht
  obtain ⟨V, hV⟩ : ∃ V, w2.alloc (.cells #[.float .f64 re, .float .f64 im] 28) = V := ⟨_, rfl⟩
  have b1 : BoxT 28 V w2.heap.size (.float .f64 re) (.float .f64 im) := by subst hV; exact boxT_new _ _ _ _ rfl
  replace HS : Hid (SrcRow V a n f) := by subst hV; exact HS.out.below (below_alloc _ _)
  replace HB : Below w.heap.size w V := by subst hV; exact HB.trans ((below_alloc _ _).mono HB.size)
  go_wp2_with fail
  clear hV
  refine (toCxS_any HS.out hn).mono ?_
  rintro e w3 ⟨g2, rfl, ⟨hg1, hg2⟩, hr, hb⟩
  have HR : Hid (CxRow w3 g2 0 n f) := hr
  replace b1 := b1.below hb
  replace HS : Hid (SrcRow w3 a n f) := HS.out.below hb
  replace HB := HB.trans (hb.mono HB.size)
  clear hb hg1 hr
  go_wp2_with fail
  refine (implTold HR.out hg2).mono ?_
  rintro e w4 ⟨re2, im2, rfl, ht, hb⟩
  obtain ⟨t1, t2⟩ := told_same HT.out ht
  have H1 : Hid (ab .f64 re2 = ab .f64 re) := t1
  have H2 : Hid (ab .f64 im2 = ab .f64 im) := t2
  clear t1 t2 HT ht
  replace HR : Hid (CxRow w4 g2 0 n f) := HR.out.below hg2 hb
  replace hg2 := Nat.lt_of_lt_of_le hg2 hb.size
  replace b1 := b1.below hb
  replace HS : Hid (SrcRow w4 a n f) := HS.out.below hb
  replace HB := HB.trans (hb.mono HB.size)
  clear hb
  obtain ⟨U, hU⟩ : ∃ U, w4.alloc (.cells #[.float .f64 re2, .float .f64 im2] 28) = U := ⟨_, rfl⟩
  have b2 : BoxT 28 U w4.heap.size (.float .f64 re2) (.float .f64 im2) := by subst hU; exact boxT_new _ _ _ _ rfl
  replace b1 : BoxT 28 U w2.heap.size (.float .f64 re) (.float .f64 im) := by subst hU; exact b1.below (below_alloc _ _)
  replace HR : Hid (CxRow U g2 0 n f) := by subst hU; exact HR.out.below hg2 (below_alloc _ _)
  replace hg2 : g2 < U.heap.size := by subst hU; simp; omega
  replace HS : Hid (SrcRow U a n f) := by subst hU; exact HS.out.below (below_alloc _ _)
  replace HB : Below w.heap.size w U := by subst hU; exact HB.trans ((below_alloc _ _).mono HB.size)
  obtain ⟨p0, p1, -, -⟩ := b1.open
  obtain ⟨q0, q1, -, -⟩ := b2.open
  go_wp2_with fail
  clear hU
  refine (eqCx_true H1.out H2.out _).mono ?_
  rintro e w5 ⟨rfl, hb⟩
  replace HR : Hid (CxRow w5 g2 0 n f) := HR.out.below hg2 hb
  replace hg2 := Nat.lt_of_lt_of_le hg2 hb.size
  replace HS : Hid (SrcRow w5 a n f) := HS.out.below hb
  replace HB := HB.trans (hb.mono HB.size)
  clear hb p0 p1 q0 q1 b1 b2 H1 H2
  go_wp2_with fail
  refine (toCxS_any HS.out hn).mono ?_
  rintro e w6 ⟨g3, rfl, ⟨-, hg3⟩, hr, hb⟩
  have HR3 : Hid (CxRow w6 g3 0 n f) := hr
  replace HR : Hid (CxRow w6 g2 0 n f) := HR.out.below hg2 hb
  replace hg2 := Nat.lt_of_lt_of_le hg2 hb.size
  replace HB := HB.trans (hb.mono HB.size)
  clear hb hr HS
  go_wp2_with fail
  refine (eqCxS_true HR.out HR3.out hg2 hg3 hn).mono ?_
  rintro e w7 ⟨rfl, hb⟩
  replace HB := HB.trans (hb.mono HB.size)
  clear hb
  go_wp2
  go_ret
  exact ⟨rfl, HB⟩

end Go.Proofs.Ytmlgkmgkicdnbaa
