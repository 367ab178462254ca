/-
  The law FnOpBack, walked.
-/
import Derived.Test.YtmlgkmgkicdnbaaDrD
import Derived.Test.YtmlgkmgkicdnbaaDrE
import Derived.Test.YtmlgkmgkicdnbaaME
import Derived.Test.YtmlgkmgkicdnbaaOpP
import Derived.Test.YtmlgkmgkicdnbaaNQ
namespace Go.Proofs.Ytmlgkmgkicdnbaa
open Go.RowKit

theorem Row.wideB {w w' : World} {N p p' : Nat} {a : Option Addr} {len : Nat} (h : Row w p a len) (hb : Below N w w') (hp : p ≤ p') (hN : p ≤ N := by omega) : Row w' p' a len := by
  refine ⟨h.1, h.2.imp id ?_⟩
  rintro ⟨b, off, e, hbp, hc⟩
  refine ⟨b, off, e, by omega, fun j hj => ?_⟩
  obtain ⟨n, n0, n1, hn⟩ := hc j hj
  exact ⟨n, n0, n1, (hb.cell (p := ⟨b, off + j, none⟩) (by show b < N; omega)).trans hn⟩
theorem told_srcs {w : World} {lo hi : Nat} {o : Value} {p : Bool} {f h : Nat → Int} (x : Told w lo hi o p f h) : ∃ a c b d, o = .agg #[.slice a (if p then 9 else 0) c, .slice b (if p then 3 else 0) d] ∧ Src w a (if p then 9 else 0) f ∧ Src w b (if p then 3 else 0) h := OpAt.src x
theorem isR_congr {f f' h h' : Nat → Int} (hf : ∀ i, i < 9 → f i = f' i) (hh : ∀ i, i < 3 → h i = h' i) : isR f h ↔ isR f' h' := by
  have hd : det3 f = det3 f' := by
    unfold det3
    rw [hf 0 (by omega), hf 1 (by omega), hf 2 (by omega), hf 3 (by omega), hf 4 (by omega), hf 5 (by omega), hf 6 (by omega), hf 7 (by omega), hf 8 (by omega)]
  unfold isR
  rw [hd]
  constructor
  · rintro ⟨a, b, c⟩
    exact ⟨fun i hi => by rw [← hf i hi]; exact a i hi, fun i hi => by rw [← hh i hi]; exact b i hi, c⟩
  · rintro ⟨a, b, c⟩
    exact ⟨fun i hi => by rw [hf i hi]; exact a i hi, fun i hi => by rw [hh i hi]; exact b i hi, c⟩
theorem one_right : isR oneF (fun _ => 0) := by decide
/-- What is told where the product is right. -/
theorem mulT (c : Nat) (C : ∀ {w : World} {a b a' b' : Option Addr} {n k n' k' : Nat} {f h f' h' : Nat → Int} (cap cap' cap2 cap3 : Nat), Src w a n f → Src w b k h → Src w a' n' f' → Src w b' k' h' →
      Calls Try.prog c #[.agg #[.slice a n cap, .slice b k cap'], .agg #[.slice a' n' cap2, .slice b' k' cap3]] w fun e w' => ∃ o, e = .returned (.tuple #[o, .bool (decide (mulOk n f k h n' f' k' h'))]) ∧ Told w' w.heap.size w'.heap.size o (decide (mulOk n f k h n' f' k' h')) (mulM f f') (behV f h h') ∧ Below w.heap.size w w')
    {w : World} {a b a' b' : Option Addr} {f h f' h' : Nat → Int} (cap cap' cap2 cap3 : Nat) (hs : Src w a 9 f) (ht : Src w b 3 h) (hs' : Src w a' 9 f') (ht' : Src w b' 3 h') (h1 : isR f h) (h2 : isR f' h') (h3 : isR (mulM f f') (behV f h h')) :
    Calls Try.prog c #[.agg #[.slice a 9 cap, .slice b 3 cap'], .agg #[.slice a' 9 cap2, .slice b' 3 cap3]] w fun e w' => ∃ x u y v, e = .returned (.tuple #[.agg #[.slice x 9 u, .slice y 3 v], .bool true]) ∧ Src w' x 9 (mulM f f') ∧ Src w' y 3 (behV f h h') ∧ Below w.heap.size w w' := by
  refine (C cap cap' cap2 cap3 hs ht hs' ht').mono ?_
  rintro e w' ⟨o, rfl, t, b⟩
  have hm : mulOk 9 f 3 h 9 f' 3 h' := ⟨⟨rfl, rfl, h1⟩, ⟨rfl, rfl, h2⟩, h3⟩
  rw [decide_eq_true hm] at t ⊢
  obtain ⟨x, u, y, v, rfl, s1, s2⟩ := told_srcs t
  exact ⟨x, u, y, v, rfl, s1, s2, b⟩
theorem mulOk_assoc {f h f' h' f2 h2 : Nat → Int} (Ra : isR f h) (Rc : isR f2 h2) (R1 : isR (mulM f f') (behV f h h')) (R2 : isR (mulM f' f2) (behV f' h' h2)) : mulOk 9 (mulM f f') 3 (behV f h h') 9 f2 3 h2 ↔ mulOk 9 f 3 h 9 (mulM f' f2) 3 (behV f' h' h2) := by
  have e := isR_congr (f := mulM (mulM f f') f2) (f' := mulM f (mulM f' f2)) (h := behV (mulM f f') (behV f h h') h2) (h' := behV f h (behV f' h' h2)) (fun i hi => mulM_assoc f f' f2 i hi) (fun i hi => behV_assoc f h f' h' h2 i hi)
  exact ⟨fun x => ⟨⟨rfl, rfl, Ra⟩, ⟨rfl, rfl, R2⟩, e.1 x.2.2⟩, fun x => ⟨⟨rfl, rfl, R1⟩, ⟨rfl, rfl, Rc⟩, e.2 x.2.2⟩⟩
theorem back_right {f h : Nat → Int} (Ra : isR f h) : isR (mulM f (backM f)) (behV f h (backV f h)) ∧ isR (mulM (backM f) f) (behV (backM f) (backV f h) h) :=
  ⟨(isR_congr (fun i hi => (mul_back Ra.2.2 i hi).1) (fun i hi => behV_back Ra i hi)).2 one_right, (isR_congr (fun i hi => (mul_back Ra.2.2 i hi).2) (fun i _ => back_behV i)).2 one_right⟩
set_option maxRecDepth 100000 in
set_option maxHeartbeats 1600000 in
theorem opBack_walk {w : World} {a0 a1 : Option Addr} {len0 cap0 len1 cap1 : Nat} (hr0 : Row w w.heap.size a0 len0) (hr1 : Row w w.heap.size a1 len1) :
    Calls Try.prog 4 #[.slice a0 len0 cap0, .slice a1 len1 cap1] w fun e w' => e = .returned (.bool true) ∧ Below w.heap.size w w' := by
  go_enter Try.func4, Try.ntmps4
  go_wp2_with fail
  refine (big_any a0 len0 cap0 w hr0.1).mono ?_
  rintro e w' ⟨rfl, rfl⟩
  by_cases hb0 : 1048576 < len0
  · simp only [decide_eq_true hb0]
    go_wp2
    go_ret
    exact ⟨rfl, Below.refl _ _⟩
  simp only [decide_eq_false hb0]
  go_wp2_with fail
  refine (big_any a1 len1 cap1 w hr1.1).mono ?_
  rintro e w' ⟨rfl, rfl⟩
  by_cases hb1 : 1048576 < len1
  · simp only [decide_eq_true hb1]
    go_wp2
    go_ret
    exact ⟨rfl, Below.refl _ _⟩
  simp only [decide_eq_false hb1]
  go_wp2_with fail
  refine (drawMul_any hr0).mono ?_
  rintro e w1 ⟨oa, ob, rfl, Aa, Ab, B⟩
  clear hb0 hb1
  obtain ⟨aM, aN, aC, aT, aK, aD, f, h, rfl, ma, ta⟩ := Aa
  obtain ⟨bM, bN, bC, bT, bK, bD, f', h', rfl, mb, tb⟩ := Ab
  replace ma := ma.src
  replace ta := ta.src
  replace mb := mb.src
  replace tb := tb.src
  go_wp2_with fail
  obtain ⟨W2, hW2, qa, b2, z2⟩ := boxed w1 33 #[.slice aM aN aC, .slice aT aK aD]
  obtain ⟨W3, hW3, qb, b3, z3⟩ := boxed W2 33 #[.slice bM bN bC, .slice bT bK bD]
  rw [hW2, hW3, ← z2]
  have sa := qa.lt
  have sb := qb.lt
  clear hW2 hW3 z2 z3
  replace ma := (ma.below b2).below b3
  replace ta := (ta.below b2).below b3
  replace mb := (mb.below b2).below b3
  replace tb := (tb.below b2).below b3
  replace qa := qa.below b3
  replace B := (B.trans (b2.mono B.size)).trans (b3.mono (by have := B.size; omega))
  clear b2 b3
  have hr3 : Row W3 W3.heap.size a1 len1 := by
    have := B.size
    exact hr1.wideB B this
  refine (drawBack_any hr3).mono ?_
  rintro e w4 ⟨oc, rfl, Ac, bb⟩
  replace qa := qa.below bb
  replace qb := qb.below bb
  replace ma := ma.below bb
  replace ta := ta.below bb
  replace mb := mb.below bb
  replace tb := tb.below bb
  replace B := B.trans (bb.mono B.size)
  clear bb hr3 hr0 hr1
  obtain ⟨cM, cN, cC, cT, cK, cD, f2, h2, rfl, mc, tc⟩ := Ac
  replace mc := mc.src
  replace tc := tc.src
  obtain ⟨Xc, hXc, w5, hYc, qc, bb, xc0, xc1, yc0, yc1⟩ := boxed2 w4 (.slice cM cN cC) (.slice cT cK cD)
  replace qa := qa.below bb
  replace qb := qb.below bb
  replace ma := ma.below bb
  replace ta := ta.below bb
  replace mb := mb.below bb
  replace tb := tb.below bb
  replace mc := mc.below bb
  replace tc := tc.below bb
  replace B := B.trans (bb.mono B.size)
  clear bb
  obtain ⟨c00, c01, -⟩ := qa.open2
  go_wp2_with fail
  refine (specOk_any _ _ ma ta).mono ?_
  rintro e w6 ⟨rfl, bb⟩
  clear c00 c01 hXc hYc xc0 xc1 yc0 yc1
  replace qa := qa.below bb
  replace qb := qb.below bb
  replace qc := qc.below bb
  replace ma := ma.below bb
  replace ta := ta.below bb
  replace mb := mb.below bb
  replace tb := tb.below bb
  replace mc := mc.below bb
  replace tc := tc.below bb
  replace B := B.trans (bb.mono B.size)
  clear bb
  by_cases ia : isOp aN f aK h
  rotate_left
  · simp only [decide_eq_false ia]
    go_wp2
    go_ret
    exact ⟨rfl, B⟩
  simp only [decide_eq_true ia]
  obtain ⟨rfl, rfl, Ra⟩ := ia
  obtain ⟨c00, c01, -⟩ := qb.open2
  go_wp2_with fail
  refine (specOk_any _ _ mb tb).mono ?_
  rintro e w7 ⟨rfl, bb⟩
  clear c00 c01
  replace qa := qa.below bb
  replace qb := qb.below bb
  replace qc := qc.below bb
  replace ma := ma.below bb
  replace ta := ta.below bb
  replace mb := mb.below bb
  replace tb := tb.below bb
  replace mc := mc.below bb
  replace tc := tc.below bb
  replace B := B.trans (bb.mono B.size)
  clear bb
  by_cases ib : isOp bN f' bK h'
  rotate_left
  · simp only [decide_eq_false ib]
    go_wp2
    go_ret
    exact ⟨rfl, B⟩
  simp only [decide_eq_true ib]
  obtain ⟨rfl, rfl, Rb⟩ := ib
  obtain ⟨c00, c01, -⟩ := qc.open2
  go_wp2_with fail
  refine (specOk_any _ _ mc tc).mono ?_
  rintro e w8 ⟨rfl, bb⟩
  clear c00 c01
  replace qa := qa.below bb
  replace qb := qb.below bb
  replace qc := qc.below bb
  replace ma := ma.below bb
  replace ta := ta.below bb
  replace mb := mb.below bb
  replace tb := tb.below bb
  replace mc := mc.below bb
  replace tc := tc.below bb
  replace B := B.trans (bb.mono B.size)
  clear bb
  by_cases ic : isOp cN f2 cK h2
  rotate_left
  · simp only [decide_eq_false ic]
    go_wp2
    go_ret
    exact ⟨rfl, B⟩
  simp only [decide_eq_true ic]
  obtain ⟨rfl, rfl, Rc⟩ := ic
  obtain ⟨c00, c01, -⟩ := qa.open2
  go_wp2_with fail
  refine (specBack_any _ _ ma ta).mono ?_
  rintro e w9 ⟨o, rfl, t, bb⟩
  clear c00 c01
  replace qa := qa.below bb
  replace qb := qb.below bb
  replace qc := qc.below bb
  replace ma := ma.below bb
  replace ta := ta.below bb
  replace mb := mb.below bb
  replace tb := tb.below bb
  replace mc := mc.below bb
  replace tc := tc.below bb
  replace B := B.trans (bb.mono B.size)
  clear bb
  by_cases pk0 : backOk 9 f 3 h
  rotate_left
  · rw [decide_eq_false pk0] at t ⊢
    obtain ⟨k0M, k0C, k0T, k0D, rfl, mk0, tk0⟩ := told_srcs t
    clear t
    replace mk0 : Src _ k0M 0 _ := mk0
    replace tk0 : Src _ k0T 0 _ := tk0
    simp only [Bool.false_eq_true, if_false]
    clear mk0 tk0
    obtain ⟨Xk0, hXk0, w10, hYk0, qk0, bb, xk00, xk01, yk00, yk01⟩ := boxed2 w9 (.slice k0M 0 k0C) (.slice k0T 0 k0D)
    replace qa := qa.below bb
    replace qb := qb.below bb
    replace qc := qc.below bb
    replace ma := ma.below bb
    replace ta := ta.below bb
    replace mb := mb.below bb
    replace tb := tb.below bb
    replace mc := mc.below bb
    replace tc := tc.below bb
    replace B := B.trans (bb.mono B.size)
    clear bb
    obtain ⟨c00, c01, -⟩ := qa.open2
    obtain ⟨c10, c11, -⟩ := qb.open2
    go_wp2_with fail
    refine (specMul_any _ _ _ _ ma ta mb tb).mono ?_
    rintro e w11 ⟨o, rfl, t, bb⟩
    clear c00 c01 c10 c11 hXk0 hYk0 xk00 xk01 yk00 yk01
    replace qa := qa.below bb
    replace qb := qb.below bb
    replace qc := qc.below bb
    replace qk0 := qk0.below bb
    replace ma := ma.below bb
    replace ta := ta.below bb
    replace mb := mb.below bb
    replace tb := tb.below bb
    replace mc := mc.below bb
    replace tc := tc.below bb
    replace B := B.trans (bb.mono B.size)
    clear bb
    by_cases pab : mulOk 9 f 3 h 9 f' 3 h'
    rotate_left
    · rw [decide_eq_false pab] at t ⊢
      obtain ⟨abM, abC, abT, abD, rfl, mab, tab⟩ := told_srcs t
      clear t
      replace mab : Src _ abM 0 _ := mab
      replace tab : Src _ abT 0 _ := tab
      simp only [Bool.false_eq_true, if_false]
      clear mab tab
      obtain ⟨Xab, hXab, w12, hYab, qab, bb, xab0, xab1, yab0, yab1⟩ := boxed2 w11 (.slice abM 0 abC) (.slice abT 0 abD)
      replace qa := qa.below bb
      replace qb := qb.below bb
      replace qc := qc.below bb
      replace qk0 := qk0.below bb
      replace ma := ma.below bb
      replace ta := ta.below bb
      replace mb := mb.below bb
      replace tb := tb.below bb
      replace mc := mc.below bb
      replace tc := tc.below bb
      replace B := B.trans (bb.mono B.size)
      clear bb
      obtain ⟨c00, c01, -⟩ := qb.open2
      obtain ⟨c10, c11, -⟩ := qc.open2
      go_wp2_with fail
      refine (specMul_any _ _ _ _ mb tb mc tc).mono ?_
      rintro e w13 ⟨o, rfl, t, bb⟩
      clear c00 c01 c10 c11 hXab hYab xab0 xab1 yab0 yab1
      replace qa := qa.below bb
      replace qb := qb.below bb
      replace qc := qc.below bb
      replace qk0 := qk0.below bb
      replace qab := qab.below bb
      replace ma := ma.below bb
      replace ta := ta.below bb
      replace mb := mb.below bb
      replace tb := tb.below bb
      replace mc := mc.below bb
      replace tc := tc.below bb
      replace B := B.trans (bb.mono B.size)
      clear bb
      by_cases pbc : mulOk 9 f' 3 h' 9 f2 3 h2
      rotate_left
      · rw [decide_eq_false pbc] at t ⊢
        obtain ⟨bcM, bcC, bcT, bcD, rfl, mbc, tbc⟩ := told_srcs t
        clear t
        replace mbc : Src _ bcM 0 _ := mbc
        replace tbc : Src _ bcT 0 _ := tbc
        simp only [Bool.false_eq_true, if_false]
        clear mbc tbc
        obtain ⟨Xbc, hXbc, w14, hYbc, qbc, bb, xbc0, xbc1, ybc0, ybc1⟩ := boxed2 w13 (.slice bcM 0 bcC) (.slice bcT 0 bcD)
        replace qa := qa.below bb
        replace qb := qb.below bb
        replace qc := qc.below bb
        replace qk0 := qk0.below bb
        replace qab := qab.below bb
        replace ma := ma.below bb
        replace ta := ta.below bb
        replace mb := mb.below bb
        replace tb := tb.below bb
        replace mc := mc.below bb
        replace tc := tc.below bb
        replace B := B.trans (bb.mono B.size)
        clear bb
        go_wp2
        go_ret
        exact ⟨rfl, B⟩
      rw [decide_eq_true pbc] at t ⊢
      obtain ⟨bcM, bcC, bcT, bcD, rfl, mbc, tbc⟩ := told_srcs t
      clear t
      replace mbc : Src _ bcM 9 _ := mbc
      replace tbc : Src _ bcT 3 _ := tbc
      simp only [if_true]
      obtain ⟨Xbc, hXbc, w15, hYbc, qbc, bb, xbc0, xbc1, ybc0, ybc1⟩ := boxed2 w13 (.slice bcM 9 bcC) (.slice bcT 3 bcD)
      replace qa := qa.below bb
      replace qb := qb.below bb
      replace qc := qc.below bb
      replace qk0 := qk0.below bb
      replace qab := qab.below bb
      replace ma := ma.below bb
      replace ta := ta.below bb
      replace mb := mb.below bb
      replace tb := tb.below bb
      replace mc := mc.below bb
      replace tc := tc.below bb
      replace mbc := mbc.below bb
      replace tbc := tbc.below bb
      replace B := B.trans (bb.mono B.size)
      clear bb
      go_wp2
      go_ret
      exact ⟨rfl, B⟩
    rw [decide_eq_true pab] at t ⊢
    obtain ⟨abM, abC, abT, abD, rfl, mab, tab⟩ := told_srcs t
    clear t
    replace mab : Src _ abM 9 _ := mab
    replace tab : Src _ abT 3 _ := tab
    simp only [if_true]
    obtain ⟨Xab, hXab, w16, hYab, qab, bb, xab0, xab1, yab0, yab1⟩ := boxed2 w11 (.slice abM 9 abC) (.slice abT 3 abD)
    replace qa := qa.below bb
    replace qb := qb.below bb
    replace qc := qc.below bb
    replace qk0 := qk0.below bb
    replace ma := ma.below bb
    replace ta := ta.below bb
    replace mb := mb.below bb
    replace tb := tb.below bb
    replace mc := mc.below bb
    replace tc := tc.below bb
    replace mab := mab.below bb
    replace tab := tab.below bb
    replace B := B.trans (bb.mono B.size)
    clear bb
    obtain ⟨c00, c01, -⟩ := qb.open2
    obtain ⟨c10, c11, -⟩ := qc.open2
    go_wp2_with fail
    refine (specMul_any _ _ _ _ mb tb mc tc).mono ?_
    rintro e w17 ⟨o, rfl, t, bb⟩
    clear c00 c01 c10 c11 hXab hYab xab0 xab1 yab0 yab1
    replace qa := qa.below bb
    replace qb := qb.below bb
    replace qc := qc.below bb
    replace qk0 := qk0.below bb
    replace qab := qab.below bb
    replace ma := ma.below bb
    replace ta := ta.below bb
    replace mb := mb.below bb
    replace tb := tb.below bb
    replace mc := mc.below bb
    replace tc := tc.below bb
    replace mab := mab.below bb
    replace tab := tab.below bb
    replace B := B.trans (bb.mono B.size)
    clear bb
    by_cases pbc : mulOk 9 f' 3 h' 9 f2 3 h2
    rotate_left
    · rw [decide_eq_false pbc] at t ⊢
      obtain ⟨bcM, bcC, bcT, bcD, rfl, mbc, tbc⟩ := told_srcs t
      clear t
      replace mbc : Src _ bcM 0 _ := mbc
      replace tbc : Src _ bcT 0 _ := tbc
      simp only [Bool.false_eq_true, if_false]
      clear mbc tbc
      obtain ⟨Xbc, hXbc, w18, hYbc, qbc, bb, xbc0, xbc1, ybc0, ybc1⟩ := boxed2 w17 (.slice bcM 0 bcC) (.slice bcT 0 bcD)
      replace qa := qa.below bb
      replace qb := qb.below bb
      replace qc := qc.below bb
      replace qk0 := qk0.below bb
      replace qab := qab.below bb
      replace ma := ma.below bb
      replace ta := ta.below bb
      replace mb := mb.below bb
      replace tb := tb.below bb
      replace mc := mc.below bb
      replace tc := tc.below bb
      replace mab := mab.below bb
      replace tab := tab.below bb
      replace B := B.trans (bb.mono B.size)
      clear bb
      go_wp2
      go_ret
      exact ⟨rfl, B⟩
    rw [decide_eq_true pbc] at t ⊢
    obtain ⟨bcM, bcC, bcT, bcD, rfl, mbc, tbc⟩ := told_srcs t
    clear t
    replace mbc : Src _ bcM 9 _ := mbc
    replace tbc : Src _ bcT 3 _ := tbc
    simp only [if_true]
    obtain ⟨Xbc, hXbc, w19, hYbc, qbc, bb, xbc0, xbc1, ybc0, ybc1⟩ := boxed2 w17 (.slice bcM 9 bcC) (.slice bcT 3 bcD)
    replace qa := qa.below bb
    replace qb := qb.below bb
    replace qc := qc.below bb
    replace qk0 := qk0.below bb
    replace qab := qab.below bb
    replace ma := ma.below bb
    replace ta := ta.below bb
    replace mb := mb.below bb
    replace tb := tb.below bb
    replace mc := mc.below bb
    replace tc := tc.below bb
    replace mab := mab.below bb
    replace tab := tab.below bb
    replace mbc := mbc.below bb
    replace tbc := tbc.below bb
    replace B := B.trans (bb.mono B.size)
    clear bb
    have R1 := pab.2.2
    have R2 := pbc.2.2
    have hiff := mulOk_assoc Ra Rc R1 R2
    obtain ⟨c00, c01, -⟩ := qab.open2
    obtain ⟨c10, c11, -⟩ := qc.open2
    go_wp2_with fail
    refine (specMul_any _ _ _ _ mab tab mc tc).mono ?_
    rintro e w20 ⟨o, rfl, t, bb⟩
    clear c00 c01 c10 c11 hXbc hYbc xbc0 xbc1 ybc0 ybc1
    replace qa := qa.below bb
    replace qb := qb.below bb
    replace qc := qc.below bb
    replace qk0 := qk0.below bb
    replace qab := qab.below bb
    replace qbc := qbc.below bb
    replace ma := ma.below bb
    replace ta := ta.below bb
    replace mb := mb.below bb
    replace tb := tb.below bb
    replace mc := mc.below bb
    replace tc := tc.below bb
    replace mab := mab.below bb
    replace tab := tab.below bb
    replace mbc := mbc.below bb
    replace tbc := tbc.below bb
    replace B := B.trans (bb.mono B.size)
    clear bb
    by_cases pp : mulOk 9 (mulM f f') 3 (behV f h h') 9 f2 3 h2
    rotate_left
    · rw [decide_eq_false pp] at t ⊢
      obtain ⟨pM, pC, pT, pD, rfl, mp, tp⟩ := told_srcs t
      clear t
      replace mp : Src _ pM 0 _ := mp
      replace tp : Src _ pT 0 _ := tp
      simp only [Bool.false_eq_true, if_false]
      clear mp tp
      obtain ⟨Xp, hXp, w21, hYp, qp, bb, xp0, xp1, yp0, yp1⟩ := boxed2 w20 (.slice pM 0 pC) (.slice pT 0 pD)
      replace qa := qa.below bb
      replace qb := qb.below bb
      replace qc := qc.below bb
      replace qk0 := qk0.below bb
      replace qab := qab.below bb
      replace qbc := qbc.below bb
      replace ma := ma.below bb
      replace ta := ta.below bb
      replace mb := mb.below bb
      replace tb := tb.below bb
      replace mc := mc.below bb
      replace tc := tc.below bb
      replace mab := mab.below bb
      replace tab := tab.below bb
      replace mbc := mbc.below bb
      replace tbc := tbc.below bb
      replace B := B.trans (bb.mono B.size)
      clear bb
      have pq' : ¬ mulOk 9 f 3 h 9 (mulM f' f2) 3 (behV f' h' h2) := fun x => pp (hiff.2 x)
      obtain ⟨c00, c01, -⟩ := qa.open2
      obtain ⟨c10, c11, -⟩ := qbc.open2
      go_wp2_with fail
      refine (specMul_any _ _ _ _ ma ta mbc tbc).mono ?_
      rintro e w22 ⟨o, rfl, t, bb⟩
      clear c00 c01 c10 c11 hXp hYp xp0 xp1 yp0 yp1
      replace qa := qa.below bb
      replace qb := qb.below bb
      replace qc := qc.below bb
      replace qk0 := qk0.below bb
      replace qab := qab.below bb
      replace qbc := qbc.below bb
      replace qp := qp.below bb
      replace ma := ma.below bb
      replace ta := ta.below bb
      replace mb := mb.below bb
      replace tb := tb.below bb
      replace mc := mc.below bb
      replace tc := tc.below bb
      replace mab := mab.below bb
      replace tab := tab.below bb
      replace mbc := mbc.below bb
      replace tbc := tbc.below bb
      replace B := B.trans (bb.mono B.size)
      clear bb
      rw [decide_eq_false pq'] at t ⊢
      obtain ⟨qM, qC, qT, qD, rfl, mq, tq⟩ := told_srcs t
      clear t
      replace mq : Src _ qM 0 _ := mq
      replace tq : Src _ qT 0 _ := tq
      simp only [Bool.false_eq_true, if_false]
      clear mq tq
      obtain ⟨Xq, hXq, w23, hYq, qq, bb, xq0, xq1, yq0, yq1⟩ := boxed2 w22 (.slice qM 0 qC) (.slice qT 0 qD)
      replace qa := qa.below bb
      replace qb := qb.below bb
      replace qc := qc.below bb
      replace qk0 := qk0.below bb
      replace qab := qab.below bb
      replace qbc := qbc.below bb
      replace qp := qp.below bb
      replace ma := ma.below bb
      replace ta := ta.below bb
      replace mb := mb.below bb
      replace tb := tb.below bb
      replace mc := mc.below bb
      replace tc := tc.below bb
      replace mab := mab.below bb
      replace tab := tab.below bb
      replace mbc := mbc.below bb
      replace tbc := tbc.below bb
      replace B := B.trans (bb.mono B.size)
      clear bb
      go_wp2
      go_ret
      exact ⟨rfl, B⟩
    rw [decide_eq_true pp] at t ⊢
    obtain ⟨pM, pC, pT, pD, rfl, mp, tp⟩ := told_srcs t
    clear t
    replace mp : Src _ pM 9 _ := mp
    replace tp : Src _ pT 3 _ := tp
    simp only [if_true]
    obtain ⟨Xp, hXp, w24, hYp, qp, bb, xp0, xp1, yp0, yp1⟩ := boxed2 w20 (.slice pM 9 pC) (.slice pT 3 pD)
    replace qa := qa.below bb
    replace qb := qb.below bb
    replace qc := qc.below bb
    replace qk0 := qk0.below bb
    replace qab := qab.below bb
    replace qbc := qbc.below bb
    replace ma := ma.below bb
    replace ta := ta.below bb
    replace mb := mb.below bb
    replace tb := tb.below bb
    replace mc := mc.below bb
    replace tc := tc.below bb
    replace mab := mab.below bb
    replace tab := tab.below bb
    replace mbc := mbc.below bb
    replace tbc := tbc.below bb
    replace mp := mp.below bb
    replace tp := tp.below bb
    replace B := B.trans (bb.mono B.size)
    clear bb
    have pq' : mulOk 9 f 3 h 9 (mulM f' f2) 3 (behV f' h' h2) := hiff.1 pp
    obtain ⟨c00, c01, -⟩ := qa.open2
    obtain ⟨c10, c11, -⟩ := qbc.open2
    go_wp2_with fail
    refine (specMul_any _ _ _ _ ma ta mbc tbc).mono ?_
    rintro e w25 ⟨o, rfl, t, bb⟩
    clear c00 c01 c10 c11 hXp hYp xp0 xp1 yp0 yp1
    replace qa := qa.below bb
    replace qb := qb.below bb
    replace qc := qc.below bb
    replace qk0 := qk0.below bb
    replace qab := qab.below bb
    replace qbc := qbc.below bb
    replace qp := qp.below bb
    replace ma := ma.below bb
    replace ta := ta.below bb
    replace mb := mb.below bb
    replace tb := tb.below bb
    replace mc := mc.below bb
    replace tc := tc.below bb
    replace mab := mab.below bb
    replace tab := tab.below bb
    replace mbc := mbc.below bb
    replace tbc := tbc.below bb
    replace mp := mp.below bb
    replace tp := tp.below bb
    replace B := B.trans (bb.mono B.size)
    clear bb
    rw [decide_eq_true pq'] at t ⊢
    obtain ⟨qM, qC, qT, qD, rfl, mq, tq⟩ := told_srcs t
    clear t
    replace mq : Src _ qM 9 _ := mq
    replace tq : Src _ qT 3 _ := tq
    simp only [if_true]
    obtain ⟨Xq, hXq, w26, hYq, qq, bb, xq0, xq1, yq0, yq1⟩ := boxed2 w25 (.slice qM 9 qC) (.slice qT 3 qD)
    replace qa := qa.below bb
    replace qb := qb.below bb
    replace qc := qc.below bb
    replace qk0 := qk0.below bb
    replace qab := qab.below bb
    replace qbc := qbc.below bb
    replace qp := qp.below bb
    replace ma := ma.below bb
    replace ta := ta.below bb
    replace mb := mb.below bb
    replace tb := tb.below bb
    replace mc := mc.below bb
    replace tc := tc.below bb
    replace mab := mab.below bb
    replace tab := tab.below bb
    replace mbc := mbc.below bb
    replace tbc := tbc.below bb
    replace mp := mp.below bb
    replace tp := tp.below bb
    replace mq := mq.below bb
    replace tq := tq.below bb
    replace B := B.trans (bb.mono B.size)
    clear bb
    obtain ⟨c00, c01, -⟩ := qa.open2
    obtain ⟨c10, c11, -⟩ := qb.open2
    go_wp2_with fail
    refine (mulT 16 @implMul_any _ _ _ _ ma ta mb tb Ra Rb R1).mono ?_
    rintro e w27 ⟨uM, uC, uT, uD, rfl, mu, tu, bb⟩
    clear c00 c01 c10 c11 hXq hYq xq0 xq1 yq0 yq1
    replace qa := qa.below bb
    replace qb := qb.below bb
    replace qc := qc.below bb
    replace qk0 := qk0.below bb
    replace qab := qab.below bb
    replace qbc := qbc.below bb
    replace qp := qp.below bb
    replace qq := qq.below bb
    replace ma := ma.below bb
    replace ta := ta.below bb
    replace mb := mb.below bb
    replace tb := tb.below bb
    replace mc := mc.below bb
    replace tc := tc.below bb
    replace mab := mab.below bb
    replace tab := tab.below bb
    replace mbc := mbc.below bb
    replace tbc := tbc.below bb
    replace mp := mp.below bb
    replace tp := tp.below bb
    replace mq := mq.below bb
    replace tq := tq.below bb
    replace B := B.trans (bb.mono B.size)
    clear bb
    obtain ⟨Xu, hXu, w28, hYu, qu, bb, xu0, xu1, yu0, yu1⟩ := boxed2 w27 (.slice uM 9 uC) (.slice uT 3 uD)
    replace qa := qa.below bb
    replace qb := qb.below bb
    replace qc := qc.below bb
    replace qk0 := qk0.below bb
    replace qab := qab.below bb
    replace qbc := qbc.below bb
    replace qp := qp.below bb
    replace qq := qq.below bb
    replace ma := ma.below bb
    replace ta := ta.below bb
    replace mb := mb.below bb
    replace tb := tb.below bb
    replace mc := mc.below bb
    replace tc := tc.below bb
    replace mab := mab.below bb
    replace tab := tab.below bb
    replace mbc := mbc.below bb
    replace tbc := tbc.below bb
    replace mp := mp.below bb
    replace tp := tp.below bb
    replace mq := mq.below bb
    replace tq := tq.below bb
    replace mu := mu.below bb
    replace tu := tu.below bb
    replace B := B.trans (bb.mono B.size)
    clear bb
    obtain ⟨c00, c01, -⟩ := qb.open2
    obtain ⟨c10, c11, -⟩ := qc.open2
    go_wp2_with fail
    refine (mulT 16 @implMul_any _ _ _ _ mb tb mc tc Rb Rc R2).mono ?_
    rintro e w29 ⟨vM, vC, vT, vD, rfl, mv, tv, bb⟩
    clear c00 c01 c10 c11 hXu hYu xu0 xu1 yu0 yu1
    replace qa := qa.below bb
    replace qb := qb.below bb
    replace qc := qc.below bb
    replace qk0 := qk0.below bb
    replace qab := qab.below bb
    replace qbc := qbc.below bb
    replace qp := qp.below bb
    replace qq := qq.below bb
    replace qu := qu.below bb
    replace ma := ma.below bb
    replace ta := ta.below bb
    replace mb := mb.below bb
    replace tb := tb.below bb
    replace mc := mc.below bb
    replace tc := tc.below bb
    replace mab := mab.below bb
    replace tab := tab.below bb
    replace mbc := mbc.below bb
    replace tbc := tbc.below bb
    replace mp := mp.below bb
    replace tp := tp.below bb
    replace mq := mq.below bb
    replace tq := tq.below bb
    replace mu := mu.below bb
    replace tu := tu.below bb
    replace B := B.trans (bb.mono B.size)
    clear bb
    obtain ⟨Xv, hXv, w30, hYv, qv, bb, xv0, xv1, yv0, yv1⟩ := boxed2 w29 (.slice vM 9 vC) (.slice vT 3 vD)
    replace qa := qa.below bb
    replace qb := qb.below bb
    replace qc := qc.below bb
    replace qk0 := qk0.below bb
    replace qab := qab.below bb
    replace qbc := qbc.below bb
    replace qp := qp.below bb
    replace qq := qq.below bb
    replace qu := qu.below bb
    replace ma := ma.below bb
    replace ta := ta.below bb
    replace mb := mb.below bb
    replace tb := tb.below bb
    replace mc := mc.below bb
    replace tc := tc.below bb
    replace mab := mab.below bb
    replace tab := tab.below bb
    replace mbc := mbc.below bb
    replace tbc := tbc.below bb
    replace mp := mp.below bb
    replace tp := tp.below bb
    replace mq := mq.below bb
    replace tq := tq.below bb
    replace mu := mu.below bb
    replace tu := tu.below bb
    replace mv := mv.below bb
    replace tv := tv.below bb
    replace B := B.trans (bb.mono B.size)
    clear bb
    obtain ⟨c00, c01, -⟩ := qu.open2
    obtain ⟨c10, c11, -⟩ := qc.open2
    go_wp2_with fail
    refine (mulT 16 @implMul_any _ _ _ _ mu tu mc tc R1 Rc pp.2.2).mono ?_
    rintro e w31 ⟨xM, xC, xT, xD, rfl, mx, tx, bb⟩
    clear c00 c01 c10 c11 hXv hYv xv0 xv1 yv0 yv1
    replace qa := qa.below bb
    replace qb := qb.below bb
    replace qc := qc.below bb
    replace qk0 := qk0.below bb
    replace qab := qab.below bb
    replace qbc := qbc.below bb
    replace qp := qp.below bb
    replace qq := qq.below bb
    replace qu := qu.below bb
    replace qv := qv.below bb
    replace ma := ma.below bb
    replace ta := ta.below bb
    replace mb := mb.below bb
    replace tb := tb.below bb
    replace mc := mc.below bb
    replace tc := tc.below bb
    replace mab := mab.below bb
    replace tab := tab.below bb
    replace mbc := mbc.below bb
    replace tbc := tbc.below bb
    replace mp := mp.below bb
    replace tp := tp.below bb
    replace mq := mq.below bb
    replace tq := tq.below bb
    replace mu := mu.below bb
    replace tu := tu.below bb
    replace mv := mv.below bb
    replace tv := tv.below bb
    replace B := B.trans (bb.mono B.size)
    clear bb
    obtain ⟨Xx, hXx, w32, hYx, qx, bb, xx0, xx1, yx0, yx1⟩ := boxed2 w31 (.slice xM 9 xC) (.slice xT 3 xD)
    replace qa := qa.below bb
    replace qb := qb.below bb
    replace qc := qc.below bb
    replace qk0 := qk0.below bb
    replace qab := qab.below bb
    replace qbc := qbc.below bb
    replace qp := qp.below bb
    replace qq := qq.below bb
    replace qu := qu.below bb
    replace qv := qv.below bb
    replace ma := ma.below bb
    replace ta := ta.below bb
    replace mb := mb.below bb
    replace tb := tb.below bb
    replace mc := mc.below bb
    replace tc := tc.below bb
    replace mab := mab.below bb
    replace tab := tab.below bb
    replace mbc := mbc.below bb
    replace tbc := tbc.below bb
    replace mp := mp.below bb
    replace tp := tp.below bb
    replace mq := mq.below bb
    replace tq := tq.below bb
    replace mu := mu.below bb
    replace tu := tu.below bb
    replace mv := mv.below bb
    replace tv := tv.below bb
    replace mx := mx.below bb
    replace tx := tx.below bb
    replace B := B.trans (bb.mono B.size)
    clear bb
    obtain ⟨c00, c01, -⟩ := qa.open2
    obtain ⟨c10, c11, -⟩ := qv.open2
    go_wp2_with fail
    refine (mulT 16 @implMul_any _ _ _ _ ma ta mv tv Ra R2 pq'.2.2).mono ?_
    rintro e w33 ⟨yM, yC, yT, yD, rfl, my, ty, bb⟩
    clear c00 c01 c10 c11 hXx hYx xx0 xx1 yx0 yx1
    replace qa := qa.below bb
    replace qb := qb.below bb
    replace qc := qc.below bb
    replace qk0 := qk0.below bb
    replace qab := qab.below bb
    replace qbc := qbc.below bb
    replace qp := qp.below bb
    replace qq := qq.below bb
    replace qu := qu.below bb
    replace qv := qv.below bb
    replace qx := qx.below bb
    replace ma := ma.below bb
    replace ta := ta.below bb
    replace mb := mb.below bb
    replace tb := tb.below bb
    replace mc := mc.below bb
    replace tc := tc.below bb
    replace mab := mab.below bb
    replace tab := tab.below bb
    replace mbc := mbc.below bb
    replace tbc := tbc.below bb
    replace mp := mp.below bb
    replace tp := tp.below bb
    replace mq := mq.below bb
    replace tq := tq.below bb
    replace mu := mu.below bb
    replace tu := tu.below bb
    replace mv := mv.below bb
    replace tv := tv.below bb
    replace mx := mx.below bb
    replace tx := tx.below bb
    replace B := B.trans (bb.mono B.size)
    clear bb
    obtain ⟨Xy, hXy, w34, hYy, qy, bb, xy0, xy1, yy0, yy1⟩ := boxed2 w33 (.slice yM 9 yC) (.slice yT 3 yD)
    replace qa := qa.below bb
    replace qb := qb.below bb
    replace qc := qc.below bb
    replace qk0 := qk0.below bb
    replace qab := qab.below bb
    replace qbc := qbc.below bb
    replace qp := qp.below bb
    replace qq := qq.below bb
    replace qu := qu.below bb
    replace qv := qv.below bb
    replace qx := qx.below bb
    replace ma := ma.below bb
    replace ta := ta.below bb
    replace mb := mb.below bb
    replace tb := tb.below bb
    replace mc := mc.below bb
    replace tc := tc.below bb
    replace mab := mab.below bb
    replace tab := tab.below bb
    replace mbc := mbc.below bb
    replace tbc := tbc.below bb
    replace mp := mp.below bb
    replace tp := tp.below bb
    replace mq := mq.below bb
    replace tq := tq.below bb
    replace mu := mu.below bb
    replace tu := tu.below bb
    replace mv := mv.below bb
    replace tv := tv.below bb
    replace mx := mx.below bb
    replace tx := tx.below bb
    replace my := my.below bb
    replace ty := ty.below bb
    replace B := B.trans (bb.mono B.size)
    clear bb
    obtain ⟨c00, c01, -⟩ := qx.open2
    obtain ⟨c10, c11, -⟩ := qy.open2
    go_wp2_with fail
    refine (sameOp_true mx my tx ty (fun i hi => mulM_assoc f f' f2 i hi) (fun i hi => behV_assoc f h f' h' h2 i hi) (by omega) (by omega)).mono ?_
    rintro e w35 ⟨rfl, bb⟩
    clear c00 c01 c10 c11 hXy hYy xy0 xy1 yy0 yy1
    replace qa := qa.below bb
    replace qb := qb.below bb
    replace qc := qc.below bb
    replace qk0 := qk0.below bb
    replace qab := qab.below bb
    replace qbc := qbc.below bb
    replace qp := qp.below bb
    replace qq := qq.below bb
    replace qu := qu.below bb
    replace qv := qv.below bb
    replace qx := qx.below bb
    replace qy := qy.below bb
    replace ma := ma.below bb
    replace ta := ta.below bb
    replace mb := mb.below bb
    replace tb := tb.below bb
    replace mc := mc.below bb
    replace tc := tc.below bb
    replace mab := mab.below bb
    replace tab := tab.below bb
    replace mbc := mbc.below bb
    replace tbc := tbc.below bb
    replace mp := mp.below bb
    replace tp := tp.below bb
    replace mq := mq.below bb
    replace tq := tq.below bb
    replace mu := mu.below bb
    replace tu := tu.below bb
    replace mv := mv.below bb
    replace tv := tv.below bb
    replace mx := mx.below bb
    replace tx := tx.below bb
    replace my := my.below bb
    replace ty := ty.below bb
    replace B := B.trans (bb.mono B.size)
    clear bb
    go_wp2
    go_ret
    exact ⟨rfl, B⟩
  rw [decide_eq_true pk0] at t ⊢
  obtain ⟨k0M, k0C, k0T, k0D, rfl, mk0, tk0⟩ := told_srcs t
  clear t
  replace mk0 : Src _ k0M 9 _ := mk0
  replace tk0 : Src _ k0T 3 _ := tk0
  simp only [if_true]
  obtain ⟨Xk0, hXk0, w36, hYk0, qk0, bb, xk00, xk01, yk00, yk01⟩ := boxed2 w9 (.slice k0M 9 k0C) (.slice k0T 3 k0D)
  replace qa := qa.below bb
  replace qb := qb.below bb
  replace qc := qc.below bb
  replace ma := ma.below bb
  replace ta := ta.below bb
  replace mb := mb.below bb
  replace tb := tb.below bb
  replace mc := mc.below bb
  replace tc := tc.below bb
  replace mk0 := mk0.below bb
  replace tk0 := tk0.below bb
  replace B := B.trans (bb.mono B.size)
  clear bb
  have RB := pk0.2
  have hbr := back_right Ra
  rcases id ma with h0 | ⟨ab1, ao1, rfl, la1, ia1⟩
  · omega
  rcases id ta with h0 | ⟨ab2, ao2, rfl, la2, ia2⟩
  · omega
  obtain ⟨c00, c01, -⟩ := qa.open2
  go_wp2_with fail
  refine (copyOp_any ia1 ia2 la1 la2).mono ?_
  rintro e w37 ⟨eM, eC, eT, eD, rfl, me, te, bb⟩
  clear c00 c01 hXk0 hYk0 xk00 xk01 yk00 yk01
  replace qa := qa.below bb
  replace qb := qb.below bb
  replace qc := qc.below bb
  replace qk0 := qk0.below bb
  replace ma := ma.below bb
  replace ta := ta.below bb
  replace mb := mb.below bb
  replace tb := tb.below bb
  replace mc := mc.below bb
  replace tc := tc.below bb
  replace mk0 := mk0.below bb
  replace tk0 := tk0.below bb
  replace B := B.trans (bb.mono B.size)
  clear bb
  clear ia1 ia2 la1 la2
  go_wp2_with fail
  refine (implBack_any _ _ me te).mono ?_
  rintro e w38 ⟨o, rfl, t, bb⟩
  replace qa := qa.below bb
  replace qb := qb.below bb
  replace qc := qc.below bb
  replace qk0 := qk0.below bb
  replace ma := ma.below bb
  replace ta := ta.below bb
  replace mb := mb.below bb
  replace tb := tb.below bb
  replace mc := mc.below bb
  replace tc := tc.below bb
  replace mk0 := mk0.below bb
  replace tk0 := tk0.below bb
  replace me := me.below bb
  replace te := te.below bb
  replace B := B.trans (bb.mono B.size)
  clear bb
  rw [decide_eq_true pk0] at t ⊢
  obtain ⟨bkM, bkC, bkT, bkD, rfl, mbk, tbk⟩ := told_srcs t
  clear t
  replace mbk : Src _ bkM 9 _ := mbk
  replace tbk : Src _ bkT 3 _ := tbk
  simp only [if_true]
  obtain ⟨Xbk, hXbk, w39, hYbk, qbk, bb, xbk0, xbk1, ybk0, ybk1⟩ := boxed2 w38 (.slice bkM 9 bkC) (.slice bkT 3 bkD)
  replace qa := qa.below bb
  replace qb := qb.below bb
  replace qc := qc.below bb
  replace qk0 := qk0.below bb
  replace ma := ma.below bb
  replace ta := ta.below bb
  replace mb := mb.below bb
  replace tb := tb.below bb
  replace mc := mc.below bb
  replace tc := tc.below bb
  replace mk0 := mk0.below bb
  replace tk0 := tk0.below bb
  replace me := me.below bb
  replace te := te.below bb
  replace mbk := mbk.below bb
  replace tbk := tbk.below bb
  replace B := B.trans (bb.mono B.size)
  clear bb
  obtain ⟨c00, c01, -⟩ := qa.open2
  obtain ⟨c10, c11, -⟩ := qbk.open2
  go_wp2_with fail
  refine (mulT 16 @implMul_any _ _ _ _ ma ta mbk tbk Ra RB hbr.1).mono ?_
  rintro e w40 ⟨x0M, x0C, x0T, x0D, rfl, mx0, tx0, bb⟩
  clear c00 c01 c10 c11 hXbk hYbk xbk0 xbk1 ybk0 ybk1
  replace qa := qa.below bb
  replace qb := qb.below bb
  replace qc := qc.below bb
  replace qk0 := qk0.below bb
  replace qbk := qbk.below bb
  replace ma := ma.below bb
  replace ta := ta.below bb
  replace mb := mb.below bb
  replace tb := tb.below bb
  replace mc := mc.below bb
  replace tc := tc.below bb
  replace mk0 := mk0.below bb
  replace tk0 := tk0.below bb
  replace me := me.below bb
  replace te := te.below bb
  replace mbk := mbk.below bb
  replace tbk := tbk.below bb
  replace B := B.trans (bb.mono B.size)
  clear bb
  obtain ⟨Xx0, hXx0, w41, hYx0, qx0, bb, xx00, xx01, yx00, yx01⟩ := boxed2 w40 (.slice x0M 9 x0C) (.slice x0T 3 x0D)
  replace qa := qa.below bb
  replace qb := qb.below bb
  replace qc := qc.below bb
  replace qk0 := qk0.below bb
  replace qbk := qbk.below bb
  replace ma := ma.below bb
  replace ta := ta.below bb
  replace mb := mb.below bb
  replace tb := tb.below bb
  replace mc := mc.below bb
  replace tc := tc.below bb
  replace mk0 := mk0.below bb
  replace tk0 := tk0.below bb
  replace me := me.below bb
  replace te := te.below bb
  replace mbk := mbk.below bb
  replace tbk := tbk.below bb
  replace mx0 := mx0.below bb
  replace tx0 := tx0.below bb
  replace B := B.trans (bb.mono B.size)
  clear bb
  obtain ⟨c00, c01, -⟩ := qbk.open2
  obtain ⟨c10, c11, -⟩ := qa.open2
  go_wp2_with fail
  refine (mulT 16 @implMul_any _ _ _ _ mbk tbk ma ta RB Ra hbr.2).mono ?_
  rintro e w42 ⟨y0M, y0C, y0T, y0D, rfl, my0, ty0, bb⟩
  clear c00 c01 c10 c11 hXx0 hYx0 xx00 xx01 yx00 yx01
  replace qa := qa.below bb
  replace qb := qb.below bb
  replace qc := qc.below bb
  replace qk0 := qk0.below bb
  replace qbk := qbk.below bb
  replace qx0 := qx0.below bb
  replace ma := ma.below bb
  replace ta := ta.below bb
  replace mb := mb.below bb
  replace tb := tb.below bb
  replace mc := mc.below bb
  replace tc := tc.below bb
  replace mk0 := mk0.below bb
  replace tk0 := tk0.below bb
  replace me := me.below bb
  replace te := te.below bb
  replace mbk := mbk.below bb
  replace tbk := tbk.below bb
  replace mx0 := mx0.below bb
  replace tx0 := tx0.below bb
  replace B := B.trans (bb.mono B.size)
  clear bb
  obtain ⟨Xy0, hXy0, w43, hYy0, qy0, bb, xy00, xy01, yy00, yy01⟩ := boxed2 w42 (.slice y0M 9 y0C) (.slice y0T 3 y0D)
  replace qa := qa.below bb
  replace qb := qb.below bb
  replace qc := qc.below bb
  replace qk0 := qk0.below bb
  replace qbk := qbk.below bb
  replace qx0 := qx0.below bb
  replace ma := ma.below bb
  replace ta := ta.below bb
  replace mb := mb.below bb
  replace tb := tb.below bb
  replace mc := mc.below bb
  replace tc := tc.below bb
  replace mk0 := mk0.below bb
  replace tk0 := tk0.below bb
  replace me := me.below bb
  replace te := te.below bb
  replace mbk := mbk.below bb
  replace tbk := tbk.below bb
  replace mx0 := mx0.below bb
  replace tx0 := tx0.below bb
  replace my0 := my0.below bb
  replace ty0 := ty0.below bb
  replace B := B.trans (bb.mono B.size)
  clear bb
  go_wp2_with fail
  clear hXy0 hYy0 xy00 xy01 yy00 yy01
  obtain ⟨u0, hu0, Z0⟩ : ∃ u0, w43.drew = u0 ∧ Below w43.heap.size w43 u0 := ⟨_, rfl, (Below.refl _ _).drew⟩
  replace qa := qa.below Z0
  replace qb := qb.below Z0
  replace qc := qc.below Z0
  replace qk0 := qk0.below Z0
  replace qbk := qbk.below Z0
  replace qx0 := qx0.below Z0
  replace qy0 := qy0.below Z0
  replace ma := ma.below Z0
  replace ta := ta.below Z0
  replace mb := mb.below Z0
  replace tb := tb.below Z0
  replace mc := mc.below Z0
  replace tc := tc.below Z0
  replace mk0 := mk0.below Z0
  replace tk0 := tk0.below Z0
  replace me := me.below Z0
  replace te := te.below Z0
  replace mbk := mbk.below Z0
  replace tbk := tbk.below Z0
  replace mx0 := mx0.below Z0
  replace tx0 := tx0.below Z0
  replace my0 := my0.below Z0
  replace ty0 := ty0.below Z0
  replace B := B.trans (Z0.mono B.size)
  clear Z0
  refine wp_region_held_drew (S := Two2 w40.heap.size (.slice x0M 9 x0C) (.slice x0T 3 x0D) w42.heap.size (.slice y0M 9 y0C) (.slice y0T 3 y0D)) (by kernel_rfl) (by rw [hu0]; exact two2_mk qx0 qy0) (fun hHeld => ?_)
  rw [hu0] at hHeld ⊢
  clear hu0
  change wpAnyH _ _ _ _ _ 14 #[false, false, false, false, false, false, false, false, false, false, false, false, false, false] _ _
  refine wpAnyH_take (i := 0) (v := .bool true) rfl (by kernel_rfl) (by kernel_rfl) (by kernel_rfl) (fun _ _ _ h => h) (Or.inl ⟨by kernel_rfl, ?_⟩) hHeld ?_
  · intro w' hSw; go_simp
  try simp only [Act.put, List.setIfInBounds_toArray, List.set_cons_zero]
  refine wpAnyH_take (i := 1) (v := .bool false) rfl (by kernel_rfl) (by kernel_rfl) (by kernel_rfl) (fun _ _ _ h => h) (Or.inl ⟨by kernel_rfl, ?_⟩) hHeld ?_
  · intro w' hSw; go_simp
  try simp only [Act.put, List.setIfInBounds_toArray, List.set_cons_zero, List.set_cons_succ]
  refine wpAnyH_take (i := 2) (v := .bool false) rfl (by kernel_rfl) (by kernel_rfl) (by kernel_rfl) (fun _ _ _ h => h) (Or.inl ⟨by kernel_rfl, ?_⟩) hHeld ?_
  · intro w' hSw; go_simp
  try simp only [Act.put, List.setIfInBounds_toArray, List.set_cons_zero, List.set_cons_succ]
  refine wpAnyH_take (i := 3) (v := .agg #[.slice x0M 9 x0C, .slice x0T 3 x0D]) rfl (by kernel_rfl) (by kernel_rfl) (by kernel_rfl) (fun _ _ _ h => h) (Or.inl ⟨by kernel_rfl, ?_⟩) hHeld ?_
  · intro w' hSw; obtain ⟨z0, z1, -, -⟩ := hSw; go_simp
  try simp only [Act.put, List.setIfInBounds_toArray, List.set_cons_zero, List.set_cons_succ]
  refine wpAnyH_ready (rs := [4]) (by kernel_rfl) (by simp) ?_
  refine AllReadyH.cons rfl (fun KK hK' => ?_) AllReadyH.nil
  go_simp
  refine (one_any _).mono ?_
  rintro e u1 ⟨g0, k0, rfl, oo0, bb⟩
  replace qa := qa.below bb
  replace qb := qb.below bb
  replace qc := qc.below bb
  replace qk0 := qk0.below bb
  replace qbk := qbk.below bb
  replace qx0 := qx0.below bb
  replace qy0 := qy0.below bb
  replace ma := ma.below bb
  replace ta := ta.below bb
  replace mb := mb.below bb
  replace tb := tb.below bb
  replace mc := mc.below bb
  replace tc := tc.below bb
  replace mk0 := mk0.below bb
  replace tk0 := tk0.below bb
  replace me := me.below bb
  replace te := te.below bb
  replace mbk := mbk.below bb
  replace tbk := tbk.below bb
  replace mx0 := mx0.below bb
  replace tx0 := tx0.below bb
  replace my0 := my0.below bb
  replace ty0 := ty0.below bb
  replace B := B.trans (bb.mono B.size)
  clear bb
  try go_wp2_with fail
  clear hHeld
  refine hK'.out _ _ (two2_mk qx0 qy0) (fun hHeld => ?_)
  clear hK' KK
  try simp only [List.setIfInBounds_toArray, List.set_cons_zero, List.set_cons_succ]
  have so0 := oo0.srcs
  refine wpAnyH_ready (rs := [5]) (by kernel_rfl) (by simp) ?_
  refine AllReadyH.cons rfl (fun KK hK' => ?_) AllReadyH.nil
  go_simp
  refine (sameOp_true mx0 so0.1 tx0 so0.2 (fun i hi => (mul_back Ra.2.2 i hi).1) (fun i hi => behV_back Ra i hi) (by omega) (by omega)).mono ?_
  rintro e u2 ⟨rfl, bb⟩
  replace qa := qa.below bb
  replace qb := qb.below bb
  replace qc := qc.below bb
  replace qk0 := qk0.below bb
  replace qbk := qbk.below bb
  replace qx0 := qx0.below bb
  replace qy0 := qy0.below bb
  replace ma := ma.below bb
  replace ta := ta.below bb
  replace mb := mb.below bb
  replace tb := tb.below bb
  replace mc := mc.below bb
  replace tc := tc.below bb
  replace mk0 := mk0.below bb
  replace tk0 := tk0.below bb
  replace me := me.below bb
  replace te := te.below bb
  replace mbk := mbk.below bb
  replace tbk := tbk.below bb
  replace mx0 := mx0.below bb
  replace tx0 := tx0.below bb
  replace my0 := my0.below bb
  replace ty0 := ty0.below bb
  replace B := B.trans (bb.mono B.size)
  clear bb
  try go_wp2_with fail
  clear hHeld
  refine hK'.out _ _ (two2_mk qx0 qy0) (fun hHeld => ?_)
  clear hK' KK
  try simp only [List.setIfInBounds_toArray, List.set_cons_zero, List.set_cons_succ]
  clear so0 oo0
  refine wpAnyH_take (i := 6) (v := .bool false) rfl (by kernel_rfl) (by kernel_rfl) (by kernel_rfl) (fun _ _ _ h => h) (Or.inl ⟨by kernel_rfl, ?_⟩) hHeld ?_
  · intro w' hSw; go_simp
  try simp only [Act.put, List.setIfInBounds_toArray, List.set_cons_zero, List.set_cons_succ]
  refine wpAnyH_take (i := 7) (v := .bool false) rfl (by kernel_rfl) (by kernel_rfl) (by kernel_rfl) (fun _ _ _ h => h) (Or.inl ⟨by kernel_rfl, ?_⟩) hHeld ?_
  · intro w' hSw; go_simp
  try simp only [Act.put, List.setIfInBounds_toArray, List.set_cons_zero, List.set_cons_succ]
  refine wpAnyH_take (i := 8) (v := .bool false) rfl (by kernel_rfl) (by kernel_rfl) (by kernel_rfl) (fun _ _ _ h => h) (Or.inl ⟨by kernel_rfl, ?_⟩) hHeld ?_
  · intro w' hSw; go_simp
  try simp only [Act.put, List.setIfInBounds_toArray, List.set_cons_zero, List.set_cons_succ]
  refine wpAnyH_take (i := 9) (v := .agg #[.slice y0M 9 y0C, .slice y0T 3 y0D]) rfl (by kernel_rfl) (by kernel_rfl) (by kernel_rfl) (fun _ _ _ h => h) (Or.inl ⟨by kernel_rfl, ?_⟩) hHeld ?_
  · intro w' hSw; obtain ⟨-, -, z0, z1⟩ := hSw; go_simp
  try simp only [Act.put, List.setIfInBounds_toArray, List.set_cons_zero, List.set_cons_succ]
  refine wpAnyH_ready (rs := [10]) (by kernel_rfl) (by simp) ?_
  refine AllReadyH.cons rfl (fun KK hK' => ?_) AllReadyH.nil
  go_simp
  refine (one_any _).mono ?_
  rintro e u3 ⟨g1, k1, rfl, oo1, bb⟩
  replace qa := qa.below bb
  replace qb := qb.below bb
  replace qc := qc.below bb
  replace qk0 := qk0.below bb
  replace qbk := qbk.below bb
  replace qx0 := qx0.below bb
  replace qy0 := qy0.below bb
  replace ma := ma.below bb
  replace ta := ta.below bb
  replace mb := mb.below bb
  replace tb := tb.below bb
  replace mc := mc.below bb
  replace tc := tc.below bb
  replace mk0 := mk0.below bb
  replace tk0 := tk0.below bb
  replace me := me.below bb
  replace te := te.below bb
  replace mbk := mbk.below bb
  replace tbk := tbk.below bb
  replace mx0 := mx0.below bb
  replace tx0 := tx0.below bb
  replace my0 := my0.below bb
  replace ty0 := ty0.below bb
  replace B := B.trans (bb.mono B.size)
  clear bb
  try go_wp2_with fail
  clear hHeld
  refine hK'.out _ _ (two2_mk qx0 qy0) (fun hHeld => ?_)
  clear hK' KK
  try simp only [List.setIfInBounds_toArray, List.set_cons_zero, List.set_cons_succ]
  have so1 := oo1.srcs
  refine wpAnyH_ready (rs := [11]) (by kernel_rfl) (by simp) ?_
  refine AllReadyH.cons rfl (fun KK hK' => ?_) AllReadyH.nil
  go_simp
  refine (sameOp_true my0 so1.1 ty0 so1.2 (fun i hi => (mul_back Ra.2.2 i hi).2) (fun i _ => back_behV i) (by omega) (by omega)).mono ?_
  rintro e u4 ⟨rfl, bb⟩
  replace qa := qa.below bb
  replace qb := qb.below bb
  replace qc := qc.below bb
  replace qk0 := qk0.below bb
  replace qbk := qbk.below bb
  replace qx0 := qx0.below bb
  replace qy0 := qy0.below bb
  replace ma := ma.below bb
  replace ta := ta.below bb
  replace mb := mb.below bb
  replace tb := tb.below bb
  replace mc := mc.below bb
  replace tc := tc.below bb
  replace mk0 := mk0.below bb
  replace tk0 := tk0.below bb
  replace me := me.below bb
  replace te := te.below bb
  replace mbk := mbk.below bb
  replace tbk := tbk.below bb
  replace mx0 := mx0.below bb
  replace tx0 := tx0.below bb
  replace my0 := my0.below bb
  replace ty0 := ty0.below bb
  replace B := B.trans (bb.mono B.size)
  clear bb
  try go_wp2_with fail
  clear hHeld
  refine hK'.out _ _ (two2_mk qx0 qy0) (fun hHeld => ?_)
  clear hK' KK
  try simp only [List.setIfInBounds_toArray, List.set_cons_zero, List.set_cons_succ]
  clear so1 oo1
  refine wpAnyH_take (i := 12) (v := .bool false) rfl (by kernel_rfl) (by kernel_rfl) (by kernel_rfl) (fun _ _ _ h => h) (Or.inl ⟨by kernel_rfl, ?_⟩) hHeld ?_
  · intro w' hSw; go_simp
  try simp only [Act.put, List.setIfInBounds_toArray, List.set_cons_zero, List.set_cons_succ]
  refine wpAnyH_ready (rs := [13]) (by kernel_rfl) (by simp) ?_
  refine AllReadyH.cons rfl (fun KK hK' => ?_) AllReadyH.nil
  go_simp
  clear hHeld
  refine hK'.out _ _ (two2_mk qx0 qy0) (fun hHeld => ?_)
  clear hK' KK
  try simp only [List.setIfInBounds_toArray, List.set_cons_zero, List.set_cons_succ]
  clear hHeld
  refine wpAnyH_done (by kernel_rfl) ?_ _
  clear qk0
  clear qbk
  clear qx0
  clear qy0
  clear mk0 tk0 me te mbk tbk mx0 tx0 my0 ty0 RB hbr pk0
  obtain ⟨c00, c01, -⟩ := qa.open2
  obtain ⟨c10, c11, -⟩ := qb.open2
  go_wp2_with fail
  refine (specMul_any _ _ _ _ ma ta mb tb).mono ?_
  rintro e w44 ⟨o, rfl, t, bb⟩
  clear c00 c01 c10 c11
  replace qa := qa.below bb
  replace qb := qb.below bb
  replace qc := qc.below bb
  replace ma := ma.below bb
  replace ta := ta.below bb
  replace mb := mb.below bb
  replace tb := tb.below bb
  replace mc := mc.below bb
  replace tc := tc.below bb
  replace B := B.trans (bb.mono B.size)
  clear bb
  by_cases pab : mulOk 9 f 3 h 9 f' 3 h'
  rotate_left
  · rw [decide_eq_false pab] at t ⊢
    obtain ⟨abM, abC, abT, abD, rfl, mab, tab⟩ := told_srcs t
    clear t
    replace mab : Src _ abM 0 _ := mab
    replace tab : Src _ abT 0 _ := tab
    simp only [Bool.false_eq_true, if_false]
    clear mab tab
    obtain ⟨Xab, hXab, w45, hYab, qab, bb, xab0, xab1, yab0, yab1⟩ := boxed2 w44 (.slice abM 0 abC) (.slice abT 0 abD)
    replace qa := qa.below bb
    replace qb := qb.below bb
    replace qc := qc.below bb
    replace ma := ma.below bb
    replace ta := ta.below bb
    replace mb := mb.below bb
    replace tb := tb.below bb
    replace mc := mc.below bb
    replace tc := tc.below bb
    replace B := B.trans (bb.mono B.size)
    clear bb
    obtain ⟨c00, c01, -⟩ := qb.open2
    obtain ⟨c10, c11, -⟩ := qc.open2
    go_wp2_with fail
    refine (specMul_any _ _ _ _ mb tb mc tc).mono ?_
    rintro e w46 ⟨o, rfl, t, bb⟩
    clear c00 c01 c10 c11 hXab hYab xab0 xab1 yab0 yab1
    replace qa := qa.below bb
    replace qb := qb.below bb
    replace qc := qc.below bb
    replace qab := qab.below bb
    replace ma := ma.below bb
    replace ta := ta.below bb
    replace mb := mb.below bb
    replace tb := tb.below bb
    replace mc := mc.below bb
    replace tc := tc.below bb
    replace B := B.trans (bb.mono B.size)
    clear bb
    by_cases pbc : mulOk 9 f' 3 h' 9 f2 3 h2
    rotate_left
    · rw [decide_eq_false pbc] at t ⊢
      obtain ⟨bcM, bcC, bcT, bcD, rfl, mbc, tbc⟩ := told_srcs t
      clear t
      replace mbc : Src _ bcM 0 _ := mbc
      replace tbc : Src _ bcT 0 _ := tbc
      simp only [Bool.false_eq_true, if_false]
      clear mbc tbc
      obtain ⟨Xbc, hXbc, w47, hYbc, qbc, bb, xbc0, xbc1, ybc0, ybc1⟩ := boxed2 w46 (.slice bcM 0 bcC) (.slice bcT 0 bcD)
      replace qa := qa.below bb
      replace qb := qb.below bb
      replace qc := qc.below bb
      replace qab := qab.below bb
      replace ma := ma.below bb
      replace ta := ta.below bb
      replace mb := mb.below bb
      replace tb := tb.below bb
      replace mc := mc.below bb
      replace tc := tc.below bb
      replace B := B.trans (bb.mono B.size)
      clear bb
      go_wp2
      go_ret
      exact ⟨rfl, B⟩
    rw [decide_eq_true pbc] at t ⊢
    obtain ⟨bcM, bcC, bcT, bcD, rfl, mbc, tbc⟩ := told_srcs t
    clear t
    replace mbc : Src _ bcM 9 _ := mbc
    replace tbc : Src _ bcT 3 _ := tbc
    simp only [if_true]
    obtain ⟨Xbc, hXbc, w48, hYbc, qbc, bb, xbc0, xbc1, ybc0, ybc1⟩ := boxed2 w46 (.slice bcM 9 bcC) (.slice bcT 3 bcD)
    replace qa := qa.below bb
    replace qb := qb.below bb
    replace qc := qc.below bb
    replace qab := qab.below bb
    replace ma := ma.below bb
    replace ta := ta.below bb
    replace mb := mb.below bb
    replace tb := tb.below bb
    replace mc := mc.below bb
    replace tc := tc.below bb
    replace mbc := mbc.below bb
    replace tbc := tbc.below bb
    replace B := B.trans (bb.mono B.size)
    clear bb
    go_wp2
    go_ret
    exact ⟨rfl, B⟩
  rw [decide_eq_true pab] at t ⊢
  obtain ⟨abM, abC, abT, abD, rfl, mab, tab⟩ := told_srcs t
  clear t
  replace mab : Src _ abM 9 _ := mab
  replace tab : Src _ abT 3 _ := tab
  simp only [if_true]
  obtain ⟨Xab, hXab, w49, hYab, qab, bb, xab0, xab1, yab0, yab1⟩ := boxed2 w44 (.slice abM 9 abC) (.slice abT 3 abD)
  replace qa := qa.below bb
  replace qb := qb.below bb
  replace qc := qc.below bb
  replace ma := ma.below bb
  replace ta := ta.below bb
  replace mb := mb.below bb
  replace tb := tb.below bb
  replace mc := mc.below bb
  replace tc := tc.below bb
  replace mab := mab.below bb
  replace tab := tab.below bb
  replace B := B.trans (bb.mono B.size)
  clear bb
  obtain ⟨c00, c01, -⟩ := qb.open2
  obtain ⟨c10, c11, -⟩ := qc.open2
  go_wp2_with fail
  refine (specMul_any _ _ _ _ mb tb mc tc).mono ?_
  rintro e w50 ⟨o, rfl, t, bb⟩
  clear c00 c01 c10 c11 hXab hYab xab0 xab1 yab0 yab1
  replace qa := qa.below bb
  replace qb := qb.below bb
  replace qc := qc.below bb
  replace qab := qab.below bb
  replace ma := ma.below bb
  replace ta := ta.below bb
  replace mb := mb.below bb
  replace tb := tb.below bb
  replace mc := mc.below bb
  replace tc := tc.below bb
  replace mab := mab.below bb
  replace tab := tab.below bb
  replace B := B.trans (bb.mono B.size)
  clear bb
  by_cases pbc : mulOk 9 f' 3 h' 9 f2 3 h2
  rotate_left
  · rw [decide_eq_false pbc] at t ⊢
    obtain ⟨bcM, bcC, bcT, bcD, rfl, mbc, tbc⟩ := told_srcs t
    clear t
    replace mbc : Src _ bcM 0 _ := mbc
    replace tbc : Src _ bcT 0 _ := tbc
    simp only [Bool.false_eq_true, if_false]
    clear mbc tbc
    obtain ⟨Xbc, hXbc, w51, hYbc, qbc, bb, xbc0, xbc1, ybc0, ybc1⟩ := boxed2 w50 (.slice bcM 0 bcC) (.slice bcT 0 bcD)
    replace qa := qa.below bb
    replace qb := qb.below bb
    replace qc := qc.below bb
    replace qab := qab.below bb
    replace ma := ma.below bb
    replace ta := ta.below bb
    replace mb := mb.below bb
    replace tb := tb.below bb
    replace mc := mc.below bb
    replace tc := tc.below bb
    replace mab := mab.below bb
    replace tab := tab.below bb
    replace B := B.trans (bb.mono B.size)
    clear bb
    go_wp2
    go_ret
    exact ⟨rfl, B⟩
  rw [decide_eq_true pbc] at t ⊢
  obtain ⟨bcM, bcC, bcT, bcD, rfl, mbc, tbc⟩ := told_srcs t
  clear t
  replace mbc : Src _ bcM 9 _ := mbc
  replace tbc : Src _ bcT 3 _ := tbc
  simp only [if_true]
  obtain ⟨Xbc, hXbc, w52, hYbc, qbc, bb, xbc0, xbc1, ybc0, ybc1⟩ := boxed2 w50 (.slice bcM 9 bcC) (.slice bcT 3 bcD)
  replace qa := qa.below bb
  replace qb := qb.below bb
  replace qc := qc.below bb
  replace qab := qab.below bb
  replace ma := ma.below bb
  replace ta := ta.below bb
  replace mb := mb.below bb
  replace tb := tb.below bb
  replace mc := mc.below bb
  replace tc := tc.below bb
  replace mab := mab.below bb
  replace tab := tab.below bb
  replace mbc := mbc.below bb
  replace tbc := tbc.below bb
  replace B := B.trans (bb.mono B.size)
  clear bb
  have R1 := pab.2.2
  have R2 := pbc.2.2
  have hiff := mulOk_assoc Ra Rc R1 R2
  obtain ⟨c00, c01, -⟩ := qab.open2
  obtain ⟨c10, c11, -⟩ := qc.open2
  go_wp2_with fail
  refine (specMul_any _ _ _ _ mab tab mc tc).mono ?_
  rintro e w53 ⟨o, rfl, t, bb⟩
  clear c00 c01 c10 c11 hXbc hYbc xbc0 xbc1 ybc0 ybc1
  replace qa := qa.below bb
  replace qb := qb.below bb
  replace qc := qc.below bb
  replace qab := qab.below bb
  replace qbc := qbc.below bb
  replace ma := ma.below bb
  replace ta := ta.below bb
  replace mb := mb.below bb
  replace tb := tb.below bb
  replace mc := mc.below bb
  replace tc := tc.below bb
  replace mab := mab.below bb
  replace tab := tab.below bb
  replace mbc := mbc.below bb
  replace tbc := tbc.below bb
  replace B := B.trans (bb.mono B.size)
  clear bb
  by_cases pp : mulOk 9 (mulM f f') 3 (behV f h h') 9 f2 3 h2
  rotate_left
  · rw [decide_eq_false pp] at t ⊢
    obtain ⟨pM, pC, pT, pD, rfl, mp, tp⟩ := told_srcs t
    clear t
    replace mp : Src _ pM 0 _ := mp
    replace tp : Src _ pT 0 _ := tp
    simp only [Bool.false_eq_true, if_false]
    clear mp tp
    obtain ⟨Xp, hXp, w54, hYp, qp, bb, xp0, xp1, yp0, yp1⟩ := boxed2 w53 (.slice pM 0 pC) (.slice pT 0 pD)
    replace qa := qa.below bb
    replace qb := qb.below bb
    replace qc := qc.below bb
    replace qab := qab.below bb
    replace qbc := qbc.below bb
    replace ma := ma.below bb
    replace ta := ta.below bb
    replace mb := mb.below bb
    replace tb := tb.below bb
    replace mc := mc.below bb
    replace tc := tc.below bb
    replace mab := mab.below bb
    replace tab := tab.below bb
    replace mbc := mbc.below bb
    replace tbc := tbc.below bb
    replace B := B.trans (bb.mono B.size)
    clear bb
    have pq' : ¬ mulOk 9 f 3 h 9 (mulM f' f2) 3 (behV f' h' h2) := fun x => pp (hiff.2 x)
    obtain ⟨c00, c01, -⟩ := qa.open2
    obtain ⟨c10, c11, -⟩ := qbc.open2
    go_wp2_with fail
    refine (specMul_any _ _ _ _ ma ta mbc tbc).mono ?_
    rintro e w55 ⟨o, rfl, t, bb⟩
    clear c00 c01 c10 c11 hXp hYp xp0 xp1 yp0 yp1
    replace qa := qa.below bb
    replace qb := qb.below bb
    replace qc := qc.below bb
    replace qab := qab.below bb
    replace qbc := qbc.below bb
    replace qp := qp.below bb
    replace ma := ma.below bb
    replace ta := ta.below bb
    replace mb := mb.below bb
    replace tb := tb.below bb
    replace mc := mc.below bb
    replace tc := tc.below bb
    replace mab := mab.below bb
    replace tab := tab.below bb
    replace mbc := mbc.below bb
    replace tbc := tbc.below bb
    replace B := B.trans (bb.mono B.size)
    clear bb
    rw [decide_eq_false pq'] at t ⊢
    obtain ⟨qM, qC, qT, qD, rfl, mq, tq⟩ := told_srcs t
    clear t
    replace mq : Src _ qM 0 _ := mq
    replace tq : Src _ qT 0 _ := tq
    simp only [Bool.false_eq_true, if_false]
    clear mq tq
    obtain ⟨Xq, hXq, w56, hYq, qq, bb, xq0, xq1, yq0, yq1⟩ := boxed2 w55 (.slice qM 0 qC) (.slice qT 0 qD)
    replace qa := qa.below bb
    replace qb := qb.below bb
    replace qc := qc.below bb
    replace qab := qab.below bb
    replace qbc := qbc.below bb
    replace qp := qp.below bb
    replace ma := ma.below bb
    replace ta := ta.below bb
    replace mb := mb.below bb
    replace tb := tb.below bb
    replace mc := mc.below bb
    replace tc := tc.below bb
    replace mab := mab.below bb
    replace tab := tab.below bb
    replace mbc := mbc.below bb
    replace tbc := tbc.below bb
    replace B := B.trans (bb.mono B.size)
    clear bb
    go_wp2
    go_ret
    exact ⟨rfl, B⟩
  rw [decide_eq_true pp] at t ⊢
  obtain ⟨pM, pC, pT, pD, rfl, mp, tp⟩ := told_srcs t
  clear t
  replace mp : Src _ pM 9 _ := mp
  replace tp : Src _ pT 3 _ := tp
  simp only [if_true]
  obtain ⟨Xp, hXp, w57, hYp, qp, bb, xp0, xp1, yp0, yp1⟩ := boxed2 w53 (.slice pM 9 pC) (.slice pT 3 pD)
  replace qa := qa.below bb
  replace qb := qb.below bb
  replace qc := qc.below bb
  replace qab := qab.below bb
  replace qbc := qbc.below bb
  replace ma := ma.below bb
  replace ta := ta.below bb
  replace mb := mb.below bb
  replace tb := tb.below bb
  replace mc := mc.below bb
  replace tc := tc.below bb
  replace mab := mab.below bb
  replace tab := tab.below bb
  replace mbc := mbc.below bb
  replace tbc := tbc.below bb
  replace mp := mp.below bb
  replace tp := tp.below bb
  replace B := B.trans (bb.mono B.size)
  clear bb
  have pq' : mulOk 9 f 3 h 9 (mulM f' f2) 3 (behV f' h' h2) := hiff.1 pp
  obtain ⟨c00, c01, -⟩ := qa.open2
  obtain ⟨c10, c11, -⟩ := qbc.open2
  go_wp2_with fail
  refine (specMul_any _ _ _ _ ma ta mbc tbc).mono ?_
  rintro e w58 ⟨o, rfl, t, bb⟩
  clear c00 c01 c10 c11 hXp hYp xp0 xp1 yp0 yp1
  replace qa := qa.below bb
  replace qb := qb.below bb
  replace qc := qc.below bb
  replace qab := qab.below bb
  replace qbc := qbc.below bb
  replace qp := qp.below bb
  replace ma := ma.below bb
  replace ta := ta.below bb
  replace mb := mb.below bb
  replace tb := tb.below bb
  replace mc := mc.below bb
  replace tc := tc.below bb
  replace mab := mab.below bb
  replace tab := tab.below bb
  replace mbc := mbc.below bb
  replace tbc := tbc.below bb
  replace mp := mp.below bb
  replace tp := tp.below bb
  replace B := B.trans (bb.mono B.size)
  clear bb
  rw [decide_eq_true pq'] at t ⊢
  obtain ⟨qM, qC, qT, qD, rfl, mq, tq⟩ := told_srcs t
  clear t
  replace mq : Src _ qM 9 _ := mq
  replace tq : Src _ qT 3 _ := tq
  simp only [if_true]
  obtain ⟨Xq, hXq, w59, hYq, qq, bb, xq0, xq1, yq0, yq1⟩ := boxed2 w58 (.slice qM 9 qC) (.slice qT 3 qD)
  replace qa := qa.below bb
  replace qb := qb.below bb
  replace qc := qc.below bb
  replace qab := qab.below bb
  replace qbc := qbc.below bb
  replace qp := qp.below bb
  replace ma := ma.below bb
  replace ta := ta.below bb
  replace mb := mb.below bb
  replace tb := tb.below bb
  replace mc := mc.below bb
  replace tc := tc.below bb
  replace mab := mab.below bb
  replace tab := tab.below bb
  replace mbc := mbc.below bb
  replace tbc := tbc.below bb
  replace mp := mp.below bb
  replace tp := tp.below bb
  replace mq := mq.below bb
  replace tq := tq.below bb
  replace B := B.trans (bb.mono B.size)
  clear bb
  obtain ⟨c00, c01, -⟩ := qa.open2
  obtain ⟨c10, c11, -⟩ := qb.open2
  go_wp2_with fail
  refine (mulT 16 @implMul_any _ _ _ _ ma ta mb tb Ra Rb R1).mono ?_
  rintro e w60 ⟨uM, uC, uT, uD, rfl, mu, tu, bb⟩
  clear c00 c01 c10 c11 hXq hYq xq0 xq1 yq0 yq1
  replace qa := qa.below bb
  replace qb := qb.below bb
  replace qc := qc.below bb
  replace qab := qab.below bb
  replace qbc := qbc.below bb
  replace qp := qp.below bb
  replace qq := qq.below bb
  replace ma := ma.below bb
  replace ta := ta.below bb
  replace mb := mb.below bb
  replace tb := tb.below bb
  replace mc := mc.below bb
  replace tc := tc.below bb
  replace mab := mab.below bb
  replace tab := tab.below bb
  replace mbc := mbc.below bb
  replace tbc := tbc.below bb
  replace mp := mp.below bb
  replace tp := tp.below bb
  replace mq := mq.below bb
  replace tq := tq.below bb
  replace B := B.trans (bb.mono B.size)
  clear bb
  obtain ⟨Xu, hXu, w61, hYu, qu, bb, xu0, xu1, yu0, yu1⟩ := boxed2 w60 (.slice uM 9 uC) (.slice uT 3 uD)
  replace qa := qa.below bb
  replace qb := qb.below bb
  replace qc := qc.below bb
  replace qab := qab.below bb
  replace qbc := qbc.below bb
  replace qp := qp.below bb
  replace qq := qq.below bb
  replace ma := ma.below bb
  replace ta := ta.below bb
  replace mb := mb.below bb
  replace tb := tb.below bb
  replace mc := mc.below bb
  replace tc := tc.below bb
  replace mab := mab.below bb
  replace tab := tab.below bb
  replace mbc := mbc.below bb
  replace tbc := tbc.below bb
  replace mp := mp.below bb
  replace tp := tp.below bb
  replace mq := mq.below bb
  replace tq := tq.below bb
  replace mu := mu.below bb
  replace tu := tu.below bb
  replace B := B.trans (bb.mono B.size)
  clear bb
  obtain ⟨c00, c01, -⟩ := qb.open2
  obtain ⟨c10, c11, -⟩ := qc.open2
  go_wp2_with fail
  refine (mulT 16 @implMul_any _ _ _ _ mb tb mc tc Rb Rc R2).mono ?_
  rintro e w62 ⟨vM, vC, vT, vD, rfl, mv, tv, bb⟩
  clear c00 c01 c10 c11 hXu hYu xu0 xu1 yu0 yu1
  replace qa := qa.below bb
  replace qb := qb.below bb
  replace qc := qc.below bb
  replace qab := qab.below bb
  replace qbc := qbc.below bb
  replace qp := qp.below bb
  replace qq := qq.below bb
  replace qu := qu.below bb
  replace ma := ma.below bb
  replace ta := ta.below bb
  replace mb := mb.below bb
  replace tb := tb.below bb
  replace mc := mc.below bb
  replace tc := tc.below bb
  replace mab := mab.below bb
  replace tab := tab.below bb
  replace mbc := mbc.below bb
  replace tbc := tbc.below bb
  replace mp := mp.below bb
  replace tp := tp.below bb
  replace mq := mq.below bb
  replace tq := tq.below bb
  replace mu := mu.below bb
  replace tu := tu.below bb
  replace B := B.trans (bb.mono B.size)
  clear bb
  obtain ⟨Xv, hXv, w63, hYv, qv, bb, xv0, xv1, yv0, yv1⟩ := boxed2 w62 (.slice vM 9 vC) (.slice vT 3 vD)
  replace qa := qa.below bb
  replace qb := qb.below bb
  replace qc := qc.below bb
  replace qab := qab.below bb
  replace qbc := qbc.below bb
  replace qp := qp.below bb
  replace qq := qq.below bb
  replace qu := qu.below bb
  replace ma := ma.below bb
  replace ta := ta.below bb
  replace mb := mb.below bb
  replace tb := tb.below bb
  replace mc := mc.below bb
  replace tc := tc.below bb
  replace mab := mab.below bb
  replace tab := tab.below bb
  replace mbc := mbc.below bb
  replace tbc := tbc.below bb
  replace mp := mp.below bb
  replace tp := tp.below bb
  replace mq := mq.below bb
  replace tq := tq.below bb
  replace mu := mu.below bb
  replace tu := tu.below bb
  replace mv := mv.below bb
  replace tv := tv.below bb
  replace B := B.trans (bb.mono B.size)
  clear bb
  obtain ⟨c00, c01, -⟩ := qu.open2
  obtain ⟨c10, c11, -⟩ := qc.open2
  go_wp2_with fail
  refine (mulT 16 @implMul_any _ _ _ _ mu tu mc tc R1 Rc pp.2.2).mono ?_
  rintro e w64 ⟨xM, xC, xT, xD, rfl, mx, tx, bb⟩
  clear c00 c01 c10 c11 hXv hYv xv0 xv1 yv0 yv1
  replace qa := qa.below bb
  replace qb := qb.below bb
  replace qc := qc.below bb
  replace qab := qab.below bb
  replace qbc := qbc.below bb
  replace qp := qp.below bb
  replace qq := qq.below bb
  replace qu := qu.below bb
  replace qv := qv.below bb
  replace ma := ma.below bb
  replace ta := ta.below bb
  replace mb := mb.below bb
  replace tb := tb.below bb
  replace mc := mc.below bb
  replace tc := tc.below bb
  replace mab := mab.below bb
  replace tab := tab.below bb
  replace mbc := mbc.below bb
  replace tbc := tbc.below bb
  replace mp := mp.below bb
  replace tp := tp.below bb
  replace mq := mq.below bb
  replace tq := tq.below bb
  replace mu := mu.below bb
  replace tu := tu.below bb
  replace mv := mv.below bb
  replace tv := tv.below bb
  replace B := B.trans (bb.mono B.size)
  clear bb
  obtain ⟨Xx, hXx, w65, hYx, qx, bb, xx0, xx1, yx0, yx1⟩ := boxed2 w64 (.slice xM 9 xC) (.slice xT 3 xD)
  replace qa := qa.below bb
  replace qb := qb.below bb
  replace qc := qc.below bb
  replace qab := qab.below bb
  replace qbc := qbc.below bb
  replace qp := qp.below bb
  replace qq := qq.below bb
  replace qu := qu.below bb
  replace qv := qv.below bb
  replace ma := ma.below bb
  replace ta := ta.below bb
  replace mb := mb.below bb
  replace tb := tb.below bb
  replace mc := mc.below bb
  replace tc := tc.below bb
  replace mab := mab.below bb
  replace tab := tab.below bb
  replace mbc := mbc.below bb
  replace tbc := tbc.below bb
  replace mp := mp.below bb
  replace tp := tp.below bb
  replace mq := mq.below bb
  replace tq := tq.below bb
  replace mu := mu.below bb
  replace tu := tu.below bb
  replace mv := mv.below bb
  replace tv := tv.below bb
  replace mx := mx.below bb
  replace tx := tx.below bb
  replace B := B.trans (bb.mono B.size)
  clear bb
  obtain ⟨c00, c01, -⟩ := qa.open2
  obtain ⟨c10, c11, -⟩ := qv.open2
  go_wp2_with fail
  refine (mulT 16 @implMul_any _ _ _ _ ma ta mv tv Ra R2 pq'.2.2).mono ?_
  rintro e w66 ⟨yM, yC, yT, yD, rfl, my, ty, bb⟩
  clear c00 c01 c10 c11 hXx hYx xx0 xx1 yx0 yx1
  replace qa := qa.below bb
  replace qb := qb.below bb
  replace qc := qc.below bb
  replace qab := qab.below bb
  replace qbc := qbc.below bb
  replace qp := qp.below bb
  replace qq := qq.below bb
  replace qu := qu.below bb
  replace qv := qv.below bb
  replace qx := qx.below bb
  replace ma := ma.below bb
  replace ta := ta.below bb
  replace mb := mb.below bb
  replace tb := tb.below bb
  replace mc := mc.below bb
  replace tc := tc.below bb
  replace mab := mab.below bb
  replace tab := tab.below bb
  replace mbc := mbc.below bb
  replace tbc := tbc.below bb
  replace mp := mp.below bb
  replace tp := tp.below bb
  replace mq := mq.below bb
  replace tq := tq.below bb
  replace mu := mu.below bb
  replace tu := tu.below bb
  replace mv := mv.below bb
  replace tv := tv.below bb
  replace mx := mx.below bb
  replace tx := tx.below bb
  replace B := B.trans (bb.mono B.size)
  clear bb
  obtain ⟨Xy, hXy, w67, hYy, qy, bb, xy0, xy1, yy0, yy1⟩ := boxed2 w66 (.slice yM 9 yC) (.slice yT 3 yD)
  replace qa := qa.below bb
  replace qb := qb.below bb
  replace qc := qc.below bb
  replace qab := qab.below bb
  replace qbc := qbc.below bb
  replace qp := qp.below bb
  replace qq := qq.below bb
  replace qu := qu.below bb
  replace qv := qv.below bb
  replace qx := qx.below bb
  replace ma := ma.below bb
  replace ta := ta.below bb
  replace mb := mb.below bb
  replace tb := tb.below bb
  replace mc := mc.below bb
  replace tc := tc.below bb
  replace mab := mab.below bb
  replace tab := tab.below bb
  replace mbc := mbc.below bb
  replace tbc := tbc.below bb
  replace mp := mp.below bb
  replace tp := tp.below bb
  replace mq := mq.below bb
  replace tq := tq.below bb
  replace mu := mu.below bb
  replace tu := tu.below bb
  replace mv := mv.below bb
  replace tv := tv.below bb
  replace mx := mx.below bb
  replace tx := tx.below bb
  replace my := my.below bb
  replace ty := ty.below bb
  replace B := B.trans (bb.mono B.size)
  clear bb
  obtain ⟨c00, c01, -⟩ := qx.open2
  obtain ⟨c10, c11, -⟩ := qy.open2
  go_wp2_with fail
  refine (sameOp_true mx my tx ty (fun i hi => mulM_assoc f f' f2 i hi) (fun i hi => behV_assoc f h f' h' h2 i hi) (by omega) (by omega)).mono ?_
  rintro e w68 ⟨rfl, bb⟩
  clear c00 c01 c10 c11 hXy hYy xy0 xy1 yy0 yy1
  replace qa := qa.below bb
  replace qb := qb.below bb
  replace qc := qc.below bb
  replace qab := qab.below bb
  replace qbc := qbc.below bb
  replace qp := qp.below bb
  replace qq := qq.below bb
  replace qu := qu.below bb
  replace qv := qv.below bb
  replace qx := qx.below bb
  replace qy := qy.below bb
  replace ma := ma.below bb
  replace ta := ta.below bb
  replace mb := mb.below bb
  replace tb := tb.below bb
  replace mc := mc.below bb
  replace tc := tc.below bb
  replace mab := mab.below bb
  replace tab := tab.below bb
  replace mbc := mbc.below bb
  replace tbc := tbc.below bb
  replace mp := mp.below bb
  replace tp := tp.below bb
  replace mq := mq.below bb
  replace tq := tq.below bb
  replace mu := mu.below bb
  replace tu := tu.below bb
  replace mv := mv.below bb
  replace tv := tv.below bb
  replace mx := mx.below bb
  replace tx := tx.below bb
  replace my := my.below bb
  replace ty := ty.below bb
  replace B := B.trans (bb.mono B.size)
  clear bb
  go_wp2
  go_ret
  exact ⟨rfl, B⟩
end Go.Proofs.Ytmlgkmgkicdnbaa
