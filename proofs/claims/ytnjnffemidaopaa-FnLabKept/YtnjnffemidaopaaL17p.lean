/-
  A deed done by the program: which code, and the lab behind it. Walked.
-/
import Derived.Test.YtnjnffemidaopaaL17m
import Derived.Test.YtnjnffemidaopaaL17n
import Derived.Test.YtnjnffemidaopaaL17o
import Derived.Laws.LoneSync
namespace Go.Proofs.Ytnjnffemidaopaa
open Go.RowKit

/-- What a deed of kind K finds: where the sample is (p), whether it is there (ys), where the job is (j), whether it is there (yj). -/
structure Fnd (n : Nat) (f : Nat → Int) (m : Nat) (g : Nat → Int) (s o : Int) (p : Nat) (ys : Bool) (j : Nat) (yj : Bool) : Prop where
  pl : Plc n f s p
  sy : ys = true ↔ p < n ∧ f (p * 3) = s
  jn : yj = false → ∀ i, i < m → ¬ isJ g s o i
  jy : yj = true → j < m ∧ (∀ i, i < j → ¬ isJ g s o i) ∧ isJ g s o j
theorem fnd_is {n m : Nat} {f g : Nat → Int} (s o : Int) (h : SmOk n f) : ∃ p ys j yj, Fnd n f m g s o p ys j yj := by
  obtain ⟨p, hp⟩ := plc_is s n h.rise
  obtain ⟨ys, hs⟩ := bool_of (p < n ∧ f (p * 3) = s)
  rcases first_is g s o m with hno | ⟨j, h1, h2, h3⟩
  · exact ⟨p, ys, 0, false, hp, hs, fun _ => hno, fun h => by cases h⟩
  · exact ⟨p, ys, j, true, hp, hs, (fun h => by cases h), fun _ => ⟨h1, h2, h3⟩⟩
/-- The state of a lab. -/
structure LS where
  n : Nat
  f : Nat → Int
  m : Nat
  g : Nat → Int
  T : Int
/-- The code of a right deed in a right lab. -/
noncomputable def codeR (n : Nat) (f : Nat → Int) (m : Nat) (g : Nat → Int) (K : Int) (p : Nat) (ys : Bool) (j : Nat) (yj : Bool) : Int :=
  open Classical in
  if K = 1 then (if n = 100 then 3 else if ys = true then 4 else 0)
  else if K = 2 then (if m = 300 then 3 else if yj = true then 4 else if ys = false then 5 else if f (p * 3 + 1) = 4 then 6 else 0)
  else if K = 3 then (if ys = false then 5 else if (f (p * 3 + 1) = 1 ∨ f (p * 3 + 1) = 3) ∧ Rm n f 2 then 0 else 6)
  else if K = 4 then (if ys = false then 5 else if f (p * 3 + 1) = 2 ∧ Rm n f 3 then 0 else 6)
  else if K = 5 then (if ys = false then 5 else if f (p * 3 + 1) = 2 then 0 else 6)
  else if K = 6 then (if yj = false then 5 else if f (p * 3 + 1) ≠ 3 then 6 else if g (j * 4 + 3) ≠ 1 then 7 else if f (p * 3 + 2) < g (j * 4 + 2) then 8 else 0)
  else if K = 7 then (if yj = false then 5 else if g (j * 4 + 3) ≠ 1 then 7 else 0)
  else (if ys = false then 5 else if f (p * 3 + 1) = 1 then 0 else 6)
/-- The lab behind a deed that is done. -/
def nxt (n : Nat) (f : Nat → Int) (m : Nat) (g : Nat → Int) (T K s o a : Int) (p j : Nat) : LS :=
  if K = 1 then ⟨n + 1, ins f p s 1 a, m, g, T⟩
  else if K = 2 then ⟨n, f, m + 1, cat g (m * 4) (four s o a 1), T⟩
  else if K = 3 then ⟨n, upd f (p * 3 + 1) 2, m, g, T⟩
  else if K = 4 then ⟨n, upd f (p * 3 + 1) 3, m, g, T⟩
  else if K = 5 then ⟨n, upd f (p * 3 + 1) 1, m, g, T⟩
  else if K = 6 then ⟨n, upd f (p * 3 + 2) (f (p * 3 + 2) - g (j * 4 + 2)), m, upd g (j * 4 + 3) 2, T + g (j * 4 + 2)⟩
  else if K = 7 then ⟨n, f, m, upd g (j * 4 + 3) 3, T⟩
  else ⟨n, upd f (p * 3 + 1) 4, m, offK g s m, T⟩
/-- Code and lab behind a deed. -/
noncomputable def outc (n : Nat) (f : Nat → Int) (m : Nat) (g : Nat → Int) (T K s o a : Int) (p : Nat) (ys : Bool) (j : Nat) (yj : Bool) : Int × LS :=
  open Classical in
  if dOk K s o a then (if codeR n f m g K p ys j yj = 0 then (0, nxt n f m g T K s o a p j) else (codeR n f m g K p ys j yj, ⟨n, f, m, g, T⟩)) else (2, ⟨n, f, m, g, T⟩)
def OutP (B q : Nat) (w : World) (D : Int) (x : Int × LS) (e : Ending) (w' : World) : Prop := DoP B q w D x.1 x.2.n x.2.f x.2.m x.2.g x.2.T e w'
theorem outc_bad {n m p j : Nat} {f g : Nat → Int} {T K s o a : Int} {ys yj : Bool} (h : ¬ dOk K s o a) : outc n f m g T K s o a p ys j yj = (2, ⟨n, f, m, g, T⟩) := by
  unfold outc; rw [if_neg h]
theorem outc_no {n m p j : Nat} {f g : Nat → Int} {T K s o a c : Int} {ys yj : Bool} (h : dOk K s o a) (hc : codeR n f m g K p ys j yj = c) (h0 : c ≠ 0) : outc n f m g T K s o a p ys j yj = (c, ⟨n, f, m, g, T⟩) := by
  unfold outc; rw [if_pos h, hc, if_neg h0]
theorem outc_yes {n m p j : Nat} {f g : Nat → Int} {T K s o a : Int} {ys yj : Bool} (h : dOk K s o a) (hc : codeR n f m g K p ys j yj = 0) : outc n f m g T K s o a p ys j yj = (0, nxt n f m g T K s o a p j) := by
  unfold outc; rw [if_pos h, if_pos hc]
section
variable {n m p j : Nat} {f g : Nat → Int} {yj : Bool}
theorem code3_yes (h : (f (p * 3 + 1) = 1 ∨ f (p * 3 + 1) = 3) ∧ Rm n f 2) : codeR n f m g 3 p true j yj = 0 := by
  unfold codeR
  rw [if_neg (by decide), if_neg (by decide), if_pos rfl, if_neg (by decide), if_pos h]
theorem code3_no (h : ¬ ((f (p * 3 + 1) = 1 ∨ f (p * 3 + 1) = 3) ∧ Rm n f 2)) : codeR n f m g 3 p true j yj = 6 := by
  unfold codeR
  rw [if_neg (by decide), if_neg (by decide), if_pos rfl, if_neg (by decide), if_neg h]
theorem code4_yes (h : f (p * 3 + 1) = 2 ∧ Rm n f 3) : codeR n f m g 4 p true j yj = 0 := by
  unfold codeR
  rw [if_neg (by decide), if_neg (by decide), if_neg (by decide), if_pos rfl, if_neg (by decide), if_pos h]
theorem code4_no (h : ¬ (f (p * 3 + 1) = 2 ∧ Rm n f 3)) : codeR n f m g 4 p true j yj = 6 := by
  unfold codeR
  rw [if_neg (by decide), if_neg (by decide), if_neg (by decide), if_pos rfl, if_neg (by decide), if_neg h]
theorem code5_yes (h : f (p * 3 + 1) = 2) : codeR n f m g 5 p true j yj = 0 := by
  unfold codeR
  rw [if_neg (by decide), if_neg (by decide), if_neg (by decide), if_neg (by decide), if_pos rfl, if_neg (by decide), if_pos h]
theorem code5_no (h : ¬ f (p * 3 + 1) = 2) : codeR n f m g 5 p true j yj = 6 := by
  unfold codeR
  rw [if_neg (by decide), if_neg (by decide), if_neg (by decide), if_neg (by decide), if_pos rfl, if_neg (by decide), if_neg h]
end
theorem two_ints {w : World} {b : Nat} {x y : Int} (h : At 2 w b #[.int .i64 x, .int .i64 y]) : Ints w b 0 2 (fun i => if i = 0 then x else y) := fun i hi => by
  rcases (by omega : i = 0 ∨ i = 1) with rfl | rfl
  · exact h.cell 0 rfl
  · exact h.cell 1 rfl
section
variable {B q : Nat} {w : World} {vS vJ : Value} {n m p j : Nat} {f g : Nat → Int} {T D : Int} {ys yj : Bool}
set_option maxRecDepth 100000 in
set_option maxHeartbeats 6400000 in
theorem do_any (K s o a : Int) (W : Wk B q w vS vJ n f m g T D) (HL : Hid (LbOk n f m g T)) (HF : Hid (Fnd n f m g s o p ys j yj)) :
    Calls Try.prog 63 #[.pointer (some ⟨q, 0, none⟩), deedV K s o a] w (OutP B q w D (outc n f m g T K s o a p ys j yj)) := by
  obtain ⟨V1, hV1, A1, bb, -⟩ := boxed w 29 #[.int .i64 K, .int .i64 s, .int .i64 o, .int .i64 a]
  have B1 := Bel.of bb W.lt
  replace W := W.below bb
  obtain ⟨r1, hr1⟩ : ∃ r, w.heap.size = r := ⟨_, rfl⟩
  rw [hr1] at A1
  obtain ⟨c0, c1, c2, c3, -⟩ := Job.box A1
  have hn := HL.out.1.1
  have hm := HL.out.2.1.1
  have HP : Hid (Plc n f s p) := HF.out.pl
  obtain ⟨y, hy⟩ := bool_of (dOk K s o a)
  have R := fun w => dRight_any K s o a w y hy
  clear bb
  go_enter Try.func63, Try.ntmps63
  go_wp2_with fail
  refine (R _).mono ?_
  rintro e w2 ⟨rfl, bb⟩
  replace B1 := B1.trans (Bel.of bb W.lt)
  replace W := W.below bb
  replace A1 := A1.below bb
  clear c0 c1 c2 c3 hV1 hr1 bb R
  obtain ⟨c0, c1, c2, c3, -⟩ := Job.box A1
  cases y
  · have HN : Hid (¬ dOk K s o a) := iff_no hy
    clear hy
    go_wp2
    go_ret
    rw [OutP, outc_bad HN.out]
    exact ⟨_, _, rfl, W, B1⟩
  have HO : Hid (dOk K s o a) := hy.1 rfl
  clear hy
  by_cases k1 : K = 1
  · subst k1
    by_cases h1 : n = 100
    · have H1 : Hid (n = 100) := h1
      clear h1
      go_wp2_with fail
      refine (bring_full s a W H1).mono ?_
      rintro e w3 ⟨u, v, rfl, W2, b2⟩
      go_wp2
      go_ret
      rw [OutP, outc_no (c := 3) HO.out (by simp [codeR, H1.out]) (by decide)]
      exact ⟨_, _, rfl, W2, B1.trans b2⟩
    have H1 : Hid (¬ n = 100) := h1
    clear h1
    cases ys
    · have HS : Hid (¬ (p < n ∧ f (p * 3) = s)) := iff_no HF.out.sy
      go_wp2_with fail
      refine (bring_ok s a W (by have := H1.out; omega) HP HS).mono ?_
      rintro e w3 ⟨u, v, rfl, W2, b2⟩
      go_wp2
      go_ret
      rw [OutP, outc_yes HO.out (by simp [codeR, H1.out])]
      exact ⟨_, _, rfl, W2, B1.trans b2⟩
    have HS : Hid (p < n ∧ f (p * 3) = s) := HF.out.sy.1 rfl
    go_wp2_with fail
    refine (bring_there s a W (by have := H1.out; omega) HP HS).mono ?_
    rintro e w3 ⟨u, v, rfl, W2, b2⟩
    go_wp2
    go_ret
    rw [OutP, outc_no (c := 4) HO.out (by simp [codeR, H1.out]) (by decide)]
    exact ⟨_, _, rfl, W2, B1.trans b2⟩
  by_cases k2 : K = 2
  · subst k2
    by_cases h1 : m = 300
    · have H1 : Hid (m = 300) := h1
      clear h1
      go_wp2_with fail
      refine (ask_full s o a W hn HP H1).mono ?_
      rintro e w3 ⟨u, v, rfl, W2, b2⟩
      go_wp2
      go_ret
      rw [OutP, outc_no (c := 3) HO.out (by simp [codeR, H1.out]) (by decide)]
      exact ⟨_, _, rfl, W2, B1.trans b2⟩
    have H1 : Hid (¬ m = 300) := h1
    have hm3 : m < 300 := by omega
    clear h1
    cases yj
    case true =>
      obtain ⟨hj, jn, jy⟩ := HF.out.jy rfl
      have HN : Hid (∀ i, i < j → ¬ isJ g s o i) := jn
      have HY : Hid (isJ g s o j) := jy
      clear jn jy
      go_wp2_with fail
      refine (ask_there s o a W hn HP hm3 hj HN HY).mono ?_
      rintro e w3 ⟨u, v, rfl, W2, b2⟩
      go_wp2
      go_ret
      rw [OutP, outc_no (c := 4) HO.out (by simp [codeR, H1.out]) (by decide)]
      exact ⟨_, _, rfl, W2, B1.trans b2⟩
    have HJ : Hid (∀ i, i < m → ¬ isJ g s o i) := HF.out.jn rfl
    cases ys
    · have HS : Hid (¬ (p < n ∧ f (p * 3) = s)) := iff_no HF.out.sy
      go_wp2_with fail
      refine (ask_no s o a W hn HP hm3 HJ HS).mono ?_
      rintro e w3 ⟨u, v, rfl, W2, b2⟩
      go_wp2
      go_ret
      rw [OutP, outc_no (c := 5) HO.out (by simp [codeR, H1.out]) (by decide)]
      exact ⟨_, _, rfl, W2, B1.trans b2⟩
    have HE : Hid (f (p * 3) = s) := (HF.out.sy.1 rfl).2
    have hpn := (HF.out.sy.1 rfl).1
    by_cases h2 : f (p * 3 + 1) = 4
    · have H2 : Hid (f (p * 3 + 1) = 4) := h2
      clear h2
      go_wp2_with fail
      refine (ask_gone s o a W hn HP hm3 HJ hpn HE H2).mono ?_
      rintro e w3 ⟨u, v, rfl, W2, b2⟩
      go_wp2
      go_ret
      rw [OutP, outc_no (c := 6) HO.out (by simp [codeR, H1.out, H2.out]) (by decide)]
      exact ⟨_, _, rfl, W2, B1.trans b2⟩
    have H2 : Hid (f (p * 3 + 1) ≠ 4) := h2
    clear h2
    go_wp2_with fail
    refine (ask_ok s o a W hn HP hm3 HJ hpn HE H2).mono ?_
    rintro e w3 ⟨u, v, rfl, W2, b2⟩
    go_wp2
    go_ret
    rw [OutP, outc_yes HO.out (by simp [codeR, H1.out, H2.out])]
    exact ⟨_, _, rfl, W2, B1.trans b2⟩
  by_cases k3 : K = 3
  · subst k3
    obtain ⟨V3, hV3, A3, bb, -⟩ := boxed w2 2 #[.int .i64 1, .int .i64 3]
    replace B1 := B1.trans (Bel.of bb W.lt)
    have W3 := W.below bb
    clear bb
    cases ys
    · have HS : Hid (¬ (p < n ∧ f (p * 3) = s)) := iff_no HF.out.sy
      go_wp2_with fail
      refine (move_no s 2 W3 hn HP HS).mono ?_
      rintro e w3 ⟨u, v, rfl, W2, b2⟩
      go_wp2
      go_ret
      rw [OutP, outc_no (c := 5) HO.out (by simp [codeR]) (by decide)]
      exact ⟨_, _, rfl, W2, B1.trans b2⟩
    have HE : Hid (f (p * 3) = s) := (HF.out.sy.1 rfl).2
    have hpn := (HF.out.sy.1 rfl).1
    by_cases h1 : (f (p * 3 + 1) = 1 ∨ f (p * 3 + 1) = 3) ∧ Rm n f 2
    · have H1 : Hid ((f (p * 3 + 1) = 1 ∨ f (p * 3 + 1) = 3) ∧ Rm n f 2) := h1
      have E1 : Hid (∃ i, i < 2 ∧ (fun i => if i = 0 then 1 else 3) i = f (p * 3 + 1)) := by
        rcases h1.1 with e | e
        · exact ⟨0, by omega, by simp [e]⟩
        · exact ⟨1, by omega, by simp [e]⟩
      have E2 : Hid (Rm n f 2) := h1.2
      clear h1
      go_wp2_with fail
      refine (move_ok s 2 W3 hn HP hpn HE (two_ints A3) A3.lt (by omega) E1 E2).mono ?_
      rintro e w3 ⟨u, v, rfl, W2, b2⟩
      go_wp2
      go_ret
      rw [OutP, outc_yes HO.out (code3_yes H1.out)]
      exact ⟨_, _, rfl, W2, B1.trans b2⟩
    have H1 : Hid (¬ ((f (p * 3 + 1) = 1 ∨ f (p * 3 + 1) = 3) ∧ Rm n f 2)) := h1
    have E1 : Hid (¬ ((∃ i, i < 2 ∧ (fun i => if i = 0 then 1 else 3) i = f (p * 3 + 1)) ∧ Rm n f 2)) := show ¬ _ from fun ⟨⟨i, hi, e⟩, hr⟩ => h1 (by
      refine ⟨?_, hr⟩
      rcases (by omega : i = 0 ∨ i = 1) with rfl | rfl
      · exact .inl (by simpa using e.symm)
      · exact .inr (by simpa using e.symm))
    clear h1
    go_wp2_with fail
    refine (move_bad s 2 W3 hn HP hpn HE (two_ints A3) A3.lt (by omega) E1).mono ?_
    rintro e w3 ⟨u, v, rfl, W2, b2⟩
    go_wp2
    go_ret
    rw [OutP, outc_no (c := 6) HO.out (code3_no H1.out) (by decide)]
    exact ⟨_, _, rfl, W2, B1.trans b2⟩
  by_cases k4 : K = 4
  · subst k4
    obtain ⟨V3, hV3, A3, bb, -⟩ := boxed w2 2 #[.int .i64 2]
    replace B1 := B1.trans (Bel.of bb W.lt)
    have W3 := W.below bb
    clear bb
    cases ys
    · have HS : Hid (¬ (p < n ∧ f (p * 3) = s)) := iff_no HF.out.sy
      go_wp2_with fail
      refine (move_no s 3 W3 hn HP HS).mono ?_
      rintro e w3 ⟨u, v, rfl, W2, b2⟩
      go_wp2
      go_ret
      rw [OutP, outc_no (c := 5) HO.out (by simp [codeR]) (by decide)]
      exact ⟨_, _, rfl, W2, B1.trans b2⟩
    have HE : Hid (f (p * 3) = s) := (HF.out.sy.1 rfl).2
    have hpn := (HF.out.sy.1 rfl).1
    by_cases h1 : f (p * 3 + 1) = 2 ∧ Rm n f 3
    · have H1 : Hid (f (p * 3 + 1) = 2 ∧ Rm n f 3) := h1
      have E1 : Hid (∃ i, i < 1 ∧ (fun i => 2) i = f (p * 3 + 1)) := by
        exact ⟨0, by omega, by simp [h1.1]⟩
      have E2 : Hid (Rm n f 3) := h1.2
      clear h1
      go_wp2_with fail
      refine (move_ok s 3 W3 hn HP hpn HE (one_ints A3) A3.lt (by omega) E1 E2).mono ?_
      rintro e w3 ⟨u, v, rfl, W2, b2⟩
      go_wp2
      go_ret
      rw [OutP, outc_yes HO.out (code4_yes H1.out)]
      exact ⟨_, _, rfl, W2, B1.trans b2⟩
    have H1 : Hid (¬ (f (p * 3 + 1) = 2 ∧ Rm n f 3)) := h1
    have E1 : Hid (¬ ((∃ i, i < 1 ∧ (fun i => 2) i = f (p * 3 + 1)) ∧ Rm n f 3)) := show ¬ _ from fun ⟨⟨i, hi, e⟩, hr⟩ => h1 (by
      exact ⟨e.symm, hr⟩)
    clear h1
    go_wp2_with fail
    refine (move_bad s 3 W3 hn HP hpn HE (one_ints A3) A3.lt (by omega) E1).mono ?_
    rintro e w3 ⟨u, v, rfl, W2, b2⟩
    go_wp2
    go_ret
    rw [OutP, outc_no (c := 6) HO.out (code4_no H1.out) (by decide)]
    exact ⟨_, _, rfl, W2, B1.trans b2⟩
  by_cases k5 : K = 5
  · subst k5
    obtain ⟨V3, hV3, A3, bb, -⟩ := boxed w2 2 #[.int .i64 2]
    replace B1 := B1.trans (Bel.of bb W.lt)
    have W3 := W.below bb
    clear bb
    cases ys
    · have HS : Hid (¬ (p < n ∧ f (p * 3) = s)) := iff_no HF.out.sy
      go_wp2_with fail
      refine (move_no s 1 W3 hn HP HS).mono ?_
      rintro e w3 ⟨u, v, rfl, W2, b2⟩
      go_wp2
      go_ret
      rw [OutP, outc_no (c := 5) HO.out (by simp [codeR]) (by decide)]
      exact ⟨_, _, rfl, W2, B1.trans b2⟩
    have HE : Hid (f (p * 3) = s) := (HF.out.sy.1 rfl).2
    have hpn := (HF.out.sy.1 rfl).1
    by_cases h1 : f (p * 3 + 1) = 2
    · have H1 : Hid (f (p * 3 + 1) = 2) := h1
      have E1 : Hid (∃ i, i < 1 ∧ (fun i => 2) i = f (p * 3 + 1)) := by
        exact ⟨0, by omega, by simp [h1]⟩
      have E2 : Hid (Rm n f 1) := .inl rfl
      clear h1
      go_wp2_with fail
      refine (move_ok s 1 W3 hn HP hpn HE (one_ints A3) A3.lt (by omega) E1 E2).mono ?_
      rintro e w3 ⟨u, v, rfl, W2, b2⟩
      go_wp2
      go_ret
      rw [OutP, outc_yes HO.out (code5_yes H1.out)]
      exact ⟨_, _, rfl, W2, B1.trans b2⟩
    have H1 : Hid (¬ (f (p * 3 + 1) = 2)) := h1
    have E1 : Hid (¬ ((∃ i, i < 1 ∧ (fun i => 2) i = f (p * 3 + 1)) ∧ Rm n f 1)) := show ¬ _ from fun ⟨⟨i, hi, e⟩, hr⟩ => h1 (by
      exact e.symm)
    clear h1
    go_wp2_with fail
    refine (move_bad s 1 W3 hn HP hpn HE (one_ints A3) A3.lt (by omega) E1).mono ?_
    rintro e w3 ⟨u, v, rfl, W2, b2⟩
    go_wp2
    go_ret
    rw [OutP, outc_no (c := 6) HO.out (code5_no H1.out) (by decide)]
    exact ⟨_, _, rfl, W2, B1.trans b2⟩
  by_cases k6 : K = 6
  · subst k6
    cases yj
    · have HJ : Hid (∀ i, i < m → ¬ isJ g s o i) := HF.out.jn rfl
      go_wp2_with fail
      refine (measure_no s o W hn HP hm HJ).mono ?_
      rintro e w3 ⟨u, v, rfl, W2, b2⟩
      go_wp2
      go_ret
      rw [OutP, outc_no (c := 5) HO.out (by simp [codeR]) (by decide)]
      exact ⟨_, _, rfl, W2, B1.trans b2⟩
    obtain ⟨hj, jn, jy⟩ := HF.out.jy rfl
    have HN : Hid (∀ i, i < j → ¬ isJ g s o i) := jn
    have HY : Hid (isJ g s o j) := jy
    clear jn jy
    have HSP : Hid (p < n ∧ f (p * 3) = s) := by
      have h1 := (HL.out.2.1.2 j hj).2.1
      rw [HY.out.1] at h1
      exact (HF.out.pl.find HL.out.1.rise).2 h1
    have hpn := HSP.out.1
    have HE : Hid (f (p * 3) = s) := HSP.out.2
    have hlf := (HL.out.1.2.1 p hpn).2.2
    have hnd := (HL.out.2.1.2 j hj).1.2.2.1
    have hT := told_le HL.out.2.1 m (Nat.le_refl _)
    rw [← HL.out.2.2] at hT
    obtain ⟨pl, h1⟩ : ∃ x, f (p * 3 + 1) = x := ⟨_, rfl⟩
    obtain ⟨lf, h2⟩ : ∃ x, f (p * 3 + 2) = x := ⟨_, rfl⟩
    obtain ⟨nd, h3⟩ : ∃ x, g (j * 4 + 2) = x := ⟨_, rfl⟩
    obtain ⟨st, h4⟩ : ∃ x, g (j * 4 + 3) = x := ⟨_, rfl⟩
    rw [h2] at hlf
    rw [h3] at hnd
    have H1 : Hid (f (p * 3 + 1) = pl) := h1
    have H2 : Hid (f (p * 3 + 2) = lf) := h2
    have H3 : Hid (g (j * 4 + 2) = nd) := h3
    have H4 : Hid (g (j * 4 + 3) = st) := h4
    clear h1 h2 h3 h4
    have MM := measure_any s o pl lf nd st W hn HP hpn HE hm hj HN HY H1 H2 H3 H4 hlf hnd (by omega)
    go_wp2_with fail
    refine MM.mono ?_
    clear MM
    intro e w3 hM
    unfold MsP at hM
    by_cases e1 : pl = 3
    case neg =>
      rw [if_pos e1] at hM
      obtain ⟨u, v, rfl, W2, b2⟩ := hM
      have E1 : Hid (¬ pl = 3) := e1
      clear e1
      go_wp2
      go_ret
      rw [OutP, outc_no (c := 6) HO.out (by simp [codeR, H1.out, E1.out]) (by decide)]
      exact ⟨_, _, rfl, W2, B1.trans b2⟩
    subst e1
    by_cases e2 : st = 1
    case neg =>
      rw [if_neg (by simp), if_pos e2] at hM
      obtain ⟨u, v, rfl, W2, b2⟩ := hM
      have E2 : Hid (¬ st = 1) := e2
      clear e2
      go_wp2
      go_ret
      rw [OutP, outc_no (c := 7) HO.out (by simp [codeR, H1.out, H4.out, E2.out]) (by decide)]
      exact ⟨_, _, rfl, W2, B1.trans b2⟩
    subst e2
    by_cases e3 : lf < nd
    · rw [if_neg (by simp), if_neg (by simp), if_pos e3] at hM
      obtain ⟨u, v, rfl, W2, b2⟩ := hM
      have E3 : Hid (lf < nd) := e3
      clear e3
      go_wp2
      go_ret
      rw [OutP, outc_no (c := 8) HO.out (by simp [codeR, H1.out, H2.out, H3.out, H4.out, E3.out]) (by decide)]
      exact ⟨_, _, rfl, W2, B1.trans b2⟩
    rw [if_neg (by simp), if_neg (by simp), if_neg e3] at hM
    obtain ⟨u, v, rfl, W2, b2⟩ := hM
    have E3 : Hid (¬ lf < nd) := e3
    clear e3
    go_wp2
    go_ret
    rw [OutP, outc_yes HO.out (by rw [codeR]; simp [H1.out, H2.out, H3.out, H4.out, E3.out])]
    have e : nxt n f m g T 6 s o a p j = ⟨n, upd f (p * 3 + 2) (lf - nd), m, upd g (j * 4 + 3) 2, T + nd⟩ := by simp [nxt, H2.out, H3.out]
    rw [e]
    exact ⟨_, _, rfl, W2, B1.trans b2⟩
  by_cases k7 : K = 7
  · subst k7
    cases yj
    · have HJ : Hid (∀ i, i < m → ¬ isJ g s o i) := HF.out.jn rfl
      go_wp2_with fail
      refine (cancel_no s o W hm HJ).mono ?_
      rintro e w3 ⟨u, v, rfl, W2, b2⟩
      go_wp2
      go_ret
      rw [OutP, outc_no (c := 5) HO.out (by simp [codeR]) (by decide)]
      exact ⟨_, _, rfl, W2, B1.trans b2⟩
    obtain ⟨hj, jn, jy⟩ := HF.out.jy rfl
    have HN : Hid (∀ i, i < j → ¬ isJ g s o i) := jn
    have HY : Hid (isJ g s o j) := jy
    clear jn jy
    by_cases h1 : g (j * 4 + 3) = 1
    · have H1 : Hid (g (j * 4 + 3) = 1) := h1
      clear h1
      go_wp2_with fail
      refine (cancel_ok s o W hm hj HN HY H1).mono ?_
      rintro e w3 ⟨u, v, rfl, W2, b2⟩
      go_wp2
      go_ret
      rw [OutP, outc_yes HO.out (by simp [codeR, H1.out])]
      exact ⟨_, _, rfl, W2, B1.trans b2⟩
    have H1 : Hid (g (j * 4 + 3) ≠ 1) := h1
    clear h1
    go_wp2_with fail
    refine (cancel_bad s o W hm hj HN HY H1).mono ?_
    rintro e w3 ⟨u, v, rfl, W2, b2⟩
    go_wp2
    go_ret
    rw [OutP, outc_no (c := 7) HO.out (by simp [codeR, H1.out]) (by decide)]
    exact ⟨_, _, rfl, W2, B1.trans b2⟩
  have p1 : (K == 1) = false := by simpa using k1
  have p2 : (K == 2) = false := by simpa using k2
  have p3 : (K == 3) = false := by simpa using k3
  have p4 : (K == 4) = false := by simpa using k4
  have p5 : (K == 5) = false := by simpa using k5
  have p6 : (K == 6) = false := by simpa using k6
  have p7 : (K == 7) = false := by simpa using k7
  have hK : K = 8 := by have := HO.out.1; omega
  subst hK
  clear k1 k2 k3 k4 k5 k6 k7 p1 p2 p3 p4 p5 p6 p7
  cases ys
  · have HS : Hid (¬ (p < n ∧ f (p * 3) = s)) := iff_no HF.out.sy
    go_wp2_with fail
    refine (throw_no s W hn HP HS).mono ?_
    rintro e w3 ⟨u, v, rfl, W2, b2⟩
    go_wp2
    go_ret
    rw [OutP, outc_no (c := 5) HO.out (by simp [codeR]) (by decide)]
    exact ⟨_, _, rfl, W2, B1.trans b2⟩
  have HE : Hid (f (p * 3) = s) := (HF.out.sy.1 rfl).2
  have hpn := (HF.out.sy.1 rfl).1
  by_cases h1 : f (p * 3 + 1) = 1
  · have H1 : Hid (f (p * 3 + 1) = 1) := h1
    clear h1
    go_wp2_with fail
    refine (throw_ok s W hn HP hpn HE H1 hm).mono ?_
    rintro e w3 ⟨u, v, rfl, W2, b2⟩
    go_wp2
    go_ret
    rw [OutP, outc_yes HO.out (by simp [codeR, H1.out])]
    exact ⟨_, _, rfl, W2, B1.trans b2⟩
  have H1 : Hid (f (p * 3 + 1) ≠ 1) := h1
  clear h1
  go_wp2_with fail
  refine (throw_bad s W hn HP hpn HE H1).mono ?_
  rintro e w3 ⟨u, v, rfl, W2, b2⟩
  go_wp2
  go_ret
  rw [OutP, outc_no (c := 6) HO.out (by simp [codeR, H1.out]) (by decide)]
  exact ⟨_, _, rfl, W2, B1.trans b2⟩
end
end Go.Proofs.Ytnjnffemidaopaa
