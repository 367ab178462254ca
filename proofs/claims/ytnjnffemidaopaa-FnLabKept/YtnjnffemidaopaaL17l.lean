/-
  A sample moved, a job cancelled, a sample thrown away with its jobs: walked.
-/
import Derived.Test.YtnjnffemidaopaaL17k
namespace Go.Proofs.Ytnjnffemidaopaa
open Go.RowKit

/-- Where the first one lies that is x, or -1. -/
def IxP (k : Nat) (F : Nat → Int) (x r : Int) : Prop := (r = -1 ∧ ∀ j, j < k → F j ≠ x) ∨ (∃ j : Nat, j < k ∧ r = (j : Int) ∧ F j = x)
set_option maxRecDepth 100000 in
theorem index_any {w : World} {b k c : Nat} {F : Nat → Int} (x : Int) (h : Ints w b 0 k F) (hk : k ≤ 100) :
    Calls Try.prog 97 #[.slice (some ⟨b, 0, none⟩) k c, .int .i64 x] w fun e w' => (∃ r : Int, e = .returned (.int .i64 r) ∧ Hid (IxP k F x r)) ∧ w = w' := by
  have hk' : (k : Int) ≤ 100 := by omega
  go_enter Try.func97, Try.ntmps97
  go_wp2
  go_loopw [8] (fun u wr => ∃ j : Nat, j ≤ k ∧ u = .int .i64 (j : Int) ∧ (∀ i, i < j → F i ≠ x) ∧ w = wr) (fun u _ => k - (intOf u).toNat)
  case atStart => exact ⟨0, Nat.zero_le _, rfl, fun i hi => by omega, rfl⟩
  case round =>
    obtain ⟨j, hj, rfl, hno, rfl⟩ := hrel
    have HN : Hid (∀ i, i < j → F i ≠ x) := hno
    clear hno
    by_cases hjk : j < k
    · have hjk' : (j : Int) < (k : Int) := by omega
      have d0 := h j hjk
      rw [Nat.zero_add] at d0
      obtain ⟨y, hy⟩ : ∃ y, F j = y := ⟨_, rfl⟩
      rw [hy] at d0
      have HY : Hid (F j = y) := hy
      clear hy
      by_cases hs : x = y
      · have hs' : (x == y) = true := by simpa using hs
        have HS : Hid (y = x) := hs.symm
        clear hs
        go_wp2
        go_ret
        exact ⟨⟨_, rfl, .inr ⟨j, hjk, rfl, HY.out.trans HS.out⟩⟩, rfl⟩
      · have hs' : (x == y) = false := by simpa using hs
        have HS : Hid (¬ y = x) := fun e => hs e.symm
        clear hs
        go_wp2
        refine ⟨⟨j + 1, by omega, by go_num, fun i hi => ?_, trivial⟩, by simp [intOf]; omega⟩
        by_cases e : i = j
        · rw [e, HY.out]; exact HS.out
        · exact HN.out i (by omega)
    · have hjk' : ¬ (j : Int) < (k : Int) := by omega
      obtain rfl : j = k := by omega
      go_wp2
      go_ret
      exact ⟨⟨_, rfl, .inl ⟨rfl, HN.out⟩⟩, rfl⟩
theorem has_any {w : World} {b k c : Nat} {F : Nat → Int} (x : Int) (h : Ints w b 0 k F) (hk : k ≤ 100) (y : Bool) (hy : Hid (y = true ↔ ∃ i, i < k ∧ F i = x)) :
    Calls Try.prog 90 #[.slice (some ⟨b, 0, none⟩) k c, .int .i64 x] w fun e w' => e = .returned (.bool y) ∧ w = w' := by
  have X := index_any (c := c) x h hk
  go_enter Try.func90, Try.ntmps90
  go_wp2_with (go_at_call 97; refine X.mono ?_; rintro e w2 ⟨⟨r, rfl, hr⟩, rfl⟩)
  go_ret
  refine ⟨?_, rfl⟩
  have : y = decide (0 ≤ r) := by
    rw [Bool.eq_iff_iff, hy.out, decide_eq_true_eq]
    rcases hr.out with ⟨rfl, hno⟩ | ⟨j, hj, rfl, hs⟩
    · exact ⟨fun ⟨j, hj, hs⟩ => absurd hs (hno j hj), fun h => by omega⟩
    · exact ⟨fun _ => by omega, fun _ => ⟨j, hj, hs⟩⟩
  rw [this]
  rfl
theorem at_any {w : World} {q : Nat} {to : Int} (x p l : Int) (h : At 2 w q #[.int .i64 to]) :
    Calls Try.prog 99 #[sampleV x p l, .pointer (some ⟨q, 0, none⟩)] w fun e w' => e = .returned (.bool (p == to)) ∧ Below w.heap.size w w' := by
  obtain ⟨V1, hV1, m1, bb1, -⟩ := boxed w 37 #[.int .i64 x, .int .i64 p, .int .i64 l]
  obtain ⟨c0, c1, c2, -⟩ := m1.open3
  have d0 := (h.below bb1).cell 0 rfl
  go_enter Try.func99, Try.ntmps99
  go_wp2
  go_ret
  exact ⟨rfl, bb1⟩
set_option maxRecDepth 100000 in
theorem indexF_any {w : World} {a : Option Addr} {n c q : Nat} {f : Nat → Int} {to : Int} (h : Ls 3 w a n f) (hn : n ≤ 100) (ha : At 2 w q #[.int .i64 to]) :
    Calls Try.prog 102 #[.slice a n c, .func (.func 99) #[] #[.pointer (some ⟨q, 0, none⟩)]] w fun e w' => (∃ r : Int, e = .returned (.int .i64 r) ∧ Hid (IxP n (fun i => f (i * 3 + 1)) to r)) ∧ Below w.heap.size w w' := by
  have hn' : (n : Int) ≤ 100 := by omega
  go_enter Try.func102, Try.ntmps102
  go_wp2
  go_loopw [8] (fun u wr => ∃ j : Nat, j ≤ n ∧ u = .int .i64 (j : Int) ∧ (∀ i, i < j → f (i * 3 + 1) ≠ to) ∧ Below w.heap.size w wr) (fun u _ => n - (intOf u).toNat)
  case atStart => exact ⟨0, Nat.zero_le _, rfl, fun i hi => by omega, Below.refl _ _⟩
  case round =>
    obtain ⟨j, hj, rfl, hno, B1⟩ := hrel
    have HN : Hid (∀ i, i < j → f (i * 3 + 1) ≠ to) := hno
    clear hno
    by_cases hjk : j < n
    · have hjk' : (j : Int) < (n : Int) := by omega
      obtain ⟨b, rfl, R⟩ := h.some hjk
      obtain ⟨d0, d1, d2⟩ := Sample.open (R.below B1) j hjk
      obtain ⟨y, hy⟩ : ∃ y, f (j * 3 + 1) = y := ⟨_, rfl⟩
      rw [hy] at d1
      have HY : Hid (f (j * 3 + 1) = y) := hy
      clear hy
      have O := at_any (f (j * 3)) y (f (j * 3 + 2)) (ha.below B1)
      by_cases hs : y = to
      · rw [show (y == to) = true by simpa using hs] at O
        have HS : Hid (y = to) := hs
        clear hs
        go_wp2_with (go_at_call 99; refine O.mono ?_; rintro e w2 ⟨rfl, bb⟩)
        go_ret
        exact ⟨⟨_, rfl, .inr ⟨j, hjk, rfl, HY.out.trans HS.out⟩⟩, B1.trans (bb.mono B1.size)⟩
      · rw [show (y == to) = false by simpa using hs] at O
        have HS : Hid (¬ y = to) := hs
        clear hs
        go_wp2_with (go_at_call 99; refine O.mono ?_; rintro e w2 ⟨rfl, bb⟩)
        refine ⟨⟨j + 1, by omega, by go_num, fun i hi => ?_, B1.trans (bb.mono B1.size)⟩, by simp [intOf]; omega⟩
        by_cases e : i = j
        · rw [e, HY.out]; exact HS.out
        · exact HN.out i (by omega)
    · have hjk' : ¬ (j : Int) < (n : Int) := by omega
      obtain rfl : j = n := by omega
      go_wp2
      go_ret
      exact ⟨⟨_, rfl, .inl ⟨rfl, HN.out⟩⟩, B1⟩
theorem hasF_any {w : World} {a : Option Addr} {n c q : Nat} {f : Nat → Int} {to : Int} (h : Ls 3 w a n f) (hn : n ≤ 100) (ha : At 2 w q #[.int .i64 to]) (y : Bool) (hy : Hid (y = true ↔ ∃ i, i < n ∧ f (i * 3 + 1) = to)) :
    Calls Try.prog 98 #[.slice a n c, .func (.func 99) #[] #[.pointer (some ⟨q, 0, none⟩)]] w fun e w' => e = .returned (.bool y) ∧ Below w.heap.size w w' := by
  have X := indexF_any (c := c) h hn ha
  go_enter Try.func98, Try.ntmps98
  go_wp2_with (go_at_call 102; refine X.mono ?_; rintro e w2 ⟨⟨r, rfl, hr⟩, bb⟩)
  go_ret
  refine ⟨?_, bb⟩
  have : y = decide (0 ≤ r) := by
    rw [Bool.eq_iff_iff, hy.out, decide_eq_true_eq]
    rcases hr.out with ⟨rfl, hno⟩ | ⟨j, hj, rfl, hs⟩
    · exact ⟨fun ⟨j, hj, hs⟩ => absurd hs (hno j hj), fun h => by omega⟩
    · exact ⟨fun _ => by omega, fun _ => ⟨j, hj, hs⟩⟩
  rw [this]
  rfl
/-- There is room at a place. -/
def Rm (n : Nat) (f : Nat → Int) (to : Int) : Prop := to = 1 ∨ to = 4 ∨ ∀ i, i < n → f (i * 3 + 1) ≠ to
set_option maxHeartbeats 1600000 in
theorem hasRoom_any {w : World} {a s : Option Addr} {m c n d : Nat} {f : Nat → Int} {T : Int} (to : Int) (hs : Ls 3 w s n f) (hn : n ≤ 100) (y : Bool) (hy : Hid (y = true ↔ Rm n f to)) :
    Calls Try.prog 91 #[lbV s n d a m c T, .int .i64 to] w fun e w' => e = .returned (.bool y) ∧ Below w.heap.size w w' := by
  obtain ⟨W2, hW2, a1, a2, B1, -⟩ := bx2 w 27 2 #[.slice s n d, .slice a m c, .int .i64 T] #[.int .i64 to]
  obtain ⟨q1, hq1⟩ : ∃ q, w.heap.size = q := ⟨_, rfl⟩
  obtain ⟨q2, hq2⟩ : ∃ q, q1 + 1 = q := ⟨_, rfl⟩
  rw [hq1] at a1 a2
  rw [hq2] at a2
  obtain ⟨c0, c1, c2, -⟩ := a1.open3
  have d0 := a2.cell 0 rfl
  have L := hs.below B1
  have hmf : ∀ (fn : Fn) (first cap : Array Value) (w : World), (Instr.makeFunc fn first cap).run Try.prog w = .ok (.func fn first cap) w := fun _ _ _ _ => rfl
  by_cases h1 : to = 1
  · subst h1
    obtain rfl : y = true := hy.out.2 (.inl rfl)
    go_enter Try.func91, Try.ntmps91
    go_wp2
    go_ret
    exact ⟨rfl, by first | exact B1 | exact hq1 ▸ B1⟩
  by_cases h4 : to = 4
  · subst h4
    obtain rfl : y = true := hy.out.2 (.inr (.inl rfl))
    go_enter Try.func91, Try.ntmps91
    go_wp2
    go_ret
    exact ⟨rfl, by first | exact B1 | exact hq1 ▸ B1⟩
  have h1' : (to == 1) = false := by simpa using h1
  have h4' : (to == 4) = false := by simpa using h4
  have X := hasF_any (c := d) L hn a2 (!y) (show _ ↔ _ by
    have := hy.out
    cases y
    · simp only [Bool.not_false, true_iff]
      have h5 : ¬ Rm n f to := fun k => by have := this.2 k; cases this
      unfold Rm at h5
      refine Classical.byContradiction fun h6 => h5 (.inr (.inr fun i hi e => h6 ⟨i, hi, e⟩))
    · simp only [Bool.not_true, Bool.false_eq_true, false_iff]
      rintro ⟨i, hi, e⟩
      rcases this.1 rfl with k | k | k
      · exact h1 k
      · exact h4 k
      · exact k i hi e)
  clear hy h1 h4
  go_enter Try.func91, Try.ntmps91
  go_wp2_with (go_at_call 98; refine X.mono ?_; rintro e w2 ⟨rfl, bb⟩)
  go_ret
  exact ⟨by simp, by first | exact B1.trans (bb.mono B1.size) | exact hq1 ▸ B1.trans (bb.mono B1.size)⟩
section
variable {B q : Nat} {w : World} {vS vJ : Value} {n m p : Nat} {f g : Nat → Int} {T D : Int}
theorem move_no {fr : Value} (id to : Int) (W : Wk B q w vS vJ n f m g T D) (hn : n ≤ 100) (HP : Hid (Plc n f id p)) (hno : Hid (¬ (p < n ∧ f (p * 3) = id))) :
    Calls Try.prog 80 #[.pointer (some ⟨q, 0, none⟩), .int .i64 id, .int .i64 to, fr] w (DoP B q w D 5 n f m g T) := by
  obtain ⟨a, c, rfl, hc, L⟩ := W.S.ls
  obtain ⟨c0, c1, c2, c3, -⟩ := Job.box W.bx
  go_enter Try.func80, Try.ntmps80
  go_wp2_with fail
  refine (sampleIn_no L hn HP hno).mono ?_
  rintro e w2 ⟨rfl, bb⟩
  have W2 := W.below bb
  have B2 := Bel.of bb W.lt
  go_wp2
  go_ret
  exact ⟨_, _, rfl, W2, B2⟩
set_option maxHeartbeats 1600000 in
theorem move_bad {gf k c : Nat} {F : Nat → Int} (id to : Int) (W : Wk B q w vS vJ n f m g T D) (hn : n ≤ 100) (HP : Hid (Plc n f id p)) (hpn : p < n) (HE : Hid (f (p * 3) = id)) (hF : Ints w gf 0 k F) (hg : gf < w.heap.size) (hk : k ≤ 100) (hno : Hid (¬ ((∃ i, i < k ∧ F i = f (p * 3 + 1)) ∧ Rm n f to))) :
    Calls Try.prog 80 #[.pointer (some ⟨q, 0, none⟩), .int .i64 id, .int .i64 to, .slice (some ⟨gf, 0, none⟩) k c] w (DoP B q w D 6 n f m g T) := by
  obtain ⟨gs, cs, rfl, hl1, hc, hcm, R⟩ := W.S.pick hpn
  obtain ⟨a, d, rfl, hd, LJ⟩ := W.J.ls
  obtain ⟨c0, c1, c2, c3, -⟩ := Job.box W.bx
  go_enter Try.func80, Try.ntmps80
  go_wp2_with fail
  refine (sampleIn_yes R.recsN hn HP hpn HE).mono ?_
  rintro e w2 ⟨rfl, bb⟩
  have W2 := W.below bb
  have B2 := Bel.of bb W.lt
  have F2 := hF.below hg bb
  replace R := R.below bb
  clear c0 c1 c2 c3 bb
  obtain ⟨c0, c1, c2, c3, -⟩ := Job.box W2.bx
  obtain ⟨x0, x1, x2⟩ := Sample.open R.recsN p hpn
  obtain ⟨pl, hpl⟩ : ∃ x, f (p * 3 + 1) = x := ⟨_, rfl⟩
  rw [hpl] at x1
  have HPL : Hid (f (p * 3 + 1) = pl) := hpl
  clear hpl
  obtain ⟨y, hy⟩ := bool_of (∃ i, i < k ∧ F i = pl)
  have H1 := has_any (c := c) pl F2 hk y hy
  cases y
  · clear hy
    go_wp2_with (go_at_call 90; refine H1.mono ?_; rintro e w3 ⟨rfl, rfl⟩)
    go_ret
    exact ⟨_, _, rfl, W2, B2⟩
  have HN : Hid (¬ Rm n f to) := fun k => hno.out ⟨by rw [HPL.out]; exact hy.1 rfl, k⟩
  clear hy hno
  have H2 := fun w' (L : Ls 3 w' (some ⟨gs, 0, none⟩) n f) => hasRoom_any (d := cs) (a := a) (m := m) (c := d) (T := T) to L hn false (iff_not HN.out)
  go_wp2_with fail
  refine H1.mono ?_
  rintro e w3 ⟨rfl, rfl⟩
  go_wp2_with fail
  refine (H2 _ (.inr ⟨gs, rfl, R.recsN⟩)).mono ?_
  rintro e w3 ⟨rfl, bb⟩
  have W3 := W2.below bb
  have B3 := B2.trans (Bel.of bb W2.lt)
  go_wp2
  go_ret
  exact ⟨_, _, rfl, W3, B3⟩
set_option maxHeartbeats 1600000 in
theorem move_ok {gf k c : Nat} {F : Nat → Int} (id to : Int) (W : Wk B q w vS vJ n f m g T D) (hn : n ≤ 100) (HP : Hid (Plc n f id p)) (hpn : p < n) (HE : Hid (f (p * 3) = id)) (hF : Ints w gf 0 k F) (hg : gf < w.heap.size) (hk : k ≤ 100) (H1 : Hid (∃ i, i < k ∧ F i = f (p * 3 + 1))) (H2 : Hid (Rm n f to)) :
    Calls Try.prog 80 #[.pointer (some ⟨q, 0, none⟩), .int .i64 id, .int .i64 to, .slice (some ⟨gf, 0, none⟩) k c] w (DoP B q w D 0 n (upd f (p * 3 + 1) to) m g T) := by
  obtain ⟨gs, cs, rfl, hl1, hc, hcm, R⟩ := W.S.pick hpn
  obtain ⟨a, d, rfl, hd, LJ⟩ := W.J.ls
  obtain ⟨c0, c1, c2, c3, -⟩ := Job.box W.bx
  go_enter Try.func80, Try.ntmps80
  go_wp2_with fail
  refine (sampleIn_yes R.recsN hn HP hpn HE).mono ?_
  rintro e w2 ⟨rfl, bb⟩
  have W2 := W.below bb
  have B2 := Bel.of bb W.lt
  have F2 := hF.below hg bb
  replace R := R.below bb
  clear c0 c1 c2 c3 bb
  obtain ⟨c0, c1, c2, c3, -⟩ := Job.box W2.bx
  obtain ⟨x0, x1, x2⟩ := Sample.open R.recsN p hpn
  have E1 := has_any (c := c) (f (p * 3 + 1)) F2 hk true (iff_yes H1.out)
  have E2 := fun w' (L : Ls 3 w' (some ⟨gs, 0, none⟩) n f) => hasRoom_any (d := cs) (a := a) (m := m) (c := d) (T := T) to L hn true (iff_yes H2.out)
  go_wp2_with fail
  refine E1.mono ?_
  rintro e w3 ⟨rfl, rfl⟩
  go_wp2_with fail
  refine (E2 _ (.inr ⟨gs, rfl, R.recsN⟩)).mono ?_
  rintro e w3 ⟨rfl, bb⟩
  have W3 := W2.below bb
  have B3 := B2.trans (Bel.of bb W2.lt)
  clear c0 c1 c2 c3 x0 x1 x2 bb
  obtain ⟨x1, f1, -⟩ := W3.frS (i := p * 3 + 1) (by omega)
  obtain ⟨W4, B4⟩ := W3.updS (i := p * 3 + 1) (by omega) to
  go_wp2
  go_ret
  exact ⟨_, _, rfl, W4, B3.trans B4⟩
end
end Go.Proofs.Ytnjnffemidaopaa
