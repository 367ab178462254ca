/-
  Descents by the program: walked.
-/
import Derived.Test.YtloailicdoknbaaD15c
namespace Go.Proofs.Ytloailicdoknbaa
open Go.RowKit

abbrev DSt := Option ((Nat → Int) × Int)
/-- One input. -/
def one1 (n : Nat) (f : Nat → Int) (i : Nat) : DSt → DSt
  | none => none
  | some (x, d) => match rsl n f x i d 2 with
    | none => none
    | some (b, d') => some (upd x i b, d')
/-- The first i inputs, one by one. -/
def sw (n : Nat) (f : Nat → Int) (s : DSt) : Nat → DSt
  | 0 => s
  | i + 1 => one1 n f i (sw n f s i)
/-- So many rounds. -/
def rn (n : Nat) (f : Nat → Int) (inp : Nat) (s : DSt) : Nat → DSt
  | 0 => s
  | r + 1 => sw n f (rn n f inp s r) inp
/-- At first. -/
def st0 (n : Nat) (f x : Nat → Int) : DSt := if okB n f x then some (x, wv f x (n - 1)) else none
theorem one_none (n : Nat) (f : Nat → Int) (i : Nat) : one1 n f i none = none := rfl
theorem one_some {n : Nat} {f x : Nat → Int} {i : Nat} {d b d' : Int} (h : rsl n f x i d 2 = some (b, d')) : one1 n f i (some (x, d)) = some (upd x i b, d') := by
  unfold one1
  simp only [h]
theorem one_fail {n : Nat} {f x : Nat → Int} {i : Nat} {d : Int} (h : rsl n f x i d 2 = none) : one1 n f i (some (x, d)) = none := by
  unfold one1
  simp only [h]
def r100' (x : Int) : Prop := -100 ≤ x ∧ x ≤ 100
theorem stp_in {n : Nat} {f x : Nat → Int} {i : Nat} {y b d b' d' : Int} (h : stp n f x i y (some (b, d)) = some (b', d')) (hb : r100' b) : r100' b' := by
  simp only [stp] at h
  split at h
  · next h1 =>
    split at h
    · split at h
      · simp only [Option.some.injEq, Prod.mk.injEq] at h
        rw [← h.1]
        exact h1
      · simp only [Option.some.injEq, Prod.mk.injEq] at h
        rw [← h.1]
        exact hb
    · cases h
  · simp only [Option.some.injEq, Prod.mk.injEq] at h
    rw [← h.1]
    exact hb
theorem rsl_in {n : Nat} {f x : Nat → Int} {i : Nat} {d : Int} (hx : r100' (x i)) : ∀ (t : Nat) (b d' : Int), rsl n f x i d t = some (b, d') → r100' b
  | 0, b, d', h => by
    simp only [rsl, Option.some.injEq, Prod.mk.injEq] at h
    rw [← h.1]
    exact hx
  | t + 1, b, d', h => by
    rw [rsl] at h
    cases hr : rsl n f x i d t with
    | none => rw [hr] at h; cases h
    | some p =>
      obtain ⟨b0, d0⟩ := p
      rw [hr] at h
      exact stp_in h (rsl_in hx t b0 d0 hr)
/-- How the program's list, its flag and its value stand. -/
def DsS (w : World) (b c inp : Nat) (s : DSt) (v8 v10 : Value) : Prop :=
  (∃ (x : Nat → Int) (d : Int), s = some (x, d) ∧ v8 = .bool true ∧ v10 = .int .i64 d ∧ Made w b c inp x ∧ ∀ i, i < inp → r100' (x i)) ∨ (s = none ∧ v8 = .bool false ∧ (∃ z : Int, v10 = .int .i64 z) ∧ ∃ y, Made w b c inp y)
theorem areTried_any {w : World} {b o c inp : Nat} {x : Nat → Int} (hx : Ints w b o inp x) (hi : inp ≤ 1048576) (R : Bool) (hR : Hid (R = true ↔ ∀ i, i < inp → r100' (x i))) :
    Calls Try.prog 46 #[.slice (some ⟨b, o, none⟩) inp c] w fun e w' => e = .returned (.bool R) ∧ w = w' := by
  have hi' : (inp : Int) ≤ 1048576 := by omega
  go_enter Try.func46, Try.ntmps46
  go_wp2
  go_loopw [7] (fun u wr => ∃ k : Nat, k ≤ inp ∧ u = .int .i64 (k : Int) ∧ w = wr ∧ ∀ i, i < k → r100' (x i)) (fun u _ => inp - (intOf u).toNat)
  case atStart => exact ⟨0, Nat.zero_le _, rfl, rfl, fun i hi => by omega⟩
  case round =>
    obtain ⟨k, hk, rfl, rfl, hall⟩ := hrel
    have HA : Hid (∀ i, i < k → r100' (x i)) := hall
    clear hall
    by_cases hki : k < inp
    · have hki' : (k : Int) < (inp : Int) := by omega
      have c0 := hx k hki
      have W := fun w => within_any (x k) 100 w (by omega) (by omega)
      by_cases h1 : r100' (x k)
      · rw [show decide (-100 ≤ x k ∧ x k ≤ 100) = true from decide_eq_true h1] at W
        have H1 : Hid (r100' (x k)) := h1
        clear h1
        go_wp2_with (go_at_call 57; refine (W _).mono ?_; rintro e w3 ⟨rfl, rfl⟩)
        refine ⟨⟨k + 1, by omega, by go_num, by trivial, fun i hi => ?_⟩, by simp [intOf]; omega⟩
        by_cases e : i = k
        · subst e; exact H1.out
        · exact HA.out i (by omega)
      · rw [show decide (-100 ≤ x k ∧ x k ≤ 100) = false from decide_eq_false h1] at W
        obtain rfl : R = false := by cases R; rfl; exact absurd (hR.out.1 rfl k hki) h1
        clear h1
        go_wp2_with (go_at_call 57; refine (W _).mono ?_; rintro e w3 ⟨rfl, rfl⟩)
        go_ret
        exact ⟨rfl, rfl⟩
    · have hki' : ¬ (k : Int) < (inp : Int) := by omega
      obtain rfl : k = inp := by omega
      obtain rfl : R = true := hR.out.2 HA.out
      go_wp2
      go_ret
      exact ⟨rfl, rfl⟩
/-- A descent is told of. -/
def DcOk (n inp : Nat) (f x : Nat → Int) (r : Int) : Prop := TpN n inp f ∧ (∀ i, i < inp → r100' (x i)) ∧ 0 ≤ r ∧ r ≤ 20
/-- What both sides tell: a list of m numbers. -/
def Ans (n inp : Nat) (f x : Nat → Int) (r : Int) (m : Nat) (F : Nat → Int) : Prop :=
  (DcOk n inp f x r ∧ m = inp ∧ ∃ d, rn n f inp (st0 n f x) r.toNat = some (F, d)) ∨ ((DcOk n inp f x r → rn n f inp (st0 n f x) r.toNat = none) ∧ m = 0)
theorem ans_is (n inp : Nat) (f x : Nat → Int) (r : Int) : ∃ m F, Ans n inp f x r m F := by
  by_cases h : DcOk n inp f x r
  · cases e : rn n f inp (st0 n f x) r.toNat with
    | none => exact ⟨0, fun _ => 0, .inr ⟨fun _ => e, rfl⟩⟩
    | some p =>
      obtain ⟨F, d⟩ := p
      exact ⟨inp, F, .inl ⟨h, rfl, d, e⟩⟩
  · exact ⟨0, fun _ => 0, .inr ⟨fun k => absurd k h, rfl⟩⟩
def AnP (w : World) (m : Nat) (F : Nat → Int) (e : Ending) (w' : World) : Prop := ∃ v, e = .returned v ∧ Arr w' w.heap.size w'.heap.size v m F ∧ Below w.heap.size w w'
theorem arr_none {w w1 W : World} {F : Nat → Int} (hW : w1.alloc (.cells #[] 2) = W) (hb : Below w.heap.size w w1) : Arr W w.heap.size W.heap.size (.slice (some ⟨w1.heap.size, 0, none⟩) 0 0) 0 F := by
  subst hW
  refine .inr ⟨w1.heap.size, 0, rfl, hb.size, by simp, Nat.le_refl _, #[], at_new _ _ _, rfl, fun i hi => by omega⟩
set_option maxRecDepth 100000 in
set_option maxHeartbeats 6400000 in
theorem implDescent_any {w : World} {g n cap b o c inp : Nat} {f x : Nat → Int} {r : Int} (h : Recs 3 w g n f) (hx : Ints w b o inp x) (hb : b < w.heap.size) (hn : n ≤ 1048576) (hi : inp ≤ 1048576) {m : Nat} {F : Nat → Int} (hA : Hid (Ans n inp f x r m F)) :
    Calls Try.prog 24 #[.slice (some ⟨g, 0, none⟩) n cap, .slice (some ⟨b, o, none⟩) inp c, .int .i64 r] w (AnP w m F) := by
  have hbs : ∀ w, (Instr.buildSlice 23 0 #[]).run Try.prog w = .ok (.slice (some ⟨w.heap.size, 0, none⟩) 0 0) (w.alloc (.cells #[] 2)) := fun _ => by kernel_rfl
  have NO : ¬ DcOk n inp f x r → m = 0 := fun no => by
    rcases hA.out with ⟨k, -⟩ | ⟨-, k⟩
    · exact absurd k no
    · exact k
  go_enter Try.func24, Try.ntmps24
  go_wp2_with fail
  refine (elementsFor_any h hn hi).mono ?_
  rintro e w2 ⟨hh, bb⟩
  rcases hh with ⟨ho, v, rfl⟩ | ⟨ho, ge, ce, rfl, p1, p2, E2⟩
  · obtain rfl := NO (fun k => ho k.1)
    obtain ⟨W1, hW1, -, b1, -⟩ := boxed w2 2 #[]
    have HR : Hid (Arr W1 w.heap.size W1.heap.size (.slice (some ⟨w2.heap.size, 0, none⟩) 0 0) 0 F) := arr_none hW1 bb
    clear ho NO
    go_wp2
    go_ret
    exact ⟨_, rfl, HR.out, bb.trans (b1.mono bb.size)⟩
  have x2 := hx.below hb bb
  have hb2 : b < w2.heap.size := Nat.lt_of_lt_of_le hb bb.size
  by_cases ht : ∀ i, i < inp → r100' (x i)
  case neg =>
    obtain rfl := NO (fun k => ht k.2.1)
    have AT := areTried_any (c := c) x2 hi false (show (false = true ↔ _) from ⟨fun h => by simp at h, fun h => absurd h ht⟩)
    obtain ⟨W1, hW1, -, b1, -⟩ := boxed w2 2 #[]
    have HR : Hid (Arr W1 w.heap.size W1.heap.size (.slice (some ⟨w2.heap.size, 0, none⟩) 0 0) 0 F) := arr_none hW1 bb
    clear ho NO ht
    go_wp2_with (go_at_call 46; refine AT.mono ?_; rintro e w3 ⟨rfl, rfl⟩)
    go_ret
    exact ⟨_, rfl, HR.out, bb.trans (b1.mono bb.size)⟩
  have AT := areTried_any (c := c) x2 hi true (show (true = true ↔ _) from ⟨fun _ => ht, fun _ => rfl⟩)
  by_cases hr0 : r < 0
  · obtain rfl := NO (fun k => by have := k.2.2; omega)
    obtain ⟨W1, hW1, -, b1, -⟩ := boxed w2 2 #[]
    have HR : Hid (Arr W1 w.heap.size W1.heap.size (.slice (some ⟨w2.heap.size, 0, none⟩) 0 0) 0 F) := arr_none hW1 bb
    clear ho NO ht
    go_wp2_with (go_at_call 46; refine AT.mono ?_; rintro e w3 ⟨rfl, rfl⟩)
    go_ret
    exact ⟨_, rfl, HR.out, bb.trans (b1.mono bb.size)⟩
  by_cases hr1 : 20 < r
  · obtain rfl := NO (fun k => by have := k.2.2; omega)
    obtain ⟨W1, hW1, -, b1, -⟩ := boxed w2 2 #[]
    have HR : Hid (Arr W1 w.heap.size W1.heap.size (.slice (some ⟨w2.heap.size, 0, none⟩) 0 0) 0 F) := arr_none hW1 bb
    clear ho NO ht
    go_wp2_with (go_at_call 46; refine AT.mono ?_; rintro e w3 ⟨rfl, rfl⟩)
    go_ret
    exact ⟨_, rfl, HR.out, bb.trans (b1.mono bb.size)⟩
  have HDC : Hid (DcOk n inp f x r) := ⟨ho, ht, by omega, by omega⟩
  have HT : Hid (∀ i, i < inp → r100' (x i)) := ht
  have HO : Hid (TpN n inp f) := ho
  have hi20 := ho.1.2.1.2
  have hi2 : (inp : Int) ≤ 20 := by omega
  clear NO ht ho
  obtain ⟨rr, rfl⟩ : ∃ rr : Nat, r = (rr : Int) := ⟨r.toNat, by omega⟩
  go_wp2_with fail
  refine AT.mono ?_
  rintro e w2' ⟨rfl, rfl⟩
  clear AT
  go_wp2_with fail
  refine (copyG_any x2 hb2 hi).mono ?_
  rintro e w3 ⟨v, rfl, G⟩
  obtain ⟨gb, cb, rfl, q1, q2, q3, I3⟩ := G.ints
  have M3 : Made w3 gb cb inp x := (made_of' G.own).2.2
  have E3 := E2.below (G.b.mono (Nat.le_refl _))
  have B3 := bb.trans (G.b.mono bb.size)
  have hne : ge ≠ gb := by have := E2.1; omega
  have hgw : w.heap.size ≤ gb := Nat.le_trans bb.size q1
  obtain ⟨T, hT⟩ : ∃ T, okB n f x = T := ⟨_, rfl⟩
  have D := depthAt_any (ce := ce) (c := cb) E3 I3 q3 HO.out T (show (T = true ↔ _) from by rw [← hT]; exact okB_iff n f x)
  clear G E2 x2 bb I3 q1
  go_wp2_with fail
  refine D.mono ?_
  rintro e w4 ⟨rfl, bb⟩
  have M4 := made_below M3 bb
  have E4 := E3.below bb
  have B4 := B3.trans (bb.mono B3.size)
  have S4 : DsS w4 gb cb inp (st0 n f x) (.bool T) (.int .i64 (if T then wv f x (n - 1) else 0)) := by
    cases T
    · exact .inr ⟨by unfold st0; rw [hT]; rfl, rfl, ⟨_, rfl⟩, x, M4⟩
    · exact .inl ⟨x, _, by unfold st0; rw [hT]; rfl, rfl, rfl, M4, HT.out⟩
  clear M3 M4 E3 B3 bb D hT
  obtain ⟨Z, hZ⟩ : ∃ Z : Int, (if T = true then wv f x (n - 1) else 0) = Z := ⟨_, rfl⟩
  rw [hZ] at S4 ⊢
  clear hZ
  go_wp2
  go_loopw [8, 10, 43] (fun s t u wr => ∃ k : Nat, k ≤ rr ∧ u = .int .i64 (k : Int) ∧ DsS wr gb cb inp (rn n f inp (st0 n f x) k) s t ∧ ElAt wr ge n (els (inp : Int) f) ∧ Below w.heap.size w wr) (fun _ _ u _ => rr - (intOf u).toNat)
  case atStart => exact ⟨0, Nat.zero_le _, rfl, S4, E4, B4⟩
  case round =>
    clear S4 E4 B4
    obtain ⟨k, hk, rfl, S4, E4, B4⟩ := hrel
    by_cases hkr : k < rr
    · have hkr' : (k : Int) < (rr : Int) := by omega
      go_wp2
      go_loopw [8, 10, 47] (fun s t u wr => ∃ i : Nat, i ≤ inp ∧ u = .int .i64 (i : Int) ∧ DsS wr gb cb inp (sw n f (rn n f inp (st0 n f x) k) i) s t ∧ ElAt wr ge n (els (inp : Int) f) ∧ Below w.heap.size w wr) (fun _ _ u _ => inp - (intOf u).toNat)
      case atStart => exact ⟨0, Nat.zero_le _, rfl, S4, E4, B4⟩
      case round =>
        clear S4 E4 B4
        obtain ⟨i, hii, rfl, S4, E4, B4⟩ := hrel
        by_cases hil : i < inp
        · have hil' : (i : Int) < (inp : Int) := by omega
          rcases S4 with ⟨y, d, hs, rfl, rfl, M4, R4⟩ | ⟨hs, rfl, ⟨z, rfl⟩, y, M4⟩
          · have HSt : Hid (sw n f (rn n f inp (st0 n f x) k) i = some (y, d)) := hs
            clear hs
            go_wp2_with fail
            refine (lowered_any (ce := ce) (d := d) E4 M4 q2 hne HO.out hil (R4 i hil)).mono ?_
            rintro e w5 ⟨hh, kp⟩
            have E5 := el_kept E4 kp hne
            have B5 := B4.trans (kp.below hgw B4.size)
            rcases hh with ⟨best, dep, hrs, rfl, M5⟩ | ⟨hrs, rfl, y5, M5⟩
            · have HN : Hid (sw n f (rn n f inp (st0 n f x) k) (i + 1) = some (upd y i best, dep)) := by
                show one1 n f i (sw n f (rn n f inp (st0 n f x) k) i) = _
                rw [HSt.out]
                exact one_some hrs
              have R5 : ∀ j, j < inp → r100' (upd y i best j) := fun j hj => by
                unfold upd
                split
                · exact rsl_in (R4 i hil) 2 best dep hrs
                · exact R4 j hj
              clear hrs E4 M4 B4 kp
              go_wp2
              exact ⟨⟨i + 1, by omega, by go_num, .inl ⟨_, _, HN.out, rfl, rfl, M5, R5⟩, E5, B5⟩, by simp [intOf]; omega⟩
            · have HN : Hid (sw n f (rn n f inp (st0 n f x) k) (i + 1) = none) := by
                show one1 n f i (sw n f (rn n f inp (st0 n f x) k) i) = _
                rw [HSt.out]
                exact one_fail hrs
              clear hrs E4 M4 B4 kp
              go_wp2
              exact ⟨⟨i + 1, by omega, by go_num, .inr ⟨HN.out, rfl, ⟨_, rfl⟩, _, M5⟩, E5, B5⟩, by simp [intOf]; omega⟩
          · have HN : Hid (sw n f (rn n f inp (st0 n f x) k) (i + 1) = none) := by
              show one1 n f i (sw n f (rn n f inp (st0 n f x) k) i) = _
              rw [hs]
              rfl
            clear hs
            go_wp2
            exact ⟨⟨i + 1, by omega, by go_num, .inr ⟨HN.out, rfl, ⟨_, rfl⟩, _, M4⟩, E4, B4⟩, by simp [intOf]; omega⟩
        · have hil' : ¬ (i : Int) < (inp : Int) := by omega
          obtain rfl : i = inp := by omega
          have HS4 : Hid (DsS _ gb cb i (rn n f i (st0 n f x) (k + 1)) _ _) := S4
          clear S4
          go_wp2
          exact ⟨⟨k + 1, by omega, by go_num, HS4.out, E4, B4⟩, by simp [intOf]; omega⟩
    · have hkr' : ¬ (k : Int) < (rr : Int) := by omega
      obtain rfl : k = rr := by omega
      rcases S4 with ⟨y, d, hs, rfl, rfl, M4, R4⟩ | ⟨hs, rfl, ⟨z, rfl⟩, y, M4⟩
      · have HR : Hid (m = inp ∧ F = y) := by
          rcases hA.out with ⟨-, h1, d', h2⟩ | ⟨h1, -⟩
          · rw [Int.toNat_natCast, hs] at h2
            simp only [Option.some.injEq, Prod.mk.injEq] at h2
            exact ⟨h1, h2.1.symm⟩
          · have := h1 HDC.out
            rw [Int.toNat_natCast, hs] at this
            cases this
        clear hs
        go_wp2
        go_ret
        obtain ⟨rfl, rfl⟩ := HR.out
        exact ⟨_, rfl, .inr ⟨gb, cb, rfl, hgw, M4.lt, q2, M4⟩, B4⟩
      · obtain rfl : m = 0 := by
          rcases hA.out with ⟨-, h1, d', h2⟩ | ⟨-, h1⟩
          · rw [Int.toNat_natCast, hs] at h2
            cases h2
          · exact h1
        obtain ⟨W1, hW1, -, b1, -⟩ := boxed wr 2 #[]
        have HR : Hid (Arr W1 w.heap.size W1.heap.size (.slice (some ⟨wr.heap.size, 0, none⟩) 0 0) 0 F) := arr_none hW1 B4
        clear hs
        go_wp2
        go_ret
        exact ⟨_, rfl, HR.out, B4.trans (b1.mono B4.size)⟩
end Go.Proofs.Ytloailicdoknbaa
