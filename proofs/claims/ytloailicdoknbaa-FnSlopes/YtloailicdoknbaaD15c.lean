/-
  One input lowered, by the program: walked.
-/
import Derived.Test.YtloailicdoknbaaD15a
namespace Go.Proofs.Ytloailicdoknbaa
open Go.RowKit

def upd (x : Nat → Int) (i : Nat) (y : Int) (j : Nat) : Int := if j = i then y else x j
theorem upd_same (x : Nat → Int) (i : Nat) (y : Int) : upd x i y i = y := if_pos rfl
theorem upd_upd (x : Nat → Int) (i : Nat) (y z : Int) : upd (upd x i y) i z = upd x i z := by
  funext j
  unfold upd
  split <;> rfl
theorem upd_self (x : Nat → Int) (i : Nat) : upd x i (x i) = x := by
  funext j
  unfold upd
  split
  · next h => rw [h]
  · rfl
def okB (n : Nat) (f x : Nat → Int) : Bool := (List.range n).all fun k => decide (-1000000000000 ≤ wv f x k ∧ wv f x k ≤ 1000000000000)
theorem okB_iff (n : Nat) (f x : Nat → Int) : okB n f x = true ↔ wOk n f x := by
  unfold okB wOk r12
  rw [List.all_eq_true]
  simp
/-- One number is tried for input i: the best so far and its value, or nothing at all. -/
def stp (n : Nat) (f x : Nat → Int) (i : Nat) (y : Int) : Option (Int × Int) → Option (Int × Int)
  | none => none
  | some (b, d) => if -100 ≤ y ∧ y ≤ 100 then (if okB n f (upd x i y) then (if wv f (upd x i y) (n - 1) < d then some (y, wv f (upd x i y) (n - 1)) else some (b, d)) else none) else some (b, d)
def cand (x : Nat → Int) (i t : Nat) : Int := if t = 0 then x i - 1 else x i + 1
def rsl (n : Nat) (f x : Nat → Int) (i : Nat) (d : Int) : Nat → Option (Int × Int)
  | 0 => some (x i, d)
  | t + 1 => stp n f x i (cand x i t) (rsl n f x i d t)
theorem made_cell {w : World} {g c m : Nat} {x : Nat → Int} (h : Made w g c m x) {i : Nat} (hi : i < m) : w.cell? ⟨g, i, none⟩ = some (.int .i64 (x i)) ∧ w.frozen? ⟨g, i, none⟩ = false := by
  obtain ⟨cur, h1, h2, h3⟩ := h
  exact ⟨h1.cell i (h3 i hi), h1.frozen i⟩
theorem made_ints {w : World} {g c m : Nat} {x : Nat → Int} (h : Made w g c m x) : Ints w g 0 m x := fun i hi => by rw [Nat.zero_add]; exact (made_cell h hi).1
theorem made_upd {w : World} {g c m : Nat} {x : Nat → Int} (h : Made w g c m x) (i : Nat) (y : Int) (hm : m ≤ c) : Made (w.setCell ⟨g, i, none⟩ (.int .i64 y)) g c m (upd x i y) := by
  obtain ⟨cur, h1, h2, h3⟩ := h
  refine ⟨_, h1.set i _, by simpa using h2, fun j hj => ?_⟩
  rw [Array.getElem?_setIfInBounds]
  by_cases e : i = j
  · subst e
    rw [if_pos rfl, if_pos (by omega), upd_same]
  · rw [if_neg e, h3 j hj, upd, if_neg (fun k => e k.symm)]
theorem made_below {w w' : World} {g c m : Nat} {x : Nat → Int} (h : Made w g c m x) (hb : Below w.heap.size w w') : Made w' g c m x := by
  obtain ⟨cur, h1, h2, h3⟩ := h
  exact ⟨cur, h1.below hb, h2, h3⟩
theorem el_kept {w w' : World} {g n b : Nat} {el : Nat → Value} (h : ElAt w g n el) (hk : Kept b w w') (hne : g ≠ b) : ElAt w' g n el := ⟨Nat.lt_of_lt_of_le h.1 hk.size, fun i hi => (hk.cell hne h.1).trans (h.2 i hi)⟩
/-- What is told of one input lowered. -/
def LwP (w : World) (n b c inp : Nat) (f x : Nat → Int) (i : Nat) (d : Int) (e : Ending) (w' : World) : Prop :=
  ((∃ best dep, rsl n f x i d 2 = some (best, dep) ∧ e = .returned (.tuple #[.int .i64 dep, .bool true]) ∧ Made w' b c inp (upd x i best)) ∨ (rsl n f x i d 2 = none ∧ e = .returned (.tuple #[.int .i64 0, .bool false]) ∧ ∃ y, Made w' b c inp y)) ∧ Kept b w w'
theorem stp_none (n : Nat) (f x : Nat → Int) (i : Nat) (y : Int) : stp n f x i y none = none := rfl
set_option maxRecDepth 100000 in
set_option maxHeartbeats 6400000 in
theorem lowered_any {w : World} {ge n ce b c inp i : Nat} {f x : Nat → Int} {d : Int} (hE : ElAt w ge n (els (inp : Int) f)) (hM : Made w b c inp x) (hc : inp ≤ c) (hne : ge ≠ b) (ok : TpN n inp f) (hi : i < inp) (hx : -100 ≤ x i ∧ x i ≤ 100) :
    Calls Try.prog 48 #[.slice (some ⟨ge, 0, none⟩) n ce, .slice (some ⟨b, 0, none⟩) inp c, .int .i64 (i : Int), .int .i64 d] w (LwP w n b c inp f x i d) := by
  have hi20 := ok.1.2.1.2
  have hi' : (i : Int) < (inp : Int) := by omega
  have hi2 : (inp : Int) ≤ 20 := by omega
  have ix0 : ∀ (p q : Int) w, (Instr.index 86 (.agg #[.int .i64 p, .int .i64 q]) (.int .i64 0)).run Try.prog w = .ok (.int .i64 p) w := fun _ _ _ => by kernel_rfl
  have ix1 : ∀ (p q : Int) w, (Instr.index 86 (.agg #[.int .i64 p, .int .i64 q]) (.int .i64 1)).run Try.prog w = .ok (.int .i64 q) w := fun _ _ _ => by kernel_rfl
  obtain ⟨k0, -⟩ := made_cell hM hi
  obtain ⟨H, hH⟩ : ∃ H, x i = H := ⟨_, rfl⟩
  have HH : Hid (x i = H) := hH
  rw [hH] at k0 hx
  clear hH
  go_enter Try.func48, Try.ntmps48
  go_wp2
  clear k0
  go_loopw [3, 11, 26] (fun s t u wr => ∃ (j : Nat) (best dep : Int), j ≤ 2 ∧ s = .int .i64 dep ∧ t = .int .i64 best ∧ u = .int .i64 (j : Int) ∧ rsl n f x i d j = some (best, dep) ∧ (∃ y, Made wr b c inp (upd x i y)) ∧ ElAt wr ge n (els (inp : Int) f) ∧ Kept b w wr) (fun _ _ u _ => 2 - (intOf u).toNat)
  case atStart => exact ⟨0, H, d, by omega, rfl, rfl, rfl, by rw [rsl, HH.out], ⟨x i, by rw [upd_self]; exact hM⟩, hE, Kept.refl _ _⟩
  case round =>
    clear hE hM
    obtain ⟨j, best, dep, hj, rfl, rfl, rfl, hrs, ⟨y0, hM⟩, hE, hK⟩ := hrel
    have HR : Hid (rsl n f x i d j = some (best, dep)) := hrs
    clear hrs
    rcases (by omega : j = 0 ∨ j = 1 ∨ j = 2) with rfl | rfl | rfl
    · have HC : Hid (rsl n f x i d 1 = stp n f x i (H - 1) (some (best, dep))) := by
        show stp n f x i (cand x i 0) (rsl n f x i d 0) = _
        rw [HR.out]
        unfold cand
        rw [if_pos rfl, HH.out]
      have W := fun w => within_any (H - 1) 100 w (by omega) (by omega)
      by_cases h1 : -100 ≤ (H - 1) ∧ (H - 1) ≤ 100
      case neg =>
        have HF : Hid (rsl n f x i d 1 = some (best, dep)) := by
          show _ = _
          rw [HC.out]
          exact if_neg h1
        rw [decide_eq_false h1] at W
        clear h1 HC
        go_wp2_with (go_at_call 57; refine (W _).mono ?_; rintro e w3 ⟨rfl, rfl⟩)
        exact ⟨⟨1, best, dep, by omega, rfl, rfl, rfl, HF.out, ⟨y0, hM⟩, hE, hK⟩, by simp [intOf]⟩
      rw [decide_eq_true h1] at W
      obtain ⟨k0, k1⟩ := made_cell hM hi
      obtain ⟨W2, hW2⟩ : ∃ W2, wr.setCell ⟨b, i, none⟩ (.int .i64 (H - 1)) = W2 := ⟨_, rfl⟩
      have M2 : Made W2 b c inp (upd x i (H - 1)) := by rw [← hW2, ← upd_upd x i y0 (H - 1)]; exact made_upd hM i (H - 1) hc
      have K2 : Kept b w W2 := by rw [← hW2]; exact hK.set _
      have E2 : ElAt W2 ge n (els (inp : Int) f) := el_kept hE (by rw [← hW2]; exact (Kept.refl _ _).set _) hne
      clear hM hK hE
      obtain ⟨T, hT⟩ : ∃ T, okB n f (upd x i (H - 1)) = T := ⟨_, rfl⟩
      have hT' : Hid (T = true ↔ wOk n f (upd x i (H - 1))) := by
        show _ ↔ _
        rw [← hT]
        exact okB_iff n f (upd x i (H - 1))
      have D := depthAt_any (ce := ce) (c := c) E2 (made_ints M2) M2.lt ok T hT'
      obtain ⟨L, hL⟩ : ∃ L, wv f (upd x i (H - 1)) (n - 1) = L := ⟨_, rfl⟩
      rw [hL] at D
      have HC2 : Hid (rsl n f x i d 1 = if T then (if L < dep then some ((H - 1), L) else some (best, dep)) else none) := by
        show _ = _
        rw [HC.out, ← hT, ← hL]
        exact if_pos h1
      clear HC hT hL h1 hT'
      cases T
      · have HF : Hid (rsl n f x i d 1 = none) := HC2.out
        simp only [Bool.false_eq_true, if_false] at D
        clear HC2
        go_wp2_with (first | (go_at_call 57; refine (W _).mono ?_; rintro e w3 ⟨rfl, rfl⟩) | (go_at_call 47; refine D.mono ?_; rintro e w4 ⟨rfl, bb⟩))
        exact bodyPost_ret (v := .tuple #[.int .i64 0, .bool false]) (by simp [results, Try.results48, go_sem]) rfl ⟨.inr ⟨(by show stp n f x i (cand x i 1) (rsl n f x i d 1) = none; rw [HF.out]; rfl), rfl, _, made_below M2 bb⟩, K2.trans (Kept.of_below bb)⟩
      · simp only [if_true] at D
        by_cases hl : L < dep
        · have HF : Hid (rsl n f x i d 1 = some ((H - 1), L)) := by
            show _ = _
            rw [HC2.out, if_pos rfl, if_pos hl]
          clear HC2
          go_wp2_with (first | (go_at_call 57; refine (W _).mono ?_; rintro e w3 ⟨rfl, rfl⟩) | (go_at_call 47; refine D.mono ?_; rintro e w4 ⟨rfl, bb⟩))
          exact ⟨⟨1, (H - 1), L, by omega, rfl, rfl, rfl, HF.out, ⟨(H - 1), made_below M2 bb⟩, E2.below bb, K2.trans (Kept.of_below bb)⟩, by simp [intOf]⟩
        · have HF : Hid (rsl n f x i d 1 = some (best, dep)) := by
            show _ = _
            rw [HC2.out, if_pos rfl, if_neg hl]
          clear HC2
          go_wp2_with (first | (go_at_call 57; refine (W _).mono ?_; rintro e w3 ⟨rfl, rfl⟩) | (go_at_call 47; refine D.mono ?_; rintro e w4 ⟨rfl, bb⟩))
          exact ⟨⟨1, best, dep, by omega, rfl, rfl, rfl, HF.out, ⟨(H - 1), made_below M2 bb⟩, E2.below bb, K2.trans (Kept.of_below bb)⟩, by simp [intOf]⟩
    · have HC : Hid (rsl n f x i d 2 = stp n f x i (H + 1) (some (best, dep))) := by
        show stp n f x i (cand x i 1) (rsl n f x i d 1) = _
        rw [HR.out]
        unfold cand
        rw [if_neg (by omega), HH.out]
      have W := fun w => within_any (H + 1) 100 w (by omega) (by omega)
      by_cases h1 : -100 ≤ (H + 1) ∧ (H + 1) ≤ 100
      case neg =>
        have HF : Hid (rsl n f x i d 2 = some (best, dep)) := by
          show _ = _
          rw [HC.out]
          exact if_neg h1
        rw [decide_eq_false h1] at W
        clear h1 HC
        go_wp2_with (go_at_call 57; refine (W _).mono ?_; rintro e w3 ⟨rfl, rfl⟩)
        exact ⟨⟨2, best, dep, by omega, rfl, rfl, rfl, HF.out, ⟨y0, hM⟩, hE, hK⟩, by simp [intOf]⟩
      rw [decide_eq_true h1] at W
      obtain ⟨k0, k1⟩ := made_cell hM hi
      obtain ⟨W2, hW2⟩ : ∃ W2, wr.setCell ⟨b, i, none⟩ (.int .i64 (H + 1)) = W2 := ⟨_, rfl⟩
      have M2 : Made W2 b c inp (upd x i (H + 1)) := by rw [← hW2, ← upd_upd x i y0 (H + 1)]; exact made_upd hM i (H + 1) hc
      have K2 : Kept b w W2 := by rw [← hW2]; exact hK.set _
      have E2 : ElAt W2 ge n (els (inp : Int) f) := el_kept hE (by rw [← hW2]; exact (Kept.refl _ _).set _) hne
      clear hM hK hE
      obtain ⟨T, hT⟩ : ∃ T, okB n f (upd x i (H + 1)) = T := ⟨_, rfl⟩
      have hT' : Hid (T = true ↔ wOk n f (upd x i (H + 1))) := by
        show _ ↔ _
        rw [← hT]
        exact okB_iff n f (upd x i (H + 1))
      have D := depthAt_any (ce := ce) (c := c) E2 (made_ints M2) M2.lt ok T hT'
      obtain ⟨L, hL⟩ : ∃ L, wv f (upd x i (H + 1)) (n - 1) = L := ⟨_, rfl⟩
      rw [hL] at D
      have HC2 : Hid (rsl n f x i d 2 = if T then (if L < dep then some ((H + 1), L) else some (best, dep)) else none) := by
        show _ = _
        rw [HC.out, ← hT, ← hL]
        exact if_pos h1
      clear HC hT hL h1 hT'
      cases T
      · have HF : Hid (rsl n f x i d 2 = none) := HC2.out
        simp only [Bool.false_eq_true, if_false] at D
        clear HC2
        go_wp2_with (first | (go_at_call 57; refine (W _).mono ?_; rintro e w3 ⟨rfl, rfl⟩) | (go_at_call 47; refine D.mono ?_; rintro e w4 ⟨rfl, bb⟩))
        exact bodyPost_ret (v := .tuple #[.int .i64 0, .bool false]) (by simp [results, Try.results48, go_sem]) rfl ⟨.inr ⟨HF.out, rfl, _, made_below M2 bb⟩, K2.trans (Kept.of_below bb)⟩
      · simp only [if_true] at D
        by_cases hl : L < dep
        · have HF : Hid (rsl n f x i d 2 = some ((H + 1), L)) := by
            show _ = _
            rw [HC2.out, if_pos rfl, if_pos hl]
          clear HC2
          go_wp2_with (first | (go_at_call 57; refine (W _).mono ?_; rintro e w3 ⟨rfl, rfl⟩) | (go_at_call 47; refine D.mono ?_; rintro e w4 ⟨rfl, bb⟩))
          exact ⟨⟨2, (H + 1), L, by omega, rfl, rfl, rfl, HF.out, ⟨(H + 1), made_below M2 bb⟩, E2.below bb, K2.trans (Kept.of_below bb)⟩, by simp [intOf]⟩
        · have HF : Hid (rsl n f x i d 2 = some (best, dep)) := by
            show _ = _
            rw [HC2.out, if_pos rfl, if_neg hl]
          clear HC2
          go_wp2_with (first | (go_at_call 57; refine (W _).mono ?_; rintro e w3 ⟨rfl, rfl⟩) | (go_at_call 47; refine D.mono ?_; rintro e w4 ⟨rfl, bb⟩))
          exact ⟨⟨2, best, dep, by omega, rfl, rfl, rfl, HF.out, ⟨(H + 1), made_below M2 bb⟩, E2.below bb, K2.trans (Kept.of_below bb)⟩, by simp [intOf]⟩
    · obtain ⟨k0, k1⟩ := made_cell hM hi
      obtain ⟨W2, hW2⟩ : ∃ W2, wr.setCell ⟨b, i, none⟩ (.int .i64 best) = W2 := ⟨_, rfl⟩
      have M2 : Made W2 b c inp (upd x i best) := by rw [← hW2, ← upd_upd x i y0 best]; exact made_upd hM i best hc
      have K2 : Kept b w W2 := by rw [← hW2]; exact hK.set _
      clear hM hK hE
      go_wp2
      exact bodyPost_ret (v := .tuple #[.int .i64 dep, .bool true]) (by simp [results, Try.results48, go_sem]) rfl ⟨.inl ⟨best, dep, HR.out, rfl, M2⟩, K2⟩
end Go.Proofs.Ytloailicdoknbaa
