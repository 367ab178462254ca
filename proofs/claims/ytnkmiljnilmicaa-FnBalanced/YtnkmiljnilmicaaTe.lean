/-
  CutRow, by the program and by the specification: walked.
-/
import Derived.Test.YtnkmiljnilmicaaTa
import Derived.Test.YtnkmiljnilmicaaTl
namespace Go.Proofs.Ytnkmiljnilmicaa
open Go.RowKit

/-- Letter i of the row cut from f on. -/
def cutL (f : Int) (i : Nat) : UInt8 := if gol (f + i + 1) + 1 = gol (f + i + 2) then 83 else 76
/-- n letters. -/
def cutR (f : Int) : Nat → List UInt8
  | 0 => []
  | n + 1 => cutR f n ++ [cutL f n]
theorem cutR_len (f : Int) (n : Nat) : (cutR f n).length = n := by
  induction n with
  | zero => rfl
  | succ n ih => simp [cutR, ih]
set_option maxRecDepth 100000 in
set_option maxHeartbeats 1000000 in
theorem implCut_yes (f : Int) (n : Nat) (w : World) (h0 : 0 ≤ f) (h1 : f ≤ 100000000) (h3 : n ≤ 20000) : Calls Try.prog 7 #[.int .i64 f, .int .i64 n] w fun e w' => e = .returned (.string ⟨(cutR f n).toArray⟩) ∧ Below w.heap.size w w' := by
  have n0 : (0 : Int) ≤ n := by omega
  have n1 : (n : Int) ≤ 20000 := by omega
  go_enter Try.func7, Try.ntmps7
  go_wp2_with (go_at_call 17; refine (implGol_any _ _).mono ?_; rintro e w2 ⟨rfl, rfl⟩)
  have o0 := byR_new w
  go_loopw [5, 6, 28] (fun v l t wr => ∃ (k : Nat), k ≤ n ∧ ∃ L, cutR f k = L ∧ t = .int .i64 k ∧ l = .int .i64 (gol (f + k + 1)) ∧ ByR wr w.heap.size v L ∧ Below w.heap.size w wr) (fun _ _ t _ => n - (intOf t).toNat)
  case atStart => exact ⟨0, Nat.zero_le _, [], rfl, rfl, by simp, o0, below_alloc _ _⟩
  case round =>
    obtain ⟨k, hk, L, hL, rfl, rfl, own, bW⟩ := hrel
    have hl : L.length = k := by rw [← hL]; exact cutR_len f k
    have HL : Hid (cutR f k = L) := hL
    have HN : Hid (L.length = k) := hl
    have hlb : L.length ≤ 20000 := by omega
    clear hL o0 hl
    obtain ⟨i0, hi0, hz0, hz1, hz2⟩ := info_parts infoB
    have lw2 := bW.size
    obtain ⟨u, hu⟩ : ∃ u, gol (f + k + 1) = u := ⟨_, rfl⟩
    obtain ⟨v, hv⟩ : ∃ v, gol (f + k + 2) = v := ⟨_, rfl⟩
    have hub := gol_bound (f + k + 1)
    rw [hu] at hub
    obtain ⟨ub0, ub1⟩ := hub
    rw [hu]
    by_cases hlt : k < n
    · have hlt' : (k : Int) < n := by omega
      by_cases hc : u + 1 = v
      · have hc' : (u + 1 == v) = true := by simp [hc]
        have HC : Hid ((if gol (f + k + 1) + 1 = gol (f + k + 2) then (83 : UInt8) else 76) = 83) := by rw [hu, hv]; exact if_pos hc
        clear hu hc
        have bA : Below w.heap.size w (wr.alloc (.cells #[.int .u8 83] 5)) := bW.alloc bW.size _
        go_wp2_with (first | (go_at_call 17; refine (implGol_any _ _).mono ?_; rintro e w2 ⟨rfl, rfl⟩) | (at_builtin; refine wpList_append_lies _ rfl _ _ _ rfl w.heap.size 5 i0 _ 1 1 Try.underlying22 hi0 hz0 hz1 hz2 rfl (by omega) u5 L.length (bCells L) rfl (own.2.alloc _) ⟨wr.heap.size, 0, none⟩ 1 1 [.int .u8 83] rfl rfl (World.news_of_block (cs := #[.int .u8 83]) (t := 5) (fr := (0, 0)) (heap_alloc_new wr _)) (by simp [Value.oneCell']) (by omega) (by unfold maxLen; omega) (by omega) (by simp; omega) (wr.heap.size + 1) (by simp) ?_; intro g gcap w2 hown2 hgrow hat hlt3))
        refine ⟨⟨k + 1, by omega, L ++ [83], ?_, by go_num, ?_, ⟨(by intro h; cases h), by simpa [bCells] using hown2⟩, below_grown9 bA hgrow (fun b hb => ownBlock_ge9 own.2 hb) bA.size⟩, by simp [intOf]; omega⟩
        · rw [← HL.out, cutR, cutL, HC.out]
        · rw [← hv, show f + ((k + 1 : Nat) : Int) + 1 = f + k + 2 by omega]
      · have hc' : (u + 1 == v) = false := by simp [hc]
        have HC : Hid ((if gol (f + k + 1) + 1 = gol (f + k + 2) then (83 : UInt8) else 76) = 76) := by rw [hu, hv]; exact if_neg hc
        clear hu hc
        have bA : Below w.heap.size w (wr.alloc (.cells #[.int .u8 76] 5)) := bW.alloc bW.size _
        go_wp2_with (first | (go_at_call 17; refine (implGol_any _ _).mono ?_; rintro e w2 ⟨rfl, rfl⟩) | (at_builtin; refine wpList_append_lies _ rfl _ _ _ rfl w.heap.size 5 i0 _ 1 1 Try.underlying22 hi0 hz0 hz1 hz2 rfl (by omega) u5 L.length (bCells L) rfl (own.2.alloc _) ⟨wr.heap.size, 0, none⟩ 1 1 [.int .u8 76] rfl rfl (World.news_of_block (cs := #[.int .u8 76]) (t := 5) (fr := (0, 0)) (heap_alloc_new wr _)) (by simp [Value.oneCell']) (by omega) (by unfold maxLen; omega) (by omega) (by simp; omega) (wr.heap.size + 1) (by simp) ?_; intro g gcap w2 hown2 hgrow hat hlt3))
        refine ⟨⟨k + 1, by omega, L ++ [76], ?_, by go_num, ?_, ⟨(by intro h; cases h), by simpa [bCells] using hown2⟩, below_grown9 bA hgrow (fun b hb => ownBlock_ge9 own.2 hb) bA.size⟩, by simp [intOf]; omega⟩
        · rw [← HL.out, cutR, cutL, HC.out]
        · rw [← hv, show f + ((k + 1 : Nat) : Int) + 1 = f + k + 2 by omega]
    · have hlt' : ¬ (k : Int) < n := by omega
      have htx := own.text
      obtain rfl : k = n := by omega
      clear hu hv
      go_wp2
      go_ret
      refine ⟨?_, bW⟩
      rw [HL.out]
      rfl
set_option maxHeartbeats 1000000 in
theorem implCut_no (f n : Int) (w : World) (h : ¬ (0 ≤ f ∧ f ≤ 100000000 ∧ 0 ≤ n ∧ n ≤ 20000)) : Calls Try.prog 7 #[.int .i64 f, .int .i64 n] w fun e w' => e = .returned (.string ⟨#[]⟩) ∧ Below w.heap.size w w' := by
  by_cases h0 : 0 ≤ f
  · by_cases h1 : f ≤ 100000000
    · by_cases h2 : 0 ≤ n
      · by_cases h3 : n ≤ 20000
        · exact absurd ⟨h0, h1, h2, h3⟩ h
        · clear h
          have d := decide_eq_false h3
          go_enter Try.func7, Try.ntmps7
          go_wp2_with (fail)
          go_ret
          exact ⟨rfl, Below.refl _ _⟩
      · clear h
        have d := decide_eq_false h2
        go_enter Try.func7, Try.ntmps7
        go_wp2_with (fail)
        go_ret
        exact ⟨rfl, Below.refl _ _⟩
    · clear h
      have d := decide_eq_false h1
      go_enter Try.func7, Try.ntmps7
      go_wp2_with (fail)
      go_ret
      exact ⟨rfl, Below.refl _ _⟩
  · clear h
    have d := decide_eq_false h0
    go_enter Try.func7, Try.ntmps7
    go_wp2_with (fail)
    go_ret
    exact ⟨rfl, Below.refl _ _⟩
end Go.Proofs.Ytnkmiljnilmicaa
